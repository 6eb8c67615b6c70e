/- The document's own Num and Put (package trivetref01): they come to the same bytes. -/
import Derived.Test.YtggllgimlfchhaaGreatKS
import Derived.Test.YtggllgimlfchhaaGreatKL
namespace Go.Proofs.YtggllgimlfchhaaGreat
open Go.RowKit
set_option maxRecDepth 100000

theorem sh_eq (j : Nat) (u : Int) : sh j u = u / B256 j := by
  induction j with
  | zero => simp [sh, B256]
  | succ j ih => rw [sh, ih, B256, Int.mul_comm, Int.ediv_ediv_of_nonneg (by have := B256_pos j; omega)]

theorem sh_pos (j : Nat) (u : Int) (h0 : 0 ≤ u) (h : u < 18446744073709551616) : 0 < sh j u ↔ j < wid u := by
  have hp := B256_pos j
  rw [sh_eq]
  constructor
  · intro hs
    have h1 : B256 j ≤ u := by
      by_cases hc : B256 j ≤ u
      · exact hc
      · have := Int.ediv_eq_zero_of_lt h0 (by omega : u < B256 j); omega
    by_cases hc : j < wid u
    · exact hc
    · have := wid_lt u h0 h
      have := B256_mono (wid u) j (by omega)
      omega
  · intro hj
    have h1 : B256 (wid u - 1) ≤ u := wid_bounds u h0 h (wid u - 1) (by omega)
    have h2 := B256_mono j (wid u - 1) (by omega)
    have := Int.ediv_le_ediv (by omega : 0 < B256 j) (by omega : B256 j ≤ u)
    rw [Int.ediv_self (by omega)] at this
    omega

theorem mag_ref (x : Int) (h : x < 0) : -(x + 1) + 1 = mag x := by unfold mag; rw [if_pos h]; omega
theorem mag_pos (x : Int) (h : ¬ x < 0) : mag x = x := by unfold mag; rw [if_neg h]

set_option maxHeartbeats 800000 in
theorem refNum_neg (x : Int) (w : World) (hx : x < 0) (h1 : -9223372036854775808 ≤ x) :
    Calls Tryz.prog 153 #[.int .i64 x] w fun e w' => ∃ v', e = .returned v' ∧ w'.ownsRow w.heap.size 5 1 v' (1 + wid (mag x)) (ints .u8 (numB x)) ∧ Below w.heap.size w w' := by
  obtain ⟨i0, hi, hz0, hz1, hz2⟩ := info_parts Tryz.info5
  obtain ⟨hm0, hm1⟩ := mag_bounds x (by omega) (by omega)
  have hw8 := wid_le (mag x)
  have HM := hide (mag_ref x hx)
  have HB : Hid (numB x = (2 * (wid (mag x) : Int) + 1) :: lowL (wid (mag x)) (mag x)) := by unfold Hid numB; rw [if_pos hx]
  go_enter Tryz.func153, Tryz.ntmps153
  go_wp2
  go_loopw [3, 5] (fun vu vd wr => ∃ j : Nat, j ≤ wid (mag x) ∧ vu = .int .u64 (sh j (mag x)) ∧ wr.ownsRow w.heap.size 5 1 vd j (ints .u8 (lowL j (mag x))) ∧ Below w.heap.size w wr) (fun vu _ _ => (intOf vu).toNat)
  case atStart => exact ⟨0, Nat.zero_le _, by rw [HM.out]; rfl, World.ownsRow_nil _ _ _ _, Below.refl _ _⟩
  case round =>
    obtain ⟨j, hj, rfl, hownr, hnx⟩ := hrel
    have hs0 := sh_nonneg j (mag x) hm0
    have hs1 := sh_le j (mag x) hm0
    have hsz := hnx.size
    have hsp := sh_pos j (mag x) hm0 (by omega)
    by_cases hlt : j < wid (mag x)
    · have hpos : 0 < sh j (mag x) := hsp.2 hlt
      clear hsp
      go_wp2_with (at_builtin; refine wpList_append_own _ rfl _ _ 23 rfl w.heap.size 5 i0 (.int .u8 0) 1 1 Tryz.underlying23 hi hz0 hz1 hz2 rfl (by decide) _ _ _ rfl (hownr.alloc _) ⟨wr.heap.size, 0, none⟩ 1 1 [.int .u8 (sh j (mag x) % 256)] rfl rfl ?c1 ?c2 ?c3 ?c4 ?c5 ?_)
      case c1 => exact cell_one_new _ _ _
      case c2 => intro y hy; simp at hy; subst hy; rfl
      case c3 => unfold maxLen; omega
      case c4 => omega
      case c5 => simp; omega
      intro v' w1 hown' hgrow _
      have hb1 : Below w.heap.size w w1 := (hnx.alloc (by omega) _).grown hgrow (by simp; omega) (own_block_le hownr)
      have ho2 : w1.ownsRow w.heap.size 5 1 v' (j + 1) (ints .u8 (lowL (j + 1) (mag x))) := by rw [lowL_snoc, ints_append, ints_one]; exact hown'
      clear hown' hgrow hownr hnx
      go_wp2
      go_roundw
      case rel => exact ⟨j + 1, by omega, rfl, ho2, hb1⟩
      case measure => simp [intOf]; omega
    · have hzero : sh j (mag x) = 0 := by
        by_cases h : 0 < sh j (mag x)
        · exact absurd (hsp.1 h) hlt
        · omega
      obtain rfl : j = wid (mag x) := by omega
      clear hsp hs0 hs1
      rw [hzero]
      clear hzero
      obtain ⟨ao, cap, hv⟩ := own_shape hownr
      subst hv
      have hsee := (sees_of_own hownr).2
      have hsee2 := hsee.below ((Below.refl _ _).alloc (Nat.le_refl _) (.cells #[.int .u8 (2 * (wid (mag x) : Int) + 1)] 5))
      have ho3 : (wr.alloc (.cells #[.int .u8 (2 * (wid (mag x) : Int) + 1)] 5)).ownsRow w.heap.size 5 1 (.slice (some ⟨wr.heap.size, 0, none⟩) 1 1) 1 (ints .u8 [2 * (wid (mag x) : Int) + 1]) := own_new wr .u8 [2 * (wid (mag x) : Int) + 1] 5 w.heap.size 1 rfl hsz (by unfold maxLen; omega)
      have hll := lowL_length (wid (mag x)) (mag x)
      have HLL := hide hll
      clear hownr hll hsee
      go_wp2_with (at_builtin; refine wpList_append_sees rfl _ _ 23 rfl w.heap.size 5 i0 (.int .u8 0) 1 Tryz.underlying23 hi hz0 hz1 hz2 rfl _ _ _ rfl ho3 .u8 _ _ rfl hsee2 ?d1 ?d2 ?d3 ?_)
      case d1 => rw [HLL.out]; unfold maxLen; omega
      case d2 => rw [HLL.out]; omega
      case d3 => simp; omega
      intro v' w1 hown' hgrow
      have hb1 : Below w.heap.size w w1 := (hnx.alloc (by omega) _).grown hgrow (by simp; omega) (own_block_le ho3)
      rw [HLL.out] at hown'
      go_wp2
      go_ret
      exact ⟨_, rfl, by rw [HB.out]; exact hown', hb1⟩

set_option maxHeartbeats 800000 in
theorem refNum_pos (x : Int) (w : World) (hx : ¬ x < 0) (h1 : x ≤ 9223372036854775807) :
    Calls Tryz.prog 153 #[.int .i64 x] w fun e w' => ∃ v', e = .returned v' ∧ w'.ownsRow w.heap.size 5 1 v' (1 + wid (mag x)) (ints .u8 (numB x)) ∧ Below w.heap.size w w' := by
  obtain ⟨i0, hi, hz0, hz1, hz2⟩ := info_parts Tryz.info5
  obtain ⟨hm0, hm1⟩ := mag_bounds x (by omega) (by omega)
  have hw8 := wid_le (mag x)
  have HM := hide (mag_pos x hx)
  have HB : Hid (numB x = (2 * (wid (mag x) : Int) + 0) :: lowL (wid (mag x)) (mag x)) := by unfold Hid numB; rw [if_neg hx]
  go_enter Tryz.func153, Tryz.ntmps153
  go_wp2
  go_loopw [3, 5] (fun vu vd wr => ∃ j : Nat, j ≤ wid (mag x) ∧ vu = .int .u64 (sh j (mag x)) ∧ wr.ownsRow w.heap.size 5 1 vd j (ints .u8 (lowL j (mag x))) ∧ Below w.heap.size w wr) (fun vu _ _ => (intOf vu).toNat)
  case atStart => exact ⟨0, Nat.zero_le _, by rw [HM.out]; rfl, World.ownsRow_nil _ _ _ _, Below.refl _ _⟩
  case round =>
    obtain ⟨j, hj, rfl, hownr, hnx⟩ := hrel
    have hs0 := sh_nonneg j (mag x) hm0
    have hs1 := sh_le j (mag x) hm0
    have hsz := hnx.size
    have hsp := sh_pos j (mag x) hm0 (by omega)
    by_cases hlt : j < wid (mag x)
    · have hpos : 0 < sh j (mag x) := hsp.2 hlt
      clear hsp
      go_wp2_with (at_builtin; refine wpList_append_own _ rfl _ _ 23 rfl w.heap.size 5 i0 (.int .u8 0) 1 1 Tryz.underlying23 hi hz0 hz1 hz2 rfl (by decide) _ _ _ rfl (hownr.alloc _) ⟨wr.heap.size, 0, none⟩ 1 1 [.int .u8 (sh j (mag x) % 256)] rfl rfl ?c1 ?c2 ?c3 ?c4 ?c5 ?_)
      case c1 => exact cell_one_new _ _ _
      case c2 => intro y hy; simp at hy; subst hy; rfl
      case c3 => unfold maxLen; omega
      case c4 => omega
      case c5 => simp; omega
      intro v' w1 hown' hgrow _
      have hb1 : Below w.heap.size w w1 := (hnx.alloc (by omega) _).grown hgrow (by simp; omega) (own_block_le hownr)
      have ho2 : w1.ownsRow w.heap.size 5 1 v' (j + 1) (ints .u8 (lowL (j + 1) (mag x))) := by rw [lowL_snoc, ints_append, ints_one]; exact hown'
      clear hown' hgrow hownr hnx
      go_wp2
      go_roundw
      case rel => exact ⟨j + 1, by omega, rfl, ho2, hb1⟩
      case measure => simp [intOf]; omega
    · have hzero : sh j (mag x) = 0 := by
        by_cases h : 0 < sh j (mag x)
        · exact absurd (hsp.1 h) hlt
        · omega
      obtain rfl : j = wid (mag x) := by omega
      clear hsp hs0 hs1
      rw [hzero]
      clear hzero
      obtain ⟨ao, cap, hv⟩ := own_shape hownr
      subst hv
      have hsee := (sees_of_own hownr).2
      have hsee2 := hsee.below ((Below.refl _ _).alloc (Nat.le_refl _) (.cells #[.int .u8 (2 * (wid (mag x) : Int) + 0)] 5))
      have ho3 : (wr.alloc (.cells #[.int .u8 (2 * (wid (mag x) : Int) + 0)] 5)).ownsRow w.heap.size 5 1 (.slice (some ⟨wr.heap.size, 0, none⟩) 1 1) 1 (ints .u8 [2 * (wid (mag x) : Int) + 0]) := own_new wr .u8 [2 * (wid (mag x) : Int) + 0] 5 w.heap.size 1 rfl hsz (by unfold maxLen; omega)
      have hll := lowL_length (wid (mag x)) (mag x)
      have HLL := hide hll
      clear hownr hll hsee
      simp only [Int.add_zero] at ho3 hsee2
      go_wp2_with (at_builtin; refine wpList_append_sees rfl _ _ 23 rfl w.heap.size 5 i0 (.int .u8 0) 1 Tryz.underlying23 hi hz0 hz1 hz2 rfl _ _ _ rfl ho3 .u8 _ _ rfl hsee2 ?d1 ?d2 ?d3 ?_)
      case d1 => rw [HLL.out]; unfold maxLen; omega
      case d2 => rw [HLL.out]; omega
      case d3 => simp; omega
      intro v' w1 hown' hgrow
      have hb1 : Below w.heap.size w w1 := (hnx.alloc (by omega) _).grown hgrow (by simp; omega) (own_block_le ho3)
      rw [HLL.out] at hown'
      go_wp2
      go_ret
      exact ⟨_, rfl, by rw [HB.out]; exact hown', hb1⟩

theorem refNum_any (x : Int) (w : World) (h1 : -9223372036854775808 ≤ x) (h2 : x ≤ 9223372036854775807) :
    Calls Tryz.prog 153 #[.int .i64 x] w fun e w' => ∃ v', e = .returned v' ∧ w'.ownsRow w.heap.size 5 1 v' (1 + wid (mag x)) (ints .u8 (numB x)) ∧ Below w.heap.size w w' := by
  by_cases hx : x < 0
  · exact refNum_neg x w hx h1
  · exact refNum_pos x w hx h2

set_option maxHeartbeats 800000 in
/-- The document's Put. -/
theorem refPut_some (bv : Value) (a : Addr) (cap : Nat) (zs l : List Int) (w : World) (hs : Sees w .u8 bv zs) (hl : l.length ≤ 140737488351232) (hb : I64 l) (hn : zs.length + sizeL l + 8 ≤ 140737488355328)
    (hc : ∀ t, t < l.length → w.cell? (a.add t) = some (.int .i64 (l.getD t 0))) :
    Calls Tryz.prog 122 #[bv, .slice (some a) l.length cap] w fun e w' => ∃ v', e = .returned v' ∧ w'.ownsRow w.heap.size 5 1 v' (zs.length + sizeL l) (ints .u8 (zs ++ putL l)) ∧ Below w.heap.size w w' := by
  obtain ⟨i0, hi, hz0, hz1, hz2⟩ := info_parts Tryz.info5
  go_enter Tryz.func122, Tryz.ntmps122
  go_wp2_with (at_builtin; refine wpList_append_sees rfl _ _ 23 rfl w.heap.size 5 i0 (.int .u8 0) 1 Tryz.underlying23 hi hz0 hz1 hz2 rfl _ _ _ rfl (World.ownsRow_nil _ _ _ _) .u8 _ _ rfl hs ?d1 ?d2 ?d3 ?_)
  case d1 => unfold maxLen; omega
  case d2 => omega
  case d3 => omega
  intro v0 w0 hown0 hgrow0
  have hb0 : Below w.heap.size w w0 := (Below.refl _ _).grown hgrow0 (Nat.le_refl _) (fun k h => by cases h)
  clear hgrow0
  go_wp2
  go_loopw [5, 6] (fun vb vi wr => ∃ j : Nat, j ≤ l.length ∧ vi = .int .i64 j ∧ wr.ownsRow w.heap.size 5 1 vb (zs.length + sizeL (l.take j)) (ints .u8 (zs ++ putL (l.take j))) ∧ Below w.heap.size w wr)
    (fun _ vi _ => l.length - (intOf vi).toNat)
  case atStart => exact ⟨0, Nat.zero_le _, rfl, by simpa [sizeL, putL] using hown0, hb0⟩
  case round =>
    obtain ⟨j, hj, rfl, hownr, hnx⟩ := hrel
    have hsz := hnx.size
    by_cases hlt : j < l.length
    · have hcj := hc j hlt
      have hcr : wr.cell? (a.add j) = some (.int .i64 (l.getD j 0)) := (hnx.cell (World.block_lt_of_cell? w _ hcj)).trans hcj
      obtain ⟨hb1, hb2⟩ := hb j hlt
      have hst : Hid (sizeL (l.take (j + 1)) = sizeL (l.take j) + (1 + wid (mag (l.getD j 0)))) := sizeL_take l j hlt
      have hpt : Hid (putL (l.take (j + 1)) = putL (l.take j) ++ numB (l.getD j 0)) := putL_take l j hlt
      have hsl : sizeL (l.take (j + 1)) ≤ sizeL l := by
        have := sizeL_append (l.take (j + 1)) (l.drop (j + 1)); rw [List.take_append_drop] at this; omega
      rw [hst.out] at hsl
      have hnl := numB_length (l.getD j 0)
      generalize l.getD j 0 = x at *
      have HNL := hide hnl
      clear hc hb hcj hnl
      go_wp2_with (first
        | (go_at_call 153; refine (refNum_any x wr hb1 hb2).mono ?_; rintro e w1 ⟨v1, rfl, ho1, hbe1⟩; have hs1 := (sees_of_own ho1).2; have hor := own_below hownr hbe1)
        | (at_builtin; refine wpList_append_sees rfl _ _ 23 rfl w.heap.size 5 i0 (.int .u8 0) 1 Tryz.underlying23 hi hz0 hz1 hz2 rfl _ _ _ rfl hor .u8 _ _ rfl hs1 ?e1 ?e2 ?e3 ?_))
      case e1 => rw [HNL.out]; unfold maxLen; omega
      case e2 => rw [HNL.out]; omega
      case e3 => have := hbe1.size; omega
      intro v2 w2 ho2 hg2
      have hbw1 : Below w.heap.size w w1 := hnx.trans (hbe1.mono hsz)
      have hbw2 : Below w.heap.size w w2 := hbw1.grown hg2 hbw1.size (own_block_le hor)
      have ho3 : w2.ownsRow w.heap.size 5 1 v2 (zs.length + sizeL (l.take (j + 1))) (ints .u8 (zs ++ putL (l.take (j + 1)))) := by
        rw [HNL.out] at ho2
        rw [hst.out, hpt.out, ← List.append_assoc, ints_append]
        rw [show zs.length + (sizeL (l.take j) + (1 + wid (mag x))) = zs.length + sizeL (l.take j) + (1 + wid (mag x)) by omega]
        exact ho2
      clear ho2 ho1 hs1 hor hownr hg2
      go_wp2
      go_roundw
      case rel => exact ⟨j + 1, by omega, by go_num, ho3, hbw2⟩
      case measure => simp [intOf]; omega
    · go_wp2
      go_ret
      obtain rfl : j = l.length := by omega
      rw [List.take_length] at hownr
      exact ⟨_, rfl, hownr, hnx⟩

set_option maxHeartbeats 800000 in
theorem refPut_nil (bv : Value) (zs : List Int) (w : World) (hs : Sees w .u8 bv zs) (hn : zs.length + 8 ≤ 140737488355328) :
    Calls Tryz.prog 122 #[bv, .slice none 0 0] w fun e w' => ∃ v', e = .returned v' ∧ w'.ownsRow w.heap.size 5 1 v' zs.length (ints .u8 zs) ∧ Below w.heap.size w w' := by
  obtain ⟨i0, hi, hz0, hz1, hz2⟩ := info_parts Tryz.info5
  go_enter Tryz.func122, Tryz.ntmps122
  go_wp2_with (at_builtin; refine wpList_append_sees rfl _ _ 23 rfl w.heap.size 5 i0 (.int .u8 0) 1 Tryz.underlying23 hi hz0 hz1 hz2 rfl _ _ _ rfl (World.ownsRow_nil _ _ _ _) .u8 _ _ rfl hs ?d1 ?d2 ?d3 ?_)
  case d1 => unfold maxLen; omega
  case d2 => omega
  case d3 => omega
  intro v0 w0 hown0 hgrow0
  have hb0 : Below w.heap.size w w0 := (Below.refl _ _).grown hgrow0 (Nat.le_refl _) (fun k h => by cases h)
  clear hgrow0
  go_wp2
  refine wp_loop_rounds 1 ?_
  rw [rounds_succ]
  go_wp2
  go_ret
  exact ⟨_, rfl, hown0, hb0⟩

theorem refPut_any (bv lv : Value) (zs l : List Int) (w : World) (hs : Sees w .u8 bv zs) (hls : Sees w .i64 lv l) (hl : l.length ≤ 140737488351232) (hb : I64 l) (hn : zs.length + sizeL l + 8 ≤ 140737488355328) :
    Calls Tryz.prog 122 #[bv, lv] w fun e w' => ∃ v', e = .returned v' ∧ w'.ownsRow w.heap.size 5 1 v' (zs.length + sizeL l) (ints .u8 (zs ++ putL l)) ∧ Below w.heap.size w w' := by
  obtain ⟨ao, cap, rfl, hlc, hnil, hc⟩ := hls
  cases ao with
  | none =>
    obtain rfl := hnil rfl
    obtain rfl : l = [] := List.length_eq_zero_iff.1 (by omega)
    refine (refPut_nil bv zs w hs (by omega)).mono ?_
    rintro e w' ⟨v', rfl, ho, hb'⟩
    exact ⟨v', rfl, by simpa [sizeL, putL] using ho, hb'⟩
  | some a => exact refPut_some bv a cap zs l w hs hl hb hn (hc a rfl)

end Go.Proofs.YtggllgimlfchhaaGreat
