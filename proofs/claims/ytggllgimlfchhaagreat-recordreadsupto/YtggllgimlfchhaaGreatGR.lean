/- Several texts as one. -/
import Derived.Test.YtggllgimlfchhaaGreatGW
import Derived.Test.YtggllgimlfchhaaGreatGM
import Derived.Test.YtggllgimlfchhaaGreatGX
import Derived.Test.YtggllgimlfchhaaGreatGV
import Derived.Test.YtggllgimlfchhaaGreatOneM

/- The document's own Num and Put (package trivetref01): they come to the same bytes. -/
namespace Go.Proofs.YtggllgimlfchhaaGreat
open Go.RowKit
set_option maxRecDepth 100000

theorem sh_eq (j : Nat) (u : Int) : sh j u = u / B256 j := by
  induction j with
  | zero => simp [sh, B256]
  | succ j ih => rw [sh, ih, B256, Int.mul_comm, Int.ediv_ediv_of_nonneg (by have := B256_pos j; omega)]

theorem sh_pos (j : Nat) (u : Int) (h0 : 0 ≤ u) (h : u < 18446744073709551616) : 0 < sh j u ↔ j < wid u := by
  have hp := B256_pos j
  rw [sh_eq]
  constructor
  · intro hs
    have h1 : B256 j ≤ u := by
      by_cases hc : B256 j ≤ u
      · exact hc
      · have := Int.ediv_eq_zero_of_lt h0 (by omega : u < B256 j); omega
    by_cases hc : j < wid u
    · exact hc
    · have := wid_lt u h0 h
      have := B256_mono (wid u) j (by omega)
      omega
  · intro hj
    have h1 : B256 (wid u - 1) ≤ u := wid_bounds u h0 h (wid u - 1) (by omega)
    have h2 := B256_mono j (wid u - 1) (by omega)
    have := Int.ediv_le_ediv (by omega : 0 < B256 j) (by omega : B256 j ≤ u)
    rw [Int.ediv_self (by omega)] at this
    omega

theorem mag_ref (x : Int) (h : x < 0) : -(x + 1) + 1 = mag x := by unfold mag; rw [if_pos h]; omega
theorem mag_pos (x : Int) (h : ¬ x < 0) : mag x = x := by unfold mag; rw [if_neg h]

set_option maxHeartbeats 800000 in
theorem refNum_neg (x : Int) (w : World) (hx : x < 0) (h1 : -9223372036854775808 ≤ x) :
    Calls Tryz.prog 153 #[.int .i64 x] w fun e w' => ∃ v', e = .returned v' ∧ w'.ownsRow w.heap.size 5 1 v' (1 + wid (mag x)) (ints .u8 (numB x)) ∧ Below w.heap.size w w' := by
  obtain ⟨i0, hi, hz0, hz1, hz2⟩ := info_parts Tryz.info5
  obtain ⟨hm0, hm1⟩ := mag_bounds x (by omega) (by omega)
  have hw8 := wid_le (mag x)
  have HM := hide (mag_ref x hx)
  have HB : Hid (numB x = (2 * (wid (mag x) : Int) + 1) :: lowL (wid (mag x)) (mag x)) := by unfold Hid numB; rw [if_pos hx]
  go_enter Tryz.func153, Tryz.ntmps153
  go_wp2
  go_loopw [3, 5] (fun vu vd wr => ∃ j : Nat, j ≤ wid (mag x) ∧ vu = .int .u64 (sh j (mag x)) ∧ wr.ownsRow w.heap.size 5 1 vd j (ints .u8 (lowL j (mag x))) ∧ Below w.heap.size w wr) (fun vu _ _ => (intOf vu).toNat)
  case atStart => exact ⟨0, Nat.zero_le _, by rw [HM.out]; rfl, World.ownsRow_nil _ _ _ _, Below.refl _ _⟩
  case round =>
    obtain ⟨j, hj, rfl, hownr, hnx⟩ := hrel
    have hs0 := sh_nonneg j (mag x) hm0
    have hs1 := sh_le j (mag x) hm0
    have hsz := hnx.size
    have hsp := sh_pos j (mag x) hm0 (by omega)
    by_cases hlt : j < wid (mag x)
    · have hpos : 0 < sh j (mag x) := hsp.2 hlt
      clear hsp
      go_wp2_with (at_builtin; refine wpList_append_own _ rfl _ _ 23 rfl w.heap.size 5 i0 (.int .u8 0) 1 1 Tryz.underlying23 hi hz0 hz1 hz2 rfl (by decide) _ _ _ rfl (hownr.alloc _) ⟨wr.heap.size, 0, none⟩ 1 1 [.int .u8 (sh j (mag x) % 256)] rfl rfl ?c1 ?c2 ?c3 ?c4 ?c5 ?_)
      case c1 => exact cell_one_new _ _ _
      case c2 => intro y hy; simp at hy; subst hy; rfl
      case c3 => unfold maxLen; omega
      case c4 => omega
      case c5 => simp; omega
      intro v' w1 hown' hgrow _
      have hb1 : Below w.heap.size w w1 := (hnx.alloc (by omega) _).grown hgrow (by simp; omega) (own_block_le hownr)
      have ho2 : w1.ownsRow w.heap.size 5 1 v' (j + 1) (ints .u8 (lowL (j + 1) (mag x))) := by rw [lowL_snoc, ints_append, ints_one]; exact hown'
      clear hown' hgrow hownr hnx
      go_wp2
      go_roundw
      case rel => exact ⟨j + 1, by omega, rfl, ho2, hb1⟩
      case measure => simp [intOf]; omega
    · have hzero : sh j (mag x) = 0 := by
        by_cases h : 0 < sh j (mag x)
        · exact absurd (hsp.1 h) hlt
        · omega
      obtain rfl : j = wid (mag x) := by omega
      clear hsp hs0 hs1
      rw [hzero]
      clear hzero
      obtain ⟨ao, cap, hv⟩ := own_shape hownr
      subst hv
      have hsee := (sees_of_own hownr).2
      have hsee2 := hsee.below ((Below.refl _ _).alloc (Nat.le_refl _) (.cells #[.int .u8 (2 * (wid (mag x) : Int) + 1)] 5))
      have ho3 : (wr.alloc (.cells #[.int .u8 (2 * (wid (mag x) : Int) + 1)] 5)).ownsRow w.heap.size 5 1 (.slice (some ⟨wr.heap.size, 0, none⟩) 1 1) 1 (ints .u8 [2 * (wid (mag x) : Int) + 1]) := own_new wr .u8 [2 * (wid (mag x) : Int) + 1] 5 w.heap.size 1 rfl hsz (by unfold maxLen; omega)
      have hll := lowL_length (wid (mag x)) (mag x)
      have HLL := hide hll
      clear hownr hll hsee
      go_wp2_with (at_builtin; refine wpList_append_sees rfl _ _ 23 rfl w.heap.size 5 i0 (.int .u8 0) 1 Tryz.underlying23 hi hz0 hz1 hz2 rfl _ _ _ rfl ho3 .u8 _ _ rfl hsee2 ?d1 ?d2 ?d3 ?_)
      case d1 => rw [HLL.out]; unfold maxLen; omega
      case d2 => rw [HLL.out]; omega
      case d3 => simp; omega
      intro v' w1 hown' hgrow
      have hb1 : Below w.heap.size w w1 := (hnx.alloc (by omega) _).grown hgrow (by simp; omega) (own_block_le ho3)
      rw [HLL.out] at hown'
      go_wp2
      go_ret
      exact ⟨_, rfl, by rw [HB.out]; exact hown', hb1⟩

set_option maxHeartbeats 800000 in
theorem refNum_pos (x : Int) (w : World) (hx : ¬ x < 0) (h1 : x ≤ 9223372036854775807) :
    Calls Tryz.prog 153 #[.int .i64 x] w fun e w' => ∃ v', e = .returned v' ∧ w'.ownsRow w.heap.size 5 1 v' (1 + wid (mag x)) (ints .u8 (numB x)) ∧ Below w.heap.size w w' := by
  obtain ⟨i0, hi, hz0, hz1, hz2⟩ := info_parts Tryz.info5
  obtain ⟨hm0, hm1⟩ := mag_bounds x (by omega) (by omega)
  have hw8 := wid_le (mag x)
  have HM := hide (mag_pos x hx)
  have HB : Hid (numB x = (2 * (wid (mag x) : Int) + 0) :: lowL (wid (mag x)) (mag x)) := by unfold Hid numB; rw [if_neg hx]
  go_enter Tryz.func153, Tryz.ntmps153
  go_wp2
  go_loopw [3, 5] (fun vu vd wr => ∃ j : Nat, j ≤ wid (mag x) ∧ vu = .int .u64 (sh j (mag x)) ∧ wr.ownsRow w.heap.size 5 1 vd j (ints .u8 (lowL j (mag x))) ∧ Below w.heap.size w wr) (fun vu _ _ => (intOf vu).toNat)
  case atStart => exact ⟨0, Nat.zero_le _, by rw [HM.out]; rfl, World.ownsRow_nil _ _ _ _, Below.refl _ _⟩
  case round =>
    obtain ⟨j, hj, rfl, hownr, hnx⟩ := hrel
    have hs0 := sh_nonneg j (mag x) hm0
    have hs1 := sh_le j (mag x) hm0
    have hsz := hnx.size
    have hsp := sh_pos j (mag x) hm0 (by omega)
    by_cases hlt : j < wid (mag x)
    · have hpos : 0 < sh j (mag x) := hsp.2 hlt
      clear hsp
      go_wp2_with (at_builtin; refine wpList_append_own _ rfl _ _ 23 rfl w.heap.size 5 i0 (.int .u8 0) 1 1 Tryz.underlying23 hi hz0 hz1 hz2 rfl (by decide) _ _ _ rfl (hownr.alloc _) ⟨wr.heap.size, 0, none⟩ 1 1 [.int .u8 (sh j (mag x) % 256)] rfl rfl ?c1 ?c2 ?c3 ?c4 ?c5 ?_)
      case c1 => exact cell_one_new _ _ _
      case c2 => intro y hy; simp at hy; subst hy; rfl
      case c3 => unfold maxLen; omega
      case c4 => omega
      case c5 => simp; omega
      intro v' w1 hown' hgrow _
      have hb1 : Below w.heap.size w w1 := (hnx.alloc (by omega) _).grown hgrow (by simp; omega) (own_block_le hownr)
      have ho2 : w1.ownsRow w.heap.size 5 1 v' (j + 1) (ints .u8 (lowL (j + 1) (mag x))) := by rw [lowL_snoc, ints_append, ints_one]; exact hown'
      clear hown' hgrow hownr hnx
      go_wp2
      go_roundw
      case rel => exact ⟨j + 1, by omega, rfl, ho2, hb1⟩
      case measure => simp [intOf]; omega
    · have hzero : sh j (mag x) = 0 := by
        by_cases h : 0 < sh j (mag x)
        · exact absurd (hsp.1 h) hlt
        · omega
      obtain rfl : j = wid (mag x) := by omega
      clear hsp hs0 hs1
      rw [hzero]
      clear hzero
      obtain ⟨ao, cap, hv⟩ := own_shape hownr
      subst hv
      have hsee := (sees_of_own hownr).2
      have hsee2 := hsee.below ((Below.refl _ _).alloc (Nat.le_refl _) (.cells #[.int .u8 (2 * (wid (mag x) : Int) + 0)] 5))
      have ho3 : (wr.alloc (.cells #[.int .u8 (2 * (wid (mag x) : Int) + 0)] 5)).ownsRow w.heap.size 5 1 (.slice (some ⟨wr.heap.size, 0, none⟩) 1 1) 1 (ints .u8 [2 * (wid (mag x) : Int) + 0]) := own_new wr .u8 [2 * (wid (mag x) : Int) + 0] 5 w.heap.size 1 rfl hsz (by unfold maxLen; omega)
      have hll := lowL_length (wid (mag x)) (mag x)
      have HLL := hide hll
      clear hownr hll hsee
      simp only [Int.add_zero] at ho3 hsee2
      go_wp2_with (at_builtin; refine wpList_append_sees rfl _ _ 23 rfl w.heap.size 5 i0 (.int .u8 0) 1 Tryz.underlying23 hi hz0 hz1 hz2 rfl _ _ _ rfl ho3 .u8 _ _ rfl hsee2 ?d1 ?d2 ?d3 ?_)
      case d1 => rw [HLL.out]; unfold maxLen; omega
      case d2 => rw [HLL.out]; omega
      case d3 => simp; omega
      intro v' w1 hown' hgrow
      have hb1 : Below w.heap.size w w1 := (hnx.alloc (by omega) _).grown hgrow (by simp; omega) (own_block_le ho3)
      rw [HLL.out] at hown'
      go_wp2
      go_ret
      exact ⟨_, rfl, by rw [HB.out]; exact hown', hb1⟩

theorem refNum_any (x : Int) (w : World) (h1 : -9223372036854775808 ≤ x) (h2 : x ≤ 9223372036854775807) :
    Calls Tryz.prog 153 #[.int .i64 x] w fun e w' => ∃ v', e = .returned v' ∧ w'.ownsRow w.heap.size 5 1 v' (1 + wid (mag x)) (ints .u8 (numB x)) ∧ Below w.heap.size w w' := by
  by_cases hx : x < 0
  · exact refNum_neg x w hx h1
  · exact refNum_pos x w hx h2

set_option maxHeartbeats 800000 in
/-- The document's Put. -/
theorem refPut_some (bv : Value) (a : Addr) (cap : Nat) (zs l : List Int) (w : World) (hs : Sees w .u8 bv zs) (hl : l.length ≤ 140737488351232) (hb : I64 l) (hn : zs.length + sizeL l + 8 ≤ 140737488355328)
    (hc : ∀ t, t < l.length → w.cell? (a.add t) = some (.int .i64 (l.getD t 0))) :
    Calls Tryz.prog 122 #[bv, .slice (some a) l.length cap] w fun e w' => ∃ v', e = .returned v' ∧ w'.ownsRow w.heap.size 5 1 v' (zs.length + sizeL l) (ints .u8 (zs ++ putL l)) ∧ Below w.heap.size w w' := by
  obtain ⟨i0, hi, hz0, hz1, hz2⟩ := info_parts Tryz.info5
  go_enter Tryz.func122, Tryz.ntmps122
  go_wp2_with (at_builtin; refine wpList_append_sees rfl _ _ 23 rfl w.heap.size 5 i0 (.int .u8 0) 1 Tryz.underlying23 hi hz0 hz1 hz2 rfl _ _ _ rfl (World.ownsRow_nil _ _ _ _) .u8 _ _ rfl hs ?d1 ?d2 ?d3 ?_)
  case d1 => unfold maxLen; omega
  case d2 => omega
  case d3 => omega
  intro v0 w0 hown0 hgrow0
  have hb0 : Below w.heap.size w w0 := (Below.refl _ _).grown hgrow0 (Nat.le_refl _) (fun k h => by cases h)
  clear hgrow0
  go_wp2
  go_loopw [5, 6] (fun vb vi wr => ∃ j : Nat, j ≤ l.length ∧ vi = .int .i64 j ∧ wr.ownsRow w.heap.size 5 1 vb (zs.length + sizeL (l.take j)) (ints .u8 (zs ++ putL (l.take j))) ∧ Below w.heap.size w wr)
    (fun _ vi _ => l.length - (intOf vi).toNat)
  case atStart => exact ⟨0, Nat.zero_le _, rfl, by simpa [sizeL, putL] using hown0, hb0⟩
  case round =>
    obtain ⟨j, hj, rfl, hownr, hnx⟩ := hrel
    have hsz := hnx.size
    by_cases hlt : j < l.length
    · have hcj := hc j hlt
      have hcr : wr.cell? (a.add j) = some (.int .i64 (l.getD j 0)) := (hnx.cell (World.block_lt_of_cell? w _ hcj)).trans hcj
      obtain ⟨hb1, hb2⟩ := hb j hlt
      have hst : Hid (sizeL (l.take (j + 1)) = sizeL (l.take j) + (1 + wid (mag (l.getD j 0)))) := sizeL_take l j hlt
      have hpt : Hid (putL (l.take (j + 1)) = putL (l.take j) ++ numB (l.getD j 0)) := putL_take l j hlt
      have hsl : sizeL (l.take (j + 1)) ≤ sizeL l := by
        have := sizeL_append (l.take (j + 1)) (l.drop (j + 1)); rw [List.take_append_drop] at this; omega
      rw [hst.out] at hsl
      have hnl := numB_length (l.getD j 0)
      generalize l.getD j 0 = x at *
      have HNL := hide hnl
      clear hc hb hcj hnl
      go_wp2_with (first
        | (go_at_call 153; refine (refNum_any x wr hb1 hb2).mono ?_; rintro e w1 ⟨v1, rfl, ho1, hbe1⟩; have hs1 := (sees_of_own ho1).2; have hor := own_below hownr hbe1)
        | (at_builtin; refine wpList_append_sees rfl _ _ 23 rfl w.heap.size 5 i0 (.int .u8 0) 1 Tryz.underlying23 hi hz0 hz1 hz2 rfl _ _ _ rfl hor .u8 _ _ rfl hs1 ?e1 ?e2 ?e3 ?_))
      case e1 => rw [HNL.out]; unfold maxLen; omega
      case e2 => rw [HNL.out]; omega
      case e3 => have := hbe1.size; omega
      intro v2 w2 ho2 hg2
      have hbw1 : Below w.heap.size w w1 := hnx.trans (hbe1.mono hsz)
      have hbw2 : Below w.heap.size w w2 := hbw1.grown hg2 hbw1.size (own_block_le hor)
      have ho3 : w2.ownsRow w.heap.size 5 1 v2 (zs.length + sizeL (l.take (j + 1))) (ints .u8 (zs ++ putL (l.take (j + 1)))) := by
        rw [HNL.out] at ho2
        rw [hst.out, hpt.out, ← List.append_assoc, ints_append]
        rw [show zs.length + (sizeL (l.take j) + (1 + wid (mag x))) = zs.length + sizeL (l.take j) + (1 + wid (mag x)) by omega]
        exact ho2
      clear ho2 ho1 hs1 hor hownr hg2
      go_wp2
      go_roundw
      case rel => exact ⟨j + 1, by omega, by go_num, ho3, hbw2⟩
      case measure => simp [intOf]; omega
    · go_wp2
      go_ret
      obtain rfl : j = l.length := by omega
      rw [List.take_length] at hownr
      exact ⟨_, rfl, hownr, hnx⟩

set_option maxHeartbeats 800000 in
theorem refPut_nil (bv : Value) (zs : List Int) (w : World) (hs : Sees w .u8 bv zs) (hn : zs.length + 8 ≤ 140737488355328) :
    Calls Tryz.prog 122 #[bv, .slice none 0 0] w fun e w' => ∃ v', e = .returned v' ∧ w'.ownsRow w.heap.size 5 1 v' zs.length (ints .u8 zs) ∧ Below w.heap.size w w' := by
  obtain ⟨i0, hi, hz0, hz1, hz2⟩ := info_parts Tryz.info5
  go_enter Tryz.func122, Tryz.ntmps122
  go_wp2_with (at_builtin; refine wpList_append_sees rfl _ _ 23 rfl w.heap.size 5 i0 (.int .u8 0) 1 Tryz.underlying23 hi hz0 hz1 hz2 rfl _ _ _ rfl (World.ownsRow_nil _ _ _ _) .u8 _ _ rfl hs ?d1 ?d2 ?d3 ?_)
  case d1 => unfold maxLen; omega
  case d2 => omega
  case d3 => omega
  intro v0 w0 hown0 hgrow0
  have hb0 : Below w.heap.size w w0 := (Below.refl _ _).grown hgrow0 (Nat.le_refl _) (fun k h => by cases h)
  clear hgrow0
  go_wp2
  refine wp_loop_rounds 1 ?_
  rw [rounds_succ]
  go_wp2
  go_ret
  exact ⟨_, rfl, hown0, hb0⟩

theorem refPut_any (bv lv : Value) (zs l : List Int) (w : World) (hs : Sees w .u8 bv zs) (hls : Sees w .i64 lv l) (hl : l.length ≤ 140737488351232) (hb : I64 l) (hn : zs.length + sizeL l + 8 ≤ 140737488355328) :
    Calls Tryz.prog 122 #[bv, lv] w fun e w' => ∃ v', e = .returned v' ∧ w'.ownsRow w.heap.size 5 1 v' (zs.length + sizeL l) (ints .u8 (zs ++ putL l)) ∧ Below w.heap.size w w' := by
  obtain ⟨ao, cap, rfl, hlc, hnil, hc⟩ := hls
  cases ao with
  | none =>
    obtain rfl := hnil rfl
    obtain rfl : l = [] := List.length_eq_zero_iff.1 (by omega)
    refine (refPut_nil bv zs w hs (by omega)).mono ?_
    rintro e w' ⟨v', rfl, ho, hb'⟩
    exact ⟨v', rfl, by simpa [sizeL, putL] using ho, hb'⟩
  | some a => exact refPut_some bv a cap zs l w hs hl hb hn (hc a rfl)

end Go.Proofs.YtggllgimlfchhaaGreat

/- The document's own TakeNum (package trivetref01): it comes to the same. -/
namespace Go.Proofs.YtggllgimlfchhaaGreat
open Go.RowKit
set_option maxRecDepth 100000

/-- A number's bytes are as few as will do just where the last one is not 0. -/
theorem wid_last (l : List Int) (hb : Byt l) (h8 : l.length ≤ 8) (hl : 0 < l.length) : wid (valL l) = l.length ↔ l.getD (l.length - 1) 0 ≠ 0 := by
  have ht := valL_take_snoc l (l.length - 1) (by omega)
  rw [show l.length - 1 + 1 = l.length by omega, List.take_length] at ht
  have hv := valL_bound (l.take (l.length - 1)) (hb.take _)
  rw [show (l.take (l.length - 1)).length = l.length - 1 by simp] at hv
  have hg := hb.get (l.length - 1)
  have hp := B256_pos (l.length - 1)
  have htop := valL_bound l hb
  have h64 : B256 l.length ≤ B256 8 := B256_mono _ _ h8
  rw [B256_8] at h64
  constructor
  · intro hw h0
    rw [h0, Int.zero_mul] at ht
    have := wid_bounds (valL l) htop.1 (by omega) (l.length - 1) (by omega)
    omega
  · intro h0
    have h1 : B256 (l.length - 1) ≤ valL l := by
      have : 1 * B256 (l.length - 1) ≤ l.getD (l.length - 1) 0 * B256 (l.length - 1) := Int.mul_le_mul_of_nonneg_right (by omega) (by omega)
      omega
    have := wid_of (valL l) (l.length - 1) (by rw [show l.length - 1 + 1 = l.length by omega]; exact htop.2) h1 (by omega)
    omega

theorem valL_drop (l : List Int) (j : Nat) (h : j < l.length) : valL (l.drop j) = l.getD j 0 + 256 * valL (l.drop (j + 1)) := by
  rw [List.drop_eq_getElem_cons h]; simp [valL, List.getD, h]

set_option maxHeartbeats 400000 in
theorem refTake_nil (ao : Option Addr) (cap : Nat) (w : World) :
    Calls Tryz.prog 100 #[.slice ao 0 cap] w fun e w' => e = .returned (.tuple #[.int .i64 0, .int .i64 0, .int .i64 10]) ∧ w = w' := by
  go_enter Tryz.func100, Tryz.ntmps100
  go_wp2
  go_ret3
  exact ⟨rfl, rfl⟩

set_option maxHeartbeats 400000 in
theorem refTake_head (a : Addr) (len cap : Nat) (h : Int) (w : World) (hm : len ≤ 140737488355328) (hl : 0 < len) (hc : w.cell? a = some (.int .u8 h)) (hb : 17 < h ∨ h = 1) :
    Calls Tryz.prog 100 #[.slice (some a) len cap] w fun e w' => e = .returned (.tuple #[.int .i64 0, .int .i64 0, .int .i64 11]) ∧ w = w' := by
  have hz : ((len : Int) == 0) = false := beq_eq_false_iff_ne.2 (by omega)
  rcases hb with hb | rfl
  · go_enter Tryz.func100, Tryz.ntmps100
    go_wp2
    go_ret3
    exact ⟨rfl, rfl⟩
  · go_enter Tryz.func100, Tryz.ntmps100
    go_wp2
    go_ret3
    exact ⟨rfl, rfl⟩

set_option maxHeartbeats 400000 in
theorem refTake_short (a : Addr) (len cap : Nat) (h : Int) (w : World) (hm : len ≤ 140737488355328) (hl : 0 < len) (hc : w.cell? a = some (.int .u8 h)) (h0 : 0 ≤ h) (h17 : h ≤ 17) (hne : (h == 1) = false) (hs : (len : Int) - 1 < h / 2) :
    Calls Tryz.prog 100 #[.slice (some a) len cap] w fun e w' => e = .returned (.tuple #[.int .i64 0, .int .i64 0, .int .i64 10]) ∧ w = w' := by
  have hz : ((len : Int) == 0) = false := beq_eq_false_iff_ne.2 (by omega)
  go_enter Tryz.func100, Tryz.ntmps100
  go_wp2
  go_ret3
  exact ⟨rfl, rfl⟩

theorem neg_ref (u : Int) (h0 : 0 ≤ u) (h1 : u ≤ 9223372036854775808) : wrap64 (wrap64 (-wrap64 (IntKind.u64.wrap (u - 1))) - 1) = -u := by
  rw [IntKind.wrap_u64]; unfold wrap64; omega

theorem tup3 {k1 k2 k3 : IntKind} {a b c a' b' c' : Int} (h1 : a = a') (h2 : b = b') (h3 : c = c') : Ending.returned (.tuple #[.int k1 a, .int k2 b, .int k3 c]) = .returned (.tuple #[.int k1 a', .int k2 b', .int k3 c']) := by rw [h1, h2, h3]

/-- What the numbers' rest comes to, once its bytes are there. -/
def tnRest (h : Int) (k : Nat) (u y : Int) : Int × Nat × Int :=
  if 0 < k ∧ y = 0 then (0, 0, 11)
  else if h % 2 = 0 then (if 9223372036854775808 ≤ u then (0, 0, 11) else (u, 1 + k, 0))
  else (if 9223372036854775808 < u then (0, 0, 11) else (-u, 1 + k, 0))

set_option maxHeartbeats 1600000 in
theorem refTake_rest (a : Addr) (len cap : Nat) (h : Int) (k : Nat) (L : List Int) (u y : Int) (w : World) (hm : len ≤ 140737488355328) (hc : w.cell? a = some (.int .u8 h)) (h0 : 0 ≤ h) (h17 : h ≤ 17) (hne : (h == 1) = false)
    (hk : h / 2 = k) (hkl : k + 1 ≤ len) (hL : L.length = k) (hu : valL L = u) (hb : Byt L) (hcL : ∀ t, t < k → w.cell? (a.add (t + 1)) = some (.int .u8 (L.getD t 0))) (hy : 0 < k → w.cell? (a.add k) = some (.int .u8 y)) :
    Calls Tryz.prog 100 #[.slice (some a) len cap] w fun e w' => e = .returned (.tuple #[.int .i64 (tnRest h k u y).1, .int .i64 (tnRest h k u y).2.1, .int .i64 (tnRest h k u y).2.2]) ∧ w = w' := by
  have hz : ((len : Int) == 0) = false := beq_eq_false_iff_ne.2 (by omega)
  have HK := hide hk
  have hk8 : k ≤ 8 := by omega
  have hsh : ¬ ((len : Int) - 1 < h / 2) := by omega
  have hhk0 : 0 ≤ h / 2 := by omega
  have hhk8 : h / 2 ≤ 8 := by omega
  clear hk
  go_enter Tryz.func100, Tryz.ntmps100
  go_wp2
  rw [HK.out]
  clear hsh hhk0 hhk8 HK
  have HL := hide hL
  clear hL
  have hb7 : ∀ j, 1 ≤ j → 0 ≤ valL (L.drop j) ∧ valL (L.drop j) ≤ 72057594037927935 := fun j hj => by
    have h1 := valL_bound (L.drop j) (hb.drop j)
    have h2 : B256 (L.drop j).length ≤ B256 7 := B256_mono _ _ (by rw [List.length_drop, HL.out]; omega)
    rw [show B256 7 = 72057594037927936 from rfl] at h2
    omega
  have hv8 : 0 ≤ u ∧ u ≤ 18446744073709551615 := by
    have h1 := valL_bound L hb
    rw [hu] at h1
    have h2 : B256 L.length ≤ B256 8 := B256_mono _ _ (by rw [HL.out]; omega)
    rw [B256_8] at h2
    omega
  have HUL := hide hu
  clear hu
  go_loop [6, 7] (fun u i => ∃ j : Nat, j ≤ k ∧ i = .int .i64 j ∧ u = .int .u64 (valL (L.drop j))) (fun _ i => (intOf i).toNat)
  case atStart => exact ⟨k, Nat.le_refl _, rfl, by rw [List.drop_of_length_le (by rw [HL.out]; omega)]; rfl⟩
  case round =>
    obtain ⟨j, hj, rfl, rfl⟩ := hrel
    by_cases hlt : 1 ≤ j
    · have hcj : w.cell? (a.add j) = some (.int .u8 (L.getD (j - 1) 0)) := by have := hcL (j - 1) (by omega); rwa [show j - 1 + 1 = j by omega] at this
      have hst := valL_drop L (j - 1) (by rw [HL.out]; omega)
      rw [show j - 1 + 1 = j by omega] at hst
      obtain ⟨hg1, hg2⟩ := hb.get (j - 1)
      obtain ⟨hu1, hu2⟩ := hb7 j hlt
      generalize L.getD (j - 1) 0 = x at *
      generalize hu : valL (L.drop j) = u' at *
      have HST := hide hst
      have HU := hide hu
      have hjl : (j : Int) < (len : Int) := by omega
      clear hst hu hb7 hcL hy hc hv8
      go_wp2
      go_round
      case rel => exact ⟨j - 1, by omega, by go_num, by rw [HST.out]; go_num⟩
      case measure => simp [intOf]; omega
    · obtain rfl : j = 0 := by omega
      rw [List.drop_zero, HUL.out]
      obtain ⟨hv0, hv1⟩ := hv8
      clear hb7 hcL
      by_cases c1 : 0 < k
      · have hyk := hy c1
        clear hy
        have hkl2 : (k : Int) < (len : Int) := by omega
        by_cases c2 : y = 0
        · have hyb : (y == 0) = true := beq_iff_eq.2 c2
          have HT : Hid (tnRest h k u y = (0, 0, 11)) := by unfold Hid tnRest; rw [if_pos ⟨c1, c2⟩]
          clear c2
          go_wp2
          go_ret3
          exact ⟨by rw [HT.out]; rfl, rfl⟩
        · have hyb : (y == 0) = false := beq_eq_false_iff_ne.2 c2
          by_cases c3 : h % 2 = 0
          · have hpar : (h % 2 == 0) = true := beq_iff_eq.2 c3
            by_cases c4 : 9223372036854775808 ≤ u
            · have HT : Hid (tnRest h k u y = (0, 0, 11)) := by unfold Hid tnRest; rw [if_neg (fun h => c2 h.2), if_pos c3, if_pos c4]
              clear c3
              go_wp2
              go_ret3
              exact ⟨by rw [HT.out]; rfl, rfl⟩
            · have HT : Hid (tnRest h k u y = (u, 1 + k, 0)) := by unfold Hid tnRest; rw [if_neg (fun h => c2 h.2), if_pos c3, if_neg c4]
              clear c3
              go_wp2
              go_ret3
              exact ⟨by rw [HT.out]; exact tup3 (a := u) (b := 1 + (k : Int)) (c := 0) (a' := u) (b' := ((1 + k : Nat) : Int)) (c' := 0) rfl (by omega) rfl, rfl⟩
          · have hpar : (h % 2 == 0) = false := beq_eq_false_iff_ne.2 c3
            by_cases c4 : 9223372036854775808 < u
            · have HT : Hid (tnRest h k u y = (0, 0, 11)) := by unfold Hid tnRest; rw [if_neg (fun h => c2 h.2), if_neg c3, if_pos c4]
              clear c3
              go_wp2
              go_ret3
              exact ⟨by rw [HT.out]; rfl, rfl⟩
            · have HT : Hid (tnRest h k u y = (-u, 1 + k, 0)) := by unfold Hid tnRest; rw [if_neg (fun h => c2 h.2), if_neg c3, if_neg c4]
              clear c3
              go_wp2
              go_ret3
              exact ⟨by rw [HT.out]; exact tup3 (a := wrap64 (wrap64 (-wrap64 (IntKind.u64.wrap (u - 1))) - 1)) (b := 1 + (k : Int)) (c := 0) (a' := -u) (b' := ((1 + k : Nat) : Int)) (c' := 0) (neg_ref u (by omega) (by omega)) (by omega) rfl, rfl⟩
      · clear hy
        by_cases c3 : h % 2 = 0
        · have hpar : (h % 2 == 0) = true := beq_iff_eq.2 c3
          by_cases c4 : 9223372036854775808 ≤ u
          · have HT : Hid (tnRest h k u y = (0, 0, 11)) := by unfold Hid tnRest; rw [if_neg (fun h => c1 h.1), if_pos c3, if_pos c4]
            clear c3
            go_wp2
            go_ret3
            exact ⟨by rw [HT.out]; rfl, rfl⟩
          · have HT : Hid (tnRest h k u y = (u, 1 + k, 0)) := by unfold Hid tnRest; rw [if_neg (fun h => c1 h.1), if_pos c3, if_neg c4]
            clear c3
            go_wp2
            go_ret3
            exact ⟨by rw [HT.out]; exact tup3 (a := u) (b := 1 + (k : Int)) (c := 0) (a' := u) (b' := ((1 + k : Nat) : Int)) (c' := 0) rfl (by omega) rfl, rfl⟩
        · have hpar : (h % 2 == 0) = false := beq_eq_false_iff_ne.2 c3
          by_cases c4 : 9223372036854775808 < u
          · have HT : Hid (tnRest h k u y = (0, 0, 11)) := by unfold Hid tnRest; rw [if_neg (fun h => c1 h.1), if_neg c3, if_pos c4]
            clear c3
            go_wp2
            go_ret3
            exact ⟨by rw [HT.out]; rfl, rfl⟩
          · have HT : Hid (tnRest h k u y = (-u, 1 + k, 0)) := by unfold Hid tnRest; rw [if_neg (fun h => c1 h.1), if_neg c3, if_neg c4]
            clear c3
            go_wp2
            go_ret3
            exact ⟨by rw [HT.out]; exact tup3 (a := wrap64 (wrap64 (-wrap64 (IntKind.u64.wrap (u - 1))) - 1)) (b := 1 + (k : Int)) (c := 0) (a' := -u) (b' := ((1 + k : Nat) : Int)) (c' := 0) (neg_ref u (by omega) (by omega)) (by omega) rfl, rfl⟩

theorem refTake_any (bv : Value) (zs : List Int) (w : World) (hs : Sees w .u8 bv zs) (hby : Byt zs) (hm : zs.length ≤ 140737488355328) :
    Calls Tryz.prog 100 #[bv] w fun e w' => e = .returned (.tuple #[.int .i64 (tn zs).1, .int .i64 (tn zs).2.1, .int .i64 (tn zs).2.2]) ∧ w = w' := by
  obtain ⟨ao, cap, rfl, hlc, hnil, hc⟩ := hs
  cases zs with
  | nil => exact refTake_nil ao cap w
  | cons h r =>
    cases ao with
    | none => have := hnil rfl; simp at hlc; omega
    | some a =>
      have hc' := hc a rfl
      have hx := hby h (List.mem_cons_self ..)
      have hr : Byt r := fun b hb => hby b (List.mem_cons_of_mem _ hb)
      have hc0 : w.cell? a = some (.int .u8 h) := hc' 0 (by simp)
      obtain ⟨k, hk⟩ : ∃ k, (h / 2).toNat = k := ⟨_, rfl⟩
      have hk2 : h / 2 = (k : Int) := by omega
      simp only [List.length_cons] at hm hlc hc' ⊢
      simp only [tn, hk]
      by_cases c1 : 17 < h ∨ h = 1
      · simp only [if_pos c1]
        exact refTake_head a _ cap h w hm (by omega) hc0 c1
      simp only [if_neg c1]
      have hne : (h == 1) = false := beq_eq_false_iff_ne.2 (by omega)
      by_cases c2 : r.length < k
      · simp only [if_pos c2]
        exact refTake_short a _ cap h w hm (by omega) hc0 hx.1 (by omega) hne (by omega)
      simp only [if_neg c2]
      have hLl : (r.take k).length = k := by simp; omega
      have hLb : Byt (r.take k) := hr.take k
      obtain ⟨u, hu⟩ : ∃ u, valL (r.take k) = u := ⟨_, rfl⟩
      have hgt : ∀ t, t < k → (r.take k).getD t 0 = r.getD t 0 := fun t ht => by simp [List.getD, ht]
      have hcL : ∀ t, t < k → w.cell? (a.add (t + 1)) = some (.int .u8 ((r.take k).getD t 0)) := fun t ht => by
        rw [hc' (t + 1) (by omega), hgt t ht]; simp [List.getD]
      refine (refTake_rest a _ cap h k (r.take k) u ((r.take k).getD (k - 1) 0) w hm hc0 hx.1 (by omega) hne hk2 (by omega) hLl hu hLb hcL (fun hk0 => by have := hcL (k - 1) (by omega); rwa [show k - 1 + 1 = k by omega] at this)).mono ?_
      rintro e w' ⟨rfl, rfl⟩
      rw [hu]
      refine ⟨?_, rfl⟩
      have hwl := wid_last (r.take k) hLb (by omega)
      rw [hLl, hu] at hwl
      have key : tnRest h k u ((r.take k).getD (k - 1) 0) = (if wid u ≠ k then (0, 0, 11) else if h % 2 = 1 then (if u ≤ 9223372036854775808 then (-u, 1 + k, 0) else (0, 0, 11)) else (if u < 9223372036854775808 then (u, 1 + k, 0) else (0, 0, 11))) := by
        unfold tnRest
        by_cases hk0 : 0 < k
        · have hw := hwl hk0
          by_cases hy : (r.take k).getD (k - 1) 0 = 0
          · rw [if_pos ⟨hk0, hy⟩, if_pos (show wid u ≠ k from fun e => (hw.1 e) hy)]
          · rw [if_neg (show ¬ (0 < k ∧ (r.take k).getD (k - 1) 0 = 0) from fun q => hy q.2), if_neg (show ¬ (wid u ≠ k) from fun q => q (hw.2 hy))]
            by_cases hp : h % 2 = 0
            · rw [if_pos hp, if_neg (by omega : ¬ h % 2 = 1)]
              by_cases h4 : 9223372036854775808 ≤ u
              · rw [if_pos h4, if_neg (by omega)]
              · rw [if_neg h4, if_pos (by omega)]
            · rw [if_neg hp, if_pos (by omega : h % 2 = 1)]
              by_cases h4 : 9223372036854775808 < u
              · rw [if_pos h4, if_neg (by omega)]
              · rw [if_neg h4, if_pos (by omega)]
        · obtain rfl : k = 0 := by omega
          have hu0 : u = 0 := by rw [← hu]; simp [valL]
          have hp : h % 2 = 0 := by omega
          subst hu0
          rw [if_neg (fun h => hk0 h.1), if_pos hp, if_neg (by omega), if_neg (by decide), if_neg (by omega : ¬ h % 2 = 1), if_pos (by omega)]
      rw [key]

end Go.Proofs.YtggllgimlfchhaaGreat

/- The document's own Blob, TakeBlob and Nums (package trivetref01): they come to the same. -/
namespace Go.Proofs.YtggllgimlfchhaaGreat
open Go.RowKit
set_option maxRecDepth 100000

theorem sees_empty (w : World) (k : IntKind) (ao : Option Addr) : Sees w k (.slice ao 0 0) [] := ⟨ao, 0, rfl, Nat.le_refl _, fun _ => rfl, fun a _ t ht => by simp at ht⟩

set_option maxHeartbeats 800000 in
theorem refBlob_any (bv dv : Value) (zs ds : List Int) (w : World) (hs : Sees w .u8 bv zs) (hd : Sees w .u8 dv ds) (hn : zs.length + ds.length + 64 ≤ 140737488355328) :
    Calls Tryz.prog 84 #[bv, dv] w fun e w' => ∃ v', e = .returned v' ∧ w'.ownsRow w.heap.size 5 1 v' (zs.length + sizeL [(ds.length : Int)] + ds.length) (ints .u8 (zs ++ putL [(ds.length : Int)] ++ ds)) ∧ Below w.heap.size w w' := by
  obtain ⟨i0, hi, hz0, hz1, hz2⟩ := info_parts Tryz.info5
  have hI := I64_one (ds.length : Int) (by omega) (by omega)
  have h9 := sizeL_le [(ds.length : Int)]
  simp only [List.length_singleton] at h9
  have hb0 : Below w.heap.size w (w.alloc (.cells #[.int .i64 (ds.length : Int)] 2)) := (Below.refl _ _).alloc (Nat.le_refl _) _
  have HP := hide (refPut_any bv _ zs [(ds.length : Int)] _ (hs.below hb0) (sees_one w ds.length) (by simp) hI (by omega))
  have hd0 := hd
  obtain ⟨ao, cap, rfl, hlc, hnil, hc⟩ := hd0
  clear hc
  go_enter Tryz.func84, Tryz.ntmps84
  go_wp2_with (first
    | (go_at_call 122; refine (unhide HP).mono ?_; rintro e w1 ⟨v1, rfl, ho1, hb1⟩)
    | (at_builtin; refine wpList_append_sees rfl _ _ 23 rfl w.heap.size 5 i0 (.int .u8 0) 1 Tryz.underlying23 hi hz0 hz1 hz2 rfl _ _ _ rfl (own_mono ho1 (by simp)) .u8 _ ds rfl (hd.below (hb0.trans (hb1.mono (by simp)))) ?d1 ?d2 ?d3 ?_))
  case d1 => unfold maxLen; omega
  case d2 => omega
  case d3 => have := hb1.size; simp at this; omega
  intro v2 w2 ho2 hg2
  have hbw1 : Below w.heap.size w w1 := hb0.trans (hb1.mono (by simp))
  go_wp2
  go_ret
  exact ⟨_, rfl, by rw [ints_append]; exact ho2, hbw1.grown hg2 hbw1.size (own_block_le (own_mono ho1 (by simp)))⟩

set_option maxHeartbeats 800000 in
theorem refTakeBlob_any (bv : Value) (zs : List Int) (w : World) (hs : Sees w .u8 bv zs) (hby : Byt zs) (hm : zs.length ≤ 140737488351232) :
    Calls Tryz.prog 160 #[bv] w fun e w' => ∃ x, e = .returned (.tuple #[x, .int .i64 (tb zs).2.1, .int .i64 (tb zs).2.2]) ∧ Sees w' .u8 x (tb zs).1 ∧ Below w.heap.size w w' := by
  obtain ⟨i0, hi, hz0, hz1, hz2⟩ := info_parts Tryz.info5
  have HT := hide (refTake_any bv zs w hs hby (by omega))
  have hle := tn_le zs
  have hp := tn_put zs hby
  unfold tb
  generalize tn zs = t at *
  obtain ⟨n, k, er⟩ := t
  dsimp only at hle hp ⊢
  obtain ⟨ao, cap, rfl, hlc, hnil, hc⟩ := hs
  have hs : Sees w .u8 (.slice ao zs.length cap) zs := ⟨ao, cap, rfl, hlc, hnil, hc⟩
  clear hc hnil
  by_cases he : er ≠ 0
  · rw [if_pos he]
    have hef : (er != 0) = true := by rw [bne_iff_ne]; exact he
    clear hle hp
    go_enter Tryz.func160, Tryz.ntmps160
    go_wp2_with (go_at_call 100; refine (unhide HT).mono ?_; rintro e w1 ⟨rfl, rfl⟩)
    go_ret3
    exact ⟨_, rfl, Sees.nil _ _, Below.refl _ _⟩
  have he0 : er = 0 := by simpa using he
  subst he0
  rw [if_neg he]
  obtain ⟨hk1, hk2⟩ := hle rfl
  obtain ⟨_, hn1, hn2⟩ := hp rfl
  clear hp hle he
  by_cases hn : n < 0
  · rw [if_pos hn]
    go_enter Tryz.func160, Tryz.ntmps160
    go_wp2_with (go_at_call 100; refine (unhide HT).mono ?_; rintro e w1 ⟨rfl, rfl⟩)
    go_ret3
    exact ⟨_, rfl, Sees.nil _ _, Below.refl _ _⟩
  rw [if_neg hn]
  by_cases hsh : (zs.length : Int) - k < n
  · rw [if_pos hsh]
    go_enter Tryz.func160, Tryz.ntmps160
    go_wp2_with (go_at_call 100; refine (unhide HT).mono ?_; rintro e w1 ⟨rfl, rfl⟩)
    go_ret3
    exact ⟨_, rfl, Sees.nil _ _, Below.refl _ _⟩
  rw [if_neg hsh]
  obtain ⟨m, rfl⟩ := Int.eq_ofNat_of_zero_le (by omega : 0 ≤ n)
  rw [Int.toNat_natCast]
  have hcut := (hs.upto.cut k m (by omega)).sees
  have hlen : ((zs.drop k).take m).length = m := by simp; omega
  have HLEN := hide hlen
  clear hs hlen hn1 hn2
  by_cases hck : cap = k
  · obtain rfl : m = 0 := by omega
    clear hcut
    have hse := sees_empty w .u8 ao
    subst hck
    go_enter Tryz.func160, Tryz.ntmps160
    go_wp2_with (first
      | (go_at_call 100; refine (unhide HT).mono ?_; rintro e w1 ⟨rfl, rfl⟩)
      | (at_builtin; refine wpList_append_sees rfl _ _ 23 rfl w.heap.size 5 i0 (.int .u8 0) 1 Tryz.underlying23 hi hz0 hz1 hz2 rfl _ _ _ rfl (World.ownsRow_nil _ _ _ _) .u8 _ [] rfl hse ?d1 ?d2 ?d3 ?_))
    case d1 => unfold maxLen; simp
    case d2 => simp
    case d3 => omega
    intro v2 w2 ho2 hg2
    go_wp2
    go_ret3
    have hb2 : Below w.heap.size w w2 := (Below.refl _ _).grown hg2 (Nat.le_refl _) (fun k h => by cases h)
    have ho3 : w2.ownsRow w.heap.size 5 1 v2 0 (ints .u8 []) := by simpa using ho2
    exact ⟨v2, rfl, by simpa using (sees_of_own ho3).2, hb2⟩
  · rw [if_neg hck] at hcut
    have hcut2 : Sees w .u8 (.slice (Option.map (·.add k) ao) (k + m - k) (cap - k)) ((zs.drop k).take m) := by rw [show k + m - k = m by omega]; exact hcut
    clear hcut
    generalize (zs.drop k).take m = ds at *
    go_enter Tryz.func160, Tryz.ntmps160
    go_wp2_with (first
      | (go_at_call 100; refine (unhide HT).mono ?_; rintro e w1 ⟨rfl, rfl⟩)
      | (at_builtin; refine wpList_append_sees rfl _ _ 23 rfl w.heap.size 5 i0 (.int .u8 0) 1 Tryz.underlying23 hi hz0 hz1 hz2 rfl _ _ _ rfl (World.ownsRow_nil _ _ _ _) .u8 _ ds rfl hcut2 ?d1 ?d2 ?d3 ?_))
    case d1 => rw [HLEN.out]; unfold maxLen; omega
    case d2 => rw [HLEN.out]; omega
    case d3 => omega
    intro v2 w2 ho2 hg2
    go_wp2
    go_ret3
    have hb2 : Below w.heap.size w w2 := (Below.refl _ _).grown hg2 (Nat.le_refl _) (fun k h => by cases h)
    have ho3 : w2.ownsRow w.heap.size 5 1 v2 ds.length (ints .u8 ds) := by simpa using ho2
    exact ⟨v2, congrArg (fun z => Ending.returned (.tuple #[v2, .int .i64 z, .int .i64 0])) (show (k : Int) + (m : Int) = ((k + m : Nat) : Int) by omega), (sees_of_own ho3).2, hb2⟩

end Go.Proofs.YtggllgimlfchhaaGreat
