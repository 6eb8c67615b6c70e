/- The document's own Num and Put (package trivetref01): they come to the same bytes. -/
import Derived.Test.YtdcmkapfcmibeaaDoorHC
import Derived.Test.YtdcmkapfcmibeaaDoorHA
namespace Go.Proofs.YtdcmkapfcmibeaaDoor.Sh
open Go.RowKit
set_option maxRecDepth 100000

theorem sh_eq (j : Nat) (u : Int) : sh j u = u / B256 j := by
  induction j with
  | zero => simp [sh, B256]
  | succ j ih => rw [sh, ih, B256, Int.mul_comm, Int.ediv_ediv_of_nonneg (by have := B256_pos j; omega)]

theorem sh_pos (j : Nat) (u : Int) (h0 : 0 ≤ u) (h : u < 18446744073709551616) : 0 < sh j u ↔ j < wid u := by
  have hp := B256_pos j
  rw [sh_eq]
  constructor
  · intro hs
    have h1 : B256 j ≤ u := by
      by_cases hc : B256 j ≤ u
      · exact hc
      · have := Int.ediv_eq_zero_of_lt h0 (by omega : u < B256 j); omega
    by_cases hc : j < wid u
    · exact hc
    · have := wid_lt u h0 h
      have := B256_mono (wid u) j (by omega)
      omega
  · intro hj
    have h1 : B256 (wid u - 1) ≤ u := wid_bounds u h0 h (wid u - 1) (by omega)
    have h2 := B256_mono j (wid u - 1) (by omega)
    have := Int.ediv_le_ediv (by omega : 0 < B256 j) (by omega : B256 j ≤ u)
    rw [Int.ediv_self (by omega)] at this
    omega

theorem mag_ref (x : Int) (h : x < 0) : -(x + 1) + 1 = mag x := by unfold mag; rw [if_pos h]; omega
theorem mag_pos (x : Int) (h : ¬ x < 0) : mag x = x := by unfold mag; rw [if_neg h]

set_option maxHeartbeats 800000 in
theorem refNum_neg (x : Int) (w : World) (hx : x < 0) (h1 : -9223372036854775808 ≤ x) :
    Calls Tryd.prog 64 #[.int .i64 x] w fun e w' => ∃ v', e = .returned v' ∧ w'.ownsRow w.heap.size 5 1 v' (1 + wid (mag x)) (ints .u8 (numB x)) ∧ Below w.heap.size w w' := by
  obtain ⟨i0, hi, hz0, hz1, hz2⟩ := info_parts Tryd.info5
  obtain ⟨hm0, hm1⟩ := mag_bounds x (by omega) (by omega)
  have hw8 := wid_le (mag x)
  have HM := hide (mag_ref x hx)
  have HB : Hid (numB x = (2 * (wid (mag x) : Int) + 1) :: lowL (wid (mag x)) (mag x)) := by unfold Hid numB; rw [if_pos hx]
  go_enter Tryd.func64, Tryd.ntmps64
  go_wp2
  go_loopw [3, 5] (fun vu vd wr => ∃ j : Nat, j ≤ wid (mag x) ∧ vu = .int .u64 (sh j (mag x)) ∧ wr.ownsRow w.heap.size 5 1 vd j (ints .u8 (lowL j (mag x))) ∧ Below w.heap.size w wr) (fun vu _ _ => (intOf vu).toNat)
  case atStart => exact ⟨0, Nat.zero_le _, by rw [HM.out]; rfl, World.ownsRow_nil _ _ _ _, Below.refl _ _⟩
  case round =>
    obtain ⟨j, hj, rfl, hownr, hnx⟩ := hrel
    have hs0 := sh_nonneg j (mag x) hm0
    have hs1 := sh_le j (mag x) hm0
    have hsz := hnx.size
    have hsp := sh_pos j (mag x) hm0 (by omega)
    by_cases hlt : j < wid (mag x)
    · have hpos : 0 < sh j (mag x) := hsp.2 hlt
      clear hsp
      go_wp2_with (at_builtin; refine wpList_append_own _ rfl _ _ 39 rfl w.heap.size 5 i0 (.int .u8 0) 1 1 Tryd.underlying39 hi hz0 hz1 hz2 rfl (by decide) _ _ _ rfl (hownr.alloc _) ⟨wr.heap.size, 0, none⟩ 1 1 [.int .u8 (sh j (mag x) % 256)] rfl rfl ?c1 ?c2 ?c3 ?c4 ?c5 ?_)
      case c1 => exact cell_one_new _ _ _
      case c2 => intro y hy; simp at hy; subst hy; rfl
      case c3 => unfold maxLen; omega
      case c4 => omega
      case c5 => simp; omega
      intro v' w1 hown' hgrow _
      have hb1 : Below w.heap.size w w1 := (hnx.alloc (by omega) _).grown hgrow (by simp; omega) (own_block_le hownr)
      have ho2 : w1.ownsRow w.heap.size 5 1 v' (j + 1) (ints .u8 (lowL (j + 1) (mag x))) := by rw [lowL_snoc, ints_append, ints_one]; exact hown'
      clear hown' hgrow hownr hnx
      go_wp2
      go_roundw
      case rel => exact ⟨j + 1, by omega, rfl, ho2, hb1⟩
      case measure => simp [intOf]; omega
    · have hzero : sh j (mag x) = 0 := by
        by_cases h : 0 < sh j (mag x)
        · exact absurd (hsp.1 h) hlt
        · omega
      obtain rfl : j = wid (mag x) := by omega
      clear hsp hs0 hs1
      rw [hzero]
      clear hzero
      obtain ⟨ao, cap, hv⟩ := own_shape hownr
      subst hv
      have hsee := (sees_of_own hownr).2
      have hsee2 := hsee.below ((Below.refl _ _).alloc (Nat.le_refl _) (.cells #[.int .u8 (2 * (wid (mag x) : Int) + 1)] 5))
      have ho3 : (wr.alloc (.cells #[.int .u8 (2 * (wid (mag x) : Int) + 1)] 5)).ownsRow w.heap.size 5 1 (.slice (some ⟨wr.heap.size, 0, none⟩) 1 1) 1 (ints .u8 [2 * (wid (mag x) : Int) + 1]) := own_new wr .u8 [2 * (wid (mag x) : Int) + 1] 5 w.heap.size 1 rfl hsz (by unfold maxLen; omega)
      have hll := lowL_length (wid (mag x)) (mag x)
      have HLL := hide hll
      clear hownr hll hsee
      go_wp2_with (at_builtin; refine wpList_append_sees rfl _ _ 39 rfl w.heap.size 5 i0 (.int .u8 0) 1 Tryd.underlying39 hi hz0 hz1 hz2 rfl _ _ _ rfl ho3 .u8 _ _ rfl hsee2 ?d1 ?d2 ?d3 ?_)
      case d1 => rw [HLL.out]; unfold maxLen; omega
      case d2 => rw [HLL.out]; omega
      case d3 => simp; omega
      intro v' w1 hown' hgrow
      have hb1 : Below w.heap.size w w1 := (hnx.alloc (by omega) _).grown hgrow (by simp; omega) (own_block_le ho3)
      rw [HLL.out] at hown'
      go_wp2
      go_ret
      exact ⟨_, rfl, by rw [HB.out]; exact hown', hb1⟩

set_option maxHeartbeats 800000 in
theorem refNum_pos (x : Int) (w : World) (hx : ¬ x < 0) (h1 : x ≤ 9223372036854775807) :
    Calls Tryd.prog 64 #[.int .i64 x] w fun e w' => ∃ v', e = .returned v' ∧ w'.ownsRow w.heap.size 5 1 v' (1 + wid (mag x)) (ints .u8 (numB x)) ∧ Below w.heap.size w w' := by
  obtain ⟨i0, hi, hz0, hz1, hz2⟩ := info_parts Tryd.info5
  obtain ⟨hm0, hm1⟩ := mag_bounds x (by omega) (by omega)
  have hw8 := wid_le (mag x)
  have HM := hide (mag_pos x hx)
  have HB : Hid (numB x = (2 * (wid (mag x) : Int) + 0) :: lowL (wid (mag x)) (mag x)) := by unfold Hid numB; rw [if_neg hx]
  go_enter Tryd.func64, Tryd.ntmps64
  go_wp2
  go_loopw [3, 5] (fun vu vd wr => ∃ j : Nat, j ≤ wid (mag x) ∧ vu = .int .u64 (sh j (mag x)) ∧ wr.ownsRow w.heap.size 5 1 vd j (ints .u8 (lowL j (mag x))) ∧ Below w.heap.size w wr) (fun vu _ _ => (intOf vu).toNat)
  case atStart => exact ⟨0, Nat.zero_le _, by rw [HM.out]; rfl, World.ownsRow_nil _ _ _ _, Below.refl _ _⟩
  case round =>
    obtain ⟨j, hj, rfl, hownr, hnx⟩ := hrel
    have hs0 := sh_nonneg j (mag x) hm0
    have hs1 := sh_le j (mag x) hm0
    have hsz := hnx.size
    have hsp := sh_pos j (mag x) hm0 (by omega)
    by_cases hlt : j < wid (mag x)
    · have hpos : 0 < sh j (mag x) := hsp.2 hlt
      clear hsp
      go_wp2_with (at_builtin; refine wpList_append_own _ rfl _ _ 39 rfl w.heap.size 5 i0 (.int .u8 0) 1 1 Tryd.underlying39 hi hz0 hz1 hz2 rfl (by decide) _ _ _ rfl (hownr.alloc _) ⟨wr.heap.size, 0, none⟩ 1 1 [.int .u8 (sh j (mag x) % 256)] rfl rfl ?c1 ?c2 ?c3 ?c4 ?c5 ?_)
      case c1 => exact cell_one_new _ _ _
      case c2 => intro y hy; simp at hy; subst hy; rfl
      case c3 => unfold maxLen; omega
      case c4 => omega
      case c5 => simp; omega
      intro v' w1 hown' hgrow _
      have hb1 : Below w.heap.size w w1 := (hnx.alloc (by omega) _).grown hgrow (by simp; omega) (own_block_le hownr)
      have ho2 : w1.ownsRow w.heap.size 5 1 v' (j + 1) (ints .u8 (lowL (j + 1) (mag x))) := by rw [lowL_snoc, ints_append, ints_one]; exact hown'
      clear hown' hgrow hownr hnx
      go_wp2
      go_roundw
      case rel => exact ⟨j + 1, by omega, rfl, ho2, hb1⟩
      case measure => simp [intOf]; omega
    · have hzero : sh j (mag x) = 0 := by
        by_cases h : 0 < sh j (mag x)
        · exact absurd (hsp.1 h) hlt
        · omega
      obtain rfl : j = wid (mag x) := by omega
      clear hsp hs0 hs1
      rw [hzero]
      clear hzero
      obtain ⟨ao, cap, hv⟩ := own_shape hownr
      subst hv
      have hsee := (sees_of_own hownr).2
      have hsee2 := hsee.below ((Below.refl _ _).alloc (Nat.le_refl _) (.cells #[.int .u8 (2 * (wid (mag x) : Int) + 0)] 5))
      have ho3 : (wr.alloc (.cells #[.int .u8 (2 * (wid (mag x) : Int) + 0)] 5)).ownsRow w.heap.size 5 1 (.slice (some ⟨wr.heap.size, 0, none⟩) 1 1) 1 (ints .u8 [2 * (wid (mag x) : Int) + 0]) := own_new wr .u8 [2 * (wid (mag x) : Int) + 0] 5 w.heap.size 1 rfl hsz (by unfold maxLen; omega)
      have hll := lowL_length (wid (mag x)) (mag x)
      have HLL := hide hll
      clear hownr hll hsee
      simp only [Int.add_zero] at ho3 hsee2
      go_wp2_with (at_builtin; refine wpList_append_sees rfl _ _ 39 rfl w.heap.size 5 i0 (.int .u8 0) 1 Tryd.underlying39 hi hz0 hz1 hz2 rfl _ _ _ rfl ho3 .u8 _ _ rfl hsee2 ?d1 ?d2 ?d3 ?_)
      case d1 => rw [HLL.out]; unfold maxLen; omega
      case d2 => rw [HLL.out]; omega
      case d3 => simp; omega
      intro v' w1 hown' hgrow
      have hb1 : Below w.heap.size w w1 := (hnx.alloc (by omega) _).grown hgrow (by simp; omega) (own_block_le ho3)
      rw [HLL.out] at hown'
      go_wp2
      go_ret
      exact ⟨_, rfl, by rw [HB.out]; exact hown', hb1⟩

theorem refNum_any (x : Int) (w : World) (h1 : -9223372036854775808 ≤ x) (h2 : x ≤ 9223372036854775807) :
    Calls Tryd.prog 64 #[.int .i64 x] w fun e w' => ∃ v', e = .returned v' ∧ w'.ownsRow w.heap.size 5 1 v' (1 + wid (mag x)) (ints .u8 (numB x)) ∧ Below w.heap.size w w' := by
  by_cases hx : x < 0
  · exact refNum_neg x w hx h1
  · exact refNum_pos x w hx h2

end Go.Proofs.YtdcmkapfcmibeaaDoor.Sh
