/- live. -/
import Derived.Test.YtknpfippdddnhabDoorZ0
import Derived.Test.YtknpfippdddnhabDoorX5
namespace Go.Proofs.YtknpfippdddnhabDoor
open Go.RowKit Go.Shelf
set_option maxRecDepth 100000

def lB : List Int := [1, 2, 255, 255, 24, 2, 0]
def lI : List Ins := [⟨0, 1, 2, 0, -1⟩, ⟨0, 24, 2, 0, 0⟩, ⟨0, 0, 0, 0, 0⟩]
def lJ : List Ins := [⟨0, 1, 2, 0, -1⟩, ⟨4, 24, 2, 0, 0⟩, ⟨6, 0, 0, 0, 0⟩]
theorem enc_live : enc lI = (lB, 0) := by decide +kernel
theorem byt_live : Byt lB := by unfold Byt; decide
theorem dec_live : dec lB = (lJ, 0) := by
  have e0 : wkR lB 0 = (lJ, 0) := by
    rw [wkR_yes (by decide +kernel), show (0 + sA lB 0) = 4 by decide +kernel, wkR_yes (by decide +kernel), show (4 + sA lB 4) = 6 by decide +kernel, wkR_yes (by decide +kernel), show (6 + sA lB 6) = 7 by decide +kernel, wkR_end (by decide)]
    decide +kernel
  unfold dec
  rw [e0]
  decide +kernel
theorem rch_live (i : Nat) : Rch lB i ↔ i = 0 ∨ i = 4 ∨ i = 6 := by
  have s0 : onw (rd lB 0) = [4] := by decide +kernel
  have s4 : onw (rd lB 4) = [6] := by decide +kernel
  have s6 : onw (rd lB 6) = [] := by decide +kernel
  constructor
  · intro h
    induction h with
    | zero => exact .inl rfl
    | step _ _ hq ih =>
      rcases ih with rfl | rfl | rfl
      · rw [s0] at hq
        obtain rfl := List.mem_singleton.1 hq
        exact .inr (.inl rfl)
      · rw [s4] at hq
        obtain rfl := List.mem_singleton.1 hq
        exact .inr (.inr rfl)
      · rw [s6] at hq
        cases hq
  · have h4 : Rch lB 4 := Rch.step (q := 4) Rch.zero (by decide) (by rw [s0]; exact List.mem_singleton_self _)
    rintro (rfl | rfl | rfl)
    · exact Rch.zero
    · exact h4
    · exact Rch.step (q := 6) h4 (by decide) (by rw [s4]; exact List.mem_singleton_self _)
theorem rcN_live {C : Nat → Bool} (h : ∀ i, C i = true ↔ Rch lB i ∧ i < lB.length) : rcN C 512 = [0, 4, 6] := by
  have e : C = fun i => decide (i = 0 ∨ i = 4 ∨ i = 6) := by
    funext i
    rw [Bool.eq_iff_iff, h, rch_live, decide_eq_true_eq]
    refine ⟨fun h => h.1, fun h => ⟨h, ?_⟩⟩
    show i < 7
    omega
  rw [e]
  decide +kernel
theorem sees_live (w : World) : SeesL iC 5 (w.alloc (.cells #[.int .i64 0, .int .i64 1, .int .i64 2, .int .i64 0, .int .i64 (-1), .int .i64 0, .int .i64 24, .int .i64 2, .int .i64 0, .int .i64 0, .int .i64 0, .int .i64 0, .int .i64 0, .int .i64 0, .int .i64 0] 35)) (.slice (some ⟨w.heap.size, 0, none⟩) 3 3) lI := by
  refine ⟨some ⟨w.heap.size, 0, none⟩, 3, w.heap.size, 0, rfl, Nat.le_refl _, by decide, fun h => (by cases h), fun _ => rfl, fun t x hx j hj => ?_⟩
  rw [cell_at (heap_alloc_new w _)]
  have ht : t < 3 := (List.getElem?_eq_some_iff.1 hx).1
  obtain rfl | rfl | rfl : t = 0 ∨ t = 1 ∨ t = 2 := by omega
  all_goals
    obtain rfl := Option.some.inj hx
    obtain rfl | rfl | rfl | rfl | rfl : j = 0 ∨ j = 1 ∨ j = 2 ∨ j = 3 ∨ j = 4 := by omega
    all_goals rfl
theorem sees_liveB (w : World) : SeesL yC 1 (w.alloc (.cells #[.int .u8 1, .int .u8 2, .int .u8 255, .int .u8 255, .int .u8 24, .int .u8 2, .int .u8 0] 5)) (.slice (some ⟨w.heap.size, 0, none⟩) 7 7) lB := by
  refine ⟨some ⟨w.heap.size, 0, none⟩, 7, w.heap.size, 0, rfl, Nat.le_refl _, by decide, fun h => (by cases h), fun _ => rfl, fun t x hx j hj => ?_⟩
  rw [cell_at (heap_alloc_new w _)]
  have ht : t < 7 := (List.getElem?_eq_some_iff.1 hx).1
  obtain rfl : j = 0 := by omega
  obtain rfl | rfl | rfl | rfl | rfl | rfl | rfl : t = 0 ∨ t = 1 ∨ t = 2 ∨ t = 3 ∨ t = 4 ∨ t = 5 ∨ t = 6 := by omega
  all_goals
    obtain rfl := Option.some.inj hx
    rfl
theorem sees_liveN (w : World) : SeesL nC 1 (w.alloc (.cells #[.int .i64 0, .int .i64 4, .int .i64 6] 3)) (.slice (some ⟨w.heap.size, 0, none⟩) 3 3) [0, 4, 6] := by
  refine ⟨some ⟨w.heap.size, 0, none⟩, 3, w.heap.size, 0, rfl, Nat.le_refl _, by decide, fun h => (by cases h), fun _ => rfl, fun t x hx j hj => ?_⟩
  rw [cell_at (heap_alloc_new w _)]
  have ht : t < 3 := (List.getElem?_eq_some_iff.1 hx).1
  obtain rfl : j = 0 := by omega
  obtain rfl | rfl | rfl : t = 0 ∨ t = 1 ∨ t = 2 := by omega
  all_goals
    obtain rfl := Option.some.inj hx
    rfl
theorem live_enc {w : World} (hT : Tab w) : Calls Tryd.prog 6 #[.slice (some ⟨w.heap.size, 0, none⟩) 3 3] (w.alloc (.cells #[.int .i64 0, .int .i64 1, .int .i64 2, .int .i64 0, .int .i64 (-1), .int .i64 0, .int .i64 24, .int .i64 2, .int .i64 0, .int .i64 0, .int .i64 0, .int .i64 0, .int .i64 0, .int .i64 0, .int .i64 0] 35)) fun e w' => ∃ ao cap, e = .returned (.tuple #[.slice ao 7 cap, .int .i64 0]) ∧ SeesL yC 1 w' (.slice ao 7 cap) lB ∧ Below w.heap.size w w' := by
  have h := encode_any (hT.below (below_box _) hT.pos) (sees_live w) (by unfold OkI I64; decide) (by decide)
  rw [enc_live] at h
  refine h.mono fun e w' ⟨x, h1, h2, h3⟩ => ?_
  obtain ⟨ao, cap, rfl⟩ := own_shape h3
  exact ⟨ao, cap, h1, (own_sees yC_len (by decide) h3).2, (below_box _).trans (h2.mono (by simp))⟩
theorem live_dec {w : World} {v : Value} (hT : Tab w) (hs : SeesL yC 1 w v lB) : Calls Tryd.prog 5 #[v] w fun e w' => ∃ g cap, e = .returned (.tuple #[.slice (some ⟨g, 0, none⟩) 3 cap, .int .i64 0]) ∧ w'.cell? ⟨g, 5, none⟩ = some (.int .i64 4) ∧ Below w.heap.size w w' := by
  have h := decode_any hT hs byt_live
  rw [dec_live] at h
  refine h.mono fun e w' ⟨x, h1, h2, h3⟩ => ?_
  rcases h3.2 with ⟨_, h4⟩ | ⟨g, cap, cur, hv, _, hg, _, _, _, ht⟩
  · cases h4
  · subst hv
    refine ⟨g, cap, h1, ?_, h2⟩
    rw [cell_at hg]
    have h3 : (cur.toList.take (lJ.length * 5))[5]? = some (.int .i64 4) := by rw [ht]; rfl
    rw [List.getElem?_take_of_lt (by decide)] at h3
    simpa using h3
theorem live_reach {w : World} {v : Value} (hT : Tab w) (hs : SeesL yC 1 w v lB) : Calls Tryd.prog 25 #[v] w fun e w' => ∃ ao cap, e = .returned (.slice ao 3 cap) ∧ SeesL nC 1 w' (.slice ao 3 cap) [0, 4, 6] ∧ Below w.heap.size w w' := by
  refine (reach_any hT hs byt_live).mono fun e w' ⟨x, R, h1, h2, h3, _, h5⟩ => ?_
  obtain ⟨C, hC, rfl⟩ := h5 (by rw [dec_live])
  rw [rcN_live hC] at h2
  obtain ⟨ao, cap, rfl⟩ := own_shape h2
  exact ⟨ao, cap, h1, (own_sees nC_len (by decide) h2).2, h3⟩
theorem live_eqB {w : World} {v : Value} (hs : SeesL yC 1 w v lB) : Calls Tryd.prog 10 #[v, .slice (some ⟨w.heap.size, 0, none⟩) 7 7] (w.alloc (.cells #[.int .u8 1, .int .u8 2, .int .u8 255, .int .u8 255, .int .u8 24, .int .u8 2, .int .u8 0] 5)) fun e w' => e = .returned (.bool true) ∧ (w.alloc (.cells #[.int .u8 1, .int .u8 2, .int .u8 255, .int .u8 255, .int .u8 24, .int .u8 2, .int .u8 0] 5)) = w' := by
  have h := equal_any (hs.below yC_len (below_box (.cells #[.int .u8 1, .int .u8 2, .int .u8 255, .int .u8 255, .int .u8 24, .int .u8 2, .int .u8 0] 5))) (sees_liveB w) byt_live byt_live
  rw [decide_eq_true rfl] at h
  exact h
theorem live_eqN {w : World} {v : Value} (hs : SeesL nC 1 w v [0, 4, 6]) : Calls Tryd.prog 24 #[v, .slice (some ⟨w.heap.size, 0, none⟩) 3 3] (w.alloc (.cells #[.int .i64 0, .int .i64 4, .int .i64 6] 3)) fun e w' => e = .returned (.bool true) ∧ Below w.heap.size w w' := by
  have h := eqN_any (hs.below nC_len (below_box (.cells #[.int .i64 0, .int .i64 4, .int .i64 6] 3))) (sees_liveN w) (by decide)
  rw [decide_eq_true rfl] at h
  exact h.mono fun e w' ⟨h1, h2⟩ => ⟨h1, (below_box _).trans (h2.below.mono (by simp))⟩
set_option maxHeartbeats 1600000 in
theorem live_any {w : World} (hT : Tab w) : Calls Tryd.prog 9 #[] w fun e w' => e = .returned (.bool true) ∧ Below w.heap.size w w' := by
  have HT := hide hT
  have HENC := hide (live_enc hT)
  have HTB : Hid (∀ z, Below w.heap.size w z → Tab z) := fun z hb => hT.below hb hT.pos
  clear hT
  go_enter Tryd.func9, Tryd.ntmps9
  go_wp2_with (first
    | (go_at_call 6; refine (unhide HENC).mono ?_; rintro e z1 ⟨ao, cap, rfl, hs1, hb1⟩; have HS1 := hide hs1; have HB1 := hide hb1; clear hs1 hb1)
    | (go_at_call 5; refine (live_dec (unhide HTB _ (unhide HB1)) (unhide HS1)).mono ?_; rintro e z2 ⟨g, cp, rfl, hc5, hb2⟩; have HB2 : Hid (Below w.heap.size w z2) := (unhide HB1).trans (hb2.mono (unhide HB1).size); have HS2 := hide ((unhide HS1).below yC_len hb2); have hc6 : ∀ o, (z2.alloc o).cell? ⟨g, 5, none⟩ = some (.int .i64 4) := fun o => ((below_box o).cell (World.block_lt_of_cell? z2 _ hc5)).trans hc5; clear hb2)
    | (go_at_call 10; refine (live_eqB (unhide HS2)).mono ?_; rintro e z3 ⟨rfl, rfl⟩)
    | (go_at_call 25; refine (live_reach (unhide HTB _ ((unhide HB2).alloc (unhide HB2).size _)) ((unhide HS2).below yC_len (below_box _))).mono ?_; rintro e z4 ⟨a4, c4, rfl, hs4, hb4⟩; have HS4 := hide hs4; have HB4 : Hid (Below w.heap.size w z4) := ((unhide HB2).alloc (unhide HB2).size _).trans (hb4.mono (by have := (unhide HB2).size; simp; omega)); clear hs4 hb4)
    | (go_at_call 24; refine (live_eqN (unhide HS4)).mono ?_; rintro e z5 ⟨rfl, hb5⟩; have HB5 : Hid (Below w.heap.size w z5) := (unhide HB4).trans (hb5.mono (unhide HB4).size); clear hb5))
  go_ret
  exact ⟨rfl, unhide HB5⟩
end Go.Proofs.YtknpfippdddnhabDoor
