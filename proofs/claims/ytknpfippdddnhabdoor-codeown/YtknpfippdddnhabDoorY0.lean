/- onward. -/
import Derived.Test.YtknpfippdddnhabDoorP2
namespace Go.Proofs.YtknpfippdddnhabDoor
open Go.RowKit Go.Shelf
set_option maxRecDepth 100000

theorem sees_oneN (w : World) (x : Int) : SeesL nC 1 (w.alloc (.cells #[.int .i64 x] 3)) (.slice (some ⟨w.heap.size, 0, none⟩) 1 1) [x] := by
  refine ⟨_, 1, w.heap.size, 0, rfl, by simp, by simp, (fun h => by cases h), fun _ => rfl, fun t y hy j hj => ?_⟩
  obtain ⟨ht, rfl⟩ := List.getElem?_eq_some_iff.1 hy
  obtain rfl : t = 0 := by simpa using ht
  obtain rfl : j = 0 := by omega
  rw [cell_at (heap_alloc_new w _)]
  rfl
theorem sees_twoN (w : World) (x y : Int) : SeesL nC 1 (w.alloc (.cells #[.int .i64 x, .int .i64 y] 3)) (.slice (some ⟨w.heap.size, 0, none⟩) 2 2) [x, y] := by
  refine ⟨_, 2, w.heap.size, 0, rfl, by simp, by simp, (fun h => by cases h), fun _ => rfl, fun t z hy j hj => ?_⟩
  obtain ⟨ht, rfl⟩ := List.getElem?_eq_some_iff.1 hy
  obtain rfl : j = 0 := by omega
  rw [cell_at (heap_alloc_new w _)]
  rcases (by simp at ht; omega : t = 0 ∨ t = 1) with rfl | rfl <;> rfl
set_option maxHeartbeats 800000 in
theorem onward_any (d o a b m : Int) (w : World) (hT : Tab w) (h0 : 0 ≤ o) (h1 : o < 28) (hd : 0 ≤ d) (hd1 : d ≤ 4611686018427387904) : Calls Tryd.prog 36 #[iV d o a b m] w fun e w' => ∃ v, e = .returned v ∧ SeesL nC 1 w' v (onw ⟨d, o, a, b, m⟩) ∧ Below w.heap.size w w' := by
  have hbx : Below w.heap.size w (w.alloc (.cells #[.int .i64 d, .int .i64 o, .int .i64 a, .int .i64 b, .int .i64 m] 35)) := below_box _
  have hxx : (w.alloc (.cells #[.int .i64 d, .int .i64 o, .int .i64 a, .int .i64 b, .int .i64 m] 35)).heap[w.heap.size]? = some (.cells #[.int .i64 d, .int .i64 o, .int .i64 a, .int .i64 b, .int .i64 m] 35) := heap_alloc_new w _
  have HB : Hid (∀ z, Tab z → Calls Tryd.prog 28 #[iV d o a b m] z fun e w' => e = .returned (.int .i64 (d + sz o)) ∧ Grew z w') := fun z hz => behind_any d o a b m z hz h0 h1 hd hd1
  have HT : Hid (∀ z, Below w.heap.size w z → Tab z) := fun z hz => hT.below hz hT.pos
  have HBX := hide hbx
  have HXX := hide hxx
  clear hT hbx hxx h0 h1 hd hd1
  by_cases c0 : o = 0 ∨ o = 25
  · have e : onw ⟨d, o, a, b, m⟩ = [] := if_pos c0
    rw [e]
    clear e
    rcases c0 with rfl | rfl
    all_goals
      go_enter Tryd.func36, Tryd.ntmps36
      go_wp2
      go_ret
      exact ⟨_, rfl, SeesL.nil _, unhide HBX⟩
  have g0 : (o == 0) = false := by simp; omega
  have g25 : (o == 25) = false := by simp; omega
  by_cases c22 : o = 22
  · have e : onw ⟨d, o, a, b, m⟩ = [m] := by unfold onw; rw [if_neg c0, if_pos c22]
    rw [e]
    subst c22
    clear e g0 g25 c0
    go_enter Tryd.func36, Tryd.ntmps36
    go_wp2
    go_ret
    exact ⟨_, rfl, by have := sees_oneN (w.alloc (.cells #[.int .i64 d, .int .i64 22, .int .i64 a, .int .i64 b, .int .i64 m] 35)) m; simpa using this, (unhide HBX).alloc (by simp) _⟩
  have g22 : (o == 22) = false := by simp; omega
  by_cases c23 : o = 23
  · have e : onw ⟨d, o, a, b, m⟩ = [d + sz o, m] := by unfold onw; rw [if_neg c0, if_neg c22, if_pos c23]
    rw [e]
    generalize d + sz o = N at *
    subst c23
    clear e g0 g25 c0 c22 g22
    go_enter Tryd.func36, Tryd.ntmps36
    go_wp2_with fail
    obtain ⟨Y, hY⟩ : ∃ Y, w.alloc (.cells #[.int .i64 d, .int .i64 23, .int .i64 a, .int .i64 b, .int .i64 m] 35) = Y := ⟨_, rfl⟩
    rw [hY] at HBX HXX ⊢
    clear hY
    have hlt := (Array.getElem?_eq_some_iff.1 (unhide HXX)).1
    refine wp_region_held_drew (S := fun x => x.heap[w.heap.size]? = some (.cells #[.int .i64 d, .int .i64 23, .int .i64 a, .int .i64 b, .int .i64 m] 35)) (by kernel_rfl) (unhide HXX) (fun hHeld => ?_)
    refine wpAnyH_take (i := 0) (v := (iV d 23 a b m)) rfl (by kernel_rfl) (by kernel_rfl) (by kernel_rfl) (fun _ _ _ h => h) (Or.inl ⟨by rfl, ?hy1x0⟩) (by assumption) ?rest1x0
    case hy1x0 => intro w hSw; obtain ⟨c0, c1, c2, c3, c4⟩ := cells5 hSw; go_simp <;> with_reducible rfl
    simp only [Act.put, List.getElem_toArray, List.getElem_cons_zero, List.setIfInBounds_toArray, List.set_cons_zero, List.set_cons_succ]
    refine wpAnyH_take (i := 2) (v := ?v2x2) rfl (by kernel_rfl) (by kernel_rfl) (by kernel_rfl) (fun _ _ _ h => h) (Or.inl ⟨by rfl, ?hy2x2⟩) (by assumption) ?rest2x2
    case hy2x2 => intro w hSw; go_simp <;> with_reducible rfl
    simp only [Act.put, List.getElem_toArray, List.getElem_cons_zero, List.getElem_cons_succ, List.setIfInBounds_toArray, List.set_cons_zero, List.set_cons_succ]
    refine wpAnyH_take (i := 3) (v := (.int .i64 m)) rfl (by kernel_rfl) (by kernel_rfl) (by kernel_rfl) (fun _ _ _ h => h) (Or.inl ⟨by rfl, ?hy3x3⟩) (by assumption) ?rest3x3
    case hy3x3 => intro w hSw; obtain ⟨c0, c1, c2, c3, c4⟩ := cells5 hSw; go_simp <;> with_reducible rfl
    simp only [Act.put, List.getElem_toArray, List.getElem_cons_zero, List.getElem_cons_succ, List.setIfInBounds_toArray, List.set_cons_zero, List.set_cons_succ]
    refine wpAnyH_ready (rs := [1]) (by kernel_rfl) (by simp) ?_
    refine AllReadyH.cons rfl (fun K hK => ?_) AllReadyH.nil
    go_simp
    refine (unhide HB Y.drew (fun i hi => (unhide HT Y (unhide HBX)) i hi)).mono ?_
    rintro e z ⟨rfl, hg⟩
    refine hK _ _ ((hg.below.block _ hlt).trans (unhide HXX)) ?_
    clear hK hHeld
    intro hHeld
    have hbz : Hid (Below w.heap.size w z) := ((unhide HBX).drew).trans (hg.below.mono (unhide HBX).size)
    clear hg
    refine wpAnyH_ready (rs := [4]) (by kernel_rfl) (by simp) ?_
    refine AllReadyH.cons rfl (fun K hK => ?_) AllReadyH.nil
    go_simp
    refine hK _ _ (by rw [Below.heap_alloc _ _ _ (Array.getElem?_eq_some_iff.1 hHeld).1]; exact hHeld) ?_
    clear hK hHeld
    intro hHeld
    refine wpAnyH_take (i := 5) (v := ?v4x5) rfl (by kernel_rfl) (by kernel_rfl) (by kernel_rfl) (fun _ _ _ h => h) (Or.inl ⟨by rfl, ?hy4x5⟩) (by assumption) ?rest4x5
    case hy4x5 => intro w hSw; go_simp <;> with_reducible rfl
    simp only [Act.put, List.getElem_toArray, List.getElem_cons_zero, List.getElem_cons_succ, List.setIfInBounds_toArray, List.set_cons_zero, List.set_cons_succ]
    refine wpAnyH_done (by kernel_rfl) ?_ _
    go_wp2
    go_ret
    exact ⟨_, rfl, sees_twoN z N m, (unhide hbz).alloc (unhide hbz).size _⟩
  · have g23 : (o == 23) = false := by simp; omega
    have e : onw ⟨d, o, a, b, m⟩ = [d + sz o] := by unfold onw; rw [if_neg c0, if_neg c22, if_neg c23]
    rw [e]
    generalize d + sz o = N at *
    clear e c0 c22 c23
    go_enter Tryd.func36, Tryd.ntmps36
    go_wp2_with (go_at_call 28; refine (unhide HB _ (unhide HT _ (unhide HBX))).mono ?_; rintro e z ⟨rfl, hg⟩)
    go_ret
    have hbz : Below w.heap.size w z := (unhide HBX).trans (hg.below.mono (unhide HBX).size)
    exact ⟨_, rfl, sees_oneN z N, hbz.alloc hbz.size _⟩
end Go.Proofs.YtknpfippdddnhabDoor
