/- CodeChecks' walk. -/
import Derived.Test.YtknpfippdddnhaaDoorC2
namespace Go.Proofs.YtknpfippdddnhaaDoor
open Go.RowKit Go.Shelf
set_option maxRecDepth 100000

set_option maxHeartbeats 1600000 in
theorem checks_walk {w : World} (s r : Int) (a1 a2 a3 a4 : Option Addr) (n1 n2 n3 n4 c1 c2 c3 c4 : Nat) {l : List Int} {K1 K2 : List Ky} (hT : Tab w) (h1 : SeesL yC 1 w (.slice a1 n1 c1) l) (hby : Byt l) (h3 : SeesL kC 2 w (.slice a3 n3 c3) K1) (h4 : SeesL kC 2 w (.slice a4 n4 c4) K2) (hm1 : K1.length ≤ 140737488351232) (hm2 : K2.length ≤ 140737488351232) :
    Calls Tryd.prog 5 #[(.agg #[.int .i64 s, .int .i64 r, .slice a1 n1 c1, .slice a2 n2 c2, .slice a3 n3 c3, .slice a4 n4 c4])] w fun e w' => RwR w e w' := by
  obtain ⟨bR, hR⟩ : ∃ b : Bool, b = true ↔ Ris K1 := by by_cases h : Ris K1; exact ⟨true, by simp [h]⟩; exact ⟨false, by simp [h]⟩
  obtain ⟨bW, hW⟩ : ∃ b : Bool, b = true ↔ Ris K2 := by by_cases h : Ris K2; exact ⟨true, by simp [h]⟩; exact ⟨false, by simp [h]⟩
  obtain ⟨W0, hW0⟩ : ∃ W, w.alloc (.cells #[.int .i64 s, .int .i64 r, .slice a1 n1 c1, .slice a2 n2 c2, .slice a3 n3 c3, .slice a4 n4 c4] 52) = W := ⟨_, rfl⟩
  have hb0 : Below w.heap.size w W0 := hW0 ▸ below_box _
  have kt : W0.heap[w.heap.size]? = some (.cells #[.int .i64 s, .int .i64 r, .slice a1 n1 c1, .slice a2 n2 c2, .slice a3 n3 c3, .slice a4 n4 c4] 52) := hW0 ▸ heap_alloc_new w _
  have hlt := (Array.getElem?_eq_some_iff.1 kt).1
  have HZ : Hid (∀ z, Below W0.heap.size W0 z → Below w.heap.size w z) := fun z hb => hb0.trans (hb.mono (Nat.le_of_lt hlt))
  have HKT : Hid (∀ z, Below W0.heap.size W0 z → z.heap[w.heap.size]? = some (.cells #[.int .i64 s, .int .i64 r, .slice a1 n1 c1, .slice a2 n2 c2, .slice a3 n3 c3, .slice a4 n4 c4] 52)) := fun z hb => (hb.block _ hlt).trans kt
  have HL : Hid (∀ z, Below W0.heap.size W0 z → Calls Tryd.prog 13 #[] z fun e w' => e = .returned (.bool true) ∧ Below z.heap.size z w') := fun z hb => live_any (hT.below (unhide HZ _ hb) hT.pos)
  have HC : Hid (∀ z, Below W0.heap.size W0 z → Calls Tryd.prog 28 #[(.agg #[.int .i64 s, .int .i64 r, .slice a1 n1 c1, .slice a2 n2 c2, .slice a3 n3 c3, .slice a4 n4 c4])] z fun e w' => e = .returned (.int .i64 (chk s r n2 n3 n4 bR bW (dec l))) ∧ Below z.heap.size z w') := fun z hb => check_any s r a1 a2 a3 a4 n1 n2 n3 n4 c1 c2 c3 c4 bR bW (hT.below (unhide HZ _ hb) hT.pos) (h1.below yC_len (unhide HZ _ hb)) hby (h3.below kC_len (unhide HZ _ hb)) (h4.below kC_len (unhide HZ _ hb)) hR hW hm1 hm2
  have HD : Hid (∀ z, Below W0.heap.size W0 z → Calls Tryd.prog 29 #[(.agg #[.int .i64 s, .int .i64 r, .slice a1 n1 c1, .slice a2 n2 c2, .slice a3 n3 c3, .slice a4 n4 c4])] z fun e w' => e = .returned (.int .i64 (chk s r n2 n3 n4 bR bW (dec l))) ∧ Below z.heap.size z w') := fun z hb => rcheck_any s r a1 a2 a3 a4 n1 n2 n3 n4 c1 c2 c3 c4 bR bW (h1.below yC_len (unhide HZ _ hb)) hby (h3.below kC_len (unhide HZ _ hb)) (h4.below kC_len (unhide HZ _ hb)) hR hW hm1 hm2
  have HW0 := hide hW0
  generalize chk s r n2 n3 n4 bR bW (dec l) = V at *
  clear hT h1 hby h3 h4 hm1 hm2 hR hW hW0 kt hb0
  go_enter Tryd.func5, Tryd.ntmps5
  go_wp2
  rw [unhide HW0]
  refine wp_region_held_drew (S := fun z => Below W0.heap.size W0 z) (by kernel_rfl) (Below.refl _ _).drew (fun hHeld => ?_)
  refine wpAnyH_ready (rs := [0]) (by kernel_rfl) (by simp) ?_
  refine AllReadyH.cons rfl (fun K hK => ?_) AllReadyH.nil
  go_simp
  refine (unhide HL W0.drew (Below.refl _ _).drew).mono ?_
  rintro e z1 ⟨rfl, hb⟩
  have Hz1 : Below W0.heap.size W0 z1 := (Below.refl W0.heap.size W0).drew.trans (hb.mono (Below.refl W0.heap.size W0).drew.size)
  refine hK _ _ Hz1 ?_
  clear hK hHeld hb
  intro hHeld
  refine wpAnyH_take (i := 1) (v := ?v1) rfl (by kernel_rfl) (by kernel_rfl) (by kernel_rfl) (fun _ _ _ h => h) (Or.inl ⟨by rfl, ?hy1⟩) (by assumption) ?rest1
  case hy1 => intro w' hSw; have kz := unhide HKT _ hSw; obtain ⟨p0, p1, p2, p3, p4, p5⟩ := cells6 kz; go_simp <;> with_reducible rfl
  simp only [Act.put, List.getElem_toArray, List.getElem_cons_zero, List.getElem_cons_succ, List.setIfInBounds_toArray, List.set_cons_zero, List.set_cons_succ]
  refine wpAnyH_take (i := 2) (v := ?v2) rfl (by kernel_rfl) (by kernel_rfl) (by kernel_rfl) (fun _ _ _ h => h) (Or.inl ⟨by rfl, ?hy2⟩) (by assumption) ?rest2
  case hy2 => intro w' hSw; have kz := unhide HKT _ hSw; obtain ⟨p0, p1, p2, p3, p4, p5⟩ := cells6 kz; go_simp <;> with_reducible rfl
  simp only [Act.put, List.getElem_toArray, List.getElem_cons_zero, List.getElem_cons_succ, List.setIfInBounds_toArray, List.set_cons_zero, List.set_cons_succ]
  refine wpAnyH_take (i := 4) (v := ?v3) rfl (by kernel_rfl) (by kernel_rfl) (by kernel_rfl) (fun _ _ _ h => h) (Or.inl ⟨by rfl, ?hy3⟩) (by assumption) ?rest3
  case hy3 => intro w' hSw; have kz := unhide HKT _ hSw; obtain ⟨p0, p1, p2, p3, p4, p5⟩ := cells6 kz; go_simp <;> with_reducible rfl
  simp only [Act.put, List.getElem_toArray, List.getElem_cons_zero, List.getElem_cons_succ, List.setIfInBounds_toArray, List.set_cons_zero, List.set_cons_succ]
  refine wpAnyH_ready (rs := [3]) (by kernel_rfl) (by simp) ?_
  refine AllReadyH.cons rfl (fun K hK => ?_) AllReadyH.nil
  go_simp
  refine (unhide HC z1 Hz1).mono ?_
  rintro e z2 ⟨rfl, hb⟩
  have Hz2 : Below W0.heap.size W0 z2 := Hz1.trans (hb.mono Hz1.size)
  refine hK _ _ Hz2 ?_
  clear hK hHeld hb
  intro hHeld
  refine wpAnyH_ready (rs := [5]) (by kernel_rfl) (by simp) ?_
  refine AllReadyH.cons rfl (fun K hK => ?_) AllReadyH.nil
  go_simp
  refine (unhide HD z2 Hz2).mono ?_
  rintro e z3 ⟨rfl, hb⟩
  have Hz3 : Below W0.heap.size W0 z3 := Hz2.trans (hb.mono Hz2.size)
  refine hK _ _ Hz3 ?_
  clear hK hHeld hb
  intro hHeld
  refine wpAnyH_take (i := 6) (v := .bool true) rfl (by kernel_rfl) (by kernel_rfl) (by kernel_rfl) (fun _ _ _ h => h) (Or.inl ⟨by rfl, ?hy4⟩) (by assumption) ?rest4
  case hy4 => intro w' hSw; have kz := unhide HKT _ hSw; obtain ⟨p0, p1, p2, p3, p4, p5⟩ := cells6 kz; go_simp <;> with_reducible rfl
  simp only [Act.put, List.getElem_toArray, List.getElem_cons_zero, List.getElem_cons_succ, List.setIfInBounds_toArray, List.set_cons_zero, List.set_cons_succ]
  refine wpAnyH_take (i := 7) (v := ?v5) rfl (by kernel_rfl) (by kernel_rfl) (by kernel_rfl) (fun _ _ _ h => h) (Or.inl ⟨by rfl, ?hy5⟩) (by assumption) ?rest5
  case hy5 => intro w' hSw; have kz := unhide HKT _ hSw; obtain ⟨p0, p1, p2, p3, p4, p5⟩ := cells6 kz; go_simp <;> with_reducible rfl
  simp only [Act.put, List.getElem_toArray, List.getElem_cons_zero, List.getElem_cons_succ, List.setIfInBounds_toArray, List.set_cons_zero, List.set_cons_succ]
  refine wpAnyH_take (i := 8) (v := ?v6) rfl (by kernel_rfl) (by kernel_rfl) (by kernel_rfl) (fun _ _ _ h => h) (Or.inl ⟨by rfl, ?hy6⟩) (by assumption) ?rest6
  case hy6 => intro w' hSw; have kz := unhide HKT _ hSw; obtain ⟨p0, p1, p2, p3, p4, p5⟩ := cells6 kz; go_simp <;> with_reducible rfl
  simp only [Act.put, List.getElem_toArray, List.getElem_cons_zero, List.getElem_cons_succ, List.setIfInBounds_toArray, List.set_cons_zero, List.set_cons_succ]
  refine wpAnyH_done (by kernel_rfl) ?_ _
  go_wp2
  go_ret
  exact ⟨rfl, unhide HZ _ Hz3⟩
end Go.Proofs.YtknpfippdddnhaaDoor
