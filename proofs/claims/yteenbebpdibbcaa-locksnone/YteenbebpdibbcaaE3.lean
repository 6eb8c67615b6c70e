/- What calls answer of locks that no call made. -/
import Derived.Test.YteenbebpdibbcaaE2
namespace Go.Proofs.Yteenbebpdibbcaa
open Go.RowKit
set_option maxRecDepth 100000

def zC : Array Value := #[.map none, nilP, nilP, .map none, .int .i64 0]
/-- Locks that no call made: nil, or zero. -/
def IsNo (w : World) (v : Value) : Prop := ∃ o, v = .pointer o ∧ ∀ g, o = some g → ∃ b, g = ⟨b, 0, none⟩ ∧ w.heap[b]? = some (.cells zC 74)
theorem IsNo.below {w w' : World} {v : Value} (h : IsNo w v) (hb : Below w.heap.size w w') : IsNo w' v := by
  obtain ⟨o, e1, h1⟩ := h
  exact ⟨o, e1, fun g hg => by
    obtain ⟨b, e2, h2⟩ := h1 g hg
    exact ⟨b, e2, (hb.block b (lt_of h2)).trans h2⟩⟩
theorem IsNo.drew {w : World} {v : Value} (h : IsNo w v) : IsNo w.drew v := h
theorem made_no {w : World} {v : Value} (h : IsNo w v) : Calls Try.prog 41 #[v] w fun e w' => e = .returned (.bool false) ∧ w = w' := by
  obtain ⟨o, rfl, h1⟩ := h
  cases o with
  | none => exact made_nil w
  | some g =>
    obtain ⟨b, rfl, h2⟩ := h1 g rfl
    exact made_zero b w (cell_at h2)
theorem request_no {w : World} {v u : Value} (h : IsNo w v) (a b : Int) : Calls Try.prog 13 #[v, .agg #[.int .i64 a, .int .i64 b], u] w fun e w' => e = .returned (.int .i64 2) ∧ Below w.heap.size w w' := by
  obtain ⟨W1, hW1⟩ : ∃ z, w.alloc (.cells #[.int .i64 a, .int .i64 b] 29) = z := ⟨_, rfl⟩
  have hb : Below w.heap.size w W1 := hW1 ▸ below_box _
  have HM := hide (made_no (h.below hb))
  have HB := hide hb
  clear h hb
  go_enter Try.func13, Try.ntmps13
  go_wp2_with (first | rw [hW1] | (go_at_call 41; refine (unhide HM).mono ?_; rintro e w9 ⟨rfl, rfl⟩))
  go_ret
  exact ⟨rfl, unhide HB⟩
theorem release_no {w : World} {v : Value} (h : IsNo w v) (a b : Int) : Calls Try.prog 14 #[v, .agg #[.int .i64 a, .int .i64 b]] w fun e w' => e = .returned (.tuple #[.slice none 0 0, .int .i64 2]) ∧ Below w.heap.size w w' := by
  obtain ⟨W1, hW1⟩ : ∃ z, w.alloc (.cells #[.int .i64 a, .int .i64 b] 29) = z := ⟨_, rfl⟩
  have hb : Below w.heap.size w W1 := hW1 ▸ below_box _
  have HM := hide (made_no (h.below hb))
  have HB := hide hb
  clear h hb
  go_enter Try.func14, Try.ntmps14
  go_wp2_with (first | rw [hW1] | (go_at_call 41; refine (unhide HM).mono ?_; rintro e w9 ⟨rfl, rfl⟩))
  go_ret2
  exact ⟨rfl, unhide HB⟩
theorem len_no {w : World} {v : Value} (h : IsNo w v) : Calls Try.prog 26 #[v] w fun e w' => e = .returned (.int .i64 0) ∧ Below w.heap.size w w' := by
  have HM := hide (made_no h)
  clear h
  go_enter Try.func26, Try.ntmps26
  go_wp2_with (go_at_call 41; refine (unhide HM).mono ?_; rintro e w9 ⟨rfl, rfl⟩)
  go_ret
  exact ⟨rfl, Below.refl _ _⟩
theorem clone_no {w : World} {v : Value} (h : IsNo w v) : Calls Try.prog 31 #[v] w fun e w' => e = .returned nilP ∧ Below w.heap.size w w' := by
  have HM := hide (made_no h)
  clear h
  go_enter Try.func31, Try.ntmps31
  go_wp2_with (go_at_call 41; refine (unhide HM).mono ?_; rintro e w9 ⟨rfl, rfl⟩)
  go_ret
  exact ⟨rfl, Below.refl _ _⟩
theorem all0_no {w : World} {v : Value} (h : IsNo w v) : Calls Try.prog 52 #[v] w fun e w' => e = .returned (.func (.func 72) #[] #[]) ∧ Below w.heap.size w w' := by
  have HM := hide (made_no h)
  clear h
  go_enter Try.func52, Try.ntmps52
  go_wp2_with (go_at_call 41; refine (unhide HM).mono ?_; rintro e w9 ⟨rfl, rfl⟩)
  go_ret
  exact ⟨rfl, Below.refl _ _⟩
set_option maxHeartbeats 1000000 in
theorem find_no {w : World} {v : Value} (h : IsNo w v) (a b : Int) : Calls Try.prog 59 #[v, .agg #[.int .i64 a, .int .i64 b]] w fun e w' => e = .returned nilP ∧ Below w.heap.size w w' := by
  obtain ⟨W1, hW1⟩ : ∃ z, w.alloc (.cells #[.int .i64 a, .int .i64 b] 29) = z := ⟨_, rfl⟩
  have hb : Below w.heap.size w W1 := hW1 ▸ below_box _
  have HM := hide (made_no (h.below hb).drew)
  have HB := hide hb.drew
  clear h hb
  go_enter Try.func59, Try.ntmps59
  go_wp2
  try rw [hW1]
  refine wp_region_held_drew (S := fun _ => True) (by kernel_rfl) trivial (fun hHeld => ?_)
  refine wpAnyH_take (i := 0) (v := ?v1x0) rfl (by kernel_rfl) (by kernel_rfl) (by kernel_rfl) (fun _ _ _ h => h) (Or.inl ⟨by rfl, ?hy1x0⟩) (by assumption) ?rest1x0
  case hy1x0 => intro w hSw; go_simp <;> with_reducible rfl
  simp only [Act.put, List.getElem_toArray, List.getElem_cons_zero, List.setIfInBounds_toArray, List.set_cons_zero, List.set_cons_succ]
  refine wpAnyH_ready (rs := [1]) (by kernel_rfl) (by simp) ?_
  refine AllReadyH.cons rfl (fun K hK => ?_) AllReadyH.nil
  go_simp
  refine (unhide HM).mono ?_
  rintro e wq ⟨rfl, rfl⟩
  refine hK _ _ trivial ?_
  clear hK hHeld
  intro hHeld
  refine wpAnyH_take (i := 2) (v := ?v2x2) rfl (by kernel_rfl) (by kernel_rfl) (by kernel_rfl) (fun _ _ _ h => h) (Or.inl ⟨by rfl, ?hy2x2⟩) (by assumption) ?rest2x2
  case hy2x2 => intro w hSw; go_simp <;> with_reducible rfl
  simp only [Act.put, List.getElem_toArray, List.getElem_cons_zero, List.getElem_cons_succ, List.setIfInBounds_toArray, List.set_cons_zero, List.set_cons_succ]
  refine wpAnyH_take (i := 3) (v := ?v3x3) rfl (by kernel_rfl) (by kernel_rfl) (by kernel_rfl) (fun _ _ _ h => h) (Or.inl ⟨by rfl, ?hy3x3⟩) (by assumption) ?rest3x3
  case hy3x3 => intro w hSw; go_simp <;> with_reducible rfl
  simp only [Act.put, List.getElem_toArray, List.getElem_cons_zero, List.getElem_cons_succ, List.setIfInBounds_toArray, List.set_cons_zero, List.set_cons_succ]
  refine wpAnyH_take (i := 4) (v := undef) rfl (by kernel_rfl) (by kernel_rfl) (by kernel_rfl) (fun _ _ _ h => h) (Or.inr ⟨by rfl, rfl⟩) (by assumption) ?_
  simp only [Act.put, List.getElem_toArray, List.getElem_cons_zero, List.getElem_cons_succ, List.setIfInBounds_toArray, List.set_cons_zero, List.set_cons_succ]
  refine wpAnyH_take (i := 5) (v := undef) rfl (by kernel_rfl) (by kernel_rfl) (by kernel_rfl) (fun _ _ _ h => h) (Or.inr ⟨by rfl, rfl⟩) (by assumption) ?_
  simp only [Act.put, List.getElem_toArray, List.getElem_cons_zero, List.getElem_cons_succ, List.setIfInBounds_toArray, List.set_cons_zero, List.set_cons_succ]
  refine wpAnyH_take (i := 6) (v := undef) rfl (by kernel_rfl) (by kernel_rfl) (by kernel_rfl) (fun _ _ _ h => h) (Or.inr ⟨by rfl, rfl⟩) (by assumption) ?_
  simp only [Act.put, List.getElem_toArray, List.getElem_cons_zero, List.getElem_cons_succ, List.setIfInBounds_toArray, List.set_cons_zero, List.set_cons_succ]
  refine wpAnyH_take (i := 7) (v := undef) rfl (by kernel_rfl) (by kernel_rfl) (by kernel_rfl) (fun _ _ _ h => h) (Or.inr ⟨by rfl, rfl⟩) (by assumption) ?_
  simp only [Act.put, List.getElem_toArray, List.getElem_cons_zero, List.getElem_cons_succ, List.setIfInBounds_toArray, List.set_cons_zero, List.set_cons_succ]
  refine wpAnyH_take (i := 8) (v := undef) rfl (by kernel_rfl) (by kernel_rfl) (by kernel_rfl) (fun _ _ _ h => h) (Or.inr ⟨by rfl, rfl⟩) (by assumption) ?_
  simp only [Act.put, List.getElem_toArray, List.getElem_cons_zero, List.getElem_cons_succ, List.setIfInBounds_toArray, List.set_cons_zero, List.set_cons_succ]
  refine wpAnyH_take (i := 9) (v := undef) rfl (by kernel_rfl) (by kernel_rfl) (by kernel_rfl) (fun _ _ _ h => h) (Or.inr ⟨by rfl, rfl⟩) (by assumption) ?_
  simp only [Act.put, List.getElem_toArray, List.getElem_cons_zero, List.getElem_cons_succ, List.setIfInBounds_toArray, List.set_cons_zero, List.set_cons_succ]
  refine wpAnyH_take (i := 10) (v := undef) rfl (by kernel_rfl) (by kernel_rfl) (by kernel_rfl) (fun _ _ _ h => h) (Or.inr ⟨by rfl, rfl⟩) (by assumption) ?_
  simp only [Act.put, List.getElem_toArray, List.getElem_cons_zero, List.getElem_cons_succ, List.setIfInBounds_toArray, List.set_cons_zero, List.set_cons_succ]
  refine wpAnyH_take (i := 11) (v := ?v4x11) rfl (by kernel_rfl) (by kernel_rfl) (by kernel_rfl) (fun _ _ _ h => h) (Or.inl ⟨by rfl, ?hy4x11⟩) (by assumption) ?rest4x11
  case hy4x11 => intro w hSw; go_simp <;> with_reducible rfl
  simp only [Act.put, List.getElem_toArray, List.getElem_cons_zero, List.getElem_cons_succ, List.setIfInBounds_toArray, List.set_cons_zero, List.set_cons_succ]
  refine wpAnyH_done (by kernel_rfl) ?_ _
  go_wp2
  go_ret
  exact ⟨rfl, unhide HB⟩
theorem ready_no {w : World} {v : Value} (h : IsNo w v) (a b : Int) : Calls Try.prog 21 #[v, .agg #[.int .i64 a, .int .i64 b]] w fun e w' => e = .returned (.bool false) ∧ Below w.heap.size w w' := by
  obtain ⟨W1, hW1⟩ : ∃ z, w.alloc (.cells #[.int .i64 a, .int .i64 b] 29) = z := ⟨_, rfl⟩
  have b1 : Below w.heap.size w W1 := hW1 ▸ below_box _
  have hc : W1.heap[w.heap.size]? = some (.cells #[.int .i64 a, .int .i64 b] 29) := by rw [← hW1]; exact heap_alloc_new w _
  have c0 : W1.cell? ⟨w.heap.size, 0, none⟩ = some (.int .i64 a) := cell_at hc
  have c1 : W1.cell? ⟨w.heap.size, 1, none⟩ = some (.int .i64 b) := cell_at hc
  have HF := hide (find_no (h.below b1) a b)
  have HB := hide b1
  clear h b1 hc
  go_enter Try.func21, Try.ntmps21
  go_wp2_with (first | rw [hW1] | (go_at_call 59; refine (unhide HF).mono ?_; rintro e w' ⟨rfl, hb⟩))
  go_ret
  exact ⟨rfl, (unhide HB).trans (hb.mono (unhide HB).size)⟩
theorem waits_no {w : World} {v : Value} (h : IsNo w v) (a b : Int) : Calls Try.prog 30 #[v, .agg #[.int .i64 a, .int .i64 b]] w fun e w' => e = .returned (.slice none 0 0) ∧ Below w.heap.size w w' := by
  obtain ⟨W1, hW1⟩ : ∃ z, w.alloc (.cells #[.int .i64 a, .int .i64 b] 29) = z := ⟨_, rfl⟩
  have b1 : Below w.heap.size w W1 := hW1 ▸ below_box _
  have hc : W1.heap[w.heap.size]? = some (.cells #[.int .i64 a, .int .i64 b] 29) := by rw [← hW1]; exact heap_alloc_new w _
  have c0 : W1.cell? ⟨w.heap.size, 0, none⟩ = some (.int .i64 a) := cell_at hc
  have c1 : W1.cell? ⟨w.heap.size, 1, none⟩ = some (.int .i64 b) := cell_at hc
  have HF := hide (find_no (h.below b1) a b)
  have HB := hide b1
  clear h b1 hc
  go_enter Try.func30, Try.ntmps30
  go_wp2_with (first | rw [hW1] | (go_at_call 59; refine (unhide HF).mono ?_; rintro e w' ⟨rfl, hb⟩))
  go_ret
  exact ⟨rfl, (unhide HB).trans (hb.mono (unhide HB).size)⟩
set_option maxHeartbeats 1000000 in
theorem queue_no {w : World} {v : Value} (h : IsNo w v) (a b : Int) : Calls Try.prog 16 #[v, .agg #[.int .i32 a, .int .i64 b]] w fun e w' => e = .returned (.slice none 0 0) ∧ Below w.heap.size w w' := by
  obtain ⟨W1, hW1⟩ : ∃ z, w.alloc (.cells #[.int .i32 a, .int .i64 b] 45) = z := ⟨_, rfl⟩
  have hb : Below w.heap.size w W1 := hW1 ▸ below_box _
  have HM := hide (made_no (h.below hb).drew)
  have HB := hide hb.drew
  clear h hb
  go_enter Try.func16, Try.ntmps16
  go_wp2
  try rw [hW1]
  refine wp_region_held_drew (S := fun _ => True) (by kernel_rfl) trivial (fun hHeld => ?_)
  refine wpAnyH_take (i := 0) (v := ?v5x0) rfl (by kernel_rfl) (by kernel_rfl) (by kernel_rfl) (fun _ _ _ h => h) (Or.inl ⟨by rfl, ?hy5x0⟩) (by assumption) ?rest5x0
  case hy5x0 => intro w hSw; go_simp <;> with_reducible rfl
  simp only [Act.put, List.getElem_toArray, List.getElem_cons_zero, List.setIfInBounds_toArray, List.set_cons_zero, List.set_cons_succ]
  refine wpAnyH_ready (rs := [1]) (by kernel_rfl) (by simp) ?_
  refine AllReadyH.cons rfl (fun K hK => ?_) AllReadyH.nil
  go_simp
  refine (unhide HM).mono ?_
  rintro e wq ⟨rfl, rfl⟩
  refine hK _ _ trivial ?_
  clear hK hHeld
  intro hHeld
  refine wpAnyH_take (i := 2) (v := ?v6x2) rfl (by kernel_rfl) (by kernel_rfl) (by kernel_rfl) (fun _ _ _ h => h) (Or.inl ⟨by rfl, ?hy6x2⟩) (by assumption) ?rest6x2
  case hy6x2 => intro w hSw; go_simp <;> with_reducible rfl
  simp only [Act.put, List.getElem_toArray, List.getElem_cons_zero, List.getElem_cons_succ, List.setIfInBounds_toArray, List.set_cons_zero, List.set_cons_succ]
  refine wpAnyH_take (i := 3) (v := ?v7x3) rfl (by kernel_rfl) (by kernel_rfl) (by kernel_rfl) (fun _ _ _ h => h) (Or.inl ⟨by rfl, ?hy7x3⟩) (by assumption) ?rest7x3
  case hy7x3 => intro w hSw; go_simp <;> with_reducible rfl
  simp only [Act.put, List.getElem_toArray, List.getElem_cons_zero, List.getElem_cons_succ, List.setIfInBounds_toArray, List.set_cons_zero, List.set_cons_succ]
  refine wpAnyH_take (i := 4) (v := undef) rfl (by kernel_rfl) (by kernel_rfl) (by kernel_rfl) (fun _ _ _ h => h) (Or.inr ⟨by rfl, rfl⟩) (by assumption) ?_
  simp only [Act.put, List.getElem_toArray, List.getElem_cons_zero, List.getElem_cons_succ, List.setIfInBounds_toArray, List.set_cons_zero, List.set_cons_succ]
  refine wpAnyH_take (i := 5) (v := undef) rfl (by kernel_rfl) (by kernel_rfl) (by kernel_rfl) (fun _ _ _ h => h) (Or.inr ⟨by rfl, rfl⟩) (by assumption) ?_
  simp only [Act.put, List.getElem_toArray, List.getElem_cons_zero, List.getElem_cons_succ, List.setIfInBounds_toArray, List.set_cons_zero, List.set_cons_succ]
  refine wpAnyH_take (i := 6) (v := undef) rfl (by kernel_rfl) (by kernel_rfl) (by kernel_rfl) (fun _ _ _ h => h) (Or.inr ⟨by rfl, rfl⟩) (by assumption) ?_
  simp only [Act.put, List.getElem_toArray, List.getElem_cons_zero, List.getElem_cons_succ, List.setIfInBounds_toArray, List.set_cons_zero, List.set_cons_succ]
  refine wpAnyH_take (i := 7) (v := undef) rfl (by kernel_rfl) (by kernel_rfl) (by kernel_rfl) (fun _ _ _ h => h) (Or.inr ⟨by rfl, rfl⟩) (by assumption) ?_
  simp only [Act.put, List.getElem_toArray, List.getElem_cons_zero, List.getElem_cons_succ, List.setIfInBounds_toArray, List.set_cons_zero, List.set_cons_succ]
  refine wpAnyH_take (i := 8) (v := undef) rfl (by kernel_rfl) (by kernel_rfl) (by kernel_rfl) (fun _ _ _ h => h) (Or.inr ⟨by rfl, rfl⟩) (by assumption) ?_
  simp only [Act.put, List.getElem_toArray, List.getElem_cons_zero, List.getElem_cons_succ, List.setIfInBounds_toArray, List.set_cons_zero, List.set_cons_succ]
  refine wpAnyH_take (i := 9) (v := undef) rfl (by kernel_rfl) (by kernel_rfl) (by kernel_rfl) (fun _ _ _ h => h) (Or.inr ⟨by rfl, rfl⟩) (by assumption) ?_
  simp only [Act.put, List.getElem_toArray, List.getElem_cons_zero, List.getElem_cons_succ, List.setIfInBounds_toArray, List.set_cons_zero, List.set_cons_succ]
  refine wpAnyH_take (i := 10) (v := undef) rfl (by kernel_rfl) (by kernel_rfl) (by kernel_rfl) (fun _ _ _ h => h) (Or.inr ⟨by rfl, rfl⟩) (by assumption) ?_
  simp only [Act.put, List.getElem_toArray, List.getElem_cons_zero, List.getElem_cons_succ, List.setIfInBounds_toArray, List.set_cons_zero, List.set_cons_succ]
  refine wpAnyH_take (i := 11) (v := ?v8x11) rfl (by kernel_rfl) (by kernel_rfl) (by kernel_rfl) (fun _ _ _ h => h) (Or.inl ⟨by rfl, ?hy8x11⟩) (by assumption) ?rest8x11
  case hy8x11 => intro w hSw; go_simp <;> with_reducible rfl
  simp only [Act.put, List.getElem_toArray, List.getElem_cons_zero, List.getElem_cons_succ, List.setIfInBounds_toArray, List.set_cons_zero, List.set_cons_succ]
  refine wpAnyH_done (by kernel_rfl) ?_ _
  go_wp2
  go_ret
  exact ⟨rfl, unhide HB⟩
theorem values_any (w : World) : Calls Try.prog 58 #[.slice none 0 0] w fun e w' => e = .returned (.func (.func 79) #[] #[PN w.heap.size]) ∧ w' = w.alloc (.cells #[.slice none 0 0] 39) := by
  go_enter Try.func58, Try.ntmps58
  go_wp2
  go_ret
  exact ⟨rfl, rfl⟩
end Go.Proofs.Yteenbebpdibbcaa
