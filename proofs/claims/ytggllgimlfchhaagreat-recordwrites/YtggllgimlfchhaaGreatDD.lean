/- Record: a message written. -/
import Derived.Test.YtggllgimlfchhaaGreatDC
import Derived.Test.YtggllgimlfchhaaGreatCI
namespace Go.Proofs.YtggllgimlfchhaaGreat
open Go.RowKit
set_option maxRecDepth 100000

/-- A message's form. -/
def msgB (m : MsgD) : List Int := putL [m.kind, m.frm, m.to] ++ flsB (fieldsL m.kind) m
theorem mayMsg_fields {m : MsgD} (h : mayMsg m = true) : ∀ f ∈ fieldsL m.kind, fMay f m = true := by
  obtain ⟨k, f, t, a, b, c, d, y, l, e, p⟩ := m
  intro q hq
  by_cases h1 : k = 1
  case pos =>
    subst h1
    simp only [mayMsg, fieldsL, runF, fMay, wout, if_true, if_false, Int.reduceEq, Bool.and_eq_true, decide_eq_true_eq] at h
    simp only [fieldsL, if_true, if_false, Int.reduceEq, List.mem_cons, List.not_mem_nil, or_false] at hq
    rcases hq with rfl | rfl | rfl <;> simp_all [fMay]
  by_cases h2 : k = 2
  case pos =>
    subst h2
    simp only [mayMsg, fieldsL, runF, fMay, wout, if_true, if_false, Int.reduceEq, Bool.and_eq_true, decide_eq_true_eq] at h
    simp only [fieldsL, if_true, if_false, Int.reduceEq, List.mem_cons, List.not_mem_nil, or_false] at hq
    rcases hq with rfl | rfl <;> simp_all [fMay]
  by_cases h3 : k = 3
  case pos =>
    subst h3
    simp only [mayMsg, fieldsL, runF, fMay, wout, if_true, if_false, Int.reduceEq, Bool.and_eq_true, decide_eq_true_eq] at h
    simp only [fieldsL, if_true, if_false, Int.reduceEq, List.mem_cons, List.not_mem_nil, or_false] at hq
    rcases hq with rfl | rfl | rfl | rfl | rfl <;> simp_all [fMay]
  by_cases h4 : k = 4
  case pos =>
    subst h4
    simp only [mayMsg, fieldsL, runF, fMay, wout, if_true, if_false, Int.reduceEq, Bool.and_eq_true, decide_eq_true_eq] at h
    simp only [fieldsL, if_true, if_false, Int.reduceEq, List.mem_cons, List.not_mem_nil, or_false] at hq
    rcases hq with rfl | rfl | rfl <;> simp_all [fMay]
  by_cases h5 : k = 5
  case pos =>
    subst h5
    simp only [mayMsg, fieldsL, runF, fMay, wout, if_true, if_false, Int.reduceEq, Bool.and_eq_true, decide_eq_true_eq] at h
    simp only [fieldsL, if_true, if_false, Int.reduceEq, List.mem_cons, List.not_mem_nil, or_false] at hq
    rcases hq with rfl | rfl | rfl | rfl <;> simp_all [fMay]
  by_cases h6 : k = 6
  case pos =>
    subst h6
    simp only [mayMsg, fieldsL, runF, fMay, wout, if_true, if_false, Int.reduceEq, Bool.and_eq_true, decide_eq_true_eq] at h
    simp only [fieldsL, if_true, if_false, Int.reduceEq, List.mem_cons, List.not_mem_nil, or_false] at hq
    rcases hq with rfl <;> simp_all [fMay]
  simp only [fieldsL, h1, h2, h3, h4, h5, h6, if_false] at hq
  cases hq
theorem mayMsg_some {m : MsgD} (h : mayMsg m = true) : fieldsL m.kind ≠ [] := by
  intro e
  simp [mayMsg, e] at h
theorem fls_small (m : MsgD) : ∀ L : List Int, (∀ f ∈ L, 0 ≤ f ∧ f ≤ 4) → (flsB L m).length ≤ 9 * L.length
  | [], _ => by simp [flsB]
  | f :: r, h => by
    have ih := fls_small m r (fun x hx => h x (List.mem_cons_of_mem _ hx))
    have hf := h f (List.mem_cons_self ..)
    have h1 : (fB f m).length ≤ 9 := by
      have p := fun q : Int => putL_le [q]
      simp only [List.length_cons, List.length_nil] at p
      unfold fB
      split
      · exact p _
      split
      · exact p _
      split
      · exact p _
      split
      · exact p _
      split
      · exact p _
      · omega
    have e : flsB (f :: r) m = fB f m ++ flsB r m := by simp [flsB]
    rw [e, List.length_append, List.length_cons]
    omega
theorem fields_pre (k : Int) (m : MsgD) (t : Nat) (ht : t < (fieldsL k).length) : (flsB ((fieldsL k).take t) m).length ≤ 1000 := by
  have h : ∀ f ∈ (fieldsL k).take t, 0 ≤ f ∧ f ≤ 4 := by
    unfold fieldsL at ht ⊢
    repeat' split
    all_goals simp_all
    all_goals (intro f hf; have hs : t = 0 ∨ t = 1 ∨ t = 2 ∨ t = 3 ∨ t = 4 := (by omega); rcases hs with rfl | rfl | rfl | rfl | rfl <;> simp at hf ht <;> omega)
  have := fls_small m _ h
  have h5 := fieldsL_len k
  simp only [List.length_take] at this
  omega

set_option maxHeartbeats 800000 in
theorem newMessageWriter_any (w : World) : Calls Tryz.prog 39 #[] w fun r w' => r = .returned (.agg #[.pointer (some ⟨w.heap.size + 1, 0, none⟩), .pointer (some ⟨w.heap.size + 1, 0, none⟩), .pointer (some ⟨w.heap.size + 1, 0, none⟩)]) ∧ Wr w' (w.heap.size + 1) (w.heap.size + 2) [] ∧ Below w.heap.size w w' := by
  obtain ⟨P, hP⟩ : ∃ P, Value.pointer (some ⟨w.heap.size + 1, 0, none⟩) = P := ⟨_, rfl⟩
  have hz : Below w.heap.size w ((w.alloc (.cells #[.pointer none, .pointer none, .pointer none] 70)).alloc (.cells #[.slice none 0 0] 63)) := ((Below.refl _ _).alloc (Nat.le_refl _) _).alloc (by simp) _
  have e0 : (w.alloc (.cells #[.pointer none, .pointer none, .pointer none] 70)).heap.size = w.heap.size + 1 := by simp
  have h0 : ((w.alloc (.cells #[.pointer none, .pointer none, .pointer none] 70)).alloc (.cells #[.slice none 0 0] 63)).heap[w.heap.size]? = some (.cells #[.pointer none, .pointer none, .pointer none] 70) := (Below.heap_alloc _ _ _ (by simp)).trans (heap_alloc_new w _)
  have h1 : ((w.alloc (.cells #[.pointer none, .pointer none, .pointer none] 70)).alloc (.cells #[.slice none 0 0] 63)).heap[w.heap.size + 1]? = some (.cells #[.slice none 0 0] 63) := by have := heap_alloc_new (w.alloc (.cells #[.pointer none, .pointer none, .pointer none] 70)) (.cells #[.slice none 0 0] 63); rw [e0] at this; exact this
  have hs : ((w.alloc (.cells #[.pointer none, .pointer none, .pointer none] 70)).alloc (.cells #[.slice none 0 0] 63)).heap.size = w.heap.size + 2 := by simp
  obtain ⟨y0, hy0⟩ : ∃ y, ((w.alloc (.cells #[.pointer none, .pointer none, .pointer none] 70)).alloc (.cells #[.slice none 0 0] 63)) = y := ⟨_, rfl⟩
  rw [hy0] at hz h0 h1 hs
  have HZ0 := hide h0
  have HB9 : Hid (Below w.heap.size w (y0.setRow w.heap.size #[.pointer (some ⟨w.heap.size + 1, 0, none⟩), .pointer (some ⟨w.heap.size + 1, 0, none⟩), .pointer (some ⟨w.heap.size + 1, 0, none⟩)])) := below_setRow hz (Nat.le_refl _)
  have HZ9 : Hid ((y0.setRow w.heap.size #[.pointer (some ⟨w.heap.size + 1, 0, none⟩), .pointer (some ⟨w.heap.size + 1, 0, none⟩), .pointer (some ⟨w.heap.size + 1, 0, none⟩)]).heap[w.heap.size]? = some (.cells #[.pointer (some ⟨w.heap.size + 1, 0, none⟩), .pointer (some ⟨w.heap.size + 1, 0, none⟩), .pointer (some ⟨w.heap.size + 1, 0, none⟩)] 70)) := setRow_heap _ _ _ _ _ _ h0
  have h19 : (y0.setRow w.heap.size #[.pointer (some ⟨w.heap.size + 1, 0, none⟩), .pointer (some ⟨w.heap.size + 1, 0, none⟩), .pointer (some ⟨w.heap.size + 1, 0, none⟩)]).heap[w.heap.size + 1]? = some (.cells #[.slice none 0 0] 63) := (setRow_other _ _ _ _ (by omega)).trans h1
  have HW9 : Hid (Wr (y0.setRow w.heap.size #[.pointer (some ⟨w.heap.size + 1, 0, none⟩), .pointer (some ⟨w.heap.size + 1, 0, none⟩), .pointer (some ⟨w.heap.size + 1, 0, none⟩)]) (w.heap.size + 1) (w.heap.size + 2) []) := ⟨⟨.slice none 0 0, cell_of_heap h19, World.ownsRow_nil _ _ _ _⟩, fun o => frozen_of_heap h19, by omega, by rw [setRow_size, hs]; exact Nat.le_refl _⟩
  obtain ⟨y9, hy9⟩ : ∃ y, y0.setRow w.heap.size #[.pointer (some ⟨w.heap.size + 1, 0, none⟩), .pointer (some ⟨w.heap.size + 1, 0, none⟩), .pointer (some ⟨w.heap.size + 1, 0, none⟩)] = y := ⟨_, rfl⟩
  rw [hy9] at HB9 HZ9 HW9
  clear hz e0 h0 h1 hs h19 hP
  go_enter Tryz.func39, Tryz.ntmps39
  go_wp2_with (first | rw [hy9] | rw [hy0] | refine wpList_store_row rfl 70 _ _ rfl w.heap.size _ _ rfl rfl 70 (unhide HZ0) (by kernel_rfl) rfl (by first | kernel_rfl | simp [Value.oneCell']) ?_)
  refine bodyPost_ret (results_cell_row rfl _ _ w.heap.size 70 #[.pointer (some ⟨w.heap.size + 1, 0, none⟩), .pointer (some ⟨w.heap.size + 1, 0, none⟩), .pointer (some ⟨w.heap.size + 1, 0, none⟩)] (0, 0) _ rfl (unhide HZ9) Tryz.underlying70 rfl (by kernel_rfl)) rfl ?_
  exact ⟨rfl, unhide HW9, unhide HB9⟩
end Go.Proofs.YtggllgimlfchhaaGreat
