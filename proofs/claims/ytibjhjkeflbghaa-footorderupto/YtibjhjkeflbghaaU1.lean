/- slices.Sort and slices.Compact of numbers on a row of one's own. -/
import Derived.Test.YtibjhjkeflbghaaSN
import Derived.Test.YtibjhjkeflbghaaU0
import Derived.Shelf.SortM.SortNone
namespace Go.Proofs.Ytibjhjkeflbghaa
open Go.RowKit Go.Sort
set_option maxRecDepth 100000

theorem flatN_get {D : List Int} {j : Nat} (h : j < D.length) : (D.flatMap nC)[j]? = some (.int .i64 (D.toArray[j]!)) := by
  have h1 := flat_at nC_len D j D[j] (List.getElem?_eq_getElem h) 0 (by decide)
  rw [Nat.mul_one, Nat.add_zero] at h1
  rw [h1]
  simp [nC, h]
theorem own_holdsN {w : World} {base n g cap : Nat} {D : List Int} (h : w.ownsRow base 3 1 (.slice (some ⟨g, 0, none⟩) n cap) n (D.flatMap nC)) : Holds (Value.int .i64) w g 0 D.toArray := by
  intro j hj
  have hj' : j < D.length := by simpa using hj
  have h' := h
  rcases h.2 with ⟨e0, _⟩ | ⟨g', cap', cur, hv, _, hg, _⟩
  · cases e0
  · cases hv
    have := h'.cells (g := g) rfl j _ (flatN_get hj')
    have e : (⟨g, 0, none⟩ : Addr).add j = ⟨g, j, none⟩ := by unfold Addr.add; split <;> simp_all
    rw [e] at this
    rw [Nat.zero_add]
    exact ⟨this, frozen_of_heap hg⟩
/-- A row of one's own whose numbers were put anew. -/
theorem own_putN {w : World} {base n g cap m : Nat} {D D' : List Int} {os : Array Obj} (h : w.ownsRow base 3 1 (.slice (some ⟨g, 0, none⟩) n cap) n (D.flatMap nC)) (hl : D'.length = D.length) :
    (grow (putRow (Value.int .i64) (Sort.ahead w m) g 0 D'.toArray) os).ownsRow base 3 1 (.slice (some ⟨g, 0, none⟩) n cap) n (D'.flatMap nC) ∧ Below base w (grow (putRow (Value.int .i64) (Sort.ahead w m) g 0 D'.toArray) os) := by
  have hlen := h.1
  have hnl : n = D.length := (own_sees nC_len (by decide) h).1
  rcases h.2 with ⟨e0, _⟩ | ⟨g', cap', cur, hv, hb, hg, hnc, hcm, hcs, ht⟩
  · cases e0
  cases hv
  have hlt := (Array.getElem?_eq_some_iff.1 hg).1
  have hP : (putRow (Value.int .i64) (Sort.ahead w m) g 0 D'.toArray).heap = w.heap.modify g (onCells (putCells (Value.int .i64) 0 D'.toArray)) := rfl
  have hS : (putRow (Value.int .i64) (Sort.ahead w m) g 0 D'.toArray).heap.size = w.heap.size := by rw [hP]; simp
  have old : ∀ j, j < w.heap.size → (grow (putRow (Value.int .i64) (Sort.ahead w m) g 0 D'.toArray) os).heap[j]? = (w.heap.modify g (onCells (putCells (Value.int .i64) 0 D'.toArray)))[j]? := fun j hj => by
    rw [heap_grow_old _ _ (by rw [hS]; exact hj), hP]
  have hle : w.heap.size ≤ (grow (putRow (Value.int .i64) (Sort.ahead w m) g 0 D'.toArray) os).heap.size := by
    unfold Sort.grow
    simp only [Array.size_append]
    rw [hS]
    omega
  have hl' : (D'.flatMap nC).length = n * 1 := by rw [flat_len nC_len, hl, ← hnl]
  refine ⟨⟨hl', .inr ⟨g, cap, putCells (Value.int .i64) 0 D'.toArray cur, rfl, hb, ?_, hnc, hcm, by simp [putCells, hcs], ?_⟩⟩, ⟨rfl, rfl, rfl, hle, fun j hj => ?_⟩⟩
  · rw [old g hlt, Array.getElem?_modify, if_pos rfl, hg]
    rfl
  · refine List.ext_getElem? fun i => ?_
    by_cases hi : i < n * 1
    · have hic : i < cur.size := by rw [hcs]; exact Nat.lt_of_lt_of_le hi (Nat.mul_le_mul_right 1 hnc)
      have hi' : i < D'.length := by omega
      rw [List.getElem?_take_of_lt hi, flatN_get hi']
      simp only [putCells, Array.toList_mapIdx, List.getElem?_mapIdx]
      rw [List.getElem?_eq_getElem (by simpa using hic)]
      simp only [Option.map_some, Nat.zero_le, Nat.zero_add, true_and, Nat.sub_zero]
      rw [if_pos (by simpa using hi')]
    · rw [List.getElem?_eq_none (by rw [List.length_take]; omega), List.getElem?_eq_none (by rw [hl']; omega)]
  · rw [old j (by omega), Array.getElem?_modify, if_neg (by omega)]
/-- slices.Sort. -/
theorem sort_any {w : World} {base n : Nat} {v : Value} {D : List Int} (h : w.ownsRow base 3 1 v n (D.flatMap nC)) (hn : n < 4611686018427387904) :
    Calls Try.prog 63 #[v] w fun e w' => e = .returned (.tuple #[]) ∧ w'.ownsRow base 3 1 v n ((D.mergeSort fun x y => decide (x ≤ y)).flatMap nC) ∧ Below base w w' := by
  have hnl : n = D.length := (own_sees nC_len (by decide) h).1
  rcases h.2 with ⟨rfl, h0⟩ | ⟨g, cap, cur, rfl, hb, hg, _⟩
  · obtain rfl : D = [] := List.length_eq_zero_iff.1 (by omega)
    refine (AnyM.slices_Sort_int_none Try.srtN none 0 w).mono fun e w' hh => ?_
    obtain ⟨rfl, rfl⟩ := hh
    exact ⟨rfl, by simpa using h, Below.refl _ _⟩
  · subst hnl
    refine (AnyM.slices_Sort_int Try.srtN g 0 cap D w (own_holdsN h) (Array.getElem?_eq_some_iff.1 hg).1 hn).mono fun e w' hh => ?_
    obtain ⟨rfl, q, os, rfl⟩ := hh
    exact ⟨rfl, own_putN h (by simp)⟩
end Go.Proofs.Ytibjhjkeflbghaa
