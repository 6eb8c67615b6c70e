/- ShardOwn: what is spoilt, and what stays. -/
import Derived.Test.YtbajggmpklajnabH1
import Derived.Test.YtbajggmpklajnabG1
import Derived.Test.YtbajggmpklajnabD0
namespace Go.Proofs.Ytbajggmpklajnab
open Go.RowKit
set_option maxRecDepth 100000

theorem flat_set {α : Type} {c : α → List Value} {k j : Nat} (hk : ∀ x, (c x).length = k) (hj : j < k) (u : Value) (x : α) : ∀ (l : List α) (i : Nat) (hi : i < l.length), c x = (c l[i]).set j u → (l.flatMap c).set (i * k + j) u = (l.set i x).flatMap c
  | [], i, hi, _ => by simp at hi
  | a :: r, 0, _, h => by
    rw [List.flatMap_cons, List.set_cons_zero, List.flatMap_cons, Nat.zero_mul, Nat.zero_add, List.set_append_left _ _ (by rw [hk]; exact hj)]
    simp only [List.getElem_cons_zero] at h
    rw [h]
  | a :: r, i + 1, hi, h => by
    rw [List.flatMap_cons, List.set_cons_succ, List.flatMap_cons, List.set_append_right _ _ (by rw [hk, Nat.add_mul]; omega), hk, show (i + 1) * k + j - k = i * k + j by rw [Nat.add_mul]; omega]
    rw [flat_set hk hj u x r i (by simpa using hi) (by simpa using h)]
theorem own_set {w : World} {base e size n cap g : Nat} {xs : List Value} (h : w.ownsRow base e size (.slice (some ⟨g, 0, none⟩) n cap) n xs) (j : Nat) (u : Value) : (w.setCell ⟨g, j, none⟩ u).ownsRow base e size (.slice (some ⟨g, 0, none⟩) n cap) n (xs.set j u) := by
  obtain ⟨h1, h2⟩ := h
  refine ⟨by simpa using h1, ?_⟩
  rcases h2 with ⟨e, _⟩ | ⟨g', cap', cur, hv, hb, hh, hnc, hcm, hsz, ht⟩
  · cases e
  · cases hv
    refine .inr ⟨g, cap, cur.setIfInBounds j u, rfl, hb, heap_setCell_same w g j cur e u hh, hnc, hcm, by simpa using hsz, ?_⟩
    rw [Array.toList_setIfInBounds, List.take_set, ht]
theorem own_else {w : World} {base e size n g j : Nat} {v u : Value} {xs : List Value} (h : w.ownsRow base e size v n xs) (hg : v.ownBlock ≠ some g) : (w.setCell ⟨g, j, none⟩ u).ownsRow base e size v n xs := by
  refine ⟨h.1, ?_⟩
  rcases h.2 with hn | ⟨g', cap', cur, hv, hb, hh, r⟩
  · exact .inl hn
  · refine .inr ⟨g', cap', cur, hv, hb, (heap_setCell_other w _ g' _ (fun c => hg ?_)).trans hh, r⟩
    have c' : g' = g := c
    rw [hv, c']
    rfl
/-- A row whose numbers nobody knows. -/
def SomeK (base : Nat) (w : World) (v : Value) (n : Nat) : Prop := ∃ A : List Ky, A.length = n ∧ w.ownsRow base 27 2 v n (A.flatMap kC)
def SomeP (base : Nat) (w : World) (v : Value) (n : Nat) : Prop := ∃ A : List Pr, A.length = n ∧ w.ownsRow base 29 3 v n (A.flatMap pC)
theorem SomeK.cell {base n i : Nat} {w : World} {v : Value} (h : SomeK base w v n) (hi : i < n) : ∃ g cap u, v = .slice (some ⟨g, 0, none⟩) n cap ∧ n ≤ cap ∧ w.cell? ⟨g, i * 2 + 1, none⟩ = some u ∧ w.frozen? ⟨g, i * 2 + 1, none⟩ = false ∧ base ≤ g ∧ SomeK base (w.setCell ⟨g, i * 2 + 1, none⟩ (.int .i64 (-9))) v n := by
  obtain ⟨A, hA, ho⟩ := h
  rcases ho.2 with ⟨_, e0⟩ | ⟨g, cap, cur, rfl, hb, hh, hnc, hcm, hsz, ht⟩
  · omega
  have hlt : i * 2 + 1 < cur.size := by rw [hsz]; omega
  refine ⟨g, cap, _, rfl, hnc, (cell_at hh).trans (Array.getElem?_eq_getElem hlt), frozen_of_heap hh, hb, A.set i ((A.getD i default).1, -9), by simpa using hA, ?_⟩
  have hi' : i < A.length := by omega
  have := own_set ho (i * 2 + 1) (.int .i64 (-9))
  rw [flat_set (j := 1) kC_len (by decide) (.int .i64 (-9)) ((A.getD i default).1, -9) A i hi' (by simp [kC, List.getD, hi'])] at this
  exact this
theorem SomeP.cell {base n i : Nat} {w : World} {v : Value} (h : SomeP base w v n) (hi : i < n) : ∃ g cap u, v = .slice (some ⟨g, 0, none⟩) n cap ∧ n ≤ cap ∧ w.cell? ⟨g, i * 3 + 2, none⟩ = some u ∧ w.frozen? ⟨g, i * 3 + 2, none⟩ = false ∧ base ≤ g ∧ SomeP base (w.setCell ⟨g, i * 3 + 2, none⟩ (.int .i64 (-9))) v n := by
  obtain ⟨A, hA, ho⟩ := h
  rcases ho.2 with ⟨_, e0⟩ | ⟨g, cap, cur, rfl, hb, hh, hnc, hcm, hsz, ht⟩
  · omega
  have hlt : i * 3 + 2 < cur.size := by rw [hsz]; omega
  refine ⟨g, cap, _, rfl, hnc, (cell_at hh).trans (Array.getElem?_eq_getElem hlt), frozen_of_heap hh, hb, A.set i ((A.getD i default).1, -9), by simpa using hA, ?_⟩
  have hi' : i < A.length := by omega
  have := own_set ho (i * 3 + 2) (.int .i64 (-9))
  rw [flat_set (j := 2) pC_len (by decide) (.int .i64 (-9)) ((A.getD i default).1, -9) A i hi' (by simp [pC, List.getD, hi'])] at this
  exact this
theorem SomeP.other {base n g i : Nat} {w : World} {v u : Value} {cur : Array Value} (h : SomeP base w v n) (hg : w.heap[g]? = some (.cells cur 27)) : SomeP base (w.setCell ⟨g, i, none⟩ u) v n := by
  obtain ⟨A, hA, ho⟩ := h
  refine ⟨A, hA, own_else ho fun c => ?_⟩
  rcases ho.2 with ⟨rfl, _⟩ | ⟨g', cap, cur', rfl, _, hh, _⟩
  · simp [Value.ownBlock] at c
  · simp only [Value.ownBlock, Option.some.injEq] at c
    rw [c, hg] at hh
    simp at hh
theorem below_cell {B g j : Nat} {w w' : World} {u : Value} (h : Below B w w') (hg : B ≤ g) : Below B w (w'.setCell ⟨g, j, none⟩ u) :=
  ⟨h.os, h.tape, h.output, by simpa [World.setCell] using h.size, fun k hk => (heap_setCell_other w' _ k _ (by show k ≠ g; omega)).trans (h.block k hk)⟩
/-- Split's lists, whatever their numbers are. -/
structure QI (base : Nat) (w : World) (g m : Nat) (rows : List Value) : Prop where
  low : base ≤ g
  len : rows.length = m
  box : w.heap[g]? = some (.cells rows.toArray 22)
  own : ∀ (p : Nat) (v : Value), rows[p]? = some v → ∃ n, SomeK base w v n
  apart : ∀ (p q : Nat) (v u : Value) (b : Nat), rows[p]? = some v → rows[q]? = some u → p ≠ q → v.ownBlock = some b → u.ownBlock ≠ some b
theorem Parts.spoilt {base g m : Nat} {w : World} {f : Nat → List Ky} (h : Parts base w g m f) : ∃ rows, QI base w g m rows := by
  obtain ⟨h1, rows, h2, h3, h4, h5⟩ := h
  exact ⟨rows, h1, h2, h3, fun p v hv => ⟨_, f p, rfl, h4 p v hv⟩, h5⟩
theorem SomeK.shape {base n : Nat} {w : World} {v : Value} (h : SomeK base w v n) : ∃ ao cap, v = .slice ao n cap ∧ n ≤ cap ∧ n ≤ 9223372036854775807 := by
  obtain ⟨A, hA, ho⟩ := h
  rcases ho.2 with ⟨rfl, rfl⟩ | ⟨g, cap, cur, rfl, _, _, hnc, hcm, _⟩
  · exact ⟨none, 0, rfl, Nat.le_refl _, by omega⟩
  · exact ⟨_, cap, rfl, hnc, by unfold maxLen at hcm; omega⟩
theorem SomeP.shape {base n : Nat} {w : World} {v : Value} (h : SomeP base w v n) : ∃ ao cap, v = .slice ao n cap ∧ n ≤ cap ∧ n ≤ 9223372036854775807 := by
  obtain ⟨A, hA, ho⟩ := h
  rcases ho.2 with ⟨rfl, rfl⟩ | ⟨g, cap, cur, rfl, _, _, hnc, hcm, _⟩
  · exact ⟨none, 0, rfl, Nat.le_refl _, by omega⟩
  · exact ⟨_, cap, rfl, hnc, by unfold maxLen at hcm; omega⟩
/-- One number of one list turned. -/
theorem QI.turn {base g m n i p : Nat} {w : World} {rows : List Value} {v : Value} (h : QI base w g m rows) (hv : rows[p]? = some v) (hs : SomeK base w v n) (hi : i < n) : ∃ g' cap u, v = .slice (some ⟨g', 0, none⟩) n cap ∧ n ≤ cap ∧ w.cell? ⟨g', i * 2 + 1, none⟩ = some u ∧ w.frozen? ⟨g', i * 2 + 1, none⟩ = false ∧ base ≤ g' ∧ SomeK base (w.setCell ⟨g', i * 2 + 1, none⟩ (.int .i64 (-9))) v n ∧ QI base (w.setCell ⟨g', i * 2 + 1, none⟩ (.int .i64 (-9))) g m rows := by
  obtain ⟨g', cap, u, e, h1, h2, h3, h4, h5⟩ := hs.cell hi
  refine ⟨g', cap, u, e, h1, h2, h3, h4, h5, h.low, h.len, ?_, fun q x hx => ?_, h.apart⟩
  · have hne : g ≠ g' := fun c => by
      obtain ⟨A, _, ho⟩ := hs
      rcases ho.2 with ⟨e', _⟩ | ⟨g2, cap2, cur2, e', _, hh, _⟩
      · rw [e] at e'; cases e'
      · rw [e] at e'
        cases e'
        rw [← c, h.box] at hh
        simp at hh
    exact (heap_setCell_other w _ g _ hne).trans h.box
  · by_cases hq : p = q
    · subst hq
      rw [hv] at hx
      obtain rfl := Option.some.inj hx
      exact ⟨n, h5⟩
    · obtain ⟨n', A, hA, ho⟩ := h.own q x hx
      exact ⟨n', A, hA, own_else ho (h.apart p q v x g' hv hx hq (by rw [e]; rfl))⟩
theorem own_lit (w : World) (e k : Nat) : (w.alloc (.cells #[] e)).ownsRow w.heap.size e k (.slice (some ⟨w.heap.size, 0, none⟩) 0 0) 0 [] :=
  ⟨by simp, .inr ⟨w.heap.size, 0, #[], rfl, Nat.le_refl _, heap_alloc_new w _, Nat.le_refl _, by unfold maxLen; omega, by simp, by simp⟩⟩
theorem samekeys_yes {x : World} {av bv : Value} {l : List Ky} (ha : SeesL kC 2 x av l) (hb : SeesL kC 2 x bv l) : Calls Try.prog 8 #[av, bv] x fun e w' => e = .returned (.bool true) ∧ Below x.heap.size x w' :=
  (samekeys_any ha hb).mono fun _ _ ⟨h1, h2⟩ => ⟨by rw [h1]; simp, h2.below⟩
theorem samepairs_yes {x : World} {av bv : Value} {l : List Pr} (ha : SeesL pC 3 x av l) (hb : SeesL pC 3 x bv l) : Calls Try.prog 9 #[av, bv] x fun e w' => e = .returned (.bool true) ∧ Below x.heap.size x w' :=
  (samepairs_any ha hb).mono fun _ _ ⟨h1, h2⟩ => ⟨by rw [h1]; simp, h2.below⟩
end Go.Proofs.Ytbajggmpklajnab
