/- Record: a list of transactions, cloned part by part. -/
import Derived.Test.YtggllgimlfchhabGreatNC
namespace Go.Proofs.YtggllgimlfchhabGreat
open Go.RowKit Go.Deep
set_option maxRecDepth 100000

theorem List.set_getElem?_self' {α : Type} {l : List α} {i : Nat} {a : α} (h : l[i]? = some a) : l.set i a = l := by
  obtain ⟨hi, rfl⟩ := List.getElem?_eq_some_iff.1 h
  simp
theorem cell_of_heap' {w : World} {b o : Nat} {cs : Array Value} {T : TypeId} (h : w.heap[b]? = some (.cells cs T)) : w.cell? ⟨b, o, none⟩ = cs[o]? := by
  simp [World.cell?, h]
theorem own_setO {w : World} {base e size n g T : Nat} {v : Value} {xs : List Value} {cur : Array Value} (h : w.ownsRow base e size v n xs) (hg : w.heap[g]? = some (.cells cur T)) (hne : e ≠ T) (j : Nat) (u : Value) : (w.setCell ⟨g, j, none⟩ u).ownsRow base e size v n xs := by
  refine ⟨h.1, ?_⟩
  rcases h.2 with hn | ⟨g', cap, cur', hv, hg', hh, r⟩
  · exact .inl hn
  · refine .inr ⟨g', cap, cur', hv, hg', (Below.heap_setCell _ _ _ _ (fun e' => ?_)).trans hh, r⟩
    simp only at e'
    subst e'
    rw [hg] at hh
    cases hh
    exact hne rfl
theorem OwnT.setO {base g : Nat} {w : World} {cs : Array Value} {t : TxnD} {cur : Array Value} (h : OwnT base w cs t) (hg : w.heap[g]? = some (.cells cur 70)) (j : Nat) (u : Value) : OwnT base (w.setCell ⟨g, j, none⟩ u) cs t := by
  obtain ⟨cv, av, rv, wv, h0, h1, h2, h3, h4⟩ := h
  exact ⟨cv, av, rv, wv, h0, own_setO h1 hg (by decide) _ _, own_setO h2 hg (by decide) _ _, own_setO h3 hg (by decide) _ _, own_setO h4 hg (by decide) _ _⟩
theorem row_cell {w : World} {base e size n cap g : Nat} {xs : List Value} (h : w.ownsRow base e size (.slice (some ⟨g, 0, none⟩) n cap) n xs) (j : Nat) (u : Value) (hu : xs[j]? = some u) : w.cell? ⟨g, j, none⟩ = some u := by
  rcases h.2 with ⟨e, _⟩ | ⟨g', cap', cur, hv, _, hh, _, _, _, ht⟩
  · cases e
  · cases hv
    rw [← ht] at hu
    have h1 : cur.toList[j]? = some u := by
      rw [List.getElem?_take] at hu
      split at hu
      · exact hu
      · cases hu
    rw [cell_of_heap' hh]
    simpa using h1
theorem row_heap {w : World} {base e size n cap g : Nat} {xs : List Value} (h : w.ownsRow base e size (.slice (some ⟨g, 0, none⟩) n cap) n xs) : base ≤ g ∧ ∃ cur, w.heap[g]? = some (.cells cur e) := by
  rcases h.2 with ⟨e, _⟩ | ⟨g', cap', cur, hv, hb, hh, _⟩
  · cases e
  · cases hv
    exact ⟨hb, cur, hh⟩
/-- Where the loop of clones stands: the first i are one's own. -/
structure CL (w : World) (wr : World) (g n cap i : Nat) (vs : List TX4) (l : List TxnD) : Prop where
  map : vs.map (·.1) = l
  len : l.length = n
  row : wr.ownsRow w.heap.size 70 6 (.slice (some ⟨g, 0, none⟩) n cap) n (vs.flatMap txnCells)
  done : ∀ j p, j < i → vs[j]? = some p → OwnT w.heap.size wr #[.int .i64 p.1.ses, .int .i64 p.1.req, p.2.1, p.2.2.1, p.2.2.2.1, p.2.2.2.2] p.1
  rest : ∀ j p, i ≤ j → vs[j]? = some p → SeesT w #[.int .i64 p.1.ses, .int .i64 p.1.req, p.2.1, p.2.2.1, p.2.2.2.1, p.2.2.2.2] p.1
  below : Below w.heap.size w wr
theorem CL.below' {w wr y : World} {g n cap i : Nat} {vs : List TX4} {l : List TxnD} (h : CL w wr g n cap i vs l) (hb : Below wr.heap.size wr y) : CL w y g n cap i vs l :=
  ⟨h.map, h.len, own_below h.row hb, fun j p hj hp => (h.done j p hj hp).below hb, h.rest, h.below.trans (hb.mono h.below.size)⟩
/-- One cell of the row is set. -/
theorem own_row6 {w : World} {base n cap g : Nat} {xs : List Value} (h : w.ownsRow base 70 6 (.slice (some ⟨g, 0, none⟩) n cap) n xs) (o : Nat) (q : TX4) :
    ((((((w.setCell ⟨g, o, none⟩ (.int .i64 q.1.ses)).setCell ⟨g, o + 1, none⟩ (.int .i64 q.1.req)).setCell ⟨g, o + 2, none⟩ q.2.1).setCell ⟨g, o + 3, none⟩ q.2.2.1).setCell ⟨g, o + 4, none⟩ q.2.2.2.1).setCell ⟨g, o + 5, none⟩ q.2.2.2.2).ownsRow base 70 6 (.slice (some ⟨g, 0, none⟩) n cap) n
      ((((((xs.set o (.int .i64 q.1.ses)).set (o + 1) (.int .i64 q.1.req)).set (o + 2) q.2.1).set (o + 3) q.2.2.1).set (o + 4) q.2.2.2.1).set (o + 5) q.2.2.2.2) :=
  own_set (own_set (own_set (own_set (own_set (own_set h _ _) _ _) _ _) _ _) _ _) _ _
theorem OwnT.set6 {base n cap g b2 : Nat} {w : World} {cs : Array Value} {t : TxnD} {xs : List Value} (h : OwnT base w cs t) (hr : w.ownsRow b2 70 6 (.slice (some ⟨g, 0, none⟩) n cap) n xs) (o : Nat) (q : TX4) :
    OwnT base ((((((w.setCell ⟨g, o, none⟩ (.int .i64 q.1.ses)).setCell ⟨g, o + 1, none⟩ (.int .i64 q.1.req)).setCell ⟨g, o + 2, none⟩ q.2.1).setCell ⟨g, o + 3, none⟩ q.2.2.1).setCell ⟨g, o + 4, none⟩ q.2.2.2.1).setCell ⟨g, o + 5, none⟩ q.2.2.2.2) cs t := by
  have r1 := own_set hr o (.int .i64 q.1.ses)
  have r2 := own_set r1 (o + 1) (.int .i64 q.1.req)
  have r3 := own_set r2 (o + 2) q.2.1
  have r4 := own_set r3 (o + 3) q.2.2.1
  have r5 := own_set r4 (o + 4) q.2.2.2.1
  obtain ⟨_, _, e0⟩ := row_heap hr
  obtain ⟨_, _, e1⟩ := row_heap r1
  obtain ⟨_, _, e2⟩ := row_heap r2
  obtain ⟨_, _, e3⟩ := row_heap r3
  obtain ⟨_, _, e4⟩ := row_heap r4
  obtain ⟨_, _, e5⟩ := row_heap r5
  exact (((((h.setO e0 _ _).setO e1 _ _).setO e2 _ _).setO e3 _ _).setO e4 _ _).setO e5 _ _
/-- One part is cloned and set. -/
theorem CL.step {w wr : World} {g n cap i : Nat} {vs : List TX4} {l : List TxnD} (h : CL w wr g n cap i vs l) (hi : i < n) (p q : TX4) (hp : vs[i]? = some p) (hq : q.1 = p.1) (ho : OwnT w.heap.size wr #[.int .i64 q.1.ses, .int .i64 q.1.req, q.2.1, q.2.2.1, q.2.2.2.1, q.2.2.2.2] q.1) :
    CL w ((((((wr.setCell ⟨g, i * 6, none⟩ (.int .i64 q.1.ses)).setCell ⟨g, i * 6 + 1, none⟩ (.int .i64 q.1.req)).setCell ⟨g, i * 6 + 2, none⟩ q.2.1).setCell ⟨g, i * 6 + 3, none⟩ q.2.2.1).setCell ⟨g, i * 6 + 4, none⟩ q.2.2.2.1).setCell ⟨g, i * 6 + 5, none⟩ q.2.2.2.2) g n cap (i + 1) (vs.set i q) l := by
  have hvl : i < vs.length := (List.getElem?_eq_some_iff.1 hp).1
  have hrow := own_row6 h.row (i * 6) q
  rw [flat_set vs i q hvl] at hrow
  have hgb := (row_heap h.row).1
  refine ⟨?_, h.len, hrow, fun j r hj hr => ?_, fun j r hj hr => ?_, ?_⟩
  · rw [← h.map, List.map_set, hq]
    have : (vs.map (·.1))[i]? = some p.1 := by simp [hp]
    exact List.set_getElem?_self' this
  · by_cases e : j = i
    · subst e
      rw [List.getElem?_set_self hvl] at hr
      cases hr
      exact ho.set6 h.row _ q
    · rw [List.getElem?_set_ne (fun e' => e e'.symm)] at hr
      exact (h.done j r (by omega) hr).set6 h.row _ q
  · rw [List.getElem?_set_ne (by omega)] at hr
    exact h.rest j r (by omega) hr
  · exact (((((h.below.setCell (p := ⟨g, _, none⟩) hgb _).setCell (p := ⟨g, _, none⟩) hgb _).setCell (p := ⟨g, _, none⟩) hgb _).setCell (p := ⟨g, _, none⟩) hgb _).setCell (p := ⟨g, _, none⟩) hgb _).setCell (p := ⟨g, _, none⟩) hgb _
theorem CL.end {w wr : World} {g n cap : Nat} {vs : List TX4} {l : List TxnD} (h : CL w wr g n cap n vs l) : OwnTs w.heap.size wr (.slice (some ⟨g, 0, none⟩) n cap) l := by
  refine ⟨vs, h.map, by rw [h.len]; exact h.row, fun p hp => ?_⟩
  obtain ⟨j, hj, rfl⟩ := List.getElem_of_mem hp
  have hl : vs.length = n := by rw [← h.len, ← h.map]; simp
  exact h.done j _ (by omega) (by simp [hj])
end Go.Proofs.YtggllgimlfchhabGreat
