/- Several texts as one. -/
import Derived.Test.YtggllgimlfchhaaGreatKZ28
import Derived.Test.YtggllgimlfchhaaGreatR2
import Derived.Deep.RegionHeld3

/- Record: a transaction, read. -/
namespace Go.Proofs.YtggllgimlfchhaaGreat
open Go.RowKit
set_option maxRecDepth 100000

/-- A transaction in rows of one's own. -/
def OwnT (base : Nat) (w : World) (cs : Array Value) (t : TxnD) : Prop :=
  ∃ cv av rv wv, cs = #[.int .i64 t.ses, .int .i64 t.req, cv, av, rv, wv] ∧ w.ownsRow base 5 1 cv t.code.length (ints .u8 t.code) ∧ w.ownsRow base 2 1 av t.args.length (i64C t.args) ∧ w.ownsRow base 90 2 rv t.reads.length (keyCs t.reads) ∧ w.ownsRow base 90 2 wv t.writes.length (keyCs t.writes)
theorem OwnT.but {base R : Nat} {w w' : World} {cs : Array Value} {t : TxnD} (h : OwnT base w cs t) (hk : But R w w') (hR : R < base) : OwnT base w' cs t := by
  obtain ⟨cv, av, rv, wv, h0, h1, h2, h3, h4⟩ := h
  exact ⟨cv, av, rv, wv, h0, own_keepR h1 hk hR, own_keepR h2 hk hR, own_keepR h3 hk hR, own_keepR h4 hk hR⟩
theorem own_other {w w' : World} {base base' e e' size size' n n' : Nat} {v v' : Value} {xs xs' : List Value} (h : w.ownsRow base e size v n xs) (h' : w.ownsRow base' e' size' v' n' xs') (hne : e ≠ e') (hg : w.grownBy w' v'.ownBlock) : w'.ownsRow base e size v n xs := by
  refine h.kept hg ?_
  rcases h.2 with ⟨rfl, _⟩ | ⟨g, cap, cur, rfl, _, hh, _⟩
  · exact .inl rfl
  · refine .inr ?_
    rcases h'.2 with ⟨rfl, _⟩ | ⟨g', cap', cur', rfl, _, hh', _⟩
    · simp [Value.ownBlock]
    · simp only [Value.ownBlock, ne_eq, Option.some.injEq]
      rintro rfl
      rw [hh] at hh'
      cases hh'
      exact hne rfl
theorem OwnT.grown {base base' size' n' : Nat} {w w' : World} {cs : Array Value} {t : TxnD} {v' : Value} {xs' : List Value} (h : OwnT base w cs t) (h' : w.ownsRow base' 26 size' v' n' xs') (hg : w.grownBy w' v'.ownBlock) : OwnT base w' cs t := by
  obtain ⟨cv, av, rv, wv, h0, h1, h2, h3, h4⟩ := h
  exact ⟨cv, av, rv, wv, h0, own_other h1 h' (by decide) hg, own_other h2 h' (by decide) hg, own_other h3 h' (by decide) hg, own_other h4 h' (by decide) hg⟩
theorem OwnT.below {base : Nat} {w w' : World} {cs : Array Value} {t : TxnD} (h : OwnT base w cs t) (hb : Below w.heap.size w w') : OwnT base w' cs t := by
  obtain ⟨cv, av, rv, wv, h0, h1, h2, h3, h4⟩ := h
  exact ⟨cv, av, rv, wv, h0, own_below h1 hb, own_below h2 hb, own_below h3 hb, own_below h4 hb⟩
theorem own_monoN {w : World} {base base' e size n : Nat} {v : Value} {xs : List Value} (h : w.ownsRow base e size v n xs) (hb : base' ≤ base) : w.ownsRow base' e size v n xs := by
  refine ⟨h.1, ?_⟩
  rcases h.2 with hn | ⟨g, cap, cur, hv, hg, r⟩
  · exact .inl hn
  · exact .inr ⟨g, cap, cur, hv, Nat.le_trans hb hg, r⟩

def RS.txn (s : RS) : TxnD × RS :=
  let a := s.num
  let b := a.2.num
  let c := b.2.blob
  let d := c.2.list RS.num
  let e := d.2.list RS.key
  let f := e.2.list RS.key
  (⟨a.1, b.1, c.1, d.1, e.1, f.1⟩, f.2)

set_option maxHeartbeats 6400000 in
theorem txn_r {w : World} {R lo : Nat} {s : RS} (h : RdS w R lo s) :
    Calls Tryz.prog 91 #[.pointer (some ⟨R, 0, none⟩)] w fun e w' => ∃ cs, e = .returned (.agg cs) ∧ OwnT w.heap.size w' cs s.txn.1 ∧ RdS w' R lo s.txn.2 ∧ But R w w' := by
  have hr := h.rlt
  obtain ⟨n1, s1, e1⟩ : ∃ n s', s.num = (n, s') := ⟨_, _, rfl⟩
  obtain ⟨n2, s2, e2⟩ : ∃ n s', s1.num = (n, s') := ⟨_, _, rfl⟩
  obtain ⟨l3, s3, e3⟩ : ∃ n s', s2.blob = (n, s') := ⟨_, _, rfl⟩
  obtain ⟨l4, s4, e4⟩ : ∃ n s', s3.list RS.num = (n, s') := ⟨_, _, rfl⟩
  obtain ⟨l5, s5, e5⟩ : ∃ n s', s4.list RS.key = (n, s') := ⟨_, _, rfl⟩
  obtain ⟨l6, s6, e6⟩ : ∃ n s', s5.list RS.key = (n, s') := ⟨_, _, rfl⟩
  have et : s.txn = (⟨n1, n2, l3, l4, l5, l6⟩, s6) := by simp only [RS.txn, e1, e2, e3, e4, e5, e6]
  rw [et]
  simp only
  have hal : Below w.heap.size w ((w.alloc (.cells #[.int .i64 0, .int .i64 0, .slice none 0 0, .slice none 0 0, .slice none 0 0, .slice none 0 0] 26)).alloc (.cells #[.int .i64 0, .int .i64 0, .slice none 0 0, .slice none 0 0, .slice none 0 0, .slice none 0 0] 26)) := ((Below.refl _ _).alloc (Nat.le_refl _) _).alloc (by simp) _
  have HC0 := hide (num_r (h.below hal))
  rw [e1] at HC0
  simp only at HC0
  have HB0 : Hid (But R w ((w.alloc (.cells #[.int .i64 0, .int .i64 0, .slice none 0 0, .slice none 0 0, .slice none 0 0, .slice none 0 0] 26)).alloc (.cells #[.int .i64 0, .int .i64 0, .slice none 0 0, .slice none 0 0, .slice none 0 0, .slice none 0 0] 26))) := But.of hal
  have HX0 : Hid (((w.alloc (.cells #[.int .i64 0, .int .i64 0, .slice none 0 0, .slice none 0 0, .slice none 0 0, .slice none 0 0] 26)).alloc (.cells #[.int .i64 0, .int .i64 0, .slice none 0 0, .slice none 0 0, .slice none 0 0, .slice none 0 0] 26)).heap[w.heap.size + 1]? = some (.cells #[.int .i64 0, .int .i64 0, .slice none 0 0, .slice none 0 0, .slice none 0 0, .slice none 0 0] 26) ∧ ((w.alloc (.cells #[.int .i64 0, .int .i64 0, .slice none 0 0, .slice none 0 0, .slice none 0 0, .slice none 0 0] 26)).alloc (.cells #[.int .i64 0, .int .i64 0, .slice none 0 0, .slice none 0 0, .slice none 0 0, .slice none 0 0] 26)).heap[w.heap.size]? = some (.cells #[.int .i64 0, .int .i64 0, .slice none 0 0, .slice none 0 0, .slice none 0 0, .slice none 0 0] 26)) := by
    have e : (w.alloc (.cells #[.int .i64 0, .int .i64 0, .slice none 0 0, .slice none 0 0, .slice none 0 0, .slice none 0 0] 26)).heap.size = w.heap.size + 1 := by simp
    have := heap_alloc_new (w.alloc (.cells #[.int .i64 0, .int .i64 0, .slice none 0 0, .slice none 0 0, .slice none 0 0, .slice none 0 0] 26)) (.cells #[.int .i64 0, .int .i64 0, .slice none 0 0, .slice none 0 0, .slice none 0 0, .slice none 0 0] 26)
    rw [e] at this
    exact ⟨this, (Below.heap_alloc _ _ _ (by simp)).trans (heap_alloc_new w _)⟩
  have HSZ0 : Hid (w.heap.size + 2 ≤ ((w.alloc (.cells #[.int .i64 0, .int .i64 0, .slice none 0 0, .slice none 0 0, .slice none 0 0, .slice none 0 0] 26)).alloc (.cells #[.int .i64 0, .int .i64 0, .slice none 0 0, .slice none 0 0, .slice none 0 0, .slice none 0 0] 26)).heap.size) := by show _ ≤ _; simp
  have HE : Hid (s1.num = (n2, s2) ∧ s2.blob = (l3, s3) ∧ s3.list RS.num = (l4, s4) ∧ s4.list RS.key = (l5, s5) ∧ s5.list RS.key = (l6, s6)) := ⟨e2, e3, e4, e5, e6⟩
  clear h hal et e1 e2 e3 e4 e5 e6
  go_enter Tryz.func91, Tryz.ntmps91
  go_wp2_with fail
  refine (unhide HC0).mono ?_
  rintro e y1 ⟨rfl, p0, q0⟩
  have hx0 : y1.heap[w.heap.size + 1]? = some (.cells #[.int .i64 0, .int .i64 0, .slice none 0 0, .slice none 0 0, .slice none 0 0, .slice none 0 0] 26) := q0.same (unhide HX0).1 (by omega)
  have hy0 : y1.heap[w.heap.size]? = some (.cells #[.int .i64 0, .int .i64 0, .slice none 0 0, .slice none 0 0, .slice none 0 0, .slice none 0 0] 26) := q0.same (unhide HX0).2 (by omega)
  have k0 : y1.cell? ⟨w.heap.size + 1, 0, none⟩ = some (.int .i64 0) := cell_of_heap hx0
  have f0 : ∀ o, y1.frozen? ⟨w.heap.size + 1, o, none⟩ = false := fun o => frozen_of_heap hx0
  have HX1 : Hid ((y1.setCell ⟨w.heap.size + 1, 0, none⟩ (.int .i64 n1)).heap[w.heap.size + 1]? = some (.cells #[.int .i64 n1, .int .i64 0, .slice none 0 0, .slice none 0 0, .slice none 0 0, .slice none 0 0] 26) ∧ (y1.setCell ⟨w.heap.size + 1, 0, none⟩ (.int .i64 n1)).heap[w.heap.size]? = some (.cells #[.int .i64 0, .int .i64 0, .slice none 0 0, .slice none 0 0, .slice none 0 0, .slice none 0 0] 26)) := ⟨setCell_heap hx0, (Below.heap_setCell _ _ _ _ (fun e => by simp only at e; omega)).trans hy0⟩
  have hsz0 := Nat.le_trans (unhide HSZ0) q0.size
  have HSZ1 : Hid (w.heap.size + 2 ≤ (y1.setCell ⟨w.heap.size + 1, 0, none⟩ (.int .i64 n1)).heap.size) := by show _ ≤ _; simp only [World.setCell, Array.size_modify]; exact hsz0
  have HR1 := hide (p0.other (b := w.heap.size + 1) (by omega) 0 (.int .i64 n1))
  have HB1 := hide (((unhide HB0).trans q0).new (b := w.heap.size + 1) (by omega) 0 (.int .i64 n1))
  have HC1 := hide (num_r (unhide HR1))
  rw [(unhide HE).1] at HC1
  simp only at HC1
  clear p0 q0 hx0 hy0 hsz0 HC0
  go_wp2_with fail
  refine (unhide HC1).mono ?_
  rintro e y2 ⟨rfl, p1, q1⟩
  have hx1 : y2.heap[w.heap.size + 1]? = some (.cells #[.int .i64 n1, .int .i64 0, .slice none 0 0, .slice none 0 0, .slice none 0 0, .slice none 0 0] 26) := q1.same (unhide HX1).1 (by omega)
  have hy1 : y2.heap[w.heap.size]? = some (.cells #[.int .i64 0, .int .i64 0, .slice none 0 0, .slice none 0 0, .slice none 0 0, .slice none 0 0] 26) := q1.same (unhide HX1).2 (by omega)
  have k1 : y2.cell? ⟨w.heap.size + 1, 1, none⟩ = some (.int .i64 0) := cell_of_heap hx1
  have f1 : ∀ o, y2.frozen? ⟨w.heap.size + 1, o, none⟩ = false := fun o => frozen_of_heap hx1
  have HX2 : Hid ((y2.setCell ⟨w.heap.size + 1, 1, none⟩ (.int .i64 n2)).heap[w.heap.size + 1]? = some (.cells #[.int .i64 n1, .int .i64 n2, .slice none 0 0, .slice none 0 0, .slice none 0 0, .slice none 0 0] 26) ∧ (y2.setCell ⟨w.heap.size + 1, 1, none⟩ (.int .i64 n2)).heap[w.heap.size]? = some (.cells #[.int .i64 0, .int .i64 0, .slice none 0 0, .slice none 0 0, .slice none 0 0, .slice none 0 0] 26)) := ⟨setCell_heap hx1, (Below.heap_setCell _ _ _ _ (fun e => by simp only at e; omega)).trans hy1⟩
  have hsz1 := Nat.le_trans (unhide HSZ1) q1.size
  have HSZ2 : Hid (w.heap.size + 2 ≤ (y2.setCell ⟨w.heap.size + 1, 1, none⟩ (.int .i64 n2)).heap.size) := by show _ ≤ _; simp only [World.setCell, Array.size_modify]; exact hsz1
  have HR2 := hide (p1.other (b := w.heap.size + 1) (by omega) 1 (.int .i64 n2))
  have HB2 := hide (((unhide HB1).trans q1).new (b := w.heap.size + 1) (by omega) 1 (.int .i64 n2))
  have HC2 := hide (blob_r (unhide HR2))
  rw [(unhide HE).2.1] at HC2
  simp only at HC2
  clear p1 q1 hx1 hy1 hsz1 HC1
  go_wp2_with fail
  refine (unhide HC2).mono ?_
  rintro e y3 ⟨x2, rfl, r2, p2, q2⟩
  obtain ⟨a3, c3, rfl⟩ := own_shapeN r2
  have hx2 : y3.heap[w.heap.size + 1]? = some (.cells #[.int .i64 n1, .int .i64 n2, .slice none 0 0, .slice none 0 0, .slice none 0 0, .slice none 0 0] 26) := q2.same (unhide HX2).1 (by omega)
  have hy2 : y3.heap[w.heap.size]? = some (.cells #[.int .i64 0, .int .i64 0, .slice none 0 0, .slice none 0 0, .slice none 0 0, .slice none 0 0] 26) := q2.same (unhide HX2).2 (by omega)
  have k2 : y3.cell? ⟨w.heap.size + 1, 2, none⟩ = some (.slice none 0 0) := cell_of_heap hx2
  have f2 : ∀ o, y3.frozen? ⟨w.heap.size + 1, o, none⟩ = false := fun o => frozen_of_heap hx2
  have HX3 : Hid ((y3.setCell ⟨w.heap.size + 1, 2, none⟩ (.slice a3 l3.length c3)).heap[w.heap.size + 1]? = some (.cells #[.int .i64 n1, .int .i64 n2, .slice a3 l3.length c3, .slice none 0 0, .slice none 0 0, .slice none 0 0] 26) ∧ (y3.setCell ⟨w.heap.size + 1, 2, none⟩ (.slice a3 l3.length c3)).heap[w.heap.size]? = some (.cells #[.int .i64 0, .int .i64 0, .slice none 0 0, .slice none 0 0, .slice none 0 0, .slice none 0 0] 26)) := ⟨setCell_heap hx2, (Below.heap_setCell _ _ _ _ (fun e => by simp only at e; omega)).trans hy2⟩
  have hsz2 := Nat.le_trans (unhide HSZ2) q2.size
  have HSZ3 : Hid (w.heap.size + 2 ≤ (y3.setCell ⟨w.heap.size + 1, 2, none⟩ (.slice a3 l3.length c3)).heap.size) := by show _ ≤ _; simp only [World.setCell, Array.size_modify]; exact hsz2
  have HR3 := hide (p2.other (b := w.heap.size + 1) (by omega) 2 (.slice a3 l3.length c3))
  have HB3 := hide (((unhide HB2).trans q2).new (b := w.heap.size + 1) (by omega) 2 (.slice a3 l3.length c3))
  have HO3x2 : Hid ((y3.setCell ⟨w.heap.size + 1, 2, none⟩ (.slice a3 l3.length c3)).ownsRow (w.heap.size + 2) 5 1 (.slice a3 l3.length c3) l3.length (ints .u8 l3)) := own_setR (own_monoN r2 (unhide HSZ2)) (by omega) 2 _
  have HC3 := hide (takeInts_r (unhide HR3))
  rw [(unhide HE).2.2.1] at HC3
  simp only at HC3
  clear p2 q2 hx2 hy2 hsz2 r2 HC2
  go_wp2_with fail
  refine (unhide HC3).mono ?_
  rintro e y4 ⟨x3, rfl, r3, p3, q3⟩
  obtain ⟨a4, c4, rfl⟩ := own_shapeN r3
  have hx3 : y4.heap[w.heap.size + 1]? = some (.cells #[.int .i64 n1, .int .i64 n2, .slice a3 l3.length c3, .slice none 0 0, .slice none 0 0, .slice none 0 0] 26) := q3.same (unhide HX3).1 (by omega)
  have hy3 : y4.heap[w.heap.size]? = some (.cells #[.int .i64 0, .int .i64 0, .slice none 0 0, .slice none 0 0, .slice none 0 0, .slice none 0 0] 26) := q3.same (unhide HX3).2 (by omega)
  have k3 : y4.cell? ⟨w.heap.size + 1, 3, none⟩ = some (.slice none 0 0) := cell_of_heap hx3
  have f3 : ∀ o, y4.frozen? ⟨w.heap.size + 1, o, none⟩ = false := fun o => frozen_of_heap hx3
  have HX4 : Hid ((y4.setCell ⟨w.heap.size + 1, 3, none⟩ (.slice a4 l4.length c4)).heap[w.heap.size + 1]? = some (.cells #[.int .i64 n1, .int .i64 n2, .slice a3 l3.length c3, .slice a4 l4.length c4, .slice none 0 0, .slice none 0 0] 26) ∧ (y4.setCell ⟨w.heap.size + 1, 3, none⟩ (.slice a4 l4.length c4)).heap[w.heap.size]? = some (.cells #[.int .i64 0, .int .i64 0, .slice none 0 0, .slice none 0 0, .slice none 0 0, .slice none 0 0] 26)) := ⟨setCell_heap hx3, (Below.heap_setCell _ _ _ _ (fun e => by simp only at e; omega)).trans hy3⟩
  have hsz3 := Nat.le_trans (unhide HSZ3) q3.size
  have HSZ4 : Hid (w.heap.size + 2 ≤ (y4.setCell ⟨w.heap.size + 1, 3, none⟩ (.slice a4 l4.length c4)).heap.size) := by show _ ≤ _; simp only [World.setCell, Array.size_modify]; exact hsz3
  have HR4 := hide (p3.other (b := w.heap.size + 1) (by omega) 3 (.slice a4 l4.length c4))
  have HB4 := hide (((unhide HB3).trans q3).new (b := w.heap.size + 1) (by omega) 3 (.slice a4 l4.length c4))
  have HO3x3 := hide (own_setR (own_keepR (unhide HO3x2) q3 (by omega)) (by omega : w.heap.size + 1 < w.heap.size + 2) 3 (.slice a4 l4.length c4))
  have HO4x3 : Hid ((y4.setCell ⟨w.heap.size + 1, 3, none⟩ (.slice a4 l4.length c4)).ownsRow (w.heap.size + 2) 2 1 (.slice a4 l4.length c4) l4.length (i64C l4)) := own_setR (own_monoN r3 (unhide HSZ3)) (by omega) 3 _
  have HC4 := hide (takeKeys_r (unhide HR4))
  rw [(unhide HE).2.2.2.1] at HC4
  simp only at HC4
  clear p3 q3 hx3 hy3 hsz3 r3 HC3
  go_wp2_with fail
  refine (unhide HC4).mono ?_
  rintro e y5 ⟨x4, rfl, r4, p4, q4⟩
  obtain ⟨a5, c5, rfl⟩ := own_shapeN r4
  have hx4 : y5.heap[w.heap.size + 1]? = some (.cells #[.int .i64 n1, .int .i64 n2, .slice a3 l3.length c3, .slice a4 l4.length c4, .slice none 0 0, .slice none 0 0] 26) := q4.same (unhide HX4).1 (by omega)
  have hy4 : y5.heap[w.heap.size]? = some (.cells #[.int .i64 0, .int .i64 0, .slice none 0 0, .slice none 0 0, .slice none 0 0, .slice none 0 0] 26) := q4.same (unhide HX4).2 (by omega)
  have k4 : y5.cell? ⟨w.heap.size + 1, 4, none⟩ = some (.slice none 0 0) := cell_of_heap hx4
  have f4 : ∀ o, y5.frozen? ⟨w.heap.size + 1, o, none⟩ = false := fun o => frozen_of_heap hx4
  have HX5 : Hid ((y5.setCell ⟨w.heap.size + 1, 4, none⟩ (.slice a5 l5.length c5)).heap[w.heap.size + 1]? = some (.cells #[.int .i64 n1, .int .i64 n2, .slice a3 l3.length c3, .slice a4 l4.length c4, .slice a5 l5.length c5, .slice none 0 0] 26) ∧ (y5.setCell ⟨w.heap.size + 1, 4, none⟩ (.slice a5 l5.length c5)).heap[w.heap.size]? = some (.cells #[.int .i64 0, .int .i64 0, .slice none 0 0, .slice none 0 0, .slice none 0 0, .slice none 0 0] 26)) := ⟨setCell_heap hx4, (Below.heap_setCell _ _ _ _ (fun e => by simp only at e; omega)).trans hy4⟩
  have hsz4 := Nat.le_trans (unhide HSZ4) q4.size
  have HSZ5 : Hid (w.heap.size + 2 ≤ (y5.setCell ⟨w.heap.size + 1, 4, none⟩ (.slice a5 l5.length c5)).heap.size) := by show _ ≤ _; simp only [World.setCell, Array.size_modify]; exact hsz4
  have HR5 := hide (p4.other (b := w.heap.size + 1) (by omega) 4 (.slice a5 l5.length c5))
  have HB5 := hide (((unhide HB4).trans q4).new (b := w.heap.size + 1) (by omega) 4 (.slice a5 l5.length c5))
  have HO3x4 := hide (own_setR (own_keepR (unhide HO3x3) q4 (by omega)) (by omega : w.heap.size + 1 < w.heap.size + 2) 4 (.slice a5 l5.length c5))
  have HO4x4 := hide (own_setR (own_keepR (unhide HO4x3) q4 (by omega)) (by omega : w.heap.size + 1 < w.heap.size + 2) 4 (.slice a5 l5.length c5))
  have HO5x4 : Hid ((y5.setCell ⟨w.heap.size + 1, 4, none⟩ (.slice a5 l5.length c5)).ownsRow (w.heap.size + 2) 90 2 (.slice a5 l5.length c5) l5.length (keyCs l5)) := own_setR (own_monoN r4 (unhide HSZ4)) (by omega) 4 _
  have HC5 := hide (takeKeys_r (unhide HR5))
  rw [(unhide HE).2.2.2.2] at HC5
  simp only at HC5
  clear p4 q4 hx4 hy4 hsz4 r4 HC4
  go_wp2_with fail
  refine (unhide HC5).mono ?_
  rintro e y6 ⟨x5, rfl, r5, p5, q5⟩
  obtain ⟨a6, c6, rfl⟩ := own_shapeN r5
  have hx5 : y6.heap[w.heap.size + 1]? = some (.cells #[.int .i64 n1, .int .i64 n2, .slice a3 l3.length c3, .slice a4 l4.length c4, .slice a5 l5.length c5, .slice none 0 0] 26) := q5.same (unhide HX5).1 (by omega)
  have hy5 : y6.heap[w.heap.size]? = some (.cells #[.int .i64 0, .int .i64 0, .slice none 0 0, .slice none 0 0, .slice none 0 0, .slice none 0 0] 26) := q5.same (unhide HX5).2 (by omega)
  have k5 : y6.cell? ⟨w.heap.size + 1, 5, none⟩ = some (.slice none 0 0) := cell_of_heap hx5
  have f5 : ∀ o, y6.frozen? ⟨w.heap.size + 1, o, none⟩ = false := fun o => frozen_of_heap hx5
  have HX6 : Hid ((y6.setCell ⟨w.heap.size + 1, 5, none⟩ (.slice a6 l6.length c6)).heap[w.heap.size + 1]? = some (.cells #[.int .i64 n1, .int .i64 n2, .slice a3 l3.length c3, .slice a4 l4.length c4, .slice a5 l5.length c5, .slice a6 l6.length c6] 26) ∧ (y6.setCell ⟨w.heap.size + 1, 5, none⟩ (.slice a6 l6.length c6)).heap[w.heap.size]? = some (.cells #[.int .i64 0, .int .i64 0, .slice none 0 0, .slice none 0 0, .slice none 0 0, .slice none 0 0] 26)) := ⟨setCell_heap hx5, (Below.heap_setCell _ _ _ _ (fun e => by simp only at e; omega)).trans hy5⟩
  have hsz5 := Nat.le_trans (unhide HSZ5) q5.size
  have HSZ6 : Hid (w.heap.size + 2 ≤ (y6.setCell ⟨w.heap.size + 1, 5, none⟩ (.slice a6 l6.length c6)).heap.size) := by show _ ≤ _; simp only [World.setCell, Array.size_modify]; exact hsz5
  have HR6 := hide (p5.other (b := w.heap.size + 1) (by omega) 5 (.slice a6 l6.length c6))
  have HB6 := hide (((unhide HB5).trans q5).new (b := w.heap.size + 1) (by omega) 5 (.slice a6 l6.length c6))
  have HO3x5 := hide (own_setR (own_keepR (unhide HO3x4) q5 (by omega)) (by omega : w.heap.size + 1 < w.heap.size + 2) 5 (.slice a6 l6.length c6))
  have HO4x5 := hide (own_setR (own_keepR (unhide HO4x4) q5 (by omega)) (by omega : w.heap.size + 1 < w.heap.size + 2) 5 (.slice a6 l6.length c6))
  have HO5x5 := hide (own_setR (own_keepR (unhide HO5x4) q5 (by omega)) (by omega : w.heap.size + 1 < w.heap.size + 2) 5 (.slice a6 l6.length c6))
  have HO6x5 : Hid ((y6.setCell ⟨w.heap.size + 1, 5, none⟩ (.slice a6 l6.length c6)).ownsRow (w.heap.size + 2) 90 2 (.slice a6 l6.length c6) l6.length (keyCs l6)) := own_setR (own_monoN r5 (unhide HSZ5)) (by omega) 5 _
  clear p5 q5 hx5 hy5 hsz5 r5 HC5
  have m0 := unhide HX6
  obtain ⟨y7, hy7⟩ : ∃ y7, (y6.setCell ⟨w.heap.size + 1, 5, none⟩ (.slice a6 l6.length c6)) = y7 := ⟨_, rfl⟩
  rw [hy7] at m0 HR6 HB6 HO3x5 HO4x5 HO5x5 HO6x5
  have t0 : y7.cell? ⟨w.heap.size + 1, 0, none⟩ = some (.int .i64 n1) := cell_of_heap m0.1
  have t1 : y7.cell? ⟨w.heap.size + 1, 1, none⟩ = some (.int .i64 n2) := cell_of_heap m0.1
  have t2 : y7.cell? ⟨w.heap.size + 1, 2, none⟩ = some (.slice a3 l3.length c3) := cell_of_heap m0.1
  have t3 : y7.cell? ⟨w.heap.size + 1, 3, none⟩ = some (.slice a4 l4.length c4) := cell_of_heap m0.1
  have t4 : y7.cell? ⟨w.heap.size + 1, 4, none⟩ = some (.slice a5 l5.length c5) := cell_of_heap m0.1
  have t5 : y7.cell? ⟨w.heap.size + 1, 5, none⟩ = some (.slice a6 l6.length c6) := cell_of_heap m0.1
  have z0 : y7.cell? ⟨w.heap.size, 0, none⟩ = some (.int .i64 0) := cell_of_heap m0.2
  have z1 : y7.cell? ⟨w.heap.size, 1, none⟩ = some (.int .i64 0) := cell_of_heap m0.2
  have z2 : y7.cell? ⟨w.heap.size, 2, none⟩ = some (.slice none 0 0) := cell_of_heap m0.2
  have z3 : y7.cell? ⟨w.heap.size, 3, none⟩ = some (.slice none 0 0) := cell_of_heap m0.2
  have z4 : y7.cell? ⟨w.heap.size, 4, none⟩ = some (.slice none 0 0) := cell_of_heap m0.2
  have z5 : y7.cell? ⟨w.heap.size, 5, none⟩ = some (.slice none 0 0) := cell_of_heap m0.2
  have fz7 : ∀ o, y7.frozen? ⟨w.heap.size, o, none⟩ = false := fun o => frozen_of_heap m0.2
  have M0 := hide m0
  clear m0
  go_wp2_with fail
  refine bodyPost_ret (results_cell_row rfl _ _ w.heap.size 26 #[.int .i64 n1, .int .i64 n2, .slice a3 l3.length c3, .slice a4 l4.length c4, .slice a5 l5.length c5, .slice a6 l6.length c6] (0, 0) _ rfl (setCell_heap (setCell_heap (setCell_heap (setCell_heap (setCell_heap (setCell_heap (unhide M0).2)))))) Tryz.underlying26 rfl (by kernel_rfl)) rfl ?_
  refine ⟨_, rfl, ⟨_, _, _, _, rfl, ?_, ?_, ?_, ?_⟩, (((((((unhide HR6).other hr _ _).other hr _ _).other hr _ _).other hr _ _).other hr _ _).other hr _ _), (((((((unhide HB6).new (Nat.le_refl _) _ _).new (Nat.le_refl _) _ _).new (Nat.le_refl _) _ _).new (Nat.le_refl _) _ _).new (Nat.le_refl _) _ _).new (Nat.le_refl _) _ _)⟩
  · exact own_monoN (own_setR (own_setR (own_setR (own_setR (own_setR (own_setR (unhide HO3x5) (by omega) _ _) (by omega) _ _) (by omega) _ _) (by omega) _ _) (by omega) _ _) (by omega) _ _) (by omega)
  · exact own_monoN (own_setR (own_setR (own_setR (own_setR (own_setR (own_setR (unhide HO4x5) (by omega) _ _) (by omega) _ _) (by omega) _ _) (by omega) _ _) (by omega) _ _) (by omega) _ _) (by omega)
  · exact own_monoN (own_setR (own_setR (own_setR (own_setR (own_setR (own_setR (unhide HO5x5) (by omega) _ _) (by omega) _ _) (by omega) _ _) (by omega) _ _) (by omega) _ _) (by omega) _ _) (by omega)
  · exact own_monoN (own_setR (own_setR (own_setR (own_setR (own_setR (own_setR (unhide HO6x5) (by omega) _ _) (by omega) _ _) (by omega) _ _) (by omega) _ _) (by omega) _ _) (by omega) _ _) (by omega)
end Go.Proofs.YtggllgimlfchhaaGreat

/- The document's own reader (package trivetref04): Fail, Num, Data, Len. -/
namespace Go.Proofs.YtggllgimlfchhaaGreat
open Go.RowKit
set_option maxRecDepth 100000

/-- The document's reader at block R, over the bytes z0: what is left is behind some place. -/
structure Dr (w : World) (R lo : Nat) (z0 : List Int) (s : RS) : Prop where
  cb : ∃ v, w.cell? ⟨R, 0, none⟩ = some v ∧ SeesB lo w .u8 v z0
  ca : ∃ k : Nat, w.cell? ⟨R, 1, none⟩ = some (.int .i64 k) ∧ k ≤ z0.length ∧ s.zs = z0.drop k
  ce : w.cell? ⟨R, 2, none⟩ = some (.int .i64 s.er)
  cu : w.cell? ⟨R, 3, none⟩ = some (.bool s.un)
  fr : ∀ o, w.frozen? ⟨R, o, none⟩ = false
  lt : lo ≤ R
  byt : Byt z0
  len : z0.length ≤ 140737488351232
theorem Dr.rlt {w : World} {R lo : Nat} {z0 : List Int} {s : RS} (h : Dr w R lo z0 s) : R < w.heap.size := World.block_lt_of_cell? w _ h.ce
theorem Dr.keep {w w' : World} {R lo : Nat} {z0 : List Int} {s : RS} (h : Dr w R lo z0 s) (hb : ∀ k, k ≤ R → w'.heap[k]? = w.heap[k]?) : Dr w' R lo z0 s := by
  obtain ⟨v, h1, h2⟩ := h.cb
  obtain ⟨k, h3, h4, h5⟩ := h.ca
  have hl := h.lt
  have c : ∀ o u, w.cell? ⟨R, o, none⟩ = some u → w'.cell? ⟨R, o, none⟩ = some u := fun o u e => (World.cell?_of_block (a := ⟨R, o, none⟩) (hb R (Nat.le_refl _))).trans e
  refine ⟨⟨v, c _ _ h1, ?_⟩, ⟨k, c _ _ h3, h4, h5⟩, c _ _ h.ce, c _ _ h.cu, fun o => (World.frozen?_of_block (w := w) (hb R (Nat.le_refl _))).trans (h.fr o), hl, h.byt, h.len⟩
  obtain ⟨ao, cap, e, g1, g2, g3⟩ := h2
  exact ⟨ao, cap, e, g1, g2, fun a ha t ht => by
    obtain ⟨q1, q2⟩ := g3 a ha t ht
    exact ⟨(World.cell?_of_block (hb _ (by omega))).trans q1, q2⟩⟩
theorem Dr.below {w w' : World} {R lo : Nat} {z0 : List Int} {s : RS} (h : Dr w R lo z0 s) (hb : Below w.heap.size w w') : Dr w' R lo z0 s :=
  h.keep fun k hk => hb.block k (by have := h.rlt; omega)
theorem Dr.move {w : World} {R lo : Nat} {z0 : List Int} {s : RS} {k j : Nat} (h : Dr w R lo z0 s) (hk : w.cell? ⟨R, 1, none⟩ = some (.int .i64 k)) (hz : s.zs = z0.drop k) (hj : k + j ≤ z0.length) :
    Dr (w.setCell ⟨R, 1, none⟩ (.int .i64 ((k + j : Nat) : Int))) R lo z0 ⟨s.zs.drop j, s.er, s.un⟩ := by
  obtain ⟨v0, h1, h2⟩ := h.cb
  have n10 : (⟨R, 1, none⟩ : Addr) ≠ ⟨R, 0, none⟩ := by simp
  have n12 : (⟨R, 1, none⟩ : Addr) ≠ ⟨R, 2, none⟩ := by simp
  have n13 : (⟨R, 1, none⟩ : Addr) ≠ ⟨R, 3, none⟩ := by simp
  refine ⟨⟨v0, (World.cell?_setCell_other _ _ _ _ n10).trans h1, h2.setR h.lt _ _⟩, ⟨k + j, World.cell?_setCell_same _ _ _ hk, hj, by rw [hz, List.drop_drop]⟩, (World.cell?_setCell_other _ _ _ _ n12).trans h.ce, (World.cell?_setCell_other _ _ _ _ n13).trans h.cu, fun o => ?_, h.lt, h.byt, h.len⟩
  rw [World.frozen?_setCell]
  exact h.fr o
theorem Dr.err {w : World} {R lo : Nat} {z0 : List Int} {s : RS} {er' : Int} (h : Dr w R lo z0 s) : Dr (w.setCell ⟨R, 2, none⟩ (.int .i64 er')) R lo z0 ⟨s.zs, er', s.un⟩ := by
  obtain ⟨v0, h1, h2⟩ := h.cb
  obtain ⟨k, h3, h4, h5⟩ := h.ca
  have n20 : (⟨R, 2, none⟩ : Addr) ≠ ⟨R, 0, none⟩ := by simp
  have n21 : (⟨R, 2, none⟩ : Addr) ≠ ⟨R, 1, none⟩ := by simp
  have n23 : (⟨R, 2, none⟩ : Addr) ≠ ⟨R, 3, none⟩ := by simp
  refine ⟨⟨v0, (World.cell?_setCell_other _ _ _ _ n20).trans h1, h2.setR h.lt _ _⟩, ⟨k, (World.cell?_setCell_other _ _ _ _ n21).trans h3, h4, h5⟩, World.cell?_setCell_same _ _ _ h.ce, (World.cell?_setCell_other _ _ _ _ n23).trans h.cu, fun o => ?_, h.lt, h.byt, h.len⟩
  rw [World.frozen?_setCell]
  exact h.fr o
theorem Dr.odd {w : World} {R lo : Nat} {z0 : List Int} {s : RS} {un' : Bool} (h : Dr w R lo z0 s) : Dr (w.setCell ⟨R, 3, none⟩ (.bool un')) R lo z0 ⟨s.zs, s.er, un'⟩ := by
  obtain ⟨v0, h1, h2⟩ := h.cb
  obtain ⟨k, h3, h4, h5⟩ := h.ca
  have n30 : (⟨R, 3, none⟩ : Addr) ≠ ⟨R, 0, none⟩ := by simp
  have n31 : (⟨R, 3, none⟩ : Addr) ≠ ⟨R, 1, none⟩ := by simp
  have n32 : (⟨R, 3, none⟩ : Addr) ≠ ⟨R, 2, none⟩ := by simp
  refine ⟨⟨v0, (World.cell?_setCell_other _ _ _ _ n30).trans h1, h2.setR h.lt _ _⟩, ⟨k, (World.cell?_setCell_other _ _ _ _ n31).trans h3, h4, h5⟩, (World.cell?_setCell_other _ _ _ _ n32).trans h.ce, World.cell?_setCell_same _ _ _ h.cu, fun o => ?_, h.lt, h.byt, h.len⟩
  rw [World.frozen?_setCell]
  exact h.fr o

set_option maxHeartbeats 400000 in
theorem fail_d {w : World} {R lo : Nat} {z0 : List Int} {s : RS} (h : Dr w R lo z0 s) (e0 : Int) (he : s.er = 0) :
    Calls Tryz.prog 96 #[.pointer (some ⟨R, 0, none⟩), .int .i64 e0] w fun e w' => e = .returned (.tuple #[]) ∧ w' = w.setCell ⟨R, 2, none⟩ (.int .i64 e0) := by
  have h1 := h.ce
  have hfr := h.fr
  rw [he] at h1
  clear h
  go_enter Tryz.func96, Tryz.ntmps96
  go_wp2
  go_end0
  exact ⟨rfl, rfl⟩
set_option maxHeartbeats 400000 in
theorem fail_d' {w : World} {R lo : Nat} {z0 : List Int} {s : RS} (h : Dr w R lo z0 s) (e0 : Int) (he : s.er ≠ 0) :
    Calls Tryz.prog 96 #[.pointer (some ⟨R, 0, none⟩), .int .i64 e0] w fun e w' => e = .returned (.tuple #[]) ∧ w' = w := by
  have h1 := h.ce
  have hb : (s.er == 0) = false := beq_eq_false_iff_ne.2 he
  clear h
  go_enter Tryz.func96, Tryz.ntmps96
  go_wp2
  go_end0
  exact ⟨rfl, rfl⟩

theorem addr_set_other (R : Nat) (w : World) (u : Value) : (w.setCell ⟨R, 2, none⟩ u).cell? ⟨R, 1, none⟩ = w.cell? ⟨R, 1, none⟩ := World.cell?_setCell_other _ _ _ _ (by simp)

set_option maxHeartbeats 1600000 in
theorem num_d {w : World} {R lo : Nat} {z0 : List Int} {s : RS} (h : Dr w R lo z0 s) :
    Calls Tryz.prog 93 #[.pointer (some ⟨R, 0, none⟩)] w fun e w' => e = .returned (.int .i64 s.num.1) ∧ Dr w' R lo z0 s.num.2 ∧ But R w w' := by
  by_cases he : s.er = 0
  · obtain ⟨v, hv, hsb⟩ := h.cb
    obtain ⟨k, hk, hkl, hkz⟩ := h.ca
    have h1 := h.ce
    have hfr := h.fr
    have hlen := h.len
    have hno := tn_no s.zs
    have hle := tn_size s.zs
    have hnum : s.num = ((tn s.zs).1, ⟨s.zs.drop (tn s.zs).2.1, (tn s.zs).2.2, s.un⟩) := by unfold RS.num; rw [if_pos he]
    rw [hnum]
    rw [he] at h1
    obtain ⟨ao, cap, rfl, hcap, hnil, _⟩ := id hsb
    have hcut := hsb.cut k (z0.length - k) (by omega)
    rw [List.take_of_length_le (by rw [List.length_drop]; omega), ← hkz] at hcut
    have hlz : s.zs.length = z0.length - k := by rw [hkz, List.length_drop]
    have hd : Below w.heap.size w w.drew := (Below.refl _ _).drew
    have HBD := hide (But.of (R := R) hd)
    have hx := h.below hd
    have HT := hide (refTake_any _ s.zs w.drew (hcut.sees.below hd) (by rw [hkz]; exact h.byt.drop k) (by omega))
    have HF : Hid (∀ e0, Calls Tryz.prog 96 #[.pointer (some ⟨R, 0, none⟩), .int .i64 e0] w.drew fun e w' => e = .returned (.tuple #[]) ∧ w' = w.drew.setCell ⟨R, 2, none⟩ (.int .i64 e0)) := fun e0 => fail_d hx e0 he
    have HM : Hid (∀ j, j ≤ s.zs.length → Dr (w.drew.setCell ⟨R, 1, none⟩ (.int .i64 ((k + j : Nat) : Int))) R lo z0 ⟨s.zs.drop j, s.er, s.un⟩) := fun j hj => hx.move hk hkz (by omega)
    have HE : Hid (∀ er', Dr (w.drew.setCell ⟨R, 2, none⟩ (.int .i64 er')) R lo z0 ⟨s.zs, er', s.un⟩) := fun er' => hx.err
    clear h hsb hcut hnum hd hx
    generalize tn s.zs = t at *
    obtain ⟨n, j, e⟩ := t
    simp only at hle hno HT ⊢
    by_cases hee : e = 0
    · subst hee
      have hkj : wrap64 ((k : Int) + j) = ((k + j : Nat) : Int) := by unfold wrap64; omega
      have HD : Hid (Dr (w.drew.setCell ⟨R, 1, none⟩ (.int .i64 ((k + j : Nat) : Int))) R lo z0 ⟨s.zs.drop j, 0, s.un⟩) := by have := unhide HM j hle; rw [he] at this; exact this
      clear hno HM HE HF
      by_cases hck : cap = k
      · subst hck
        rw [if_pos rfl] at HT
        have hz0 : z0.length - cap = 0 := by omega
        have hz1 : cap - cap = 0 := by omega
        rw [hz0, hz1] at HT
        have hle2 : z0.length = cap := by omega
        go_enter Tryz.func93, Tryz.ntmps93
        go_wp2_with fail
        refine wp_region_held_drew (S := fun x => x.cell? ⟨R, 0, none⟩ = some (.slice ao z0.length cap) ∧ x.cell? ⟨R, 1, none⟩ = some (.int .i64 cap)) (by kernel_rfl) ⟨hv, hk⟩ (fun hHeld => ?_)
        refine wpAnyH_take (i := 0) (v := ?v1x0) rfl (by kernel_rfl) (by kernel_rfl) (by kernel_rfl) (fun _ _ _ h => h) (Or.inl ⟨by rfl, ?hy1x0⟩) (by assumption) ?rest1x0
        case hy1x0 => intro w hSw; obtain ⟨g0, g1⟩ := hSw; go_simp <;> with_reducible rfl
        simp only [Act.put, List.getElem_toArray, List.getElem_cons_zero, List.setIfInBounds_toArray, List.set_cons_zero, List.set_cons_succ]
        refine wpAnyH_take (i := 1) (v := ?v2x1) rfl (by kernel_rfl) (by kernel_rfl) (by kernel_rfl) (fun _ _ _ h => h) (Or.inl ⟨by rfl, ?hy2x1⟩) (by assumption) ?rest2x1
        case hy2x1 => intro w hSw; obtain ⟨g0, g1⟩ := hSw; go_simp <;> with_reducible rfl
        simp only [Act.put, List.getElem_toArray, List.getElem_cons_zero, List.getElem_cons_succ, List.setIfInBounds_toArray, List.set_cons_zero, List.set_cons_succ]
        refine wpAnyH_take (i := 2) (v := ?v3x2) rfl (by kernel_rfl) (by kernel_rfl) (by kernel_rfl) (fun _ _ _ h => h) (Or.inl ⟨by rfl, ?hy3x2⟩) (by assumption) ?rest3x2
        case hy3x2 => intro w hSw; obtain ⟨g0, g1⟩ := hSw; go_simp <;> with_reducible rfl
        simp only [Act.put, List.getElem_toArray, List.getElem_cons_zero, List.getElem_cons_succ, List.setIfInBounds_toArray, List.set_cons_zero, List.set_cons_succ]
        refine wpAnyH_take (i := 3) (v := (.slice ao z0.length cap)) rfl (by kernel_rfl) (by kernel_rfl) (by kernel_rfl) (fun _ _ _ h => h) (Or.inl ⟨by rfl, ?hy4x3⟩) (by assumption) ?rest4x3
        case hy4x3 => intro w hSw; obtain ⟨g0, g1⟩ := hSw; go_simp <;> with_reducible rfl
        simp only [Act.put, List.getElem_toArray, List.getElem_cons_zero, List.getElem_cons_succ, List.setIfInBounds_toArray, List.set_cons_zero, List.set_cons_succ]
        refine wpAnyH_take (i := 4) (v := ?v5x4) rfl (by kernel_rfl) (by kernel_rfl) (by kernel_rfl) (fun _ _ _ h => h) (Or.inl ⟨by rfl, ?hy5x4⟩) (by assumption) ?rest5x4
        case hy5x4 => intro w hSw; obtain ⟨g0, g1⟩ := hSw; go_simp <;> with_reducible rfl
        simp only [Act.put, List.getElem_toArray, List.getElem_cons_zero, List.getElem_cons_succ, List.setIfInBounds_toArray, List.set_cons_zero, List.set_cons_succ]
        refine wpAnyH_take (i := 5) (v := ?v6x5) rfl (by kernel_rfl) (by kernel_rfl) (by kernel_rfl) (fun _ _ _ h => h) (Or.inl ⟨by rfl, ?hy6x5⟩) (by assumption) ?rest6x5
        case hy6x5 => intro w hSw; obtain ⟨g0, g1⟩ := hSw; go_simp <;> with_reducible rfl
        simp only [Act.put, List.getElem_toArray, List.getElem_cons_zero, List.getElem_cons_succ, List.setIfInBounds_toArray, List.set_cons_zero, List.set_cons_succ]
        refine wpAnyH_take (i := 6) (v := ?v7x6) rfl (by kernel_rfl) (by kernel_rfl) (by kernel_rfl) (fun _ _ _ h => h) (Or.inl ⟨by rfl, ?hy7x6⟩) (by assumption) ?rest7x6
        case hy7x6 => intro w hSw; obtain ⟨g0, g1⟩ := hSw; go_simp <;> with_reducible rfl
        simp only [Act.put, List.getElem_toArray, List.getElem_cons_zero, List.getElem_cons_succ, List.setIfInBounds_toArray, List.set_cons_zero, List.set_cons_succ]
        refine wpAnyH_take (i := 7) (v := (.int .i64 cap)) rfl (by kernel_rfl) (by kernel_rfl) (by kernel_rfl) (fun _ _ _ h => h) (Or.inl ⟨by rfl, ?hy8x7⟩) (by assumption) ?rest8x7
        case hy8x7 => intro w hSw; obtain ⟨g0, g1⟩ := hSw; go_simp <;> with_reducible rfl
        simp only [Act.put, List.getElem_toArray, List.getElem_cons_zero, List.getElem_cons_succ, List.setIfInBounds_toArray, List.set_cons_zero, List.set_cons_succ]
        refine wpAnyH_take (i := 8) (v := (.slice ao 0 0)) rfl (by kernel_rfl) (by kernel_rfl) (by kernel_rfl) (fun _ _ _ h => h) (Or.inl ⟨by rfl, ?hy9x8⟩) (by assumption) ?rest9x8
        case hy9x8 => intro w hSw; obtain ⟨g0, g1⟩ := hSw; go_simp <;> with_reducible rfl
        simp only [Act.put, List.getElem_toArray, List.getElem_cons_zero, List.getElem_cons_succ, List.setIfInBounds_toArray, List.set_cons_zero, List.set_cons_succ]
        refine wpAnyH_ready (rs := [9]) (by kernel_rfl) (by simp) ?_
        refine AllReadyH.cons rfl (fun K hK => ?_) AllReadyH.nil
        go_simp
        refine (unhide HT).mono ?_
        rintro e wq ⟨rfl, rfl⟩
        refine hK _ _ ⟨hv, hk⟩ ?_
        clear hK hHeld
        intro hHeld
        refine wpAnyH_take (i := 10) (v := ?v10x10) rfl (by kernel_rfl) (by kernel_rfl) (by kernel_rfl) (fun _ _ _ h => h) (Or.inl ⟨by rfl, ?hy10x10⟩) (by assumption) ?rest10x10
        case hy10x10 => intro w hSw; obtain ⟨g0, g1⟩ := hSw; go_simp <;> with_reducible rfl
        simp only [Act.put, List.getElem_toArray, List.getElem_cons_zero, List.getElem_cons_succ, List.setIfInBounds_toArray, List.set_cons_zero, List.set_cons_succ]
        refine wpAnyH_take (i := 11) (v := ?v11x11) rfl (by kernel_rfl) (by kernel_rfl) (by kernel_rfl) (fun _ _ _ h => h) (Or.inl ⟨by rfl, ?hy11x11⟩) (by assumption) ?rest11x11
        case hy11x11 => intro w hSw; obtain ⟨g0, g1⟩ := hSw; go_simp <;> with_reducible rfl
        simp only [Act.put, List.getElem_toArray, List.getElem_cons_zero, List.getElem_cons_succ, List.setIfInBounds_toArray, List.set_cons_zero, List.set_cons_succ]
        refine wpAnyH_take (i := 14) (v := ?v12x14) rfl (by kernel_rfl) (by kernel_rfl) (by kernel_rfl) (fun _ _ _ h => h) (Or.inl ⟨by rfl, ?hy12x14⟩) (by assumption) ?rest12x14
        case hy12x14 => intro w hSw; obtain ⟨g0, g1⟩ := hSw; go_simp <;> with_reducible rfl
        simp only [Act.put, List.getElem_toArray, List.getElem_cons_zero, List.getElem_cons_succ, List.setIfInBounds_toArray, List.set_cons_zero, List.set_cons_succ]
        refine wpAnyH_take (i := 12) (v := ?v13x12) rfl (by kernel_rfl) (by kernel_rfl) (by kernel_rfl) (fun _ _ _ h => h) (Or.inl ⟨by rfl, ?hy13x12⟩) (by assumption) ?rest13x12
        case hy13x12 => intro w hSw; obtain ⟨g0, g1⟩ := hSw; go_simp <;> with_reducible rfl
        simp only [Act.put, List.getElem_toArray, List.getElem_cons_zero, List.getElem_cons_succ, List.setIfInBounds_toArray, List.set_cons_zero, List.set_cons_succ]
        refine wpAnyH_take (i := 15) (v := ?v14x15) rfl (by kernel_rfl) (by kernel_rfl) (by kernel_rfl) (fun _ _ _ h => h) (Or.inl ⟨by rfl, ?hy14x15⟩) (by assumption) ?rest14x15
        case hy14x15 => intro w hSw; obtain ⟨g0, g1⟩ := hSw; go_simp <;> with_reducible rfl
        simp only [Act.put, List.getElem_toArray, List.getElem_cons_zero, List.getElem_cons_succ, List.setIfInBounds_toArray, List.set_cons_zero, List.set_cons_succ]
        refine wpAnyH_take (i := 13) (v := ?v15x13) rfl (by kernel_rfl) (by kernel_rfl) (by kernel_rfl) (fun _ _ _ h => h) (Or.inl ⟨by rfl, ?hy15x13⟩) (by assumption) ?rest15x13
        case hy15x13 => intro w hSw; obtain ⟨g0, g1⟩ := hSw; go_simp <;> with_reducible rfl
        simp only [Act.put, List.getElem_toArray, List.getElem_cons_zero, List.getElem_cons_succ, List.setIfInBounds_toArray, List.set_cons_zero, List.set_cons_succ]
        refine wpAnyH_take (i := 16) (v := ?v16x16) rfl (by kernel_rfl) (by kernel_rfl) (by kernel_rfl) (fun _ _ _ h => h) (Or.inl ⟨by rfl, ?hy16x16⟩) (by assumption) ?rest16x16
        case hy16x16 => intro w hSw; obtain ⟨g0, g1⟩ := hSw; go_simp <;> with_reducible rfl
        simp only [Act.put, List.getElem_toArray, List.getElem_cons_zero, List.getElem_cons_succ, List.setIfInBounds_toArray, List.set_cons_zero, List.set_cons_succ]
        refine wpAnyH_done (by kernel_rfl) ?_ _
        go_wp2_with fail
        go_ret
        exact ⟨rfl, unhide HD, (unhide HBD).set 1 _⟩
      · rw [if_neg hck] at HT
        go_enter Tryz.func93, Tryz.ntmps93
        go_wp2_with fail
        refine wp_region_held_drew (S := fun x => x.cell? ⟨R, 0, none⟩ = some (.slice ao z0.length cap) ∧ x.cell? ⟨R, 1, none⟩ = some (.int .i64 k)) (by kernel_rfl) ⟨hv, hk⟩ (fun hHeld => ?_)
        refine wpAnyH_take (i := 0) (v := ?v17x0) rfl (by kernel_rfl) (by kernel_rfl) (by kernel_rfl) (fun _ _ _ h => h) (Or.inl ⟨by rfl, ?hy17x0⟩) (by assumption) ?rest17x0
        case hy17x0 => intro w hSw; obtain ⟨g0, g1⟩ := hSw; go_simp <;> with_reducible rfl
        simp only [Act.put, List.getElem_toArray, List.getElem_cons_zero, List.setIfInBounds_toArray, List.set_cons_zero, List.set_cons_succ]
        refine wpAnyH_take (i := 1) (v := ?v18x1) rfl (by kernel_rfl) (by kernel_rfl) (by kernel_rfl) (fun _ _ _ h => h) (Or.inl ⟨by rfl, ?hy18x1⟩) (by assumption) ?rest18x1
        case hy18x1 => intro w hSw; obtain ⟨g0, g1⟩ := hSw; go_simp <;> with_reducible rfl
        simp only [Act.put, List.getElem_toArray, List.getElem_cons_zero, List.getElem_cons_succ, List.setIfInBounds_toArray, List.set_cons_zero, List.set_cons_succ]
        refine wpAnyH_take (i := 2) (v := ?v19x2) rfl (by kernel_rfl) (by kernel_rfl) (by kernel_rfl) (fun _ _ _ h => h) (Or.inl ⟨by rfl, ?hy19x2⟩) (by assumption) ?rest19x2
        case hy19x2 => intro w hSw; obtain ⟨g0, g1⟩ := hSw; go_simp <;> with_reducible rfl
        simp only [Act.put, List.getElem_toArray, List.getElem_cons_zero, List.getElem_cons_succ, List.setIfInBounds_toArray, List.set_cons_zero, List.set_cons_succ]
        refine wpAnyH_take (i := 3) (v := (.slice ao z0.length cap)) rfl (by kernel_rfl) (by kernel_rfl) (by kernel_rfl) (fun _ _ _ h => h) (Or.inl ⟨by rfl, ?hy20x3⟩) (by assumption) ?rest20x3
        case hy20x3 => intro w hSw; obtain ⟨g0, g1⟩ := hSw; go_simp <;> with_reducible rfl
        simp only [Act.put, List.getElem_toArray, List.getElem_cons_zero, List.getElem_cons_succ, List.setIfInBounds_toArray, List.set_cons_zero, List.set_cons_succ]
        refine wpAnyH_take (i := 4) (v := ?v21x4) rfl (by kernel_rfl) (by kernel_rfl) (by kernel_rfl) (fun _ _ _ h => h) (Or.inl ⟨by rfl, ?hy21x4⟩) (by assumption) ?rest21x4
        case hy21x4 => intro w hSw; obtain ⟨g0, g1⟩ := hSw; go_simp <;> with_reducible rfl
        simp only [Act.put, List.getElem_toArray, List.getElem_cons_zero, List.getElem_cons_succ, List.setIfInBounds_toArray, List.set_cons_zero, List.set_cons_succ]
        refine wpAnyH_take (i := 5) (v := ?v22x5) rfl (by kernel_rfl) (by kernel_rfl) (by kernel_rfl) (fun _ _ _ h => h) (Or.inl ⟨by rfl, ?hy22x5⟩) (by assumption) ?rest22x5
        case hy22x5 => intro w hSw; obtain ⟨g0, g1⟩ := hSw; go_simp <;> with_reducible rfl
        simp only [Act.put, List.getElem_toArray, List.getElem_cons_zero, List.getElem_cons_succ, List.setIfInBounds_toArray, List.set_cons_zero, List.set_cons_succ]
        refine wpAnyH_take (i := 6) (v := ?v23x6) rfl (by kernel_rfl) (by kernel_rfl) (by kernel_rfl) (fun _ _ _ h => h) (Or.inl ⟨by rfl, ?hy23x6⟩) (by assumption) ?rest23x6
        case hy23x6 => intro w hSw; obtain ⟨g0, g1⟩ := hSw; go_simp <;> with_reducible rfl
        simp only [Act.put, List.getElem_toArray, List.getElem_cons_zero, List.getElem_cons_succ, List.setIfInBounds_toArray, List.set_cons_zero, List.set_cons_succ]
        refine wpAnyH_take (i := 7) (v := (.int .i64 k)) rfl (by kernel_rfl) (by kernel_rfl) (by kernel_rfl) (fun _ _ _ h => h) (Or.inl ⟨by rfl, ?hy24x7⟩) (by assumption) ?rest24x7
        case hy24x7 => intro w hSw; obtain ⟨g0, g1⟩ := hSw; go_simp <;> with_reducible rfl
        simp only [Act.put, List.getElem_toArray, List.getElem_cons_zero, List.getElem_cons_succ, List.setIfInBounds_toArray, List.set_cons_zero, List.set_cons_succ]
        refine wpAnyH_take (i := 8) (v := (.slice (Option.map (fun x => x.add k) ao) (z0.length - k) (cap - k))) rfl (by kernel_rfl) (by kernel_rfl) (by kernel_rfl) (fun _ _ _ h => h) (Or.inl ⟨by rfl, ?hy25x8⟩) (by assumption) ?rest25x8
        case hy25x8 => intro w hSw; obtain ⟨g0, g1⟩ := hSw; go_simp <;> with_reducible rfl
        simp only [Act.put, List.getElem_toArray, List.getElem_cons_zero, List.getElem_cons_succ, List.setIfInBounds_toArray, List.set_cons_zero, List.set_cons_succ]
        refine wpAnyH_ready (rs := [9]) (by kernel_rfl) (by simp) ?_
        refine AllReadyH.cons rfl (fun K hK => ?_) AllReadyH.nil
        go_simp
        refine (unhide HT).mono ?_
        rintro e wq ⟨rfl, rfl⟩
        refine hK _ _ ⟨hv, hk⟩ ?_
        clear hK hHeld
        intro hHeld
        refine wpAnyH_take (i := 10) (v := ?v26x10) rfl (by kernel_rfl) (by kernel_rfl) (by kernel_rfl) (fun _ _ _ h => h) (Or.inl ⟨by rfl, ?hy26x10⟩) (by assumption) ?rest26x10
        case hy26x10 => intro w hSw; obtain ⟨g0, g1⟩ := hSw; go_simp <;> with_reducible rfl
        simp only [Act.put, List.getElem_toArray, List.getElem_cons_zero, List.getElem_cons_succ, List.setIfInBounds_toArray, List.set_cons_zero, List.set_cons_succ]
        refine wpAnyH_take (i := 11) (v := ?v27x11) rfl (by kernel_rfl) (by kernel_rfl) (by kernel_rfl) (fun _ _ _ h => h) (Or.inl ⟨by rfl, ?hy27x11⟩) (by assumption) ?rest27x11
        case hy27x11 => intro w hSw; obtain ⟨g0, g1⟩ := hSw; go_simp <;> with_reducible rfl
        simp only [Act.put, List.getElem_toArray, List.getElem_cons_zero, List.getElem_cons_succ, List.setIfInBounds_toArray, List.set_cons_zero, List.set_cons_succ]
        refine wpAnyH_take (i := 14) (v := ?v28x14) rfl (by kernel_rfl) (by kernel_rfl) (by kernel_rfl) (fun _ _ _ h => h) (Or.inl ⟨by rfl, ?hy28x14⟩) (by assumption) ?rest28x14
        case hy28x14 => intro w hSw; obtain ⟨g0, g1⟩ := hSw; go_simp <;> with_reducible rfl
        simp only [Act.put, List.getElem_toArray, List.getElem_cons_zero, List.getElem_cons_succ, List.setIfInBounds_toArray, List.set_cons_zero, List.set_cons_succ]
        refine wpAnyH_take (i := 12) (v := ?v29x12) rfl (by kernel_rfl) (by kernel_rfl) (by kernel_rfl) (fun _ _ _ h => h) (Or.inl ⟨by rfl, ?hy29x12⟩) (by assumption) ?rest29x12
        case hy29x12 => intro w hSw; obtain ⟨g0, g1⟩ := hSw; go_simp <;> with_reducible rfl
        simp only [Act.put, List.getElem_toArray, List.getElem_cons_zero, List.getElem_cons_succ, List.setIfInBounds_toArray, List.set_cons_zero, List.set_cons_succ]
        refine wpAnyH_take (i := 15) (v := ?v30x15) rfl (by kernel_rfl) (by kernel_rfl) (by kernel_rfl) (fun _ _ _ h => h) (Or.inl ⟨by rfl, ?hy30x15⟩) (by assumption) ?rest30x15
        case hy30x15 => intro w hSw; obtain ⟨g0, g1⟩ := hSw; go_simp <;> with_reducible rfl
        simp only [Act.put, List.getElem_toArray, List.getElem_cons_zero, List.getElem_cons_succ, List.setIfInBounds_toArray, List.set_cons_zero, List.set_cons_succ]
        refine wpAnyH_take (i := 13) (v := ?v31x13) rfl (by kernel_rfl) (by kernel_rfl) (by kernel_rfl) (fun _ _ _ h => h) (Or.inl ⟨by rfl, ?hy31x13⟩) (by assumption) ?rest31x13
        case hy31x13 => intro w hSw; obtain ⟨g0, g1⟩ := hSw; go_simp <;> with_reducible rfl
        simp only [Act.put, List.getElem_toArray, List.getElem_cons_zero, List.getElem_cons_succ, List.setIfInBounds_toArray, List.set_cons_zero, List.set_cons_succ]
        refine wpAnyH_take (i := 16) (v := ?v32x16) rfl (by kernel_rfl) (by kernel_rfl) (by kernel_rfl) (fun _ _ _ h => h) (Or.inl ⟨by rfl, ?hy32x16⟩) (by assumption) ?rest32x16
        case hy32x16 => intro w hSw; obtain ⟨g0, g1⟩ := hSw; go_simp <;> with_reducible rfl
        simp only [Act.put, List.getElem_toArray, List.getElem_cons_zero, List.getElem_cons_succ, List.setIfInBounds_toArray, List.set_cons_zero, List.set_cons_succ]
        refine wpAnyH_done (by kernel_rfl) ?_ _
        go_wp2_with fail
        go_ret
        exact ⟨rfl, unhide HD, (unhide HBD).set 1 _⟩
    · obtain ⟨rfl, rfl⟩ := hno hee
      have hbe : (e != 0) = true := bne_iff_ne.2 hee
      have HD : Hid (Dr (w.drew.setCell ⟨R, 2, none⟩ (.int .i64 e)) R lo z0 ⟨s.zs.drop 0, e, s.un⟩) := unhide HE e
      clear hno HM HE
      by_cases hck : cap = k
      · subst hck
        rw [if_pos rfl] at HT
        have hz0 : z0.length - cap = 0 := by omega
        have hz1 : cap - cap = 0 := by omega
        rw [hz0, hz1] at HT
        have hle2 : z0.length = cap := by omega
        go_enter Tryz.func93, Tryz.ntmps93
        go_wp2_with fail
        refine wp_region_held_drew (S := fun x => x.cell? ⟨R, 0, none⟩ = some (.slice ao z0.length cap) ∧ x.cell? ⟨R, 1, none⟩ = some (.int .i64 cap)) (by kernel_rfl) ⟨hv, hk⟩ (fun hHeld => ?_)
        refine wpAnyH_take (i := 0) (v := ?v33x0) rfl (by kernel_rfl) (by kernel_rfl) (by kernel_rfl) (fun _ _ _ h => h) (Or.inl ⟨by rfl, ?hy33x0⟩) (by assumption) ?rest33x0
        case hy33x0 => intro w hSw; obtain ⟨g0, g1⟩ := hSw; go_simp <;> with_reducible rfl
        simp only [Act.put, List.getElem_toArray, List.getElem_cons_zero, List.setIfInBounds_toArray, List.set_cons_zero, List.set_cons_succ]
        refine wpAnyH_take (i := 1) (v := ?v34x1) rfl (by kernel_rfl) (by kernel_rfl) (by kernel_rfl) (fun _ _ _ h => h) (Or.inl ⟨by rfl, ?hy34x1⟩) (by assumption) ?rest34x1
        case hy34x1 => intro w hSw; obtain ⟨g0, g1⟩ := hSw; go_simp <;> with_reducible rfl
        simp only [Act.put, List.getElem_toArray, List.getElem_cons_zero, List.getElem_cons_succ, List.setIfInBounds_toArray, List.set_cons_zero, List.set_cons_succ]
        refine wpAnyH_take (i := 2) (v := ?v35x2) rfl (by kernel_rfl) (by kernel_rfl) (by kernel_rfl) (fun _ _ _ h => h) (Or.inl ⟨by rfl, ?hy35x2⟩) (by assumption) ?rest35x2
        case hy35x2 => intro w hSw; obtain ⟨g0, g1⟩ := hSw; go_simp <;> with_reducible rfl
        simp only [Act.put, List.getElem_toArray, List.getElem_cons_zero, List.getElem_cons_succ, List.setIfInBounds_toArray, List.set_cons_zero, List.set_cons_succ]
        refine wpAnyH_take (i := 3) (v := (.slice ao z0.length cap)) rfl (by kernel_rfl) (by kernel_rfl) (by kernel_rfl) (fun _ _ _ h => h) (Or.inl ⟨by rfl, ?hy36x3⟩) (by assumption) ?rest36x3
        case hy36x3 => intro w hSw; obtain ⟨g0, g1⟩ := hSw; go_simp <;> with_reducible rfl
        simp only [Act.put, List.getElem_toArray, List.getElem_cons_zero, List.getElem_cons_succ, List.setIfInBounds_toArray, List.set_cons_zero, List.set_cons_succ]
        refine wpAnyH_take (i := 4) (v := ?v37x4) rfl (by kernel_rfl) (by kernel_rfl) (by kernel_rfl) (fun _ _ _ h => h) (Or.inl ⟨by rfl, ?hy37x4⟩) (by assumption) ?rest37x4
        case hy37x4 => intro w hSw; obtain ⟨g0, g1⟩ := hSw; go_simp <;> with_reducible rfl
        simp only [Act.put, List.getElem_toArray, List.getElem_cons_zero, List.getElem_cons_succ, List.setIfInBounds_toArray, List.set_cons_zero, List.set_cons_succ]
        refine wpAnyH_take (i := 5) (v := ?v38x5) rfl (by kernel_rfl) (by kernel_rfl) (by kernel_rfl) (fun _ _ _ h => h) (Or.inl ⟨by rfl, ?hy38x5⟩) (by assumption) ?rest38x5
        case hy38x5 => intro w hSw; obtain ⟨g0, g1⟩ := hSw; go_simp <;> with_reducible rfl
        simp only [Act.put, List.getElem_toArray, List.getElem_cons_zero, List.getElem_cons_succ, List.setIfInBounds_toArray, List.set_cons_zero, List.set_cons_succ]
        refine wpAnyH_take (i := 6) (v := ?v39x6) rfl (by kernel_rfl) (by kernel_rfl) (by kernel_rfl) (fun _ _ _ h => h) (Or.inl ⟨by rfl, ?hy39x6⟩) (by assumption) ?rest39x6
        case hy39x6 => intro w hSw; obtain ⟨g0, g1⟩ := hSw; go_simp <;> with_reducible rfl
        simp only [Act.put, List.getElem_toArray, List.getElem_cons_zero, List.getElem_cons_succ, List.setIfInBounds_toArray, List.set_cons_zero, List.set_cons_succ]
        refine wpAnyH_take (i := 7) (v := (.int .i64 cap)) rfl (by kernel_rfl) (by kernel_rfl) (by kernel_rfl) (fun _ _ _ h => h) (Or.inl ⟨by rfl, ?hy40x7⟩) (by assumption) ?rest40x7
        case hy40x7 => intro w hSw; obtain ⟨g0, g1⟩ := hSw; go_simp <;> with_reducible rfl
        simp only [Act.put, List.getElem_toArray, List.getElem_cons_zero, List.getElem_cons_succ, List.setIfInBounds_toArray, List.set_cons_zero, List.set_cons_succ]
        refine wpAnyH_take (i := 8) (v := (.slice ao 0 0)) rfl (by kernel_rfl) (by kernel_rfl) (by kernel_rfl) (fun _ _ _ h => h) (Or.inl ⟨by rfl, ?hy41x8⟩) (by assumption) ?rest41x8
        case hy41x8 => intro w hSw; obtain ⟨g0, g1⟩ := hSw; go_simp <;> with_reducible rfl
        simp only [Act.put, List.getElem_toArray, List.getElem_cons_zero, List.getElem_cons_succ, List.setIfInBounds_toArray, List.set_cons_zero, List.set_cons_succ]
        refine wpAnyH_ready (rs := [9]) (by kernel_rfl) (by simp) ?_
        refine AllReadyH.cons rfl (fun K hK => ?_) AllReadyH.nil
        go_simp
        refine (unhide HT).mono ?_
        rintro e wq ⟨rfl, rfl⟩
        refine hK _ _ ⟨hv, hk⟩ ?_
        clear hK hHeld
        intro hHeld
        refine wpAnyH_take (i := 10) (v := ?v42x10) rfl (by kernel_rfl) (by kernel_rfl) (by kernel_rfl) (fun _ _ _ h => h) (Or.inl ⟨by rfl, ?hy42x10⟩) (by assumption) ?rest42x10
        case hy42x10 => intro w hSw; obtain ⟨g0, g1⟩ := hSw; go_simp <;> with_reducible rfl
        simp only [Act.put, List.getElem_toArray, List.getElem_cons_zero, List.getElem_cons_succ, List.setIfInBounds_toArray, List.set_cons_zero, List.set_cons_succ]
        refine wpAnyH_take (i := 11) (v := ?v43x11) rfl (by kernel_rfl) (by kernel_rfl) (by kernel_rfl) (fun _ _ _ h => h) (Or.inl ⟨by rfl, ?hy43x11⟩) (by assumption) ?rest43x11
        case hy43x11 => intro w hSw; obtain ⟨g0, g1⟩ := hSw; go_simp <;> with_reducible rfl
        simp only [Act.put, List.getElem_toArray, List.getElem_cons_zero, List.getElem_cons_succ, List.setIfInBounds_toArray, List.set_cons_zero, List.set_cons_succ]
        refine wpAnyH_take (i := 14) (v := ?v44x14) rfl (by kernel_rfl) (by kernel_rfl) (by kernel_rfl) (fun _ _ _ h => h) (Or.inl ⟨by rfl, ?hy44x14⟩) (by assumption) ?rest44x14
        case hy44x14 => intro w hSw; obtain ⟨g0, g1⟩ := hSw; go_simp <;> with_reducible rfl
        simp only [Act.put, List.getElem_toArray, List.getElem_cons_zero, List.getElem_cons_succ, List.setIfInBounds_toArray, List.set_cons_zero, List.set_cons_succ]
        refine wpAnyH_take (i := 12) (v := ?v45x12) rfl (by kernel_rfl) (by kernel_rfl) (by kernel_rfl) (fun _ _ _ h => h) (Or.inl ⟨by rfl, ?hy45x12⟩) (by assumption) ?rest45x12
        case hy45x12 => intro w hSw; obtain ⟨g0, g1⟩ := hSw; go_simp <;> with_reducible rfl
        simp only [Act.put, List.getElem_toArray, List.getElem_cons_zero, List.getElem_cons_succ, List.setIfInBounds_toArray, List.set_cons_zero, List.set_cons_succ]
        refine wpAnyH_take (i := 15) (v := ?v46x15) rfl (by kernel_rfl) (by kernel_rfl) (by kernel_rfl) (fun _ _ _ h => h) (Or.inl ⟨by rfl, ?hy46x15⟩) (by assumption) ?rest46x15
        case hy46x15 => intro w hSw; obtain ⟨g0, g1⟩ := hSw; go_simp <;> with_reducible rfl
        simp only [Act.put, List.getElem_toArray, List.getElem_cons_zero, List.getElem_cons_succ, List.setIfInBounds_toArray, List.set_cons_zero, List.set_cons_succ]
        refine wpAnyH_take (i := 13) (v := ?v47x13) rfl (by kernel_rfl) (by kernel_rfl) (by kernel_rfl) (fun _ _ _ h => h) (Or.inl ⟨by rfl, ?hy47x13⟩) (by assumption) ?rest47x13
        case hy47x13 => intro w hSw; obtain ⟨g0, g1⟩ := hSw; go_simp <;> with_reducible rfl
        simp only [Act.put, List.getElem_toArray, List.getElem_cons_zero, List.getElem_cons_succ, List.setIfInBounds_toArray, List.set_cons_zero, List.set_cons_succ]
        refine wpAnyH_take (i := 16) (v := ?v48x16) rfl (by kernel_rfl) (by kernel_rfl) (by kernel_rfl) (fun _ _ _ h => h) (Or.inl ⟨by rfl, ?hy48x16⟩) (by assumption) ?rest48x16
        case hy48x16 => intro w hSw; obtain ⟨g0, g1⟩ := hSw; go_simp <;> with_reducible rfl
        simp only [Act.put, List.getElem_toArray, List.getElem_cons_zero, List.getElem_cons_succ, List.setIfInBounds_toArray, List.set_cons_zero, List.set_cons_succ]
        refine wpAnyH_done (by kernel_rfl) ?_ _
        go_wp2_with fail
        refine (unhide HF e).mono ?_
        rintro er w2 ⟨rfl, rfl⟩
        go_wp2_with fail
        go_ret
        exact ⟨rfl, unhide HD, (unhide HBD).set 2 _⟩
      · rw [if_neg hck] at HT
        go_enter Tryz.func93, Tryz.ntmps93
        go_wp2_with fail
        refine wp_region_held_drew (S := fun x => x.cell? ⟨R, 0, none⟩ = some (.slice ao z0.length cap) ∧ x.cell? ⟨R, 1, none⟩ = some (.int .i64 k)) (by kernel_rfl) ⟨hv, hk⟩ (fun hHeld => ?_)
        refine wpAnyH_take (i := 0) (v := ?v49x0) rfl (by kernel_rfl) (by kernel_rfl) (by kernel_rfl) (fun _ _ _ h => h) (Or.inl ⟨by rfl, ?hy49x0⟩) (by assumption) ?rest49x0
        case hy49x0 => intro w hSw; obtain ⟨g0, g1⟩ := hSw; go_simp <;> with_reducible rfl
        simp only [Act.put, List.getElem_toArray, List.getElem_cons_zero, List.setIfInBounds_toArray, List.set_cons_zero, List.set_cons_succ]
        refine wpAnyH_take (i := 1) (v := ?v50x1) rfl (by kernel_rfl) (by kernel_rfl) (by kernel_rfl) (fun _ _ _ h => h) (Or.inl ⟨by rfl, ?hy50x1⟩) (by assumption) ?rest50x1
        case hy50x1 => intro w hSw; obtain ⟨g0, g1⟩ := hSw; go_simp <;> with_reducible rfl
        simp only [Act.put, List.getElem_toArray, List.getElem_cons_zero, List.getElem_cons_succ, List.setIfInBounds_toArray, List.set_cons_zero, List.set_cons_succ]
        refine wpAnyH_take (i := 2) (v := ?v51x2) rfl (by kernel_rfl) (by kernel_rfl) (by kernel_rfl) (fun _ _ _ h => h) (Or.inl ⟨by rfl, ?hy51x2⟩) (by assumption) ?rest51x2
        case hy51x2 => intro w hSw; obtain ⟨g0, g1⟩ := hSw; go_simp <;> with_reducible rfl
        simp only [Act.put, List.getElem_toArray, List.getElem_cons_zero, List.getElem_cons_succ, List.setIfInBounds_toArray, List.set_cons_zero, List.set_cons_succ]
        refine wpAnyH_take (i := 3) (v := (.slice ao z0.length cap)) rfl (by kernel_rfl) (by kernel_rfl) (by kernel_rfl) (fun _ _ _ h => h) (Or.inl ⟨by rfl, ?hy52x3⟩) (by assumption) ?rest52x3
        case hy52x3 => intro w hSw; obtain ⟨g0, g1⟩ := hSw; go_simp <;> with_reducible rfl
        simp only [Act.put, List.getElem_toArray, List.getElem_cons_zero, List.getElem_cons_succ, List.setIfInBounds_toArray, List.set_cons_zero, List.set_cons_succ]
        refine wpAnyH_take (i := 4) (v := ?v53x4) rfl (by kernel_rfl) (by kernel_rfl) (by kernel_rfl) (fun _ _ _ h => h) (Or.inl ⟨by rfl, ?hy53x4⟩) (by assumption) ?rest53x4
        case hy53x4 => intro w hSw; obtain ⟨g0, g1⟩ := hSw; go_simp <;> with_reducible rfl
        simp only [Act.put, List.getElem_toArray, List.getElem_cons_zero, List.getElem_cons_succ, List.setIfInBounds_toArray, List.set_cons_zero, List.set_cons_succ]
        refine wpAnyH_take (i := 5) (v := ?v54x5) rfl (by kernel_rfl) (by kernel_rfl) (by kernel_rfl) (fun _ _ _ h => h) (Or.inl ⟨by rfl, ?hy54x5⟩) (by assumption) ?rest54x5
        case hy54x5 => intro w hSw; obtain ⟨g0, g1⟩ := hSw; go_simp <;> with_reducible rfl
        simp only [Act.put, List.getElem_toArray, List.getElem_cons_zero, List.getElem_cons_succ, List.setIfInBounds_toArray, List.set_cons_zero, List.set_cons_succ]
        refine wpAnyH_take (i := 6) (v := ?v55x6) rfl (by kernel_rfl) (by kernel_rfl) (by kernel_rfl) (fun _ _ _ h => h) (Or.inl ⟨by rfl, ?hy55x6⟩) (by assumption) ?rest55x6
        case hy55x6 => intro w hSw; obtain ⟨g0, g1⟩ := hSw; go_simp <;> with_reducible rfl
        simp only [Act.put, List.getElem_toArray, List.getElem_cons_zero, List.getElem_cons_succ, List.setIfInBounds_toArray, List.set_cons_zero, List.set_cons_succ]
        refine wpAnyH_take (i := 7) (v := (.int .i64 k)) rfl (by kernel_rfl) (by kernel_rfl) (by kernel_rfl) (fun _ _ _ h => h) (Or.inl ⟨by rfl, ?hy56x7⟩) (by assumption) ?rest56x7
        case hy56x7 => intro w hSw; obtain ⟨g0, g1⟩ := hSw; go_simp <;> with_reducible rfl
        simp only [Act.put, List.getElem_toArray, List.getElem_cons_zero, List.getElem_cons_succ, List.setIfInBounds_toArray, List.set_cons_zero, List.set_cons_succ]
        refine wpAnyH_take (i := 8) (v := (.slice (Option.map (fun x => x.add k) ao) (z0.length - k) (cap - k))) rfl (by kernel_rfl) (by kernel_rfl) (by kernel_rfl) (fun _ _ _ h => h) (Or.inl ⟨by rfl, ?hy57x8⟩) (by assumption) ?rest57x8
        case hy57x8 => intro w hSw; obtain ⟨g0, g1⟩ := hSw; go_simp <;> with_reducible rfl
        simp only [Act.put, List.getElem_toArray, List.getElem_cons_zero, List.getElem_cons_succ, List.setIfInBounds_toArray, List.set_cons_zero, List.set_cons_succ]
        refine wpAnyH_ready (rs := [9]) (by kernel_rfl) (by simp) ?_
        refine AllReadyH.cons rfl (fun K hK => ?_) AllReadyH.nil
        go_simp
        refine (unhide HT).mono ?_
        rintro e wq ⟨rfl, rfl⟩
        refine hK _ _ ⟨hv, hk⟩ ?_
        clear hK hHeld
        intro hHeld
        refine wpAnyH_take (i := 10) (v := ?v58x10) rfl (by kernel_rfl) (by kernel_rfl) (by kernel_rfl) (fun _ _ _ h => h) (Or.inl ⟨by rfl, ?hy58x10⟩) (by assumption) ?rest58x10
        case hy58x10 => intro w hSw; obtain ⟨g0, g1⟩ := hSw; go_simp <;> with_reducible rfl
        simp only [Act.put, List.getElem_toArray, List.getElem_cons_zero, List.getElem_cons_succ, List.setIfInBounds_toArray, List.set_cons_zero, List.set_cons_succ]
        refine wpAnyH_take (i := 11) (v := ?v59x11) rfl (by kernel_rfl) (by kernel_rfl) (by kernel_rfl) (fun _ _ _ h => h) (Or.inl ⟨by rfl, ?hy59x11⟩) (by assumption) ?rest59x11
        case hy59x11 => intro w hSw; obtain ⟨g0, g1⟩ := hSw; go_simp <;> with_reducible rfl
        simp only [Act.put, List.getElem_toArray, List.getElem_cons_zero, List.getElem_cons_succ, List.setIfInBounds_toArray, List.set_cons_zero, List.set_cons_succ]
        refine wpAnyH_take (i := 14) (v := ?v60x14) rfl (by kernel_rfl) (by kernel_rfl) (by kernel_rfl) (fun _ _ _ h => h) (Or.inl ⟨by rfl, ?hy60x14⟩) (by assumption) ?rest60x14
        case hy60x14 => intro w hSw; obtain ⟨g0, g1⟩ := hSw; go_simp <;> with_reducible rfl
        simp only [Act.put, List.getElem_toArray, List.getElem_cons_zero, List.getElem_cons_succ, List.setIfInBounds_toArray, List.set_cons_zero, List.set_cons_succ]
        refine wpAnyH_take (i := 12) (v := ?v61x12) rfl (by kernel_rfl) (by kernel_rfl) (by kernel_rfl) (fun _ _ _ h => h) (Or.inl ⟨by rfl, ?hy61x12⟩) (by assumption) ?rest61x12
        case hy61x12 => intro w hSw; obtain ⟨g0, g1⟩ := hSw; go_simp <;> with_reducible rfl
        simp only [Act.put, List.getElem_toArray, List.getElem_cons_zero, List.getElem_cons_succ, List.setIfInBounds_toArray, List.set_cons_zero, List.set_cons_succ]
        refine wpAnyH_take (i := 15) (v := ?v62x15) rfl (by kernel_rfl) (by kernel_rfl) (by kernel_rfl) (fun _ _ _ h => h) (Or.inl ⟨by rfl, ?hy62x15⟩) (by assumption) ?rest62x15
        case hy62x15 => intro w hSw; obtain ⟨g0, g1⟩ := hSw; go_simp <;> with_reducible rfl
        simp only [Act.put, List.getElem_toArray, List.getElem_cons_zero, List.getElem_cons_succ, List.setIfInBounds_toArray, List.set_cons_zero, List.set_cons_succ]
        refine wpAnyH_take (i := 13) (v := ?v63x13) rfl (by kernel_rfl) (by kernel_rfl) (by kernel_rfl) (fun _ _ _ h => h) (Or.inl ⟨by rfl, ?hy63x13⟩) (by assumption) ?rest63x13
        case hy63x13 => intro w hSw; obtain ⟨g0, g1⟩ := hSw; go_simp <;> with_reducible rfl
        simp only [Act.put, List.getElem_toArray, List.getElem_cons_zero, List.getElem_cons_succ, List.setIfInBounds_toArray, List.set_cons_zero, List.set_cons_succ]
        refine wpAnyH_take (i := 16) (v := ?v64x16) rfl (by kernel_rfl) (by kernel_rfl) (by kernel_rfl) (fun _ _ _ h => h) (Or.inl ⟨by rfl, ?hy64x16⟩) (by assumption) ?rest64x16
        case hy64x16 => intro w hSw; obtain ⟨g0, g1⟩ := hSw; go_simp <;> with_reducible rfl
        simp only [Act.put, List.getElem_toArray, List.getElem_cons_zero, List.getElem_cons_succ, List.setIfInBounds_toArray, List.set_cons_zero, List.set_cons_succ]
        refine wpAnyH_done (by kernel_rfl) ?_ _
        go_wp2_with fail
        refine (unhide HF e).mono ?_
        rintro er w2 ⟨rfl, rfl⟩
        go_wp2_with fail
        go_ret
        exact ⟨rfl, unhide HD, (unhide HBD).set 2 _⟩
  · have hnum : s.num = (0, s) := by unfold RS.num; rw [if_neg he]
    rw [hnum]
    have h1 := h.ce
    have hbe : (s.er != 0) = true := bne_iff_ne.2 he
    have HH := hide h
    clear h
    go_enter Tryz.func93, Tryz.ntmps93
    go_wp2_with fail
    go_ret
    exact ⟨rfl, unhide HH, But.refl _ _⟩

/-- What Len says of what it read. -/
def lenV (n : Int) : Int := if 0 ≤ n ∧ n ≤ 4096 then n else 0
theorem lenV_nat (n : Int) : ∃ m : Nat, lenV n = m ∧ m ≤ 4096 := by
  unfold lenV
  split
  · exact ⟨n.toNat, by omega, by omega⟩
  · exact ⟨0, rfl, by omega⟩
theorem num_er {s : RS} (h : s.er ≠ 0) : s.num = (0, s) := by unfold RS.num; rw [if_neg h]
theorem num_bad {s : RS} (h : s.num.2.er ≠ 0) : s.num.1 = 0 := by
  by_cases he : s.er = 0
  · unfold RS.num at h ⊢
    rw [if_pos he] at h ⊢
    exact (tn_no s.zs h).1
  · rw [num_er he]
set_option maxHeartbeats 800000 in
theorem len_d {w : World} {R lo : Nat} {z0 : List Int} {s : RS} (h : Dr w R lo z0 s) :
    Calls Tryz.prog 94 #[.pointer (some ⟨R, 0, none⟩)] w fun e w' => e = .returned (.int .i64 (lenV s.num.1)) ∧ Dr w' R lo z0 s.len ∧ But R w w' := by
  have HN := hide (num_d h)
  have HB := hide (fun (g : s.num.2.er ≠ 0) => num_bad g)
  have hl : s.len = s.num.2.must (decide (0 ≤ s.num.1 ∧ s.num.1 ≤ 4096)) := rfl
  rw [hl]
  clear hl h
  generalize s.num = t at *
  obtain ⟨n, s1⟩ := t
  simp only at HN HB ⊢
  unfold lenV
  by_cases c : 0 ≤ n ∧ n ≤ 4096
  · rw [if_pos c, decide_eq_true c, must_true]
    obtain ⟨c1, c2⟩ := c
    have hw : wrap64 n = n := by unfold wrap64; omega
    have hw' : IntKind.i64.wrap n = n := wrap_i64 _ (by omega) (by omega)
    go_enter Tryz.func94, Tryz.ntmps94
    go_wp2_with fail
    refine (unhide HN).mono ?_
    rintro e w1 ⟨rfl, h1, h2⟩
    have HD : Hid (Dr w1 R lo z0 s1 ∧ But R w w1) := ⟨h1, h2⟩
    clear h1 h2
    go_wp2_with fail
    go_ret
    exact ⟨rfl, unhide HD⟩
  · rw [if_neg c, decide_eq_false c]
    have he : s1.er = 0 := Classical.byContradiction fun g => by have := unhide HB g; omega
    rw [must_false s1 he]
    by_cases c1 : n < 0
    · go_enter Tryz.func94, Tryz.ntmps94
      go_wp2_with fail
      refine (unhide HN).mono ?_
      rintro e w1 ⟨rfl, h1, h2⟩
      have HF := hide (fail_d h1 40 he)
      have HD : Hid (Dr (w1.setCell ⟨R, 2, none⟩ (.int .i64 40)) R lo z0 ⟨s1.zs, 40, s1.un⟩ ∧ But R w (w1.setCell ⟨R, 2, none⟩ (.int .i64 40))) := ⟨h1.err, h2.set 2 _⟩
      clear h1 h2
      go_wp2_with fail
      refine (unhide HF).mono ?_
      rintro e w2 ⟨rfl, rfl⟩
      go_wp2_with fail
      go_ret
      exact ⟨rfl, unhide HD⟩
    · have c2 : 4096 < n := by omega
      go_enter Tryz.func94, Tryz.ntmps94
      go_wp2_with fail
      refine (unhide HN).mono ?_
      rintro e w1 ⟨rfl, h1, h2⟩
      have HF := hide (fail_d h1 40 he)
      have HD : Hid (Dr (w1.setCell ⟨R, 2, none⟩ (.int .i64 40)) R lo z0 ⟨s1.zs, 40, s1.un⟩ ∧ But R w (w1.setCell ⟨R, 2, none⟩ (.int .i64 40))) := ⟨h1.err, h2.set 2 _⟩
      clear h1 h2
      go_wp2_with fail
      refine (unhide HF).mono ?_
      rintro e w2 ⟨rfl, rfl⟩
      go_wp2_with fail
      go_ret
      exact ⟨rfl, unhide HD⟩
end Go.Proofs.YtggllgimlfchhaaGreat
