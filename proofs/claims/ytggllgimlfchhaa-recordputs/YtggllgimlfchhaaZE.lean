/- Record: a transaction, read. -/
import Derived.Test.YtggllgimlfchhaaZD
namespace Go.Proofs.Ytggllgimlfchhaa
open Go.RowKit
set_option maxRecDepth 100000

/-- A transaction in rows of one's own. -/
def OwnT (base : Nat) (w : World) (cs : Array Value) (t : TxnD) : Prop :=
  ∃ cv av rv wv, cs = #[.int .i64 t.ses, .int .i64 t.req, cv, av, rv, wv] ∧ w.ownsRow base 5 1 cv t.code.length (ints .u8 t.code) ∧ w.ownsRow base 2 1 av t.args.length (i64C t.args) ∧ w.ownsRow base 64 2 rv t.reads.length (keyCs t.reads) ∧ w.ownsRow base 64 2 wv t.writes.length (keyCs t.writes)
theorem OwnT.but {base R : Nat} {w w' : World} {cs : Array Value} {t : TxnD} (h : OwnT base w cs t) (hk : But R w w') (hR : R < base) : OwnT base w' cs t := by
  obtain ⟨cv, av, rv, wv, h0, h1, h2, h3, h4⟩ := h
  exact ⟨cv, av, rv, wv, h0, own_keepR h1 hk hR, own_keepR h2 hk hR, own_keepR h3 hk hR, own_keepR h4 hk hR⟩
theorem own_other {w w' : World} {base base' e e' size size' n n' : Nat} {v v' : Value} {xs xs' : List Value} (h : w.ownsRow base e size v n xs) (h' : w.ownsRow base' e' size' v' n' xs') (hne : e ≠ e') (hg : w.grownBy w' v'.ownBlock) : w'.ownsRow base e size v n xs := by
  refine h.kept hg ?_
  rcases h.2 with ⟨rfl, _⟩ | ⟨g, cap, cur, rfl, _, hh, _⟩
  · exact .inl rfl
  · refine .inr ?_
    rcases h'.2 with ⟨rfl, _⟩ | ⟨g', cap', cur', rfl, _, hh', _⟩
    · simp [Value.ownBlock]
    · simp only [Value.ownBlock, ne_eq, Option.some.injEq]
      rintro rfl
      rw [hh] at hh'
      cases hh'
      exact hne rfl
theorem OwnT.grown {base base' size' n' : Nat} {w w' : World} {cs : Array Value} {t : TxnD} {v' : Value} {xs' : List Value} (h : OwnT base w cs t) (h' : w.ownsRow base' 35 size' v' n' xs') (hg : w.grownBy w' v'.ownBlock) : OwnT base w' cs t := by
  obtain ⟨cv, av, rv, wv, h0, h1, h2, h3, h4⟩ := h
  exact ⟨cv, av, rv, wv, h0, own_other h1 h' (by decide) hg, own_other h2 h' (by decide) hg, own_other h3 h' (by decide) hg, own_other h4 h' (by decide) hg⟩
theorem OwnT.below {base : Nat} {w w' : World} {cs : Array Value} {t : TxnD} (h : OwnT base w cs t) (hb : Below w.heap.size w w') : OwnT base w' cs t := by
  obtain ⟨cv, av, rv, wv, h0, h1, h2, h3, h4⟩ := h
  exact ⟨cv, av, rv, wv, h0, own_below h1 hb, own_below h2 hb, own_below h3 hb, own_below h4 hb⟩
theorem own_monoN {w : World} {base base' e size n : Nat} {v : Value} {xs : List Value} (h : w.ownsRow base e size v n xs) (hb : base' ≤ base) : w.ownsRow base' e size v n xs := by
  refine ⟨h.1, ?_⟩
  rcases h.2 with hn | ⟨g, cap, cur, hv, hg, r⟩
  · exact .inl hn
  · exact .inr ⟨g, cap, cur, hv, Nat.le_trans hb hg, r⟩

def RS.txn (s : RS) : TxnD × RS :=
  let a := s.num
  let b := a.2.num
  let c := b.2.blob
  let d := c.2.list RS.num
  let e := d.2.list RS.key
  let f := e.2.list RS.key
  (⟨a.1, b.1, c.1, d.1, e.1, f.1⟩, f.2)

set_option maxHeartbeats 6400000 in
theorem txn_r {w : World} {R lo : Nat} {s : RS} (h : RdS w R lo s) :
    Calls Try.prog 52 #[.pointer (some ⟨R, 0, none⟩)] w fun e w' => ∃ cs, e = .returned (.agg cs) ∧ OwnT w.heap.size w' cs s.txn.1 ∧ RdS w' R lo s.txn.2 ∧ But R w w' := by
  have hr := h.rlt
  obtain ⟨n1, s1, e1⟩ : ∃ n s', s.num = (n, s') := ⟨_, _, rfl⟩
  obtain ⟨n2, s2, e2⟩ : ∃ n s', s1.num = (n, s') := ⟨_, _, rfl⟩
  obtain ⟨l3, s3, e3⟩ : ∃ n s', s2.blob = (n, s') := ⟨_, _, rfl⟩
  obtain ⟨l4, s4, e4⟩ : ∃ n s', s3.list RS.num = (n, s') := ⟨_, _, rfl⟩
  obtain ⟨l5, s5, e5⟩ : ∃ n s', s4.list RS.key = (n, s') := ⟨_, _, rfl⟩
  obtain ⟨l6, s6, e6⟩ : ∃ n s', s5.list RS.key = (n, s') := ⟨_, _, rfl⟩
  have et : s.txn = (⟨n1, n2, l3, l4, l5, l6⟩, s6) := by simp only [RS.txn, e1, e2, e3, e4, e5, e6]
  rw [et]
  simp only
  have hal : Below w.heap.size w ((w.alloc (.cells #[.int .i64 0, .int .i64 0, .slice none 0 0, .slice none 0 0, .slice none 0 0, .slice none 0 0] 35)).alloc (.cells #[.int .i64 0, .int .i64 0, .slice none 0 0, .slice none 0 0, .slice none 0 0, .slice none 0 0] 35)) := ((Below.refl _ _).alloc (Nat.le_refl _) _).alloc (by simp) _
  have HC0 := hide (num_r (h.below hal))
  rw [e1] at HC0
  simp only at HC0
  have HB0 : Hid (But R w ((w.alloc (.cells #[.int .i64 0, .int .i64 0, .slice none 0 0, .slice none 0 0, .slice none 0 0, .slice none 0 0] 35)).alloc (.cells #[.int .i64 0, .int .i64 0, .slice none 0 0, .slice none 0 0, .slice none 0 0, .slice none 0 0] 35))) := But.of hal
  have HX0 : Hid (((w.alloc (.cells #[.int .i64 0, .int .i64 0, .slice none 0 0, .slice none 0 0, .slice none 0 0, .slice none 0 0] 35)).alloc (.cells #[.int .i64 0, .int .i64 0, .slice none 0 0, .slice none 0 0, .slice none 0 0, .slice none 0 0] 35)).heap[w.heap.size + 1]? = some (.cells #[.int .i64 0, .int .i64 0, .slice none 0 0, .slice none 0 0, .slice none 0 0, .slice none 0 0] 35) ∧ ((w.alloc (.cells #[.int .i64 0, .int .i64 0, .slice none 0 0, .slice none 0 0, .slice none 0 0, .slice none 0 0] 35)).alloc (.cells #[.int .i64 0, .int .i64 0, .slice none 0 0, .slice none 0 0, .slice none 0 0, .slice none 0 0] 35)).heap[w.heap.size]? = some (.cells #[.int .i64 0, .int .i64 0, .slice none 0 0, .slice none 0 0, .slice none 0 0, .slice none 0 0] 35)) := by
    have e : (w.alloc (.cells #[.int .i64 0, .int .i64 0, .slice none 0 0, .slice none 0 0, .slice none 0 0, .slice none 0 0] 35)).heap.size = w.heap.size + 1 := by simp
    have := heap_alloc_new (w.alloc (.cells #[.int .i64 0, .int .i64 0, .slice none 0 0, .slice none 0 0, .slice none 0 0, .slice none 0 0] 35)) (.cells #[.int .i64 0, .int .i64 0, .slice none 0 0, .slice none 0 0, .slice none 0 0, .slice none 0 0] 35)
    rw [e] at this
    exact ⟨this, (Below.heap_alloc _ _ _ (by simp)).trans (heap_alloc_new w _)⟩
  have HSZ0 : Hid (w.heap.size + 2 ≤ ((w.alloc (.cells #[.int .i64 0, .int .i64 0, .slice none 0 0, .slice none 0 0, .slice none 0 0, .slice none 0 0] 35)).alloc (.cells #[.int .i64 0, .int .i64 0, .slice none 0 0, .slice none 0 0, .slice none 0 0, .slice none 0 0] 35)).heap.size) := by show _ ≤ _; simp
  have HE : Hid (s1.num = (n2, s2) ∧ s2.blob = (l3, s3) ∧ s3.list RS.num = (l4, s4) ∧ s4.list RS.key = (l5, s5) ∧ s5.list RS.key = (l6, s6)) := ⟨e2, e3, e4, e5, e6⟩
  clear h hal et e1 e2 e3 e4 e5 e6
  go_enter Try.func52, Try.ntmps52
  go_wp2_with fail
  refine (unhide HC0).mono ?_
  rintro e y1 ⟨rfl, p0, q0⟩
  have hx0 : y1.heap[w.heap.size + 1]? = some (.cells #[.int .i64 0, .int .i64 0, .slice none 0 0, .slice none 0 0, .slice none 0 0, .slice none 0 0] 35) := q0.same (unhide HX0).1 (by omega)
  have hy0 : y1.heap[w.heap.size]? = some (.cells #[.int .i64 0, .int .i64 0, .slice none 0 0, .slice none 0 0, .slice none 0 0, .slice none 0 0] 35) := q0.same (unhide HX0).2 (by omega)
  have k0 : y1.cell? ⟨w.heap.size + 1, 0, none⟩ = some (.int .i64 0) := cell_of_heap hx0
  have f0 : ∀ o, y1.frozen? ⟨w.heap.size + 1, o, none⟩ = false := fun o => frozen_of_heap hx0
  have HX1 : Hid ((y1.setCell ⟨w.heap.size + 1, 0, none⟩ (.int .i64 n1)).heap[w.heap.size + 1]? = some (.cells #[.int .i64 n1, .int .i64 0, .slice none 0 0, .slice none 0 0, .slice none 0 0, .slice none 0 0] 35) ∧ (y1.setCell ⟨w.heap.size + 1, 0, none⟩ (.int .i64 n1)).heap[w.heap.size]? = some (.cells #[.int .i64 0, .int .i64 0, .slice none 0 0, .slice none 0 0, .slice none 0 0, .slice none 0 0] 35)) := ⟨setCell_heap hx0, (Below.heap_setCell _ _ _ _ (fun e => by simp only at e; omega)).trans hy0⟩
  have hsz0 := Nat.le_trans (unhide HSZ0) q0.size
  have HSZ1 : Hid (w.heap.size + 2 ≤ (y1.setCell ⟨w.heap.size + 1, 0, none⟩ (.int .i64 n1)).heap.size) := by show _ ≤ _; simp only [World.setCell, Array.size_modify]; exact hsz0
  have HR1 := hide (p0.other (b := w.heap.size + 1) (by omega) 0 (.int .i64 n1))
  have HB1 := hide (((unhide HB0).trans q0).new (b := w.heap.size + 1) (by omega) 0 (.int .i64 n1))
  have HC1 := hide (num_r (unhide HR1))
  rw [(unhide HE).1] at HC1
  simp only at HC1
  clear p0 q0 hx0 hy0 hsz0 HC0
  go_wp2_with fail
  refine (unhide HC1).mono ?_
  rintro e y2 ⟨rfl, p1, q1⟩
  have hx1 : y2.heap[w.heap.size + 1]? = some (.cells #[.int .i64 n1, .int .i64 0, .slice none 0 0, .slice none 0 0, .slice none 0 0, .slice none 0 0] 35) := q1.same (unhide HX1).1 (by omega)
  have hy1 : y2.heap[w.heap.size]? = some (.cells #[.int .i64 0, .int .i64 0, .slice none 0 0, .slice none 0 0, .slice none 0 0, .slice none 0 0] 35) := q1.same (unhide HX1).2 (by omega)
  have k1 : y2.cell? ⟨w.heap.size + 1, 1, none⟩ = some (.int .i64 0) := cell_of_heap hx1
  have f1 : ∀ o, y2.frozen? ⟨w.heap.size + 1, o, none⟩ = false := fun o => frozen_of_heap hx1
  have HX2 : Hid ((y2.setCell ⟨w.heap.size + 1, 1, none⟩ (.int .i64 n2)).heap[w.heap.size + 1]? = some (.cells #[.int .i64 n1, .int .i64 n2, .slice none 0 0, .slice none 0 0, .slice none 0 0, .slice none 0 0] 35) ∧ (y2.setCell ⟨w.heap.size + 1, 1, none⟩ (.int .i64 n2)).heap[w.heap.size]? = some (.cells #[.int .i64 0, .int .i64 0, .slice none 0 0, .slice none 0 0, .slice none 0 0, .slice none 0 0] 35)) := ⟨setCell_heap hx1, (Below.heap_setCell _ _ _ _ (fun e => by simp only at e; omega)).trans hy1⟩
  have hsz1 := Nat.le_trans (unhide HSZ1) q1.size
  have HSZ2 : Hid (w.heap.size + 2 ≤ (y2.setCell ⟨w.heap.size + 1, 1, none⟩ (.int .i64 n2)).heap.size) := by show _ ≤ _; simp only [World.setCell, Array.size_modify]; exact hsz1
  have HR2 := hide (p1.other (b := w.heap.size + 1) (by omega) 1 (.int .i64 n2))
  have HB2 := hide (((unhide HB1).trans q1).new (b := w.heap.size + 1) (by omega) 1 (.int .i64 n2))
  have HC2 := hide (blob_r (unhide HR2))
  rw [(unhide HE).2.1] at HC2
  simp only at HC2
  clear p1 q1 hx1 hy1 hsz1 HC1
  go_wp2_with fail
  refine (unhide HC2).mono ?_
  rintro e y3 ⟨x2, rfl, r2, p2, q2⟩
  obtain ⟨a3, c3, rfl⟩ := own_shapeN r2
  have hx2 : y3.heap[w.heap.size + 1]? = some (.cells #[.int .i64 n1, .int .i64 n2, .slice none 0 0, .slice none 0 0, .slice none 0 0, .slice none 0 0] 35) := q2.same (unhide HX2).1 (by omega)
  have hy2 : y3.heap[w.heap.size]? = some (.cells #[.int .i64 0, .int .i64 0, .slice none 0 0, .slice none 0 0, .slice none 0 0, .slice none 0 0] 35) := q2.same (unhide HX2).2 (by omega)
  have k2 : y3.cell? ⟨w.heap.size + 1, 2, none⟩ = some (.slice none 0 0) := cell_of_heap hx2
  have f2 : ∀ o, y3.frozen? ⟨w.heap.size + 1, o, none⟩ = false := fun o => frozen_of_heap hx2
  have HX3 : Hid ((y3.setCell ⟨w.heap.size + 1, 2, none⟩ (.slice a3 l3.length c3)).heap[w.heap.size + 1]? = some (.cells #[.int .i64 n1, .int .i64 n2, .slice a3 l3.length c3, .slice none 0 0, .slice none 0 0, .slice none 0 0] 35) ∧ (y3.setCell ⟨w.heap.size + 1, 2, none⟩ (.slice a3 l3.length c3)).heap[w.heap.size]? = some (.cells #[.int .i64 0, .int .i64 0, .slice none 0 0, .slice none 0 0, .slice none 0 0, .slice none 0 0] 35)) := ⟨setCell_heap hx2, (Below.heap_setCell _ _ _ _ (fun e => by simp only at e; omega)).trans hy2⟩
  have hsz2 := Nat.le_trans (unhide HSZ2) q2.size
  have HSZ3 : Hid (w.heap.size + 2 ≤ (y3.setCell ⟨w.heap.size + 1, 2, none⟩ (.slice a3 l3.length c3)).heap.size) := by show _ ≤ _; simp only [World.setCell, Array.size_modify]; exact hsz2
  have HR3 := hide (p2.other (b := w.heap.size + 1) (by omega) 2 (.slice a3 l3.length c3))
  have HB3 := hide (((unhide HB2).trans q2).new (b := w.heap.size + 1) (by omega) 2 (.slice a3 l3.length c3))
  have HO3x2 : Hid ((y3.setCell ⟨w.heap.size + 1, 2, none⟩ (.slice a3 l3.length c3)).ownsRow (w.heap.size + 2) 5 1 (.slice a3 l3.length c3) l3.length (ints .u8 l3)) := own_setR (own_monoN r2 (unhide HSZ2)) (by omega) 2 _
  have HC3 := hide (takeInts_r (unhide HR3))
  rw [(unhide HE).2.2.1] at HC3
  simp only at HC3
  clear p2 q2 hx2 hy2 hsz2 r2 HC2
  go_wp2_with fail
  refine (unhide HC3).mono ?_
  rintro e y4 ⟨x3, rfl, r3, p3, q3⟩
  obtain ⟨a4, c4, rfl⟩ := own_shapeN r3
  have hx3 : y4.heap[w.heap.size + 1]? = some (.cells #[.int .i64 n1, .int .i64 n2, .slice a3 l3.length c3, .slice none 0 0, .slice none 0 0, .slice none 0 0] 35) := q3.same (unhide HX3).1 (by omega)
  have hy3 : y4.heap[w.heap.size]? = some (.cells #[.int .i64 0, .int .i64 0, .slice none 0 0, .slice none 0 0, .slice none 0 0, .slice none 0 0] 35) := q3.same (unhide HX3).2 (by omega)
  have k3 : y4.cell? ⟨w.heap.size + 1, 3, none⟩ = some (.slice none 0 0) := cell_of_heap hx3
  have f3 : ∀ o, y4.frozen? ⟨w.heap.size + 1, o, none⟩ = false := fun o => frozen_of_heap hx3
  have HX4 : Hid ((y4.setCell ⟨w.heap.size + 1, 3, none⟩ (.slice a4 l4.length c4)).heap[w.heap.size + 1]? = some (.cells #[.int .i64 n1, .int .i64 n2, .slice a3 l3.length c3, .slice a4 l4.length c4, .slice none 0 0, .slice none 0 0] 35) ∧ (y4.setCell ⟨w.heap.size + 1, 3, none⟩ (.slice a4 l4.length c4)).heap[w.heap.size]? = some (.cells #[.int .i64 0, .int .i64 0, .slice none 0 0, .slice none 0 0, .slice none 0 0, .slice none 0 0] 35)) := ⟨setCell_heap hx3, (Below.heap_setCell _ _ _ _ (fun e => by simp only at e; omega)).trans hy3⟩
  have hsz3 := Nat.le_trans (unhide HSZ3) q3.size
  have HSZ4 : Hid (w.heap.size + 2 ≤ (y4.setCell ⟨w.heap.size + 1, 3, none⟩ (.slice a4 l4.length c4)).heap.size) := by show _ ≤ _; simp only [World.setCell, Array.size_modify]; exact hsz3
  have HR4 := hide (p3.other (b := w.heap.size + 1) (by omega) 3 (.slice a4 l4.length c4))
  have HB4 := hide (((unhide HB3).trans q3).new (b := w.heap.size + 1) (by omega) 3 (.slice a4 l4.length c4))
  have HO3x3 := hide (own_setR (own_keepR (unhide HO3x2) q3 (by omega)) (by omega : w.heap.size + 1 < w.heap.size + 2) 3 (.slice a4 l4.length c4))
  have HO4x3 : Hid ((y4.setCell ⟨w.heap.size + 1, 3, none⟩ (.slice a4 l4.length c4)).ownsRow (w.heap.size + 2) 2 1 (.slice a4 l4.length c4) l4.length (i64C l4)) := own_setR (own_monoN r3 (unhide HSZ3)) (by omega) 3 _
  have HC4 := hide (takeKeys_r (unhide HR4))
  rw [(unhide HE).2.2.2.1] at HC4
  simp only at HC4
  clear p3 q3 hx3 hy3 hsz3 r3 HC3
  go_wp2_with fail
  refine (unhide HC4).mono ?_
  rintro e y5 ⟨x4, rfl, r4, p4, q4⟩
  obtain ⟨a5, c5, rfl⟩ := own_shapeN r4
  have hx4 : y5.heap[w.heap.size + 1]? = some (.cells #[.int .i64 n1, .int .i64 n2, .slice a3 l3.length c3, .slice a4 l4.length c4, .slice none 0 0, .slice none 0 0] 35) := q4.same (unhide HX4).1 (by omega)
  have hy4 : y5.heap[w.heap.size]? = some (.cells #[.int .i64 0, .int .i64 0, .slice none 0 0, .slice none 0 0, .slice none 0 0, .slice none 0 0] 35) := q4.same (unhide HX4).2 (by omega)
  have k4 : y5.cell? ⟨w.heap.size + 1, 4, none⟩ = some (.slice none 0 0) := cell_of_heap hx4
  have f4 : ∀ o, y5.frozen? ⟨w.heap.size + 1, o, none⟩ = false := fun o => frozen_of_heap hx4
  have HX5 : Hid ((y5.setCell ⟨w.heap.size + 1, 4, none⟩ (.slice a5 l5.length c5)).heap[w.heap.size + 1]? = some (.cells #[.int .i64 n1, .int .i64 n2, .slice a3 l3.length c3, .slice a4 l4.length c4, .slice a5 l5.length c5, .slice none 0 0] 35) ∧ (y5.setCell ⟨w.heap.size + 1, 4, none⟩ (.slice a5 l5.length c5)).heap[w.heap.size]? = some (.cells #[.int .i64 0, .int .i64 0, .slice none 0 0, .slice none 0 0, .slice none 0 0, .slice none 0 0] 35)) := ⟨setCell_heap hx4, (Below.heap_setCell _ _ _ _ (fun e => by simp only at e; omega)).trans hy4⟩
  have hsz4 := Nat.le_trans (unhide HSZ4) q4.size
  have HSZ5 : Hid (w.heap.size + 2 ≤ (y5.setCell ⟨w.heap.size + 1, 4, none⟩ (.slice a5 l5.length c5)).heap.size) := by show _ ≤ _; simp only [World.setCell, Array.size_modify]; exact hsz4
  have HR5 := hide (p4.other (b := w.heap.size + 1) (by omega) 4 (.slice a5 l5.length c5))
  have HB5 := hide (((unhide HB4).trans q4).new (b := w.heap.size + 1) (by omega) 4 (.slice a5 l5.length c5))
  have HO3x4 := hide (own_setR (own_keepR (unhide HO3x3) q4 (by omega)) (by omega : w.heap.size + 1 < w.heap.size + 2) 4 (.slice a5 l5.length c5))
  have HO4x4 := hide (own_setR (own_keepR (unhide HO4x3) q4 (by omega)) (by omega : w.heap.size + 1 < w.heap.size + 2) 4 (.slice a5 l5.length c5))
  have HO5x4 : Hid ((y5.setCell ⟨w.heap.size + 1, 4, none⟩ (.slice a5 l5.length c5)).ownsRow (w.heap.size + 2) 64 2 (.slice a5 l5.length c5) l5.length (keyCs l5)) := own_setR (own_monoN r4 (unhide HSZ4)) (by omega) 4 _
  have HC5 := hide (takeKeys_r (unhide HR5))
  rw [(unhide HE).2.2.2.2] at HC5
  simp only at HC5
  clear p4 q4 hx4 hy4 hsz4 r4 HC4
  go_wp2_with fail
  refine (unhide HC5).mono ?_
  rintro e y6 ⟨x5, rfl, r5, p5, q5⟩
  obtain ⟨a6, c6, rfl⟩ := own_shapeN r5
  have hx5 : y6.heap[w.heap.size + 1]? = some (.cells #[.int .i64 n1, .int .i64 n2, .slice a3 l3.length c3, .slice a4 l4.length c4, .slice a5 l5.length c5, .slice none 0 0] 35) := q5.same (unhide HX5).1 (by omega)
  have hy5 : y6.heap[w.heap.size]? = some (.cells #[.int .i64 0, .int .i64 0, .slice none 0 0, .slice none 0 0, .slice none 0 0, .slice none 0 0] 35) := q5.same (unhide HX5).2 (by omega)
  have k5 : y6.cell? ⟨w.heap.size + 1, 5, none⟩ = some (.slice none 0 0) := cell_of_heap hx5
  have f5 : ∀ o, y6.frozen? ⟨w.heap.size + 1, o, none⟩ = false := fun o => frozen_of_heap hx5
  have HX6 : Hid ((y6.setCell ⟨w.heap.size + 1, 5, none⟩ (.slice a6 l6.length c6)).heap[w.heap.size + 1]? = some (.cells #[.int .i64 n1, .int .i64 n2, .slice a3 l3.length c3, .slice a4 l4.length c4, .slice a5 l5.length c5, .slice a6 l6.length c6] 35) ∧ (y6.setCell ⟨w.heap.size + 1, 5, none⟩ (.slice a6 l6.length c6)).heap[w.heap.size]? = some (.cells #[.int .i64 0, .int .i64 0, .slice none 0 0, .slice none 0 0, .slice none 0 0, .slice none 0 0] 35)) := ⟨setCell_heap hx5, (Below.heap_setCell _ _ _ _ (fun e => by simp only at e; omega)).trans hy5⟩
  have hsz5 := Nat.le_trans (unhide HSZ5) q5.size
  have HSZ6 : Hid (w.heap.size + 2 ≤ (y6.setCell ⟨w.heap.size + 1, 5, none⟩ (.slice a6 l6.length c6)).heap.size) := by show _ ≤ _; simp only [World.setCell, Array.size_modify]; exact hsz5
  have HR6 := hide (p5.other (b := w.heap.size + 1) (by omega) 5 (.slice a6 l6.length c6))
  have HB6 := hide (((unhide HB5).trans q5).new (b := w.heap.size + 1) (by omega) 5 (.slice a6 l6.length c6))
  have HO3x5 := hide (own_setR (own_keepR (unhide HO3x4) q5 (by omega)) (by omega : w.heap.size + 1 < w.heap.size + 2) 5 (.slice a6 l6.length c6))
  have HO4x5 := hide (own_setR (own_keepR (unhide HO4x4) q5 (by omega)) (by omega : w.heap.size + 1 < w.heap.size + 2) 5 (.slice a6 l6.length c6))
  have HO5x5 := hide (own_setR (own_keepR (unhide HO5x4) q5 (by omega)) (by omega : w.heap.size + 1 < w.heap.size + 2) 5 (.slice a6 l6.length c6))
  have HO6x5 : Hid ((y6.setCell ⟨w.heap.size + 1, 5, none⟩ (.slice a6 l6.length c6)).ownsRow (w.heap.size + 2) 64 2 (.slice a6 l6.length c6) l6.length (keyCs l6)) := own_setR (own_monoN r5 (unhide HSZ5)) (by omega) 5 _
  clear p5 q5 hx5 hy5 hsz5 r5 HC5
  have m0 := unhide HX6
  obtain ⟨y7, hy7⟩ : ∃ y7, (y6.setCell ⟨w.heap.size + 1, 5, none⟩ (.slice a6 l6.length c6)) = y7 := ⟨_, rfl⟩
  rw [hy7] at m0 HR6 HB6 HO3x5 HO4x5 HO5x5 HO6x5
  have t0 : y7.cell? ⟨w.heap.size + 1, 0, none⟩ = some (.int .i64 n1) := cell_of_heap m0.1
  have t1 : y7.cell? ⟨w.heap.size + 1, 1, none⟩ = some (.int .i64 n2) := cell_of_heap m0.1
  have t2 : y7.cell? ⟨w.heap.size + 1, 2, none⟩ = some (.slice a3 l3.length c3) := cell_of_heap m0.1
  have t3 : y7.cell? ⟨w.heap.size + 1, 3, none⟩ = some (.slice a4 l4.length c4) := cell_of_heap m0.1
  have t4 : y7.cell? ⟨w.heap.size + 1, 4, none⟩ = some (.slice a5 l5.length c5) := cell_of_heap m0.1
  have t5 : y7.cell? ⟨w.heap.size + 1, 5, none⟩ = some (.slice a6 l6.length c6) := cell_of_heap m0.1
  have z0 : y7.cell? ⟨w.heap.size, 0, none⟩ = some (.int .i64 0) := cell_of_heap m0.2
  have z1 : y7.cell? ⟨w.heap.size, 1, none⟩ = some (.int .i64 0) := cell_of_heap m0.2
  have z2 : y7.cell? ⟨w.heap.size, 2, none⟩ = some (.slice none 0 0) := cell_of_heap m0.2
  have z3 : y7.cell? ⟨w.heap.size, 3, none⟩ = some (.slice none 0 0) := cell_of_heap m0.2
  have z4 : y7.cell? ⟨w.heap.size, 4, none⟩ = some (.slice none 0 0) := cell_of_heap m0.2
  have z5 : y7.cell? ⟨w.heap.size, 5, none⟩ = some (.slice none 0 0) := cell_of_heap m0.2
  have fz7 : ∀ o, y7.frozen? ⟨w.heap.size, o, none⟩ = false := fun o => frozen_of_heap m0.2
  have M0 := hide m0
  clear m0
  go_wp2_with fail
  refine bodyPost_ret (results_cell_row rfl _ _ w.heap.size 35 #[.int .i64 n1, .int .i64 n2, .slice a3 l3.length c3, .slice a4 l4.length c4, .slice a5 l5.length c5, .slice a6 l6.length c6] (0, 0) _ rfl (setCell_heap (setCell_heap (setCell_heap (setCell_heap (setCell_heap (setCell_heap (unhide M0).2)))))) Try.underlying35 rfl (by kernel_rfl)) rfl ?_
  refine ⟨_, rfl, ⟨_, _, _, _, rfl, ?_, ?_, ?_, ?_⟩, (((((((unhide HR6).other hr _ _).other hr _ _).other hr _ _).other hr _ _).other hr _ _).other hr _ _), (((((((unhide HB6).new (Nat.le_refl _) _ _).new (Nat.le_refl _) _ _).new (Nat.le_refl _) _ _).new (Nat.le_refl _) _ _).new (Nat.le_refl _) _ _).new (Nat.le_refl _) _ _)⟩
  · exact own_monoN (own_setR (own_setR (own_setR (own_setR (own_setR (own_setR (unhide HO3x5) (by omega) _ _) (by omega) _ _) (by omega) _ _) (by omega) _ _) (by omega) _ _) (by omega) _ _) (by omega)
  · exact own_monoN (own_setR (own_setR (own_setR (own_setR (own_setR (own_setR (unhide HO4x5) (by omega) _ _) (by omega) _ _) (by omega) _ _) (by omega) _ _) (by omega) _ _) (by omega) _ _) (by omega)
  · exact own_monoN (own_setR (own_setR (own_setR (own_setR (own_setR (own_setR (unhide HO5x5) (by omega) _ _) (by omega) _ _) (by omega) _ _) (by omega) _ _) (by omega) _ _) (by omega) _ _) (by omega)
  · exact own_monoN (own_setR (own_setR (own_setR (own_setR (own_setR (own_setR (unhide HO6x5) (by omega) _ _) (by omega) _ _) (by omega) _ _) (by omega) _ _) (by omega) _ _) (by omega) _ _) (by omega)
end Go.Proofs.Ytggllgimlfchhaa
