/- Several texts as one. -/
import Derived.Test.YtggllgimlfchhabGreatKZ32
import Derived.Laws.ResultCell

/- Record: an entry, read. -/
namespace Go.Proofs.YtggllgimlfchhabGreat
open Go.RowKit
set_option maxRecDepth 100000

theorem OwnT.setR {base b o : Nat} {w : World} {cs : Array Value} {t : TxnD} {u : Value} (h : OwnT base w cs t) (hb : b < base) : OwnT base (w.setCell ⟨b, o, none⟩ u) cs t := by
  obtain ⟨cv, av, rv, wv, h0, h1, h2, h3, h4⟩ := h
  exact ⟨cv, av, rv, wv, h0, own_setR h1 hb _ _, own_setR h2 hb _ _, own_setR h3 hb _ _, own_setR h4 hb _ _⟩
theorem OwnTs.setR {base b o : Nat} {w : World} {x : Value} {l : List TxnD} {u : Value} (h : OwnTs base w x l) (hb : b < base) : OwnTs base (w.setCell ⟨b, o, none⟩ u) x l := by
  obtain ⟨vs, h1, h2, h3⟩ := h
  exact ⟨vs, h1, own_setR h2 hb _ _, fun p hp => (h3 p hp).setR hb⟩
theorem OwnTs.but {base R : Nat} {w w' : World} {x : Value} {l : List TxnD} (h : OwnTs base w x l) (hk : But R w w') (hR : R < base) : OwnTs base w' x l := by
  obtain ⟨vs, h1, h2, h3⟩ := h
  exact ⟨vs, h1, own_keepR h2 hk hR, fun p hp => (h3 p hp).but hk hR⟩
theorem OwnTs.below {base : Nat} {w w' : World} {x : Value} {l : List TxnD} (h : OwnTs base w x l) (hb : Below w.heap.size w w') : OwnTs base w' x l := by
  obtain ⟨vs, h1, h2, h3⟩ := h
  exact ⟨vs, h1, own_below h2 hb, fun p hp => (h3 p hp).below hb⟩
theorem OwnTs.mono {base base' : Nat} {w : World} {x : Value} {l : List TxnD} (h : OwnTs base w x l) (hb : base' ≤ base) : OwnTs base' w x l := by
  obtain ⟨vs, h1, h2, h3⟩ := h
  refine ⟨vs, h1, own_monoN h2 hb, fun p hp => ?_⟩
  obtain ⟨cv, av, rv, wv, g0, g1, g2, g3, g4⟩ := h3 p hp
  exact ⟨cv, av, rv, wv, g0, own_monoN g1 hb, own_monoN g2 hb, own_monoN g3 hb, own_monoN g4 hb⟩

def RS.entry (s : RS) : EntD × RS :=
  let k := s.kind 0 1
  if k.1 = 1 then
    let f := k.2.num
    let n := f.2.num
    let l := n.2.list RS.txn
    (⟨k.1, f.1, n.1, l.1⟩, l.2)
  else (⟨k.1, 0, 0, []⟩, k.2)
theorem kind_byt {s : RS} {a b : Int} (h : Byt s.zs) : Byt (s.kind a b).2.zs := must_byt (num_byt h)
theorem entry_byt {s : RS} (h : Byt s.zs) : Byt s.entry.2.zs ∧ (s.entry.1.txns.length ≤ 4096 ∧ ∀ t ∈ s.entry.1.txns, ReadT t) := by
  unfold RS.entry
  simp only
  split
  · have := txns_byt (num_byt (num_byt (kind_byt (a := 0) (b := 1) h)))
    exact ⟨this.1, list_len _ _, this.2⟩
  · exact ⟨kind_byt h, by simp, fun t ht => by cases ht⟩
def OwnE (base : Nat) (w : World) (cs : Array Value) (e : EntD) : Prop := ∃ tv, cs = #[.int .i64 e.kind, .int .i64 e.frm, .int .i64 e.num, tv] ∧ OwnTs base w tv e.txns

set_option maxHeartbeats 3200000 in
theorem entry_r {w : World} {R lo : Nat} {s : RS} (h : RdS w R lo s) :
    Calls Tryz.prog 25 #[.pointer (some ⟨R, 0, none⟩)] w fun e w' => ∃ cs, e = .returned (.agg cs) ∧ OwnE w.heap.size w' cs s.entry.1 ∧ RdS w' R lo s.entry.2 ∧ But R w w' := by
  have hr := h.rlt
  obtain ⟨k, s1, e1⟩ : ∃ n s', s.kind 0 1 = (n, s') := ⟨_, _, rfl⟩
  have hal : Below w.heap.size w (w.alloc (.cells #[.int .i64 0, .int .i64 0, .int .i64 0, .slice none 0 0] 24)) := (Below.refl _ _).alloc (Nat.le_refl _) _
  have HC0 := hide (kind_r (h.below hal) 0 1)
  rw [e1] at HC0
  simp only at HC0
  have HB0 : Hid (But R w (w.alloc (.cells #[.int .i64 0, .int .i64 0, .int .i64 0, .slice none 0 0] 24))) := But.of hal
  have HZ0 : Hid ((w.alloc (.cells #[.int .i64 0, .int .i64 0, .int .i64 0, .slice none 0 0] 24)).heap[w.heap.size]? = some (.cells #[.int .i64 0, .int .i64 0, .int .i64 0, .slice none 0 0] 24)) := heap_alloc_new w _
  have HSZ0 : Hid (w.heap.size + 1 ≤ (w.alloc (.cells #[.int .i64 0, .int .i64 0, .int .i64 0, .slice none 0 0] 24)).heap.size) := by show _ ≤ _; simp
  clear h hal
  by_cases hk : k = 1
  · subst hk
    obtain ⟨f, s2, e2⟩ : ∃ n s', s1.num = (n, s') := ⟨_, _, rfl⟩
    obtain ⟨n, s3, e3⟩ : ∃ n s', s2.num = (n, s') := ⟨_, _, rfl⟩
    obtain ⟨l, s4, e4⟩ : ∃ n s', s3.list RS.txn = (n, s') := ⟨_, _, rfl⟩
    have et : s.entry = (⟨1, f, n, l⟩, s4) := by simp only [RS.entry, e1, e2, e3, e4, if_true]
    rw [et]
    simp only
    have HE : Hid (s1.num = (f, s2) ∧ s2.num = (n, s3) ∧ s3.list RS.txn = (l, s4)) := ⟨e2, e3, e4⟩
    clear et e1 e2 e3 e4
    go_enter Tryz.func25, Tryz.ntmps25
    go_wp2_with fail
    refine (unhide HC0).mono ?_
    rintro e y1 ⟨rfl, p1, q1⟩
    have hz1 := q1.same (unhide HZ0) (by omega)
    have hsz1 := Nat.le_trans (unhide HSZ0) q1.size
    obtain ⟨B1, hB1⟩ : ∃ B, y1.heap.size = B := ⟨_, rfl⟩
    have hal1 : Below y1.heap.size y1 (y1.alloc (.cells #[.int .i64 1, .int .i64 0, .int .i64 0, .slice none 0 0] 24)) := (Below.refl _ _).alloc (Nat.le_refl _) _
    have hx1 : (y1.alloc (.cells #[.int .i64 1, .int .i64 0, .int .i64 0, .slice none 0 0] 24)).heap[y1.heap.size]? = some (.cells #[.int .i64 1, .int .i64 0, .int .i64 0, .slice none 0 0] 24) := heap_alloc_new y1 _
    have hz1b : (y1.alloc (.cells #[.int .i64 1, .int .i64 0, .int .i64 0, .slice none 0 0] 24)).heap[w.heap.size]? = some (.cells #[.int .i64 0, .int .i64 0, .int .i64 0, .slice none 0 0] 24) := (Below.heap_alloc _ _ _ (by omega)).trans hz1
    have HC1 := hide (fit_r (p1.below hal1))
    rw [(unhide HE).1] at HC1
    simp only at HC1
    have HB1 := hide (((unhide HB0).trans q1).trans (But.of hal1))
    have hszA : w.heap.size < B1 := by omega
    rw [hB1] at hx1
    have HX1 := hide (And.intro hx1 hz1b)
    have HSZ1 : Hid (B1 + 1 ≤ (y1.alloc (.cells #[.int .i64 1, .int .i64 0, .int .i64 0, .slice none 0 0] 24)).heap.size) := by show _ ≤ _; simp; omega
    have HBB := hide hB1
    clear p1 q1 hz1 hsz1 hal1 hx1 hz1b HC0
    go_wp2_with fail
    refine (unhide HC1).mono ?_
    rintro e y2 ⟨rfl, p, q⟩
    have hx : y2.heap[B1]? = some (.cells #[.int .i64 1, .int .i64 0, .int .i64 0, .slice none 0 0] 24) := q.same (unhide HX1).1 (by omega)
    have hy : y2.heap[w.heap.size]? = some (.cells #[.int .i64 0, .int .i64 0, .int .i64 0, .slice none 0 0] 24) := q.same (unhide HX1).2 (by omega)
    have kc1 : y2.cell? ⟨B1, 1, none⟩ = some (.int .i64 0) := cell_of_heap hx
    have fc1 : ∀ o, y2.frozen? ⟨B1, o, none⟩ = false := fun o => frozen_of_heap hx
    have HX2 : Hid ((y2.setCell ⟨B1, 1, none⟩ (.int .i64 f)).heap[B1]? = some (.cells #[.int .i64 1, .int .i64 f, .int .i64 0, .slice none 0 0] 24) ∧ (y2.setCell ⟨B1, 1, none⟩ (.int .i64 f)).heap[w.heap.size]? = some (.cells #[.int .i64 0, .int .i64 0, .int .i64 0, .slice none 0 0] 24)) := ⟨setCell_heap hx, (Below.heap_setCell _ _ _ _ (fun e => by simp only at e; omega)).trans hy⟩
    have hsz := Nat.le_trans (unhide HSZ1) q.size
    have HSZ2 : Hid (B1 + 1 ≤ (y2.setCell ⟨B1, 1, none⟩ (.int .i64 f)).heap.size) := by show _ ≤ _; simp only [World.setCell, Array.size_modify]; exact hsz
    have HR2 := hide (p.other (b := B1) (by omega) 1 (.int .i64 f))
    have HB2 := hide (((unhide HB1).trans q).new (b := B1) (by omega) 1 (.int .i64 f))
    have HC2 := hide (num_r (unhide HR2))
    rw [(unhide HE).2.1] at HC2
    simp only at HC2
    clear p q hx hy hsz HC1
    go_wp2_with fail
    refine (unhide HC2).mono ?_
    rintro e y3 ⟨rfl, p, q⟩
    have hx : y3.heap[B1]? = some (.cells #[.int .i64 1, .int .i64 f, .int .i64 0, .slice none 0 0] 24) := q.same (unhide HX2).1 (by omega)
    have hy : y3.heap[w.heap.size]? = some (.cells #[.int .i64 0, .int .i64 0, .int .i64 0, .slice none 0 0] 24) := q.same (unhide HX2).2 (by omega)
    have kc2 : y3.cell? ⟨B1, 2, none⟩ = some (.int .i64 0) := cell_of_heap hx
    have fc2 : ∀ o, y3.frozen? ⟨B1, o, none⟩ = false := fun o => frozen_of_heap hx
    have HX3 : Hid ((y3.setCell ⟨B1, 2, none⟩ (.int .i64 n)).heap[B1]? = some (.cells #[.int .i64 1, .int .i64 f, .int .i64 n, .slice none 0 0] 24) ∧ (y3.setCell ⟨B1, 2, none⟩ (.int .i64 n)).heap[w.heap.size]? = some (.cells #[.int .i64 0, .int .i64 0, .int .i64 0, .slice none 0 0] 24)) := ⟨setCell_heap hx, (Below.heap_setCell _ _ _ _ (fun e => by simp only at e; omega)).trans hy⟩
    have hsz := Nat.le_trans (unhide HSZ2) q.size
    have HSZ3 : Hid (B1 + 1 ≤ (y3.setCell ⟨B1, 2, none⟩ (.int .i64 n)).heap.size) := by show _ ≤ _; simp only [World.setCell, Array.size_modify]; exact hsz
    have HR3 := hide (p.other (b := B1) (by omega) 2 (.int .i64 n))
    have HB3 := hide (((unhide HB2).trans q).new (b := B1) (by omega) 2 (.int .i64 n))
    have HC3 := hide (takeTxns_r (unhide HR3))
    rw [(unhide HE).2.2] at HC3
    simp only at HC3
    clear p q hx hy hsz HC2
    go_wp2_with fail
    refine (unhide HC3).mono ?_
    rintro e y4 ⟨x4, rfl, r4, p, q⟩
    obtain ⟨a4, c4, rfl⟩ := r4.shape
    have hx : y4.heap[B1]? = some (.cells #[.int .i64 1, .int .i64 f, .int .i64 n, .slice none 0 0] 24) := q.same (unhide HX3).1 (by omega)
    have hy : y4.heap[w.heap.size]? = some (.cells #[.int .i64 0, .int .i64 0, .int .i64 0, .slice none 0 0] 24) := q.same (unhide HX3).2 (by omega)
    have kc3 : y4.cell? ⟨B1, 3, none⟩ = some (.slice none 0 0) := cell_of_heap hx
    have fc3 : ∀ o, y4.frozen? ⟨B1, o, none⟩ = false := fun o => frozen_of_heap hx
    have HX4 : Hid ((y4.setCell ⟨B1, 3, none⟩ (.slice a4 l.length c4)).heap[B1]? = some (.cells #[.int .i64 1, .int .i64 f, .int .i64 n, .slice a4 l.length c4] 24) ∧ (y4.setCell ⟨B1, 3, none⟩ (.slice a4 l.length c4)).heap[w.heap.size]? = some (.cells #[.int .i64 0, .int .i64 0, .int .i64 0, .slice none 0 0] 24)) := ⟨setCell_heap hx, (Below.heap_setCell _ _ _ _ (fun e => by simp only at e; omega)).trans hy⟩
    have hsz := Nat.le_trans (unhide HSZ3) q.size
    have HSZ4 : Hid (B1 + 1 ≤ (y4.setCell ⟨B1, 3, none⟩ (.slice a4 l.length c4)).heap.size) := by show _ ≤ _; simp only [World.setCell, Array.size_modify]; exact hsz
    have HR4 := hide (p.other (b := B1) (by omega) 3 (.slice a4 l.length c4))
    have HB4 := hide (((unhide HB3).trans q).new (b := B1) (by omega) 3 (.slice a4 l.length c4))
    have HO : Hid (OwnTs (B1 + 1) (y4.setCell ⟨B1, 3, none⟩ (.slice a4 l.length c4)) (.slice a4 l.length c4) l) := (r4.mono (unhide HSZ3)).setR (by omega)
    clear p q hx hy hsz r4 HC3
    obtain ⟨y5, hy5⟩ : ∃ y, (y4.setCell ⟨B1, 3, none⟩ (.slice a4 l.length c4)) = y := ⟨_, rfl⟩
    have m0 := unhide HX4
    rw [hy5] at m0 HR4 HB4 HO
    have t0 : y5.cell? ⟨B1, 0, none⟩ = some (.int .i64 1) := cell_of_heap m0.1
    have t1 : y5.cell? ⟨B1, 1, none⟩ = some (.int .i64 f) := cell_of_heap m0.1
    have t2 : y5.cell? ⟨B1, 2, none⟩ = some (.int .i64 n) := cell_of_heap m0.1
    have t3 : y5.cell? ⟨B1, 3, none⟩ = some (.slice a4 l.length c4) := cell_of_heap m0.1
    have z0 : y5.cell? ⟨w.heap.size, 0, none⟩ = some (.int .i64 0) := cell_of_heap m0.2
    have z1 : y5.cell? ⟨w.heap.size, 1, none⟩ = some (.int .i64 0) := cell_of_heap m0.2
    have z2 : y5.cell? ⟨w.heap.size, 2, none⟩ = some (.int .i64 0) := cell_of_heap m0.2
    have z3 : y5.cell? ⟨w.heap.size, 3, none⟩ = some (.slice none 0 0) := cell_of_heap m0.2
    have fz : ∀ o, y5.frozen? ⟨w.heap.size, o, none⟩ = false := fun o => frozen_of_heap m0.2
    have M0 := hide m0
    clear m0
    go_wp2_with fail
    refine bodyPost_ret (results_cell_row rfl _ _ w.heap.size 24 #[.int .i64 1, .int .i64 f, .int .i64 n, .slice a4 l.length c4] (0, 0) _ rfl (setCell_heap (setCell_heap (setCell_heap (setCell_heap (unhide M0).2)))) Tryz.underlying24 rfl (by kernel_rfl)) rfl ?_
    exact ⟨_, rfl, ⟨_, rfl, ((((((unhide HO).mono (by omega : w.heap.size + 1 ≤ B1 + 1)).setR (by omega)).setR (by omega)).setR (by omega)).setR (by omega)).mono (by omega)⟩, (((((unhide HR4).other hr _ _).other hr _ _).other hr _ _).other hr _ _), (((((unhide HB4).new (Nat.le_refl _) _ _).new (Nat.le_refl _) _ _).new (Nat.le_refl _) _ _).new (Nat.le_refl _) _ _)⟩
  · have et : s.entry = (⟨k, 0, 0, []⟩, s1) := by simp only [RS.entry, e1, if_neg hk]
    rw [et]
    simp only
    clear et e1
    go_enter Tryz.func25, Tryz.ntmps25
    go_wp2_with fail
    refine (unhide HC0).mono ?_
    rintro e y1 ⟨rfl, p1, q1⟩
    have hz1 := q1.same (unhide HZ0) (by omega)
    have hsz1 := Nat.le_trans (unhide HSZ0) q1.size
    obtain ⟨B1, hB1⟩ : ∃ B, y1.heap.size = B := ⟨_, rfl⟩
    have hal1 : Below y1.heap.size y1 (y1.alloc (.cells #[.int .i64 k, .int .i64 0, .int .i64 0, .slice none 0 0] 24)) := (Below.refl _ _).alloc (Nat.le_refl _) _
    have hx1 : (y1.alloc (.cells #[.int .i64 k, .int .i64 0, .int .i64 0, .slice none 0 0] 24)).heap[y1.heap.size]? = some (.cells #[.int .i64 k, .int .i64 0, .int .i64 0, .slice none 0 0] 24) := heap_alloc_new y1 _
    have hz1b : (y1.alloc (.cells #[.int .i64 k, .int .i64 0, .int .i64 0, .slice none 0 0] 24)).heap[w.heap.size]? = some (.cells #[.int .i64 0, .int .i64 0, .int .i64 0, .slice none 0 0] 24) := (Below.heap_alloc _ _ _ (by omega)).trans hz1
    have HR1 := hide (p1.below hal1)
    have HB1 := hide (((unhide HB0).trans q1).trans (But.of hal1))
    have hszA : w.heap.size < y1.heap.size := by omega
    have fz : ∀ o, y1.frozen? ⟨w.heap.size, o, none⟩ = false := fun o => frozen_of_heap hz1
    have z0 : y1.cell? ⟨w.heap.size, 0, none⟩ = some (.int .i64 0) := cell_of_heap hz1
    have z1 : y1.cell? ⟨w.heap.size, 1, none⟩ = some (.int .i64 0) := cell_of_heap hz1
    have z2 : y1.cell? ⟨w.heap.size, 2, none⟩ = some (.int .i64 0) := cell_of_heap hz1
    have z3 : y1.cell? ⟨w.heap.size, 3, none⟩ = some (.slice none 0 0) := cell_of_heap hz1
    have M0 := hide hz1
    have HP1 := hide p1
    have HQ1 := hide ((unhide HB0).trans q1)
    have hkb : (k == 1) = false := by simpa using hk
    clear p1 q1 hz1 hsz1 hal1 hx1 hz1b HC0 hB1 HR1 HB1
    go_wp2_with fail
    refine bodyPost_ret (results_cell_row rfl _ _ w.heap.size 24 #[.int .i64 k, .int .i64 0, .int .i64 0, .slice none 0 0] (0, 0) _ rfl ((Below.heap_alloc _ _ _ (by simp only [World.setCell, Array.size_modify]; exact hszA)).trans (setCell_heap (setCell_heap (setCell_heap (setCell_heap (unhide M0)))))) Tryz.underlying24 rfl (by kernel_rfl)) rfl ?_
    exact ⟨_, rfl, ⟨_, rfl, OwnTs.nil _ _⟩, (((((unhide HP1).other hr _ _).other hr _ _).other hr _ _).other hr _ _).below ((Below.refl _ _).alloc (Nat.le_refl _) _), (((((unhide HQ1).new (Nat.le_refl _) _ _).new (Nat.le_refl _) _ _).new (Nat.le_refl _) _ _).new (Nat.le_refl _) _ _).trans (But.of ((Below.refl _ _).alloc (Nat.le_refl _) _))⟩
end Go.Proofs.YtggllgimlfchhabGreat

/- Record: TakeEntry. -/
namespace Go.Proofs.YtggllgimlfchhabGreat
open Go.RowKit
set_option maxRecDepth 100000

theorem results_cell_row_tmp {P : Program} {fn : Func} {p u : Tmp} {ty : TypeId} (h : fn.results = #[.cell p ty, .tmp u]) (tmps : Array Value) (w : World) (g : Nat) (t : TypeId) (cs : Array Value) (fr : Nat × Nat) (d : TypeDesc)
    (hp : tmps.getD p undef = .pointer (some ⟨g, 0, none⟩)) (hg : w.heap[g]? = some (.cells cs t fr))
    (hu : P.underlying ty = some d) (hd : (match d with | .struct _ | .array _ _ => true | _ => false) = true) (hi : (P.info? ty).map (·.size) = some cs.size) :
    (results fn tmps).run P w = .ok (.tuple #[.agg cs, tmps.getD u undef]) w := by
  rw [results_cell_tmp h, hp]
  simp [asAddr, run_loadVar_row w g t ty cs fr d hg hu hd hi, Result.andThen]

def RS.fin (s : RS) : RS := if s.er = 0 ∧ s.zs ≠ [] then { s with er := 13 } else s
theorem fin_no {s : RS} (h : ¬ (s.er = 0 ∧ s.zs ≠ [])) : s.fin = s := by unfold RS.fin; rw [if_neg h]
theorem fin_yes {s : RS} (h : s.er = 0 ∧ s.zs ≠ []) : s.fin = { s with er := 13 } := by unfold RS.fin; rw [if_pos h]
set_option maxHeartbeats 800000 in
theorem end_r {w : World} {R lo : Nat} {s : RS} (h : RdS w R lo s) :
    Calls Tryz.prog 26 #[.pointer (some ⟨R, 0, none⟩)] w fun e w' => e = .returned (.tuple #[]) ∧ RdS w' R lo s.fin ∧ But R w w' := by
  obtain ⟨v, hv, hsb⟩ := h.cb
  obtain ⟨ao, cap, rfl, _⟩ := id hsb
  have h1 := h.ce
  have hf := h.fr
  have HH := hide h
  by_cases he : s.er = 0
  · by_cases hz : s.zs = []
    · rw [fin_no (fun c => c.2 hz)]
      rw [he] at h1
      rw [hz] at hv
      clear h hsb he
      simp only [List.length_nil] at hv
      go_enter Tryz.func26, Tryz.ntmps26
      go_wp2
      go_end0
      exact ⟨rfl, unhide HH, But.refl _ _⟩
    · rw [fin_yes ⟨he, hz⟩]
      have HE := hide (h.err (er' := 13))
      have hlen : 0 < s.zs.length := List.length_pos_iff.2 hz
      rw [he] at h1
      clear h hsb he
      generalize s.zs.length = L at *
      go_enter Tryz.func26, Tryz.ntmps26
      go_wp2
      go_end0
      exact ⟨rfl, unhide HE, (But.refl _ _).set 1 _⟩
  · rw [fin_no (fun c => he c.1)]
    clear h hsb
    generalize s.er = er at h1 he
    have heb : (er == 0) = false := by simpa using he
    go_enter Tryz.func26, Tryz.ntmps26
    go_wp2
    go_end0
    exact ⟨rfl, unhide HH, But.refl _ _⟩

def RS.fault (s : RS) (b : Bool) : Int := if s.er ≠ 0 then s.er else if b && !s.un then 0 else 40
set_option maxHeartbeats 800000 in
theorem fault_r {w : World} {R lo : Nat} {s : RS} (h : RdS w R lo s) (b : Bool) :
    Calls Tryz.prog 27 #[.pointer (some ⟨R, 0, none⟩), .bool b] w fun e w' => e = .returned (.int .i64 (s.fault b)) ∧ w = w' := by
  have h1 := h.ce
  have h2 := h.cu
  by_cases he : s.er = 0
  · have hfe : s.fault b = if b && !s.un then 0 else 40 := by unfold RS.fault; rw [if_neg (by simpa using he)]
    rw [hfe]
    rw [he] at h1
    clear h he hfe
    have HV := hide (verdict_any (b && !s.un) w)
    generalize s.un = un at *
    cases b
    · simp only [Bool.false_and] at HV ⊢
      go_enter Tryz.func27, Tryz.ntmps27
      go_wp2_with fail
      refine (unhide HV).mono ?_
      rintro e w1 ⟨rfl, rfl⟩
      go_wp2
      go_ret
      exact ⟨rfl, rfl⟩
    · simp only [Bool.true_and] at HV ⊢
      obtain ⟨r, hr⟩ : ∃ r : Int, (if (!un) = true then 0 else 40) = r := ⟨_, rfl⟩
      rw [hr] at HV ⊢
      clear hr
      go_enter Tryz.func27, Tryz.ntmps27
      go_wp2_with fail
      refine (unhide HV).mono ?_
      rintro e w1 ⟨rfl, rfl⟩
      go_wp2
      go_ret
      exact ⟨rfl, rfl⟩
  · have hfe : s.fault b = s.er := by unfold RS.fault; rw [if_pos he]
    rw [hfe]
    clear h hfe
    generalize s.er = er at h1 he ⊢
    have heb : (er != 0) = true := by simpa using he
    go_enter Tryz.func27, Tryz.ntmps27
    go_wp2
    go_ret
    exact ⟨rfl, rfl⟩

/-- What bytes say as an entry. -/
def takeE (zs : List Int) : EntD × Int :=
  let r := (RS.mk zs 0 false).entry
  let e := r.2.fin.fault (mayE r.1)
  if e = 0 then (r.1, 0) else (dE, e)

set_option maxHeartbeats 3200000 in
theorem TakeEntry_any (bv : Value) (zs : List Int) (w : World) (hs : Sees w .u8 bv zs) (hby : Byt zs) (hm : zs.length ≤ 140737488351232) :
    Calls Tryz.prog 8 #[bv] w fun e w' => ∃ cs, e = .returned (.tuple #[.agg cs, .int .i64 (takeE zs).2]) ∧ OwnE w.heap.size w' cs (takeE zs).1 ∧ Below w.heap.size w w' := by
  obtain ⟨ao, cap, rfl, _⟩ := id hs
  have hal : Below w.heap.size w ((w.alloc (.cells #[.int .i64 0, .int .i64 0, .int .i64 0, .slice none 0 0] 24)).alloc (.cells #[.slice ao zs.length cap, .int .i64 0, .bool false] 63)) := ((Below.refl _ _).alloc (Nat.le_refl _) _).alloc (by simp) _
  have hszw : (w.alloc (.cells #[.int .i64 0, .int .i64 0, .int .i64 0, .slice none 0 0] 24)).heap.size = w.heap.size + 1 := by simp
  have hRb : ((w.alloc (.cells #[.int .i64 0, .int .i64 0, .int .i64 0, .slice none 0 0] 24)).alloc (.cells #[.slice ao zs.length cap, .int .i64 0, .bool false] 63)).heap[w.heap.size + 1]? = some (.cells #[.slice ao zs.length cap, .int .i64 0, .bool false] 63) := by have := heap_alloc_new (w.alloc (.cells #[.int .i64 0, .int .i64 0, .int .i64 0, .slice none 0 0] 24)) (.cells #[.slice ao zs.length cap, .int .i64 0, .bool false] 63); rw [hszw] at this; exact this
  have hZb : ((w.alloc (.cells #[.int .i64 0, .int .i64 0, .int .i64 0, .slice none 0 0] 24)).alloc (.cells #[.slice ao zs.length cap, .int .i64 0, .bool false] 63)).heap[w.heap.size]? = some (.cells #[.int .i64 0, .int .i64 0, .int .i64 0, .slice none 0 0] 24) := (Below.heap_alloc _ _ _ (by simp)).trans (heap_alloc_new w _)
  have hRd : RdS ((w.alloc (.cells #[.int .i64 0, .int .i64 0, .int .i64 0, .slice none 0 0] 24)).alloc (.cells #[.slice ao zs.length cap, .int .i64 0, .bool false] 63)) (w.heap.size + 1) w.heap.size ⟨zs, 0, false⟩ :=
    ⟨⟨_, cell_of_heap hRb, hs.upto.below hal (Nat.le_refl _)⟩, cell_of_heap hRb, cell_of_heap hRb, fun o => frozen_of_heap hRb, by omega, hby, hm⟩
  obtain ⟨ent, s1, hes⟩ : ∃ e s', (RS.mk zs 0 false).entry = (e, s') := ⟨_, _, rfl⟩
  have hbyt := (entry_byt (s := ⟨zs, 0, false⟩) hby).2
  have hte : takeE zs = (if s1.fin.fault (mayE ent) = 0 then (ent, 0) else (dE, s1.fin.fault (mayE ent))) := by simp only [takeE, hes]
  have HC0 := hide (entry_r hRd)
  rw [hes] at hbyt HC0
  simp only at hbyt HC0
  have HRT := hide hbyt
  have HZ0 := hide hZb
  have HB0 : Hid (Below w.heap.size w ((w.alloc (.cells #[.int .i64 0, .int .i64 0, .int .i64 0, .slice none 0 0] 24)).alloc (.cells #[.slice ao zs.length cap, .int .i64 0, .bool false] 63))) := hal
  have HSZ0 : Hid (((w.alloc (.cells #[.int .i64 0, .int .i64 0, .int .i64 0, .slice none 0 0] 24)).alloc (.cells #[.slice ao zs.length cap, .int .i64 0, .bool false] 63)).heap.size = w.heap.size + 2) := by show _ = _; simp
  obtain ⟨F, hF⟩ : ∃ F, s1.fin.fault (mayE ent) = F := ⟨_, rfl⟩
  rw [hF] at hte
  have HF := hide hF
  clear hal hRd hRb hZb hes hbyt hby hm hs hF
  obtain ⟨TE, hTE⟩ : ∃ r, takeE zs = r := ⟨_, rfl⟩
  rw [hTE] at hte ⊢
  have HTE := hide hte
  clear hTE hte
  go_enter Tryz.func8, Tryz.ntmps8
  go_wp2_with fail
  refine (unhide HC0).mono ?_
  rintro e y1 ⟨cs, rfl, hoe, p1, q1⟩
  obtain ⟨tv, rfl, hot⟩ := hoe
  obtain ⟨ax, ct, rfl⟩ := hot.shape
  have hsz0 := unhide HSZ0
  have hz1 : y1.heap[w.heap.size]? = some (.cells #[.int .i64 0, .int .i64 0, .int .i64 0, .slice none 0 0] 24) := q1.same (unhide HZ0) (by omega)
  have hb1 : Below w.heap.size w y1 := (unhide HB0).trans (q1.below (by omega) (by omega))
  have hsy := q1.size
  obtain ⟨ek, ek'⟩ : ∃ x, ent.kind = x := ⟨_, rfl⟩
  obtain ⟨ef, ef'⟩ : ∃ x, ent.frm = x := ⟨_, rfl⟩
  obtain ⟨en, en'⟩ : ∃ x, ent.num = x := ⟨_, rfl⟩
  obtain ⟨tl, tl'⟩ : ∃ x, ent.txns.length = x := ⟨_, rfl⟩
  rw [tl'] at hot
  rw [ek', ef', en', tl']
  have hal1 : Below y1.heap.size y1 (y1.alloc (.cells #[.int .i64 ek, .int .i64 ef, .int .i64 en, .slice ax tl ct] 24)) := (Below.refl _ _).alloc (Nat.le_refl _) _
  have hx1 : (y1.alloc (.cells #[.int .i64 ek, .int .i64 ef, .int .i64 en, .slice ax tl ct] 24)).heap[y1.heap.size]? = some (.cells #[.int .i64 ek, .int .i64 ef, .int .i64 en, .slice ax tl ct] 24) := heap_alloc_new y1 _
  have hz1b : (y1.alloc (.cells #[.int .i64 ek, .int .i64 ef, .int .i64 en, .slice ax tl ct] 24)).heap[w.heap.size]? = some (.cells #[.int .i64 0, .int .i64 0, .int .i64 0, .slice none 0 0] 24) := (Below.heap_alloc _ _ _ (by omega)).trans hz1
  have hot1 : OwnTs (w.heap.size + 2) (y1.alloc (.cells #[.int .i64 ek, .int .i64 ef, .int .i64 en, .slice ax tl ct] 24)) (.slice ax tl ct) ent.txns := (hot.mono (by omega)).below hal1
  have HC1 := hide (end_r (p1.below hal1))
  have HX1 := hide (And.intro hx1 hz1b)
  have HOT1 := hide hot1
  have HBw1 : Hid (Below w.heap.size w (y1.alloc (.cells #[.int .i64 ek, .int .i64 ef, .int .i64 en, .slice ax tl ct] 24))) := hb1.trans (hal1.mono hb1.size)
  have HEQ : Hid ((#[.int .i64 ent.kind, .int .i64 ent.frm, .int .i64 ent.num, .slice ax tl ct] : Array Value) = #[.int .i64 ek, .int .i64 ef, .int .i64 en, .slice ax tl ct]) := by show _ = _; rw [ek', ef', en']
  have HYS : Hid (w.heap.size + 2 ≤ y1.heap.size) := by show _ ≤ _; omega
  clear p1 q1 hot hot1 hx1 hz1b hal1 hz1 hb1 hsy ek' ef' en' tl' HC0 hsz0
  obtain ⟨B1, hB1⟩ : ∃ B, y1.heap.size = B := ⟨_, rfl⟩
  rw [hB1] at HX1 HYS
  go_wp2_with fail
  refine (unhide HC1).mono ?_
  rintro e y2 ⟨rfl, p2, q2⟩
  have hB1s := unhide HYS
  have hx2 := q2.same (unhide HX1).1 (by omega)
  have hz2 := q2.same (unhide HX1).2 (by omega)
  have hot2 := (unhide HOT1).but q2 (by omega)
  have hseeE : SeesE y2 #[.int .i64 ek, .int .i64 ef, .int .i64 en, .slice ax tl ct] ent := ⟨_, (unhide HEQ).symm, hot2.sees (unhide HRT).1 (unhide HRT).2⟩
  have HC2 := hide (entryMayBe_any _ ent y2 hseeE (fun t ht => ⟨((unhide HRT).2 t ht).code, by have := ((unhide HRT).2 t ht).args; omega⟩))
  have HBw2 : Hid (Below w.heap.size w y2) := (unhide HBw1).trans (q2.below (by omega) (by have := (unhide HBw1).size; omega))
  have t0 : y2.cell? ⟨B1, 0, none⟩ = some (.int .i64 ek) := cell_of_heap hx2
  have t1 : y2.cell? ⟨B1, 1, none⟩ = some (.int .i64 ef) := cell_of_heap hx2
  have t2 : y2.cell? ⟨B1, 2, none⟩ = some (.int .i64 en) := cell_of_heap hx2
  have t3 : y2.cell? ⟨B1, 3, none⟩ = some (.slice ax tl ct) := cell_of_heap hx2
  have HX2 := hide (And.intro hx2 hz2)
  have HP2 := hide p2
  have HOT2 := hide hot2
  have HS2 : Hid (B1 < y2.heap.size ∧ w.heap.size < y2.heap.size) := ⟨(Array.getElem?_eq_some_iff.1 hx2).1, (Array.getElem?_eq_some_iff.1 hz2).1⟩
  clear p2 q2 hx2 hz2 hot2 hseeE HC1
  go_wp2_with fail
  refine (unhide HC2).mono ?_
  rintro e y3 ⟨rfl, hb3⟩
  have HC3 := hide (fault_r ((unhide HP2).below hb3) (mayE ent))
  have hx3 : y3.heap[B1]? = some (.cells #[.int .i64 ek, .int .i64 ef, .int .i64 en, .slice ax tl ct] 24) := (hb3.block B1 (unhide HS2).1).trans (unhide HX2).1
  have hz3 : y3.heap[w.heap.size]? = some (.cells #[.int .i64 0, .int .i64 0, .int .i64 0, .slice none 0 0] 24) := (hb3.block w.heap.size (unhide HS2).2).trans (unhide HX2).2
  have HOT3 := hide ((unhide HOT2).below hb3)
  have HBw3 : Hid (Below w.heap.size w y3) := (unhide HBw2).trans (hb3.mono (unhide HBw2).size)
  rw [unhide HF] at HC3
  have u0 : y3.cell? ⟨B1, 0, none⟩ = some (.int .i64 ek) := cell_of_heap hx3
  have u1 : y3.cell? ⟨B1, 1, none⟩ = some (.int .i64 ef) := cell_of_heap hx3
  have u2 : y3.cell? ⟨B1, 2, none⟩ = some (.int .i64 en) := cell_of_heap hx3
  have u3 : y3.cell? ⟨B1, 3, none⟩ = some (.slice ax tl ct) := cell_of_heap hx3
  have z0 : y3.cell? ⟨w.heap.size, 0, none⟩ = some (.int .i64 0) := cell_of_heap hz3
  have z1 : y3.cell? ⟨w.heap.size, 1, none⟩ = some (.int .i64 0) := cell_of_heap hz3
  have z2 : y3.cell? ⟨w.heap.size, 2, none⟩ = some (.int .i64 0) := cell_of_heap hz3
  have z3 : y3.cell? ⟨w.heap.size, 3, none⟩ = some (.slice none 0 0) := cell_of_heap hz3
  have fz : ∀ o, y3.frozen? ⟨w.heap.size, o, none⟩ = false := fun o => frozen_of_heap hz3
  have HZ3 := hide hz3
  clear hb3 hx3 hz3 HC2
  go_wp2_with fail
  refine (unhide HC3).mono ?_
  rintro e y4 ⟨rfl, rfl⟩
  clear HC3
  by_cases hF0 : F = 0
  · subst hF0
    have hTE : TE = (ent, 0) := (unhide HTE).trans (if_pos rfl)
    have HT := hide hTE
    clear hTE
    go_wp2
    refine bodyPost_ret (results_cell_row_tmp rfl _ _ w.heap.size 24 #[.int .i64 ek, .int .i64 ef, .int .i64 en, .slice ax tl ct] (0, 0) _ rfl (setCell_heap (setCell_heap (setCell_heap (setCell_heap (unhide HZ3))))) Tryz.underlying24 rfl (by kernel_rfl)) rfl ?_
    rw [unhide HT]
    exact ⟨_, rfl, ⟨_, (unhide HEQ).symm, (((((unhide HOT3).setR (by omega)).setR (by omega)).setR (by omega)).setR (by omega)).mono (by omega)⟩, (((((unhide HBw3).setCell (p := ⟨w.heap.size, 0, none⟩) (Nat.le_refl _) _).setCell (p := ⟨w.heap.size, 1, none⟩) (Nat.le_refl _) _).setCell (p := ⟨w.heap.size, 2, none⟩) (Nat.le_refl _) _).setCell (p := ⟨w.heap.size, 3, none⟩) (Nat.le_refl _) _)⟩
  · have hTE : TE = (dE, F) := (unhide HTE).trans (if_neg hF0)
    have HT := hide hTE
    have hFb : (F != 0) = true := by simpa using hF0
    clear hTE
    go_wp2
    refine bodyPost_ret (results_cell_row_tmp rfl _ _ w.heap.size 24 #[.int .i64 0, .int .i64 0, .int .i64 0, .slice none 0 0] (0, 0) _ rfl (setCell_heap (setCell_heap (setCell_heap (setCell_heap (unhide HZ3))))) Tryz.underlying24 rfl (by kernel_rfl)) rfl ?_
    rw [unhide HT]
    exact ⟨_, rfl, ⟨_, rfl, OwnTs.nil _ _⟩, (((((unhide HBw3).setCell (p := ⟨w.heap.size, 0, none⟩) (Nat.le_refl _) _).setCell (p := ⟨w.heap.size, 1, none⟩) (Nat.le_refl _) _).setCell (p := ⟨w.heap.size, 2, none⟩) (Nat.le_refl _) _).setCell (p := ⟨w.heap.size, 3, none⟩) (Nat.le_refl _) _)⟩
end Go.Proofs.YtggllgimlfchhabGreat
