/- Several texts as one. -/
import Derived.Test.YtggllgimlfchhaaGreatZF
import Derived.Laws.ResultCell

/- Record: what was read, as it is seen. -/
namespace Go.Proofs.YtggllgimlfchhaaGreat
open Go.RowKit
set_option maxRecDepth 100000

theorem keyCs_at : ∀ (l : List (Int × Int)) t, t < l.length → (keyCs l)[t * 2]? = some (.int .i32 (l.getD t (0, 0)).1) ∧ (keyCs l)[t * 2 + 1]? = some (.int .i64 (l.getD t (0, 0)).2)
  | [], t, h => absurd h (by simp)
  | k :: l, 0, _ => ⟨rfl, rfl⟩
  | k :: l, t + 1, h => by
    have := keyCs_at l t (by simpa using h)
    rw [show (t + 1) * 2 = t * 2 + 1 + 1 by omega]
    simp only [keyCs, List.getElem?_cons_succ, List.getD_cons_succ]
    exact this
theorem sees_keys {w : World} {base : Nat} {v : Value} {l : List (Int × Int)} (h : w.ownsRow base 90 2 v l.length (keyCs l)) (hl : l.length ≤ 4096) : SeesK w v l := by
  rcases h.2 with ⟨rfl, h0⟩ | ⟨g, cap, cur, rfl, hg, hh, hcap, _⟩
  · exact ⟨none, 0, 0, 0, by rw [h0], by omega, by omega, fun h => absurd h (by omega), fun t ht => absurd ht (by omega)⟩
  · have hat : ∀ t u, (keyCs l)[t]? = some u → w.cell? ⟨g, 0 + t, none⟩ = some u := by
      intro t u hu
      have := h.cells (g := g) rfl t u hu
      rwa [Addr.add_mid] at this
    exact ⟨some ⟨g, 0, none⟩, cap, g, 0, rfl, hcap, by omega, fun _ => rfl, fun t ht => ⟨hat _ _ (keyCs_at l t ht).1, by have := hat _ _ (keyCs_at l t ht).2; rwa [← Nat.add_assoc] at this⟩⟩
/-- What a transaction that was read may be. -/
structure ReadT (t : TxnD) : Prop where
  code : Byt t.code
  args : t.args.length ≤ 4096
  reads : t.reads.length ≤ 4096
  writes : t.writes.length ≤ 4096
theorem OwnT.sees {base : Nat} {w : World} {cs : Array Value} {t : TxnD} (h : OwnT base w cs t) (hr : ReadT t) : SeesT w cs t := by
  obtain ⟨cv, av, rv, wv, h0, h1, h2, h3, h4⟩ := h
  exact ⟨cv, av, rv, wv, h0, (sees_of_own h1).2, (sees_of_own h2).2, sees_keys h3 hr.reads, sees_keys h4 hr.writes⟩
theorem txnCells_at : ∀ (vs : List (TxnD × Value × Value × Value × Value)) t p, vs[t]? = some p → ∀ k, k < 6 → (vs.flatMap txnCells)[t * 6 + k]? = (txnCells p)[k]?
  | [], t, p, h => by simp at h
  | q :: vs, 0, p, h => fun k hk => by
    simp only [List.getElem?_cons_zero, Option.some.injEq] at h
    subst h
    simp only [List.flatMap_cons]
    rw [List.getElem?_append_left (by simp [txnCells]; omega)]
    simp
  | q :: vs, t + 1, p, h => fun k hk => by
    have ih := txnCells_at vs t p (by simpa using h) k hk
    simp only [List.flatMap_cons]
    rw [List.getElem?_append_right (by simp [txnCells]; omega)]
    rw [show (t + 1) * 6 + k - (txnCells q).length = t * 6 + k by simp [txnCells]; omega]
    exact ih
theorem OwnTs.sees {base : Nat} {w : World} {x : Value} {l : List TxnD} (h : OwnTs base w x l) (hl : l.length ≤ 4096) (hr : ∀ t ∈ l, ReadT t) : SeesTs w x l := by
  obtain ⟨vs, rfl, hrow, hall⟩ := h
  rcases hrow.2 with ⟨rfl, h0⟩ | ⟨g, cap, cur, rfl, hg, hh, hcap, _⟩
  · exact ⟨none, 0, 0, 0, by rw [h0], by omega, by omega, fun h => absurd h (by omega), fun t ht => absurd ht (by omega)⟩
  · have hat : ∀ t u, (vs.flatMap txnCells)[t]? = some u → w.cell? ⟨g, 0 + t, none⟩ = some u := by
      intro t u hu
      have := hrow.cells (g := g) rfl t u hu
      rwa [Addr.add_mid] at this
    refine ⟨some ⟨g, 0, none⟩, cap, g, 0, rfl, hcap, by omega, fun _ => rfl, fun t ht => ?_⟩
    have htv : t < vs.length := by simpa using ht
    have hp : vs[t]? = some vs[t] := List.getElem?_eq_getElem htv
    have e : (vs.map (·.1)).getD t dT = vs[t].1 := by simp [List.getD, htv]
    rw [e]
    have hc : ∀ k u, k < 6 → (txnCells vs[t])[k]? = some u → w.cell? ⟨g, 0 + t * 6 + k, none⟩ = some u := fun k u hk hu => by
      have := hat (t * 6 + k) u ((txnCells_at vs t _ hp k hk).trans hu)
      rwa [← Nat.add_assoc] at this
    exact ⟨_, _, _, _, hc 0 _ (by omega) rfl, hc 1 _ (by omega) rfl, hc 2 _ (by omega) rfl, hc 3 _ (by omega) rfl, hc 4 _ (by omega) rfl, hc 5 _ (by omega) rfl, (hall _ (List.getElem_mem htv)).sees (hr _ (List.mem_map.2 ⟨_, List.getElem_mem htv, rfl⟩))⟩

/-! ### what is read of bytes -/
theorem num_byt {s : RS} (h : Byt s.zs) : Byt s.num.2.zs := by
  unfold RS.num
  split
  · exact h.drop _
  · exact h
theorem must_byt {s : RS} {b : Bool} (h : Byt s.zs) : Byt (s.must b).zs := by
  unfold RS.must
  split <;> exact h
theorem tb_byt {l : List Int} (h : Byt l) : Byt (tb l).1 := by
  unfold tb
  (repeat' split) <;> first | (intro b hb; cases hb) | exact fun x hx => h x (List.mem_of_mem_drop (List.mem_of_mem_take hx))
theorem blob_byt {s : RS} (h : Byt s.zs) : Byt s.blob.2.zs ∧ Byt s.blob.1 := by
  unfold RS.blob
  split
  · exact ⟨h.drop _, tb_byt h⟩
  · exact ⟨h, fun b hb => by cases hb⟩
theorem iter_byt {α : Type} {take : RS → α × RS} {P : α → Prop} (ht : ∀ s : RS, Byt s.zs → Byt (take s).2.zs ∧ P (take s).1) {s : RS} (h : Byt s.zs) : ∀ k, Byt (RS.iter take k s).2.zs ∧ ∀ x ∈ (RS.iter take k s).1, P x
  | 0 => ⟨h, fun x hx => by cases hx⟩
  | k + 1 => by
    have ih := iter_byt ht h k
    by_cases he : (RS.iter take k s).2.er = 0
    · rw [iter_step he]
      have := ht _ ih.1
      exact ⟨this.1, fun x hx => by
        rcases List.mem_append.1 hx with hx | hx
        · exact ih.2 x hx
        · rw [List.mem_singleton] at hx; rw [hx]; exact this.2⟩
    · rw [iter_stop he 1]
      exact ih
theorem list_byt {α : Type} {take : RS → α × RS} {P : α → Prop} (ht : ∀ s : RS, Byt s.zs → Byt (take s).2.zs ∧ P (take s).1) {s : RS} (h : Byt s.zs) : Byt (s.list take).2.zs ∧ ∀ x ∈ (s.list take).1, P x :=
  iter_byt ht (must_byt (num_byt h)) _
theorem fit32_byt {s : RS} (h : Byt s.zs) : Byt s.fit32.2.zs := by
  unfold RS.fit32
  simp only
  split
  · exact num_byt h
  · exact num_byt h
theorem key_byt {s : RS} (h : Byt s.zs) : Byt s.key.2.zs := num_byt (fit32_byt h)
theorem txn_byt {s : RS} (h : Byt s.zs) : Byt s.txn.2.zs ∧ ReadT s.txn.1 := by
  have h1 := num_byt h
  have h2 := num_byt h1
  have h3 := blob_byt h2
  have h4 := (list_byt (take := RS.num) (P := fun _ => True) (fun s hs => ⟨num_byt hs, trivial⟩) h3.1).1
  have h5 := (list_byt (take := RS.key) (P := fun _ => True) (fun s hs => ⟨key_byt hs, trivial⟩) h4).1
  have h6 := (list_byt (take := RS.key) (P := fun _ => True) (fun s hs => ⟨key_byt hs, trivial⟩) h5).1
  exact ⟨h6, ⟨h3.2, list_len _ _, list_len _ _, list_len _ _⟩⟩
theorem txns_byt {s : RS} (h : Byt s.zs) : Byt (s.list RS.txn).2.zs ∧ ∀ x ∈ (s.list RS.txn).1, ReadT x := list_byt (fun _ hs => txn_byt hs) h
end Go.Proofs.YtggllgimlfchhaaGreat

/- Record: an entry, read. -/
namespace Go.Proofs.YtggllgimlfchhaaGreat
open Go.RowKit
set_option maxRecDepth 100000

theorem OwnT.setR {base b o : Nat} {w : World} {cs : Array Value} {t : TxnD} {u : Value} (h : OwnT base w cs t) (hb : b < base) : OwnT base (w.setCell ⟨b, o, none⟩ u) cs t := by
  obtain ⟨cv, av, rv, wv, h0, h1, h2, h3, h4⟩ := h
  exact ⟨cv, av, rv, wv, h0, own_setR h1 hb _ _, own_setR h2 hb _ _, own_setR h3 hb _ _, own_setR h4 hb _ _⟩
theorem OwnTs.setR {base b o : Nat} {w : World} {x : Value} {l : List TxnD} {u : Value} (h : OwnTs base w x l) (hb : b < base) : OwnTs base (w.setCell ⟨b, o, none⟩ u) x l := by
  obtain ⟨vs, h1, h2, h3⟩ := h
  exact ⟨vs, h1, own_setR h2 hb _ _, fun p hp => (h3 p hp).setR hb⟩
theorem OwnTs.but {base R : Nat} {w w' : World} {x : Value} {l : List TxnD} (h : OwnTs base w x l) (hk : But R w w') (hR : R < base) : OwnTs base w' x l := by
  obtain ⟨vs, h1, h2, h3⟩ := h
  exact ⟨vs, h1, own_keepR h2 hk hR, fun p hp => (h3 p hp).but hk hR⟩
theorem OwnTs.below {base : Nat} {w w' : World} {x : Value} {l : List TxnD} (h : OwnTs base w x l) (hb : Below w.heap.size w w') : OwnTs base w' x l := by
  obtain ⟨vs, h1, h2, h3⟩ := h
  exact ⟨vs, h1, own_below h2 hb, fun p hp => (h3 p hp).below hb⟩
theorem OwnTs.mono {base base' : Nat} {w : World} {x : Value} {l : List TxnD} (h : OwnTs base w x l) (hb : base' ≤ base) : OwnTs base' w x l := by
  obtain ⟨vs, h1, h2, h3⟩ := h
  refine ⟨vs, h1, own_monoN h2 hb, fun p hp => ?_⟩
  obtain ⟨cv, av, rv, wv, g0, g1, g2, g3, g4⟩ := h3 p hp
  exact ⟨cv, av, rv, wv, g0, own_monoN g1 hb, own_monoN g2 hb, own_monoN g3 hb, own_monoN g4 hb⟩

def RS.entry (s : RS) : EntD × RS :=
  let k := s.kind 0 1
  if k.1 = 1 then
    let f := k.2.num
    let n := f.2.num
    let l := n.2.list RS.txn
    (⟨k.1, f.1, n.1, l.1⟩, l.2)
  else (⟨k.1, 0, 0, []⟩, k.2)
theorem kind_byt {s : RS} {a b : Int} (h : Byt s.zs) : Byt (s.kind a b).2.zs := must_byt (num_byt h)
theorem entry_byt {s : RS} (h : Byt s.zs) : Byt s.entry.2.zs ∧ (s.entry.1.txns.length ≤ 4096 ∧ ∀ t ∈ s.entry.1.txns, ReadT t) := by
  unfold RS.entry
  simp only
  split
  · have := txns_byt (num_byt (num_byt (kind_byt (a := 0) (b := 1) h)))
    exact ⟨this.1, list_len _ _, this.2⟩
  · exact ⟨kind_byt h, by simp, fun t ht => by cases ht⟩
def OwnE (base : Nat) (w : World) (cs : Array Value) (e : EntD) : Prop := ∃ tv, cs = #[.int .i64 e.kind, .int .i64 e.frm, .int .i64 e.num, tv] ∧ OwnTs base w tv e.txns

set_option maxHeartbeats 3200000 in
theorem entry_r {w : World} {R lo : Nat} {s : RS} (h : RdS w R lo s) :
    Calls Tryz.prog 44 #[.pointer (some ⟨R, 0, none⟩)] w fun e w' => ∃ cs, e = .returned (.agg cs) ∧ OwnE w.heap.size w' cs s.entry.1 ∧ RdS w' R lo s.entry.2 ∧ But R w w' := by
  have hr := h.rlt
  obtain ⟨k, s1, e1⟩ : ∃ n s', s.kind 0 1 = (n, s') := ⟨_, _, rfl⟩
  have hal : Below w.heap.size w (w.alloc (.cells #[.int .i64 0, .int .i64 0, .int .i64 0, .slice none 0 0] 29)) := (Below.refl _ _).alloc (Nat.le_refl _) _
  have HC0 := hide (kind_r (h.below hal) 0 1)
  rw [e1] at HC0
  simp only at HC0
  have HB0 : Hid (But R w (w.alloc (.cells #[.int .i64 0, .int .i64 0, .int .i64 0, .slice none 0 0] 29))) := But.of hal
  have HZ0 : Hid ((w.alloc (.cells #[.int .i64 0, .int .i64 0, .int .i64 0, .slice none 0 0] 29)).heap[w.heap.size]? = some (.cells #[.int .i64 0, .int .i64 0, .int .i64 0, .slice none 0 0] 29)) := heap_alloc_new w _
  have HSZ0 : Hid (w.heap.size + 1 ≤ (w.alloc (.cells #[.int .i64 0, .int .i64 0, .int .i64 0, .slice none 0 0] 29)).heap.size) := by show _ ≤ _; simp
  clear h hal
  by_cases hk : k = 1
  · subst hk
    obtain ⟨f, s2, e2⟩ : ∃ n s', s1.num = (n, s') := ⟨_, _, rfl⟩
    obtain ⟨n, s3, e3⟩ : ∃ n s', s2.num = (n, s') := ⟨_, _, rfl⟩
    obtain ⟨l, s4, e4⟩ : ∃ n s', s3.list RS.txn = (n, s') := ⟨_, _, rfl⟩
    have et : s.entry = (⟨1, f, n, l⟩, s4) := by simp only [RS.entry, e1, e2, e3, e4, if_true]
    rw [et]
    simp only
    have HE : Hid (s1.num = (f, s2) ∧ s2.num = (n, s3) ∧ s3.list RS.txn = (l, s4)) := ⟨e2, e3, e4⟩
    clear et e1 e2 e3 e4
    go_enter Tryz.func44, Tryz.ntmps44
    go_wp2_with fail
    refine (unhide HC0).mono ?_
    rintro e y1 ⟨rfl, p1, q1⟩
    have hz1 := q1.same (unhide HZ0) (by omega)
    have hsz1 := Nat.le_trans (unhide HSZ0) q1.size
    obtain ⟨B1, hB1⟩ : ∃ B, y1.heap.size = B := ⟨_, rfl⟩
    have hal1 : Below y1.heap.size y1 (y1.alloc (.cells #[.int .i64 1, .int .i64 0, .int .i64 0, .slice none 0 0] 29)) := (Below.refl _ _).alloc (Nat.le_refl _) _
    have hx1 : (y1.alloc (.cells #[.int .i64 1, .int .i64 0, .int .i64 0, .slice none 0 0] 29)).heap[y1.heap.size]? = some (.cells #[.int .i64 1, .int .i64 0, .int .i64 0, .slice none 0 0] 29) := heap_alloc_new y1 _
    have hz1b : (y1.alloc (.cells #[.int .i64 1, .int .i64 0, .int .i64 0, .slice none 0 0] 29)).heap[w.heap.size]? = some (.cells #[.int .i64 0, .int .i64 0, .int .i64 0, .slice none 0 0] 29) := (Below.heap_alloc _ _ _ (by omega)).trans hz1
    have HC1 := hide (fit_r (p1.below hal1))
    rw [(unhide HE).1] at HC1
    simp only at HC1
    have HB1 := hide (((unhide HB0).trans q1).trans (But.of hal1))
    have hszA : w.heap.size < B1 := by omega
    rw [hB1] at hx1
    have HX1 := hide (And.intro hx1 hz1b)
    have HSZ1 : Hid (B1 + 1 ≤ (y1.alloc (.cells #[.int .i64 1, .int .i64 0, .int .i64 0, .slice none 0 0] 29)).heap.size) := by show _ ≤ _; simp; omega
    have HBB := hide hB1
    clear p1 q1 hz1 hsz1 hal1 hx1 hz1b HC0
    go_wp2_with fail
    refine (unhide HC1).mono ?_
    rintro e y2 ⟨rfl, p, q⟩
    have hx : y2.heap[B1]? = some (.cells #[.int .i64 1, .int .i64 0, .int .i64 0, .slice none 0 0] 29) := q.same (unhide HX1).1 (by omega)
    have hy : y2.heap[w.heap.size]? = some (.cells #[.int .i64 0, .int .i64 0, .int .i64 0, .slice none 0 0] 29) := q.same (unhide HX1).2 (by omega)
    have kc1 : y2.cell? ⟨B1, 1, none⟩ = some (.int .i64 0) := cell_of_heap hx
    have fc1 : ∀ o, y2.frozen? ⟨B1, o, none⟩ = false := fun o => frozen_of_heap hx
    have HX2 : Hid ((y2.setCell ⟨B1, 1, none⟩ (.int .i64 f)).heap[B1]? = some (.cells #[.int .i64 1, .int .i64 f, .int .i64 0, .slice none 0 0] 29) ∧ (y2.setCell ⟨B1, 1, none⟩ (.int .i64 f)).heap[w.heap.size]? = some (.cells #[.int .i64 0, .int .i64 0, .int .i64 0, .slice none 0 0] 29)) := ⟨setCell_heap hx, (Below.heap_setCell _ _ _ _ (fun e => by simp only at e; omega)).trans hy⟩
    have hsz := Nat.le_trans (unhide HSZ1) q.size
    have HSZ2 : Hid (B1 + 1 ≤ (y2.setCell ⟨B1, 1, none⟩ (.int .i64 f)).heap.size) := by show _ ≤ _; simp only [World.setCell, Array.size_modify]; exact hsz
    have HR2 := hide (p.other (b := B1) (by omega) 1 (.int .i64 f))
    have HB2 := hide (((unhide HB1).trans q).new (b := B1) (by omega) 1 (.int .i64 f))
    have HC2 := hide (num_r (unhide HR2))
    rw [(unhide HE).2.1] at HC2
    simp only at HC2
    clear p q hx hy hsz HC1
    go_wp2_with fail
    refine (unhide HC2).mono ?_
    rintro e y3 ⟨rfl, p, q⟩
    have hx : y3.heap[B1]? = some (.cells #[.int .i64 1, .int .i64 f, .int .i64 0, .slice none 0 0] 29) := q.same (unhide HX2).1 (by omega)
    have hy : y3.heap[w.heap.size]? = some (.cells #[.int .i64 0, .int .i64 0, .int .i64 0, .slice none 0 0] 29) := q.same (unhide HX2).2 (by omega)
    have kc2 : y3.cell? ⟨B1, 2, none⟩ = some (.int .i64 0) := cell_of_heap hx
    have fc2 : ∀ o, y3.frozen? ⟨B1, o, none⟩ = false := fun o => frozen_of_heap hx
    have HX3 : Hid ((y3.setCell ⟨B1, 2, none⟩ (.int .i64 n)).heap[B1]? = some (.cells #[.int .i64 1, .int .i64 f, .int .i64 n, .slice none 0 0] 29) ∧ (y3.setCell ⟨B1, 2, none⟩ (.int .i64 n)).heap[w.heap.size]? = some (.cells #[.int .i64 0, .int .i64 0, .int .i64 0, .slice none 0 0] 29)) := ⟨setCell_heap hx, (Below.heap_setCell _ _ _ _ (fun e => by simp only at e; omega)).trans hy⟩
    have hsz := Nat.le_trans (unhide HSZ2) q.size
    have HSZ3 : Hid (B1 + 1 ≤ (y3.setCell ⟨B1, 2, none⟩ (.int .i64 n)).heap.size) := by show _ ≤ _; simp only [World.setCell, Array.size_modify]; exact hsz
    have HR3 := hide (p.other (b := B1) (by omega) 2 (.int .i64 n))
    have HB3 := hide (((unhide HB2).trans q).new (b := B1) (by omega) 2 (.int .i64 n))
    have HC3 := hide (takeTxns_r (unhide HR3))
    rw [(unhide HE).2.2] at HC3
    simp only at HC3
    clear p q hx hy hsz HC2
    go_wp2_with fail
    refine (unhide HC3).mono ?_
    rintro e y4 ⟨x4, rfl, r4, p, q⟩
    obtain ⟨a4, c4, rfl⟩ := r4.shape
    have hx : y4.heap[B1]? = some (.cells #[.int .i64 1, .int .i64 f, .int .i64 n, .slice none 0 0] 29) := q.same (unhide HX3).1 (by omega)
    have hy : y4.heap[w.heap.size]? = some (.cells #[.int .i64 0, .int .i64 0, .int .i64 0, .slice none 0 0] 29) := q.same (unhide HX3).2 (by omega)
    have kc3 : y4.cell? ⟨B1, 3, none⟩ = some (.slice none 0 0) := cell_of_heap hx
    have fc3 : ∀ o, y4.frozen? ⟨B1, o, none⟩ = false := fun o => frozen_of_heap hx
    have HX4 : Hid ((y4.setCell ⟨B1, 3, none⟩ (.slice a4 l.length c4)).heap[B1]? = some (.cells #[.int .i64 1, .int .i64 f, .int .i64 n, .slice a4 l.length c4] 29) ∧ (y4.setCell ⟨B1, 3, none⟩ (.slice a4 l.length c4)).heap[w.heap.size]? = some (.cells #[.int .i64 0, .int .i64 0, .int .i64 0, .slice none 0 0] 29)) := ⟨setCell_heap hx, (Below.heap_setCell _ _ _ _ (fun e => by simp only at e; omega)).trans hy⟩
    have hsz := Nat.le_trans (unhide HSZ3) q.size
    have HSZ4 : Hid (B1 + 1 ≤ (y4.setCell ⟨B1, 3, none⟩ (.slice a4 l.length c4)).heap.size) := by show _ ≤ _; simp only [World.setCell, Array.size_modify]; exact hsz
    have HR4 := hide (p.other (b := B1) (by omega) 3 (.slice a4 l.length c4))
    have HB4 := hide (((unhide HB3).trans q).new (b := B1) (by omega) 3 (.slice a4 l.length c4))
    have HO : Hid (OwnTs (B1 + 1) (y4.setCell ⟨B1, 3, none⟩ (.slice a4 l.length c4)) (.slice a4 l.length c4) l) := (r4.mono (unhide HSZ3)).setR (by omega)
    clear p q hx hy hsz r4 HC3
    obtain ⟨y5, hy5⟩ : ∃ y, (y4.setCell ⟨B1, 3, none⟩ (.slice a4 l.length c4)) = y := ⟨_, rfl⟩
    have m0 := unhide HX4
    rw [hy5] at m0 HR4 HB4 HO
    have t0 : y5.cell? ⟨B1, 0, none⟩ = some (.int .i64 1) := cell_of_heap m0.1
    have t1 : y5.cell? ⟨B1, 1, none⟩ = some (.int .i64 f) := cell_of_heap m0.1
    have t2 : y5.cell? ⟨B1, 2, none⟩ = some (.int .i64 n) := cell_of_heap m0.1
    have t3 : y5.cell? ⟨B1, 3, none⟩ = some (.slice a4 l.length c4) := cell_of_heap m0.1
    have z0 : y5.cell? ⟨w.heap.size, 0, none⟩ = some (.int .i64 0) := cell_of_heap m0.2
    have z1 : y5.cell? ⟨w.heap.size, 1, none⟩ = some (.int .i64 0) := cell_of_heap m0.2
    have z2 : y5.cell? ⟨w.heap.size, 2, none⟩ = some (.int .i64 0) := cell_of_heap m0.2
    have z3 : y5.cell? ⟨w.heap.size, 3, none⟩ = some (.slice none 0 0) := cell_of_heap m0.2
    have fz : ∀ o, y5.frozen? ⟨w.heap.size, o, none⟩ = false := fun o => frozen_of_heap m0.2
    have M0 := hide m0
    clear m0
    go_wp2_with fail
    refine bodyPost_ret (results_cell_row rfl _ _ w.heap.size 29 #[.int .i64 1, .int .i64 f, .int .i64 n, .slice a4 l.length c4] (0, 0) _ rfl (setCell_heap (setCell_heap (setCell_heap (setCell_heap (unhide M0).2)))) Tryz.underlying29 rfl (by kernel_rfl)) rfl ?_
    exact ⟨_, rfl, ⟨_, rfl, ((((((unhide HO).mono (by omega : w.heap.size + 1 ≤ B1 + 1)).setR (by omega)).setR (by omega)).setR (by omega)).setR (by omega)).mono (by omega)⟩, (((((unhide HR4).other hr _ _).other hr _ _).other hr _ _).other hr _ _), (((((unhide HB4).new (Nat.le_refl _) _ _).new (Nat.le_refl _) _ _).new (Nat.le_refl _) _ _).new (Nat.le_refl _) _ _)⟩
  · have et : s.entry = (⟨k, 0, 0, []⟩, s1) := by simp only [RS.entry, e1, if_neg hk]
    rw [et]
    simp only
    clear et e1
    go_enter Tryz.func44, Tryz.ntmps44
    go_wp2_with fail
    refine (unhide HC0).mono ?_
    rintro e y1 ⟨rfl, p1, q1⟩
    have hz1 := q1.same (unhide HZ0) (by omega)
    have hsz1 := Nat.le_trans (unhide HSZ0) q1.size
    obtain ⟨B1, hB1⟩ : ∃ B, y1.heap.size = B := ⟨_, rfl⟩
    have hal1 : Below y1.heap.size y1 (y1.alloc (.cells #[.int .i64 k, .int .i64 0, .int .i64 0, .slice none 0 0] 29)) := (Below.refl _ _).alloc (Nat.le_refl _) _
    have hx1 : (y1.alloc (.cells #[.int .i64 k, .int .i64 0, .int .i64 0, .slice none 0 0] 29)).heap[y1.heap.size]? = some (.cells #[.int .i64 k, .int .i64 0, .int .i64 0, .slice none 0 0] 29) := heap_alloc_new y1 _
    have hz1b : (y1.alloc (.cells #[.int .i64 k, .int .i64 0, .int .i64 0, .slice none 0 0] 29)).heap[w.heap.size]? = some (.cells #[.int .i64 0, .int .i64 0, .int .i64 0, .slice none 0 0] 29) := (Below.heap_alloc _ _ _ (by omega)).trans hz1
    have HR1 := hide (p1.below hal1)
    have HB1 := hide (((unhide HB0).trans q1).trans (But.of hal1))
    have hszA : w.heap.size < y1.heap.size := by omega
    have fz : ∀ o, y1.frozen? ⟨w.heap.size, o, none⟩ = false := fun o => frozen_of_heap hz1
    have z0 : y1.cell? ⟨w.heap.size, 0, none⟩ = some (.int .i64 0) := cell_of_heap hz1
    have z1 : y1.cell? ⟨w.heap.size, 1, none⟩ = some (.int .i64 0) := cell_of_heap hz1
    have z2 : y1.cell? ⟨w.heap.size, 2, none⟩ = some (.int .i64 0) := cell_of_heap hz1
    have z3 : y1.cell? ⟨w.heap.size, 3, none⟩ = some (.slice none 0 0) := cell_of_heap hz1
    have M0 := hide hz1
    have HP1 := hide p1
    have HQ1 := hide ((unhide HB0).trans q1)
    have hkb : (k == 1) = false := by simpa using hk
    clear p1 q1 hz1 hsz1 hal1 hx1 hz1b HC0 hB1 HR1 HB1
    go_wp2_with fail
    refine bodyPost_ret (results_cell_row rfl _ _ w.heap.size 29 #[.int .i64 k, .int .i64 0, .int .i64 0, .slice none 0 0] (0, 0) _ rfl ((Below.heap_alloc _ _ _ (by simp only [World.setCell, Array.size_modify]; exact hszA)).trans (setCell_heap (setCell_heap (setCell_heap (setCell_heap (unhide M0)))))) Tryz.underlying29 rfl (by kernel_rfl)) rfl ?_
    exact ⟨_, rfl, ⟨_, rfl, OwnTs.nil _ _⟩, (((((unhide HP1).other hr _ _).other hr _ _).other hr _ _).other hr _ _).below ((Below.refl _ _).alloc (Nat.le_refl _) _), (((((unhide HQ1).new (Nat.le_refl _) _ _).new (Nat.le_refl _) _ _).new (Nat.le_refl _) _ _).new (Nat.le_refl _) _ _).trans (But.of ((Below.refl _ _).alloc (Nat.le_refl _) _))⟩
end Go.Proofs.YtggllgimlfchhaaGreat
