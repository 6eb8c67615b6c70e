/- Several texts as one. -/
import Derived.Test.YtoddemcmmijoaaaKZ26
import Derived.Laws.ResultCell

/- Record: what was read, as it is seen. -/
namespace Go.Proofs.Ytoddemcmmijoaaa
open Go.RowKit
set_option maxRecDepth 100000

theorem keyCs_at : ∀ (l : List (Int × Int)) t, t < l.length → (keyCs l)[t * 2]? = some (.int .i32 (l.getD t (0, 0)).1) ∧ (keyCs l)[t * 2 + 1]? = some (.int .i64 (l.getD t (0, 0)).2)
  | [], t, h => absurd h (by simp)
  | k :: l, 0, _ => ⟨rfl, rfl⟩
  | k :: l, t + 1, h => by
    have := keyCs_at l t (by simpa using h)
    rw [show (t + 1) * 2 = t * 2 + 1 + 1 by omega]
    simp only [keyCs, List.getElem?_cons_succ, List.getD_cons_succ]
    exact this
theorem sees_keys {w : World} {base : Nat} {v : Value} {l : List (Int × Int)} (h : w.ownsRow base 103 2 v l.length (keyCs l)) (hl : l.length ≤ 4096) : SeesK w v l := by
  rcases h.2 with ⟨rfl, h0⟩ | ⟨g, cap, cur, rfl, hg, hh, hcap, _⟩
  · exact ⟨none, 0, 0, 0, by rw [h0], by omega, by omega, fun h => absurd h (by omega), fun t ht => absurd ht (by omega)⟩
  · have hat : ∀ t u, (keyCs l)[t]? = some u → w.cell? ⟨g, 0 + t, none⟩ = some u := by
      intro t u hu
      have := h.cells (g := g) rfl t u hu
      rwa [Addr.add_mid] at this
    exact ⟨some ⟨g, 0, none⟩, cap, g, 0, rfl, hcap, by omega, fun _ => rfl, fun t ht => ⟨hat _ _ (keyCs_at l t ht).1, by have := hat _ _ (keyCs_at l t ht).2; rwa [← Nat.add_assoc] at this⟩⟩
/-- What a transaction that was read may be. -/
structure ReadT (t : TxnD) : Prop where
  code : Byt t.code
  args : t.args.length ≤ 4096
  reads : t.reads.length ≤ 4096
  writes : t.writes.length ≤ 4096
theorem OwnT.sees {base : Nat} {w : World} {cs : Array Value} {t : TxnD} (h : OwnT base w cs t) (hr : ReadT t) : SeesT w cs t := by
  obtain ⟨cv, av, rv, wv, h0, h1, h2, h3, h4⟩ := h
  exact ⟨cv, av, rv, wv, h0, (sees_of_own h1).2, (sees_of_own h2).2, sees_keys h3 hr.reads, sees_keys h4 hr.writes⟩
theorem txnCells_at : ∀ (vs : List (TxnD × Value × Value × Value × Value)) t p, vs[t]? = some p → ∀ k, k < 6 → (vs.flatMap txnCells)[t * 6 + k]? = (txnCells p)[k]?
  | [], t, p, h => by simp at h
  | q :: vs, 0, p, h => fun k hk => by
    simp only [List.getElem?_cons_zero, Option.some.injEq] at h
    subst h
    simp only [List.flatMap_cons]
    rw [List.getElem?_append_left (by simp [txnCells]; omega)]
    simp
  | q :: vs, t + 1, p, h => fun k hk => by
    have ih := txnCells_at vs t p (by simpa using h) k hk
    simp only [List.flatMap_cons]
    rw [List.getElem?_append_right (by simp [txnCells]; omega)]
    rw [show (t + 1) * 6 + k - (txnCells q).length = t * 6 + k by simp [txnCells]; omega]
    exact ih
theorem OwnTs.sees {base : Nat} {w : World} {x : Value} {l : List TxnD} (h : OwnTs base w x l) (hl : l.length ≤ 4096) (hr : ∀ t ∈ l, ReadT t) : SeesTs w x l := by
  obtain ⟨vs, rfl, hrow, hall⟩ := h
  rcases hrow.2 with ⟨rfl, h0⟩ | ⟨g, cap, cur, rfl, hg, hh, hcap, _⟩
  · exact ⟨none, 0, 0, 0, by rw [h0], by omega, by omega, fun h => absurd h (by omega), fun t ht => absurd ht (by omega)⟩
  · have hat : ∀ t u, (vs.flatMap txnCells)[t]? = some u → w.cell? ⟨g, 0 + t, none⟩ = some u := by
      intro t u hu
      have := hrow.cells (g := g) rfl t u hu
      rwa [Addr.add_mid] at this
    refine ⟨some ⟨g, 0, none⟩, cap, g, 0, rfl, hcap, by omega, fun _ => rfl, fun t ht => ?_⟩
    have htv : t < vs.length := by simpa using ht
    have hp : vs[t]? = some vs[t] := List.getElem?_eq_getElem htv
    have e : (vs.map (·.1)).getD t dT = vs[t].1 := by simp [List.getD, htv]
    rw [e]
    have hc : ∀ k u, k < 6 → (txnCells vs[t])[k]? = some u → w.cell? ⟨g, 0 + t * 6 + k, none⟩ = some u := fun k u hk hu => by
      have := hat (t * 6 + k) u ((txnCells_at vs t _ hp k hk).trans hu)
      rwa [← Nat.add_assoc] at this
    exact ⟨_, _, _, _, hc 0 _ (by omega) rfl, hc 1 _ (by omega) rfl, hc 2 _ (by omega) rfl, hc 3 _ (by omega) rfl, hc 4 _ (by omega) rfl, hc 5 _ (by omega) rfl, (hall _ (List.getElem_mem htv)).sees (hr _ (List.mem_map.2 ⟨_, List.getElem_mem htv, rfl⟩))⟩

/-! ### what is read of bytes -/
theorem num_byt {s : RS} (h : Byt s.zs) : Byt s.num.2.zs := by
  unfold RS.num
  split
  · exact h.drop _
  · exact h
theorem must_byt {s : RS} {b : Bool} (h : Byt s.zs) : Byt (s.must b).zs := by
  unfold RS.must
  split <;> exact h
theorem tb_byt {l : List Int} (h : Byt l) : Byt (tb l).1 := by
  unfold tb
  (repeat' split) <;> first | (intro b hb; cases hb) | exact fun x hx => h x (List.mem_of_mem_drop (List.mem_of_mem_take hx))
theorem blob_byt {s : RS} (h : Byt s.zs) : Byt s.blob.2.zs ∧ Byt s.blob.1 := by
  unfold RS.blob
  split
  · exact ⟨h.drop _, tb_byt h⟩
  · exact ⟨h, fun b hb => by cases hb⟩
theorem iter_byt {α : Type} {take : RS → α × RS} {P : α → Prop} (ht : ∀ s : RS, Byt s.zs → Byt (take s).2.zs ∧ P (take s).1) {s : RS} (h : Byt s.zs) : ∀ k, Byt (RS.iter take k s).2.zs ∧ ∀ x ∈ (RS.iter take k s).1, P x
  | 0 => ⟨h, fun x hx => by cases hx⟩
  | k + 1 => by
    have ih := iter_byt ht h k
    by_cases he : (RS.iter take k s).2.er = 0
    · rw [iter_step he]
      have := ht _ ih.1
      exact ⟨this.1, fun x hx => by
        rcases List.mem_append.1 hx with hx | hx
        · exact ih.2 x hx
        · rw [List.mem_singleton] at hx; rw [hx]; exact this.2⟩
    · rw [iter_stop he 1]
      exact ih
theorem list_byt {α : Type} {take : RS → α × RS} {P : α → Prop} (ht : ∀ s : RS, Byt s.zs → Byt (take s).2.zs ∧ P (take s).1) {s : RS} (h : Byt s.zs) : Byt (s.list take).2.zs ∧ ∀ x ∈ (s.list take).1, P x :=
  iter_byt ht (must_byt (num_byt h)) _
theorem fit32_byt {s : RS} (h : Byt s.zs) : Byt s.fit32.2.zs := by
  unfold RS.fit32
  simp only
  split
  · exact num_byt h
  · exact num_byt h
theorem key_byt {s : RS} (h : Byt s.zs) : Byt s.key.2.zs := num_byt (fit32_byt h)
theorem txn_byt {s : RS} (h : Byt s.zs) : Byt s.txn.2.zs ∧ ReadT s.txn.1 := by
  have h1 := num_byt h
  have h2 := num_byt h1
  have h3 := blob_byt h2
  have h4 := (list_byt (take := RS.num) (P := fun _ => True) (fun s hs => ⟨num_byt hs, trivial⟩) h3.1).1
  have h5 := (list_byt (take := RS.key) (P := fun _ => True) (fun s hs => ⟨key_byt hs, trivial⟩) h4).1
  have h6 := (list_byt (take := RS.key) (P := fun _ => True) (fun s hs => ⟨key_byt hs, trivial⟩) h5).1
  exact ⟨h6, ⟨h3.2, list_len _ _, list_len _ _, list_len _ _⟩⟩
theorem txns_byt {s : RS} (h : Byt s.zs) : Byt (s.list RS.txn).2.zs ∧ ∀ x ∈ (s.list RS.txn).1, ReadT x := list_byt (fun _ hs => txn_byt hs) h
end Go.Proofs.Ytoddemcmmijoaaa

/- Record: an entry, read. -/
namespace Go.Proofs.Ytoddemcmmijoaaa
open Go.RowKit
set_option maxRecDepth 100000

theorem OwnT.setR {base b o : Nat} {w : World} {cs : Array Value} {t : TxnD} {u : Value} (h : OwnT base w cs t) (hb : b < base) : OwnT base (w.setCell ⟨b, o, none⟩ u) cs t := by
  obtain ⟨cv, av, rv, wv, h0, h1, h2, h3, h4⟩ := h
  exact ⟨cv, av, rv, wv, h0, own_setR h1 hb _ _, own_setR h2 hb _ _, own_setR h3 hb _ _, own_setR h4 hb _ _⟩
theorem OwnTs.setR {base b o : Nat} {w : World} {x : Value} {l : List TxnD} {u : Value} (h : OwnTs base w x l) (hb : b < base) : OwnTs base (w.setCell ⟨b, o, none⟩ u) x l := by
  obtain ⟨vs, h1, h2, h3⟩ := h
  exact ⟨vs, h1, own_setR h2 hb _ _, fun p hp => (h3 p hp).setR hb⟩
theorem OwnTs.but {base R : Nat} {w w' : World} {x : Value} {l : List TxnD} (h : OwnTs base w x l) (hk : But R w w') (hR : R < base) : OwnTs base w' x l := by
  obtain ⟨vs, h1, h2, h3⟩ := h
  exact ⟨vs, h1, own_keepR h2 hk hR, fun p hp => (h3 p hp).but hk hR⟩
theorem OwnTs.below {base : Nat} {w w' : World} {x : Value} {l : List TxnD} (h : OwnTs base w x l) (hb : Below w.heap.size w w') : OwnTs base w' x l := by
  obtain ⟨vs, h1, h2, h3⟩ := h
  exact ⟨vs, h1, own_below h2 hb, fun p hp => (h3 p hp).below hb⟩
theorem OwnTs.mono {base base' : Nat} {w : World} {x : Value} {l : List TxnD} (h : OwnTs base w x l) (hb : base' ≤ base) : OwnTs base' w x l := by
  obtain ⟨vs, h1, h2, h3⟩ := h
  refine ⟨vs, h1, own_monoN h2 hb, fun p hp => ?_⟩
  obtain ⟨cv, av, rv, wv, g0, g1, g2, g3, g4⟩ := h3 p hp
  exact ⟨cv, av, rv, wv, g0, own_monoN g1 hb, own_monoN g2 hb, own_monoN g3 hb, own_monoN g4 hb⟩

def RS.entry (s : RS) : EntD × RS :=
  let k := s.kind 0 1
  if k.1 = 1 then
    let f := k.2.num
    let n := f.2.num
    let l := n.2.list RS.txn
    (⟨k.1, f.1, n.1, l.1⟩, l.2)
  else (⟨k.1, 0, 0, []⟩, k.2)
theorem kind_byt {s : RS} {a b : Int} (h : Byt s.zs) : Byt (s.kind a b).2.zs := must_byt (num_byt h)
theorem entry_byt {s : RS} (h : Byt s.zs) : Byt s.entry.2.zs ∧ (s.entry.1.txns.length ≤ 4096 ∧ ∀ t ∈ s.entry.1.txns, ReadT t) := by
  unfold RS.entry
  simp only
  split
  · have := txns_byt (num_byt (num_byt (kind_byt (a := 0) (b := 1) h)))
    exact ⟨this.1, list_len _ _, this.2⟩
  · exact ⟨kind_byt h, by simp, fun t ht => by cases ht⟩
def OwnE (base : Nat) (w : World) (cs : Array Value) (e : EntD) : Prop := ∃ tv, cs = #[.int .i64 e.kind, .int .i64 e.frm, .int .i64 e.num, tv] ∧ OwnTs base w tv e.txns

end Go.Proofs.Ytoddemcmmijoaaa
