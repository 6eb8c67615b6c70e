/- Slices of rows, and appends to them, for the document's store. -/
import Derived.Test.YtdcmkapfcmibeaaDoorR0
namespace Go.Proofs.YtdcmkapfcmibeaaDoor
open Go.RowKit Go.Shelf
set_option maxRecDepth 100000

theorem run_sliceE {ρ : Operand → Value} {o : Oper} {w : World} {T : TypeId} {x : Operand} {lo hi mx : Option Operand} {v : Value} {ao : Option Addr} {n cap E : Nat} (hT : Tryd.prog.underlying T = some (.slice E)) (ho : o.op = .slice T x lo hi mx) (hx : ρ x = .slice ao n cap) (hr : (Instr.slice T (.slice ao n cap) (lo.map ρ) (hi.map ρ) (mx.map ρ)).run Tryd.prog w = .ok v w) :
    Sem.run Tryd.prog (execOp ρ o) w = .ok (.value v) w := by
  unfold execOp
  rw [ho]
  simp [Instr.sliceAt, run_underlying hT, hx, hr]
theorem wpList_slice_wanted {w : World} {ops : Array Oper} {rest : List Oper} {o : Oper} {a : Act} {Q : Exit → Act → World → Prop} {T E : TypeId} {x : Operand} {lo hi mx : Option Operand} {v : Value} {ao : Option Addr} {n cap : Nat} (hw : Region.wanted o (yielded ops a.tmps) = true) (hT : Tryd.prog.underlying T = some (.slice E))
    (ho : o.op = .slice T x lo hi mx) (hx : a.eval x = .slice ao n cap) (hr : (Instr.slice T (.slice ao n cap) (lo.map a.eval) (hi.map a.eval) (mx.map a.eval)).run Tryd.prog w = .ok v w) (h : wpList Tryd.prog ops Q rest (a.put o.dst v) w) : wpList Tryd.prog ops Q (o :: rest) a w := by
  unfold wpList
  rw [if_pos hw]
  refine Or.inl ?_
  unfold Oper.wp
  rw [run_sliceE hT ho hx hr]
  exact h
theorem add_zero (a : Addr) : a.add 0 = a := by simp [Addr.add]
theorem slice_head {T E : TypeId} {i : TypeInfo} (hT : Tryd.prog.underlying T = some (.slice E)) (hi : Tryd.prog.info? E = some i) (ao : Option Addr) (n cap j : Nat) (h : j ≤ cap) (w : World) :
    (Instr.slice T (.slice ao n cap) none (some (.int .i64 j)) none).run Tryd.prog w = .ok (.slice ao j cap) w := by
  have e : ao.map (·.add (0 * i.size)) = ao := by
    cases ao with
    | none => rfl
    | some a => simp [add_zero]
  simp [Instr.slice, run_underlying hT, Instr.sliceBounds, Instr.sliceBound, asIntOf, sizeOf, typeInfo, hi, h]
  intro _
  simpa using e
/-- What a slice from j on is. -/
def tailV (k : Nat) (ao : Option Addr) (n cap j : Nat) : Value := .slice (if cap = j then ao else ao.map (·.add (j * k))) (n - j) (cap - j)
theorem slice_tail {T E : TypeId} {i : TypeInfo} {k : Nat} (hT : Tryd.prog.underlying T = some (.slice E)) (hi : Tryd.prog.info? E = some i) (hk : i.size = k) (ao : Option Addr) (n cap j : Nat) (h : j ≤ n) (w : World) :
    (Instr.slice T (.slice ao n cap) (some (.int .i64 j)) none none).run Tryd.prog w = .ok (tailV k ao n cap j) w := by
  subst hk
  unfold tailV
  simp [Instr.slice, run_underlying hT, Instr.sliceBounds, Instr.sliceBound, asIntOf, sizeOf, typeInfo, hi, h]

theorem own_block_le {w : World} {base : Nat} {e size : Nat} {v : Value} {n : Nat} {xs : List Value} (h : w.ownsRow base e size v n xs) : ∀ k, v.ownBlock = some k → base ≤ k := fun k hk => (h.lt k hk).1

/-- A type of elements, and of slices of them. -/
structure RT {α : Type} (c : α → List Value) (k T e : Nat) : Prop where
  len : ∀ x, (c x).length = k
  one : ∀ x, ∀ u ∈ c x, u.oneCell' = true
  pos : 0 < k
  und : Tryd.prog.underlying T = some (.slice e)
  info : ∃ i z bytes, Tryd.prog.info? e = some i ∧ i.zero = some z ∧ i.size = k ∧ i.bytes = bytes ∧ z.cells.size = k ∧ bytes ≤ 32
theorem iC_len (h : Int) : (iC h).length = 1 := rfl
theorem iC_one (k : Int) : ∀ u ∈ iC k, u.oneCell' = true := by
  intro u hu
  simp only [iC, List.mem_cons, List.not_mem_nil, or_false] at hu
  subst hu; rfl
theorem Tryd.info3b : (Tryd.prog.info? 3).map (fun i => (i.zero, i.size, i.bytes)) = some (some (.int .i64 0), 1, 8) := by kernel_rfl
theorem rtP : RT pC 4 63 32 := ⟨pC_len, pC_one, by decide, Tryd.underlying63, by
  obtain ⟨i, hi, hz, hs1, hb⟩ := info_parts Tryd.info32b
  exact ⟨i, _, 32, hi, hz, hs1, hb, rfl, by decide⟩⟩
theorem rtI : RT iC 1 67 3 := ⟨iC_len, iC_one, by decide, Tryd.underlying67, by
  obtain ⟨i, hi, hz, hs1, hb⟩ := info_parts Tryd.info3b
  exact ⟨i, _, 8, hi, hz, hs1, hb, rfl, by decide⟩⟩
theorem rtK : RT kC 2 55 30 := ⟨kC_len, kC_one, by decide, Tryd.underlying55, by
  obtain ⟨i, hi, hz, hs1, hb⟩ := info_parts Tryd.info30b
  exact ⟨i, _, 16, hi, hz, hs1, hb, rfl, by decide⟩⟩
section
variable {α : Type} {c : α → List Value} {k T e : Nat}
theorem RT.head (R : RT c k T e) (ao : Option Addr) (n cap j : Nat) (h : j ≤ cap) (w : World) : (Instr.slice T (.slice ao n cap) none (some (.int .i64 j)) none).run Tryd.prog w = .ok (.slice ao j cap) w := by
  obtain ⟨i, _, _, hi, _⟩ := R.info
  exact slice_head R.und hi ao n cap j h w
theorem RT.tail (R : RT c k T e) (ao : Option Addr) (n cap j : Nat) (h : j ≤ n) (w : World) : (Instr.slice T (.slice ao n cap) (some (.int .i64 j)) none none).run Tryd.prog w = .ok (tailV k ao n cap j) w := by
  obtain ⟨i, _, _, hi, _, hs, _⟩ := R.info
  exact slice_tail R.und hi hs ao n cap j h w
theorem RT.app (R : RT c k T e) {w : World} {base : Nat} {v v2 : Value} {n : Nat} {l l2 : List α} (ty : TypeId) (hown : w.ownsRow base e k v n (l.flatMap c)) (hs : SeesL c k w v2 l2) (hl : n + l2.length ≤ 4398046511104) (hbase : base ≤ w.heap.size) :
    ∃ ao cap w', (Builtin.append_ #[T, T] ty #[v, v2]).run Tryd.prog w = .ok (.slice ao (n + l2.length) cap) w' ∧ w'.ownsRow base e k (.slice ao (n + l2.length) cap) (n + l2.length) ((l ++ l2).flatMap c) ∧ Below base w w' := by
  obtain ⟨i, z, bytes, hi, hz, hs1, hb, hzs, hby⟩ := R.info
  obtain ⟨v', w', h1, h2, h3⟩ := run_append_L R.len R.one base T ty e i z bytes R.und hi hz hs1 hb hzs R.pos hown hs (by unfold maxLen; omega) (Nat.le_trans (Nat.mul_le_mul hl hby) (by decide)) hbase
  obtain ⟨ao, cap, hv⟩ := own_shape h2
  subst hv
  rw [List.flatMap_append]
  exact ⟨ao, cap, w', h1, h2, (Below.refl _ _).grown h3 hbase (own_block_le hown)⟩
/-- The first part of a list, taken into a row of its own. -/
theorem RT.ins1 (R : RT c k T e) {Z : World} {ov : Option Addr} {oc m j : Nat} {D : List α} (hs : SeesL c k Z (.slice ov m oc) D) (hj : j ≤ m) (hml : m ≤ 1048577) :
    ∃ a1 c1 z1, (Builtin.append_ #[T, T] T #[.slice none 0 0, .slice ov j oc]).run Tryd.prog Z = .ok (.slice a1 j c1) z1 ∧ z1.ownsRow Z.heap.size e k (.slice a1 j c1) j ((D.take j).flatMap c) ∧ Below Z.heap.size Z z1 := by
  obtain ⟨_, _, _, _, e, _⟩ := id hs
  have hm : m = D.length := by simp only [Value.slice.injEq] at e; exact e.2.1
  have hl : (D.take j).length = j := by simp; omega
  obtain ⟨a1, c1, z1, r, o, b⟩ := R.app (l := []) T (own_nil Z Z.heap.size _ _) (hs.take j hj) (by rw [hl]; omega) (Nat.le_refl _)
  rw [hl, Nat.zero_add] at r o
  exact ⟨a1, c1, z1, r, by simpa using o, b⟩
/-- One more behind it. -/
theorem RT.ins2 (R : RT c k T e) {Y : World} {B : Nat} {v1 vx : Value} {j : Nat} {L : List α} {x : α} (ho : Y.ownsRow B e k v1 j (L.flatMap c)) (hb : B ≤ Y.heap.size) (hx : SeesL c k Y vx [x]) (hml : j ≤ 1048577) :
    ∃ a2 c2 z2, (Builtin.append_ #[T, T] T #[v1, vx]).run Tryd.prog Y = .ok (.slice a2 (j + 1) c2) z2 ∧ z2.ownsRow B e k (.slice a2 (j + 1) c2) (j + 1) ((L ++ [x]).flatMap c) ∧ Below B Y z2 :=
  R.app T ho hx (by simp only [List.length_cons, List.length_nil]; omega) hb
/-- And the rest. -/
theorem RT.ins3 (R : RT c k T e) {Y : World} {B : Nat} {v2 : Value} {ov : Option Addr} {oc m j n : Nat} {L D : List α} (ho : Y.ownsRow B e k v2 n (L.flatMap c)) (hb : B ≤ Y.heap.size) (hs : SeesL c k Y (.slice ov m oc) D) (hj : j ≤ m) (hml : m ≤ 1048577) (hn : n ≤ 1048577) :
    ∃ a3 c3 z3, (Builtin.append_ #[T, T] T #[v2, tailV k ov m oc j]).run Tryd.prog Y = .ok (.slice a3 (n + (m - j)) c3) z3 ∧ z3.ownsRow B e k (.slice a3 (n + (m - j)) c3) (n + (m - j)) ((L ++ D.drop j).flatMap c) ∧ Below B Y z3 := by
  obtain ⟨_, _, _, _, e, _⟩ := id hs
  have hm : m = D.length := by simp only [Value.slice.injEq] at e; exact e.2.1
  have hl : (D.drop j).length = m - j := by simp; omega
  obtain ⟨a1, c1, z1, r, o, b⟩ := R.app T ho (hs.drop j hj) (by rw [hl]; omega) hb
  rw [hl] at r o
  exact ⟨a1, c1, z1, r, o, b⟩
end
/-- A row of one's own, where another block turns. -/
theorem own_upd {w w' : World} {base e size xb : Nat} {v : Value} {n : Nat} {xs : List Value} (h : w.ownsRow base e size v n xs) (hU : Upd (fun k => k = xb) w.heap.size w w') (hx : ∀ cs, w.heap[xb]? ≠ some (.cells cs e)) : w'.ownsRow base e size v n xs := by
  refine ⟨h.1, ?_⟩
  rcases h.2 with hn | ⟨g, cap, cur, hv, hg, hh, r⟩
  · exact .inl hn
  · refine .inr ⟨g, cap, cur, hv, hg, (hU.block g (Array.getElem?_eq_some_iff.1 hh).1 (fun c => ?_)).trans hh, r⟩
    subst c
    exact hx _ hh
theorem own_below' {w w' : World} {base e size : Nat} {v : Value} {n : Nat} {xs : List Value} (h : w.ownsRow base e size v n xs) {B : Nat} (hb : Upd (fun k => k < B) w.heap.size w w') (hB : B ≤ base) : w'.ownsRow base e size v n xs := by
  refine ⟨h.1, ?_⟩
  rcases h.2 with hn | ⟨g, cap, cur, hv, hg, hh, r⟩
  · exact .inl hn
  · exact .inr ⟨g, cap, cur, hv, hg, (hb.block g (Array.getElem?_eq_some_iff.1 hh).1 (by omega)).trans hh, r⟩
/-- A slice's row laid into a store's own struct. -/
theorem rf_set {w z : World} {xb j : Nat} {cs : Array Value} (_hx : w.heap[xb]? = some (.cells cs 69)) (hb : Upd (fun k => k = xb) w.heap.size w z) (hz : z.heap[xb]? = some (.cells cs 69)) (v : Value) :
    (z.setCell ⟨xb, j, none⟩ v).heap[xb]? = some (.cells (cs.setIfInBounds j v) 69) ∧ Upd (fun k => k = xb) w.heap.size w (z.setCell ⟨xb, j, none⟩ v) :=
  ⟨heap_setCell_same z xb j _ 69 v hz, hb.setCell (.inl rfl) v⟩
theorem own_setOther {w : World} {base e size xb j : Nat} {v u : Value} {n : Nat} {xs : List Value} (h : w.ownsRow base e size v n xs) (hx : xb < base) : (w.setCell ⟨xb, j, none⟩ u).ownsRow base e size v n xs := by
  refine ⟨h.1, ?_⟩
  rcases h.2 with hn | ⟨g, cap, cur, hv, hg, hh, r⟩
  · exact .inl hn
  · exact .inr ⟨g, cap, cur, hv, hg, by rw [Below.heap_setCell _ _ _ _ (show g ≠ xb by omega)]; exact hh, r⟩
end Go.Proofs.YtdcmkapfcmibeaaDoor
