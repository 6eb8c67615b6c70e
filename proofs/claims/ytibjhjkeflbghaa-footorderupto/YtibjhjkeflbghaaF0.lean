/- Slices of lists that are one's own, and appends of them, for the document's Keys and Pairs. -/
import Derived.Test.YtibjhjkeflbghaaP0
import Derived.Test.YtibjhjkeflbghaaC2
namespace Go.Proofs.Ytibjhjkeflbghaa
open Go.RowKit
set_option maxRecDepth 100000

theorem run_sliceE {ρ : Operand → Value} {o : Oper} {w : World} {T : TypeId} {x : Operand} {lo hi mx : Option Operand} {v : Value} {ao : Option Addr} {n cap E : Nat} (hT : Try.prog.underlying T = some (.slice E)) (ho : o.op = .slice T x lo hi mx) (hx : ρ x = .slice ao n cap) (hr : (Instr.slice T (.slice ao n cap) (lo.map ρ) (hi.map ρ) (mx.map ρ)).run Try.prog w = .ok v w) :
    Sem.run Try.prog (execOp ρ o) w = .ok (.value v) w := by
  unfold execOp
  rw [ho]
  simp [Instr.sliceAt, run_underlying hT, hx, hr]
theorem wpList_slice_wanted {w : World} {ops : Array Oper} {rest : List Oper} {o : Oper} {a : Act} {Q : Exit → Act → World → Prop} {T E : TypeId} {x : Operand} {lo hi mx : Option Operand} {v : Value} {ao : Option Addr} {n cap : Nat} (hw : Region.wanted o (yielded ops a.tmps) = true) (hT : Try.prog.underlying T = some (.slice E))
    (ho : o.op = .slice T x lo hi mx) (hx : a.eval x = .slice ao n cap) (hr : (Instr.slice T (.slice ao n cap) (lo.map a.eval) (hi.map a.eval) (mx.map a.eval)).run Try.prog w = .ok v w) (h : wpList Try.prog ops Q rest (a.put o.dst v) w) : wpList Try.prog ops Q (o :: rest) a w := by
  unfold wpList
  rw [if_pos hw]
  refine Or.inl ?_
  unfold Oper.wp
  rw [run_sliceE hT ho hx hr]
  exact h
theorem add_zero (a : Addr) : a.add 0 = a := by simp [Addr.add]
theorem slice_head {T E : TypeId} {i : TypeInfo} (hT : Try.prog.underlying T = some (.slice E)) (hi : Try.prog.info? E = some i) (ao : Option Addr) (n cap j : Nat) (h : j ≤ cap) (w : World) :
    (Instr.slice T (.slice ao n cap) none (some (.int .i64 j)) none).run Try.prog w = .ok (.slice ao j cap) w := by
  have e : ao.map (·.add (0 * i.size)) = ao := by
    cases ao with
    | none => rfl
    | some a => simp [add_zero]
  simp [Instr.slice, run_underlying hT, Instr.sliceBounds, Instr.sliceBound, asIntOf, sizeOf, typeInfo, hi, h]
  intro _
  simpa using e
theorem slice_tail {T E : TypeId} {i : TypeInfo} {k : Nat} (hT : Try.prog.underlying T = some (.slice E)) (hi : Try.prog.info? E = some i) (hk : i.size = k) (ao : Option Addr) (n cap j : Nat) (h : j ≤ n) (w : World) :
    (Instr.slice T (.slice ao n cap) (some (.int .i64 j)) none none).run Try.prog w = .ok (.slice (if cap = j then ao else ao.map (·.add (j * k))) (n - j) (cap - j)) w := by
  subst hk
  simp [Instr.slice, run_underlying hT, Instr.sliceBounds, Instr.sliceBound, asIntOf, sizeOf, typeInfo, hi, h]
/-- An append of what is seen to a row of one's own. -/
theorem app_keys {w : World} {base : Nat} {v v2 : Value} {n : Nat} {l l2 : List Ky} (ty : TypeId) (hown : w.ownsRow base 37 2 v n (l.flatMap kC)) (hs : SeesL kC 2 w v2 l2) (hl : n + l2.length ≤ 8796093022208) (hbase : base ≤ w.heap.size) :
    ∃ ao cap w', (Builtin.append_ #[24, 24] ty #[v, v2]).run Try.prog w = .ok (.slice ao (n + l2.length) cap) w' ∧ w'.ownsRow base 37 2 (.slice ao (n + l2.length) cap) (n + l2.length) ((l ++ l2).flatMap kC) ∧ Below base w w' := by
  obtain ⟨v', w', h1, h2, h3⟩ := append_keys ty hown hs hl hbase
  obtain ⟨ao, cap, hv⟩ := own_shape h2
  subst hv
  exact ⟨ao, cap, w', h1, h2, (Below.refl _ _).grown h3 hbase (own_block_le hown)⟩
/-- The first part of a list, taken into a row of its own. -/
theorem insK1 {Z : World} {ov : Option Addr} {oc m j : Nat} {D : List Ky} (hs : SeesL kC 2 Z (.slice ov m oc) D) (hj : j ≤ m) (hml : m < 8796093022208) :
    ∃ a1 c1 z1, (Builtin.append_ #[24, 24] 24 #[.slice none 0 0, .slice ov j oc]).run Try.prog Z = .ok (.slice a1 j c1) z1 ∧ z1.ownsRow Z.heap.size 37 2 (.slice a1 j c1) j ((D.take j).flatMap kC) ∧ Below Z.heap.size Z z1 := by
  obtain ⟨_, _, _, _, e, _⟩ := id hs
  have hm : m = D.length := by simp only [Value.slice.injEq] at e; exact e.2.1
  have hl : (D.take j).length = j := by simp; omega
  obtain ⟨a1, c1, z1, r, o, b⟩ := app_keys (l := []) 24 (own_nil Z Z.heap.size 37 2) (hs.take j hj) (by rw [hl]; omega) (Nat.le_refl _)
  rw [hl, Nat.zero_add] at r o
  exact ⟨a1, c1, z1, r, by simpa using o, b⟩
/-- One more behind it. -/
theorem insK2 {Z Y : World} {v1 vx : Value} {j : Nat} {L : List Ky} {x : Ky} (ho : Y.ownsRow Z.heap.size 37 2 v1 j (L.flatMap kC)) (hb : Below Z.heap.size Z Y) (hx : SeesL kC 2 Y vx [x]) (hml : j < 8796093022208) :
    ∃ a2 c2 z2, (Builtin.append_ #[24, 24] 24 #[v1, vx]).run Try.prog Y = .ok (.slice a2 (j + 1) c2) z2 ∧ z2.ownsRow Z.heap.size 37 2 (.slice a2 (j + 1) c2) (j + 1) ((L ++ [x]).flatMap kC) ∧ Below Z.heap.size Z z2 := by
  obtain ⟨a1, c1, z1, r, o, b⟩ := app_keys 24 ho hx (by simp only [List.length_cons, List.length_nil]; omega) hb.size
  exact ⟨a1, c1, z1, r, o, hb.trans b⟩
/-- And the rest. -/
theorem insK3 {Z Y : World} {v2 : Value} {ov : Option Addr} {oc m j n : Nat} {L D : List Ky} (ho : Y.ownsRow Z.heap.size 37 2 v2 n (L.flatMap kC)) (hb : Below Z.heap.size Z Y) (hs : SeesL kC 2 Z (.slice ov m oc) D) (hj : j ≤ m) (hml : n + (m - j) ≤ 8796093022208) :
    ∃ a3 c3 z3, (Builtin.append_ #[24, 24] 24 #[v2, .slice (if oc = j then ov else ov.map (·.add (j * 2))) (m - j) (oc - j)]).run Try.prog Y = .ok (.slice a3 (n + (m - j)) c3) z3 ∧ z3.ownsRow Z.heap.size 37 2 (.slice a3 (n + (m - j)) c3) (n + (m - j)) ((L ++ D.drop j).flatMap kC) ∧ Below Z.heap.size Z z3 := by
  obtain ⟨_, _, _, _, e, _⟩ := id hs
  have hm : m = D.length := by simp only [Value.slice.injEq] at e; exact e.2.1
  have hl : (D.drop j).length = m - j := by simp; omega
  obtain ⟨a1, c1, z1, r, o, b⟩ := app_keys 24 ho ((hs.drop j hj).below kC_len hb) (by rw [hl]; omega) hb.size
  rw [hl] at r o
  exact ⟨a1, c1, z1, r, o, hb.trans b⟩
theorem head_keys (ao : Option Addr) (n cap j : Nat) (h : j ≤ cap) (w : World) : (Instr.slice 24 (.slice ao n cap) none (some (.int .i64 j)) none).run Try.prog w = .ok (.slice ao j cap) w := by
  obtain ⟨i, hi, _⟩ := info_parts Try.info37
  exact slice_head Try.underlying24 hi ao n cap j h w
theorem tail_keys (ao : Option Addr) (n cap j : Nat) (h : j ≤ n) (w : World) : (Instr.slice 24 (.slice ao n cap) (some (.int .i64 j)) none none).run Try.prog w = .ok (.slice (if cap = j then ao else ao.map (·.add (j * 2))) (n - j) (cap - j)) w := by
  obtain ⟨i, hi, _, hs, _⟩ := info_parts Try.info37
  exact slice_tail Try.underlying24 hi hs ao n cap j h w
end Go.Proofs.Ytibjhjkeflbghaa
