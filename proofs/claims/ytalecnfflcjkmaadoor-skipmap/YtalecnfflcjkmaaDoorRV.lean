/- How an operation, as the row hands it over, is seen by the walks; what the listed table gives them. -/
import Derived.Test.YtalecnfflcjkmaaDoorRows
import Derived.Test.YtalecnfflcjkmaaDoorMJ
import Derived.ProofKit
import Derived.LaidMore
import Derived.OpenShut
import Derived.ShutString
import Derived.ChangeOld
import Derived.SizedLaws
import Derived.JoinedCond
import Derived.Deep.Slices
import Derived.Deep.SlicePairs
import Derived.Carry
import Derived.Stop.Joined
namespace Go.Proofs.YtalecnfflcjkmaaDoor
open Go.ChangeShapes Go.WideShapes Go.ChangeAt Go.RowKit Go.Deep
set_option maxRecDepth 100000

theorem ownK : ownKnob Tryd.prog.godebug = none := by kernel_rfl
theorem laidOut : laidOutB Tryd.prog = true := by kernel_rfl
theorem gTab : Tryd.prog.globalNamed "math/bits.deBruijn64tab" = some 0 := by kernel_rfl
theorem tTab : (Tryd.prog.globals[0]?).map (·.type) = some 137 := by kernel_rfl
theorem Tryd.cells5 : Tryd.prog.cellsOf 5 = 1 := by kernel_rfl
theorem Tryd.cells34 : Tryd.prog.cellsOf 34 = 9 := by kernel_rfl
theorem Tryd.cells32 : Tryd.prog.cellsOf 32 = 4 := by kernel_rfl
theorem Tryd.cells30 : Tryd.prog.cellsOf 30 = 2 := by kernel_rfl
theorem Tryd.cells21 : Tryd.prog.cellsOf 21 = 1 := by kernel_rfl
theorem Tryd.cells22 : Tryd.prog.cellsOf 22 = 1 := by kernel_rfl
theorem Tryd.cells2 : Tryd.prog.cellsOf 2 = 1 := by kernel_rfl
theorem Tryd.cells3 : Tryd.prog.cellsOf 3 = 1 := by kernel_rfl
abbrev theLaid : List (String × DataW Unit) := [("math/bits.deBruijn64tab", Rows.laid_math_bits_deBruijn64tab)]

/-- What the listed table gives: its cells. -/
theorem of_laid {W : World} (h : laidMetH Tryd.prog theLaid W) : Tab W := by
  rw [MakeChecks.laidMetH_plain _ _ _ (by kernel_rfl)] at h
  obtain ⟨ps, ⟨g0, t0, cs0, f0, p0, q0, hg0, ht0, hv0, hd0, _, _⟩, _, _⟩ := h
  obtain rfl := Option.some.inj (gTab.symm.trans hg0)
  obtain rfl := Option.some.inj (tTab.symm.trans ht0)
  obtain ⟨xs, m1, rfl, hx1, hlen, hn, hel⟩ := DataW.trod_array Tryd.underlying137 hd0
  simp only [Prod.mk.injEq] at hx1
  have hl : xs.map (·.1) = deB.map fun v => (.lit (.int .u8 v) : DataW Unit) := by
    have := hx1.1
    simp only [Rows.laid_math_bits_deBruijn64tab, DataW.agg.injEq] at this
    rw [← this]
    rfl
  intro i hi
  rw [World.var?_cell hg0 hv0 i]
  have hiu := hel i hi
  rw [List.getElem?_eq_getElem (by omega)] at hiu
  obtain ⟨k, e1, e2, _⟩ := DataW.trod_int Tryd.underlying5 hiu
  have hk : (.lit (.int .u8 k) : DataW Unit) = .lit (.int .u8 (deB.getD i 0)) := by
    have h1 : (xs.map (·.1))[i]? = some (.lit (.int .u8 k)) := by rw [List.getElem?_map, List.getElem?_eq_getElem (by omega), e2]; rfl
    have hdl : i < deB.length := hi
    rw [hl, List.getElem?_map, List.getElem?_eq_getElem hdl] at h1
    simp only [Option.map_some, Option.some.injEq] at h1
    rw [← h1, List.getD, List.getElem?_eq_getElem hdl]
    rfl
  simp only [DataW.lit.injEq, Lit.int.injEq, true_and] at hk
  rw [Tryd.cells5, Nat.mul_one] at e1
  have h2 : cs0.toList[i]? = some (.int .u8 k) := by
    have := congrArg List.head? e1
    simpa [List.head?_take, List.head?_drop] using this
  rw [← Array.getElem?_toList, h2, hk]

/-- The door's own heap meets the condition. -/
theorem door_met (os : Os) (args : Array Value) : laidMetH Tryd.prog theLaid ((World.doorLaid Tryd.prog 400 os).forCall (fun _ _ => 0) ⟨#[], args, []⟩).memory :=
  laidMetH_of_parts3 (fuel := 8) (laidMet_of_run' 8 (by kernel_rfl) (by kernel_rfl)) (by kernel_rfl) (by kernel_rfl)

theorem bnd_i64 {n : Int} (h : (Lit.int .i64 n).wf = true) : -9223372036854775808 ≤ n ∧ n ≤ 9223372036854775807 := by
  have e1 : IntKind.i64.min = -9223372036854775808 := by decide
  have e2 : IntKind.i64.max = 9223372036854775807 := by decide
  simp only [Lit.wf, e1, e2, Bool.and_eq_true, decide_eq_true_eq] at h
  exact h
theorem bnd_i32 {n : Int} (h : (Lit.int .i32 n).wf = true) : -2147483648 ≤ n ∧ n ≤ 2147483647 := by
  have e1 : IntKind.i32.min = -2147483648 := by decide
  have e2 : IntKind.i32.max = 2147483647 := by decide
  simp only [Lit.wf, e1, e2, Bool.and_eq_true, decide_eq_true_eq] at h
  exact h
theorem bnd_u64 {n : Int} (h : (Lit.int .u64 n).wf = true) : 0 ≤ n ∧ n < 18446744073709551616 := by
  have e1 : IntKind.u64.min = 0 := by decide
  have e2 : IntKind.u64.max = 18446744073709551615 := by decide
  simp only [Lit.wf, e1, e2, Bool.and_eq_true, decide_eq_true_eq] at h
  omega
theorem list2 {α : Type} {l : List α} (h : l.length = 2) : ∃ a b, l = [a, b] := by
  match l, h with
  | [a, b], _ => exact ⟨a, b, rfl⟩
theorem list3 {α : Type} {l : List α} (h : l.length = 3) : ∃ a b c, l = [a, b, c] := by
  match l, h with
  | [a, b, c], _ => exact ⟨a, b, c, rfl⟩
theorem list5 {α : Type} {l : List α} (h : l.length = 5) : ∃ a b c d e, l = [a, b, c, d, e] := by
  match l, h with
  | [a, b, c, d, e], _ => exact ⟨a, b, c, d, e, rfl⟩
theorem list9 {α : Type} {l : List α} (h : l.length = 9) : ∃ a b c d e f g i j, l = [a, b, c, d, e, f, g, i, j] := by
  match l, h with
  | [a, b, c, d, e, f, g, i, j], _ => exact ⟨a, b, c, d, e, f, g, i, j, rfl⟩
/-- What an operation's numbers may be. -/
def OkK (k : Ky) : Prop := (-2147483648 ≤ k.1 ∧ k.1 ≤ 2147483647) ∧ -9223372036854775808 ≤ k.2 ∧ k.2 ≤ 9223372036854775807
def I64 (n : Int) : Prop := -9223372036854775808 ≤ n ∧ n ≤ 9223372036854775807
structure OkO (o : Opn) : Prop where
  d : I64 o.1
  k : OkK o.2.1.1
  v : I64 o.2.1.2.1
  s : I64 o.2.1.2.2
  t : OkK o.2.2.1
  seed : 0 ≤ o.2.2.2.1 ∧ o.2.2.2.1 < 18446744073709551616
  stop : I64 o.2.2.2.2
def oC (o : Opn) : List Value := [.int .i64 o.1, .int .i32 o.2.1.1.1, .int .i64 o.2.1.1.2, .int .i64 o.2.1.2.1, .int .i64 o.2.1.2.2, .int .i32 o.2.2.1.1, .int .i64 o.2.2.1.2, .int .u64 o.2.2.2.1, .int .i64 o.2.2.2.2]
section
variable {H : Type} {enc : TypeId × Value → H} {W : World}
theorem view_key {fuel : Nat} {v0 v1 : Value} {x : DataW H × List MemPlace} (hf : DataW.trod enc Tryd.prog W 0 (fun _ => true) true fuel 30 [v0, v1] = some x) : ∃ k : Ky, v0 = .int .i32 k.1 ∧ v1 = .int .i64 k.2 ∧ OkK k := by
  obtain ⟨xs, n, _, rfl, _, hxl, hg⟩ := DataW.trod_struct Tryd.underlying30 hf
  obtain ⟨y0, y1, rfl⟩ := list2 hxl
  have g0 := hg 0 _ rfl
  have g1 := hg 1 _ rfl
  simp [Tryd.cells21, Tryd.cells2] at g0 g1
  obtain ⟨n0, e0, _, w0⟩ := DataW.trod_int Tryd.underlying21 g0
  obtain ⟨n1, e1, _, w1⟩ := DataW.trod_int Tryd.underlying2 g1
  simp only [List.cons.injEq, and_true] at e0 e1
  exact ⟨(n0, n1), e0, e1, bnd_i32 w0, bnd_i64 w1⟩
theorem view_cell {fuel : Nat} {v0 v1 v2 v3 : Value} {x : DataW H × List MemPlace} (hf : DataW.trod enc Tryd.prog W 0 (fun _ => true) true fuel 32 [v0, v1, v2, v3] = some x) : ∃ c : Pr, v0 = .int .i32 c.1.1 ∧ v1 = .int .i64 c.1.2 ∧ v2 = .int .i64 c.2.1 ∧ v3 = .int .i64 c.2.2 ∧ OkK c.1 ∧ I64 c.2.1 ∧ I64 c.2.2 := by
  obtain ⟨xs, n, _, rfl, _, hxl, hg⟩ := DataW.trod_struct Tryd.underlying32 hf
  obtain ⟨y0, y1, y2, rfl⟩ := list3 hxl
  have g0 := hg 0 _ rfl
  have g1 := hg 1 _ rfl
  have g2 := hg 2 _ rfl
  simp [Tryd.cells30, Tryd.cells2] at g0 g1 g2
  obtain ⟨k, rfl, rfl, hk⟩ := view_key g0
  obtain ⟨n1, e1, _, w1⟩ := DataW.trod_int Tryd.underlying2 g1
  obtain ⟨n2, e2, _, w2⟩ := DataW.trod_int Tryd.underlying2 g2
  simp only [List.cons.injEq, and_true] at e1 e2
  exact ⟨(k, n1, n2), rfl, rfl, e1, e2, hk, bnd_i64 w1, bnd_i64 w2⟩
theorem view_op {fuel : Nat} {cs : List Value} {x : DataW H × List MemPlace} (hl : cs.length = 9) (hf : DataW.trod enc Tryd.prog W 0 (fun _ => true) true fuel 34 cs = some x) : ∃ o : Opn, cs = oC o ∧ OkO o := by
  obtain ⟨v0, v1, v2, v3, v4, v5, v6, v7, v8, rfl⟩ := list9 hl
  obtain ⟨xs, n, _, _, _, hxl, hg⟩ := DataW.trod_struct Tryd.underlying34 hf
  obtain ⟨y0, y1, y2, y3, y4, rfl⟩ := list5 hxl
  have g0 := hg 0 _ rfl
  have g1 := hg 1 _ rfl
  have g2 := hg 2 _ rfl
  have g3 := hg 3 _ rfl
  have g4 := hg 4 _ rfl
  simp [Tryd.cells3, Tryd.cells32, Tryd.cells30, Tryd.cells22] at g0 g1 g2 g3 g4
  obtain ⟨n0, e0, _, w0⟩ := DataW.trod_int Tryd.underlying3 g0
  obtain ⟨c, rfl, rfl, rfl, rfl, hk, hv, hs⟩ := view_cell g1
  obtain ⟨t, rfl, rfl, ht⟩ := view_key g2
  obtain ⟨n3, e3, _, w3⟩ := DataW.trod_int Tryd.underlying22 g3
  obtain ⟨n4, e4, _, w4⟩ := DataW.trod_int Tryd.underlying3 g4
  simp only [List.cons.injEq, and_true] at e0 e3 e4
  subst e0 e3 e4
  exact ⟨(n0, c, t, n3, n4), rfl, bnd_i64 w0, hk, hv, hs, ht, bnd_u64 w3, bnd_i64 w4⟩
theorem view_opArg {r : Reach} {b0 : Nat} {v : Value} {d : DataW H} {p : List MemPlace} (hval : Value.okWide Tryd.prog W r b0 34 v) (hf : DataW.Trod enc Tryd.prog W 0 (fun _ => true) true 34 v d p) : ∃ o : Opn, v = .agg (oC o).toArray ∧ OkO o := by
  obtain ⟨cs, rfl, hsz⟩ := okWide_struct Tryd.underlying34 hval
  obtain ⟨fuel, hf⟩ := hf
  rw [Tryd.cells34] at hsz
  have e : (Value.agg cs).cells.toList = cs.toList := by simp [Value.cells]
  rw [e] at hf
  obtain ⟨o, ho, hok⟩ := view_op (by simpa using hsz) hf
  refine ⟨o, ?_, hok⟩
  rw [show cs = cs.toList.toArray by simp, ho]
end
end Go.Proofs.YtalecnfflcjkmaaDoor
