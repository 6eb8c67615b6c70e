/- How an operation, as the row hands it over, is seen by the walk. -/
import Derived.Test.YtiijbklaapaheabRows
import Derived.Test.YtiijbklaapaheabJD
import Derived.WalkKit
import Derived.ProofKit
import Derived.OpenShut
import Derived.ShutString
import Derived.ChangeOld
import Derived.Below
import Derived.SizedLaws
import Derived.JoinedCond
import Derived.Deep.Slices
import Derived.Deep.SlicePairs
namespace Go.Proofs.Ytiijbklaapaheab
open Go.ChangeShapes Go.WideShapes Go.ChangeAt Go.RowKit Go.Deep

theorem ownK : ownKnob Try.prog.godebug = none := by kernel_rfl
theorem laidOut : laidOutB Try.prog = true := by kernel_rfl
theorem Try.cells28 : Try.prog.cellsOf 28 = 9 := by kernel_rfl
theorem Try.cells26 : Try.prog.cellsOf 26 = 3 := by kernel_rfl
theorem Try.cells24 : Try.prog.cellsOf 24 = 1 := by kernel_rfl
theorem Try.cells23 : Try.prog.cellsOf 23 = 2 := by kernel_rfl
theorem Try.cells2 : Try.prog.cellsOf 2 = 1 := by kernel_rfl
theorem Try.cells3 : Try.prog.cellsOf 3 = 1 := by kernel_rfl

theorem list2 {α : Type} {l : List α} (h : l.length = 2) : ∃ a b, l = [a, b] := by
  match l, h with
  | [a, b], _ => exact ⟨a, b, rfl⟩
theorem list3 {α : Type} {l : List α} (h : l.length = 3) : ∃ a b c, l = [a, b, c] := by
  match l, h with
  | [a, b, c], _ => exact ⟨a, b, c, rfl⟩
theorem list6 {α : Type} {l : List α} (h : l.length = 6) : ∃ a b c d e f, l = [a, b, c, d, e, f] := by
  match l, h with
  | [a, b, c, d, e, f], _ => exact ⟨a, b, c, d, e, f, rfl⟩
theorem list9 {α : Type} {l : List α} (h : l.length = 9) : ∃ a b c d e f g i j, l = [a, b, c, d, e, f, g, i, j] := by
  match l, h with
  | [a, b, c, d, e, f, g, i, j], _ => exact ⟨a, b, c, d, e, f, g, i, j, rfl⟩

variable {H : Type} {enc : TypeId × Value → H} {W : World}

/-- A region. -/
theorem view_region {fuel : Nat} {v0 v1 : Value} {x : DataW H × List MemPlace} (hf : DataW.trod enc Try.prog W 0 (fun _ => true) true fuel 23 [v0, v1] = some x) :
    ∃ a b : Int, v0 = .int .i64 a ∧ v1 = .int .i64 b := by
  obtain ⟨xs, n, _, rfl, _, hxl, hg⟩ := DataW.trod_struct Try.underlying23 hf
  obtain ⟨y0, y1, rfl⟩ := list2 hxl
  have g0 := hg 0 _ rfl
  have g1 := hg 1 _ rfl
  simp [Try.cells3] at g0 g1
  obtain ⟨n0, e0, _, _⟩ := DataW.trod_int Try.underlying3 g0
  obtain ⟨n1, e1, _, _⟩ := DataW.trod_int Try.underlying3 g1
  simp only [List.cons.injEq, and_true] at e0 e1
  exact ⟨n0, n1, e0, e1⟩

/-- A checkpoint that is to be saved: of its bytes the slice alone. -/
theorem view_saved {fuel : Nat} {v0 v1 v2 : Value} {x : DataW H × List MemPlace} (hf : DataW.trod enc Try.prog W 0 (fun _ => true) true fuel 26 [v0, v1, v2] = some x) :
    ∃ (a b : Int) (ao : Option Addr) (len cap : Nat), v0 = .int .i64 a ∧ v1 = .int .i64 b ∧ v2 = .slice ao len cap := by
  obtain ⟨xs, n, _, rfl, _, hxl, hg⟩ := DataW.trod_struct Try.underlying26 hf
  obtain ⟨y0, y1, y2, rfl⟩ := list3 hxl
  have g0 := hg 0 _ rfl
  have g1 := hg 1 _ rfl
  have g2 := hg 2 _ rfl
  simp [Try.cells2, Try.cells24] at g0 g1 g2
  obtain ⟨n0, e0, _, _⟩ := DataW.trod_int Try.underlying2 g0
  obtain ⟨n1, e1, _, _⟩ := DataW.trod_int Try.underlying2 g1
  have e2 : ∃ (ao : Option Addr) (len cap : Nat), v2 = .slice ao len cap := by
    rcases open_slice Try.underlying24 g2 with ⟨hc, _⟩ | ⟨a, len, c, _, _, _, _, hc, _⟩
    · exact ⟨none, 0, 0, by simpa using hc⟩
    · exact ⟨some a, len, c, by simpa using hc⟩
  obtain ⟨ao, len, cap, e2⟩ := e2
  simp only [List.cons.injEq, and_true] at e0 e1
  exact ⟨n0, n1, ao, len, cap, e0, e1, e2⟩

set_option maxRecDepth 100000 in
theorem view_op {r : Reach} {b0 : Nat} {v : Value} {d : DataW H} {p : List MemPlace} (hval : Value.okWide Try.prog W r b0 28 v)
    (hf : DataW.Trod enc Try.prog W 0 (fun _ => true) true 28 v d p) : ∃ (x0 f n slot last x6 x7 x8 : Int) (ao : Option Addr) (len cap : Nat), v = .agg #[.int .i64 x0, .int .i64 f, .int .i64 n, .int .i64 slot, .int .i64 last, .slice ao len cap, .int .i64 x6, .int .i64 x7, .int .i64 x8] := by
  obtain ⟨cs, rfl, hsz⟩ := okWide_struct Try.underlying28 hval
  obtain ⟨fuel, hf⟩ := hf
  rw [Try.cells28] at hsz
  have e : (Value.agg cs).cells.toList = cs.toList := by simp [Value.cells]
  rw [e] at hf
  obtain ⟨v0, v1, v2, v3, v4, v5, v6, v7, v8, hcs⟩ := list9 (show cs.toList.length = 9 by simpa using hsz)
  rw [hcs] at hf
  obtain ⟨xs, n, _, _, _, hxl, hg⟩ := DataW.trod_struct Try.underlying28 hf
  obtain ⟨y0, y1, y2, y3, y4, y5, rfl⟩ := list6 hxl
  have g0 := hg 0 _ rfl
  have g1 := hg 1 _ rfl
  have g2 := hg 2 _ rfl
  have g3 := hg 3 _ rfl
  have g4 := hg 4 _ rfl
  have g5 := hg 5 _ rfl
  simp [Try.cells3, Try.cells23, Try.cells26] at g0 g1 g2 g3 g4 g5
  obtain ⟨n0, e0, _, _⟩ := DataW.trod_int Try.underlying3 g0
  obtain ⟨f, m, rfl, rfl⟩ := view_region g1
  obtain ⟨s, l, ao, len, cap, rfl, rfl, rfl⟩ := view_saved g2
  obtain ⟨n6, e6, _, _⟩ := DataW.trod_int Try.underlying3 g3
  obtain ⟨n7, e7, _, _⟩ := DataW.trod_int Try.underlying3 g4
  obtain ⟨n8, e8, _, _⟩ := DataW.trod_int Try.underlying3 g5
  simp only [List.cons.injEq, and_true] at e0 e6 e7 e8
  subst e0 e6 e7 e8
  refine ⟨n0, f, m, s, l, n6, n7, n8, ao, len, cap, ?_⟩
  rw [show cs = cs.toList.toArray by simp, hcs]
end Go.Proofs.Ytiijbklaapaheab
