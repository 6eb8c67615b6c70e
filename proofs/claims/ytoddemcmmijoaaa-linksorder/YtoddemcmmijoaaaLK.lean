/- Links: pairs as keys of a map. -/
import Derived.Test.YtoddemcmmijoaaaChecked
import Derived.DeepKeys4
import Derived.Maps.RangeRun
import Derived.WalkKit
namespace Go.Proofs.Ytoddemcmmijoaaa
open Go.RowKit
set_option maxRecDepth 100000

def keyV (a b : Int) : Value := .agg #[.int .i64 a, .int .i64 b]
theorem laidOutK : laidOutB Try.prog = true := by kernel_rfl
theorem Try.underlying44 : Try.prog.underlying 44 = some (.map 24 50) := by kernel_rfl
theorem Try.keyType24 : Try.prog.keyType 24 = true := by kernel_rfl
theorem Try.cells24 : Try.prog.cellsOf 24 = 2 := by kernel_rfl
theorem Try.cells3 : Try.prog.cellsOf 3 = 1 := by kernel_rfl
theorem Try.under3 : Try.prog.underlying 3 = some (.int .i64) := by kernel_rfl
theorem way_law : WideMaps.KeyLaw Try.prog 24 := deep_law_laid laidOutK (m := 2) (by decide) (of_decide_eq_true (by kernel_rfl)) (by kernel_rfl) (by kernel_rfl)
theorem way_fields : (Try.prog.underlying 24).bind (fun d => match d with | .struct fs => some (fs.toList.map fun f => (f.type, f.offset, f.name != "_")) | _ => none) = some [(3, 0, true), (3, 1, true)] := by kernel_rfl
theorem keyOf_two {P : Program} {k e : TypeId} (hw : (P.underlying k).bind (fun d => match d with | .struct fs => some (fs.toList.map fun f => (f.type, f.offset, f.name != "_")) | _ => none) = some [(e, 0, true), (e, 1, true)])
    (hkt : P.keyType k = true) (hc : P.cellsOf k = 2) (he : P.underlying e = some (.int .i64)) (hce : P.cellsOf e = 1) (hsz : ∃ m, P.types.size = m + 1) {a b : Int} (ha : (Lit.int .i64 a).wf = true) (hb : (Lit.int .i64 b).wf = true) : ∃ s, keyOf P k (keyV a b) = some s := by
  obtain ⟨m, hm⟩ := hsz
  unfold keyOf
  cases hu : P.underlying k with
  | none => rw [hu] at hw; simp at hw
  | some d =>
    rw [hu] at hw
    cases d with
    | struct fs =>
      obtain ⟨fs⟩ := fs
      simp only [Option.bind_some, Option.some.injEq] at hw
      have hl : fs.length = 2 := by have := congrArg List.length hw; simpa using this
      obtain ⟨f0, f1, rfl⟩ : ∃ x y, fs = [x, y] := by
        match fs, hl with
        | [x, y], _ => exact ⟨x, y, rfl⟩
      simp only [List.map_cons, List.map_nil, List.cons.injEq, Prod.mk.injEq, and_true] at hw
      obtain ⟨⟨t0, o0, n0⟩, t1, o1, n1⟩ := hw
      have hf : (keyV a b).formed P k = true := by simp [keyV, Value.formed, hu, hc]
      simp only [hkt, hf, Bool.and_self, if_true, hm]
      unfold Program.keyLits
      simp [hu, keyV, Value.cells, hc, n0, n1, t0, t1, o0, o1, hce, Program.keyLits, he, ha, hb]
    | _ => simp at hw
theorem Try.sizeS : ∃ m, Try.prog.types.size = m + 1 := ⟨Try.prog.types.size - 1, by kernel_rfl⟩
theorem keyOf_way {a b : Int} (ha : (Lit.int .i64 a).wf = true) (hb : (Lit.int .i64 b).wf = true) : ∃ s, keyOf Try.prog 24 (keyV a b) = some s :=
  keyOf_two way_fields Try.keyType24 Try.cells24 Try.under3 Try.cells3 Try.sizeS ha hb
end Go.Proofs.Ytoddemcmmijoaaa
