/-
  NARROWER THAN 'FOR EVERY INPUT', by the rows' own cells (each row's printed sentence says how): EvalBinary: laid · EvalMaps: laid · EvalSame: laid · EvalEnds: laid · EvalWithin: laid.
  DERIVED. THE GIVEN ROWS OF THIS SEAT. 5 by the template 'for every input the law returns true; each argument reads behind the call as it read before'; 0 by the template 'total and deterministic' (their statements: YtldapckooohigaaDoorTotals.lean).
  GIVEN WITH THE SEED: the statements are not yours to turn. If you find one false, say at which input.
  Laid BY PROGRAM, IN A SANDBOX (cutbox-rows.mjs): the forced cells as the released guide's own fill.sh prints them over the translation 9ff4f975972e5e6d… (all of the seat's roots in one cut). By AI agents, Wed Nov 11 2026. No macro, syntax, notation, axiom, sorry.
-/
import Derived.Test.YtldapckooohigaaDoorChecked
import GoSem.Claim
import GoSem.ClaimJoined
import GoSem.ClaimMapViews
import Derived.JoinedTies
import Derived.KernelRfl
namespace Go.Proofs.YtldapckooohigaaDoor
/- THE CELL 'sum', in the pinned program and in every row, IS THE sha256 OF THE DUMP (.gsa) THAT YtldapckooohigaaDoorProg.lean LOADS. Nothing in Lean hashes anything: it is a label: what it is worth is what the hold of that sum in a sandbox is worth. -/
noncomputable def Tryd.pinned : Pinned := { name := "ytldapckooohigaadoor", sum := "9ff4f975972e5e6d36ec0d61074a77977cfec97271d394317f2c84d574f95331", checked := Tryd.checked }
namespace Rows
def none {H : Type} : Left H := { results := [], args := [] }

/- WHAT THE LISTED PACKAGE-LEVEL VARIABLES READ AS WHEN THE CALL BEGINS. Each datum BY PROGRAM (the guide's laid-datum.mjs) off the statement by which the dump's own 'gosem.cut.vars' lays the variable. In a bare row this is a premise. The card (YtldapckooohigaaDoorCards.lean) ties it to the program's text. -/
def laid_trivet_code_sizes {H : Type} : DataW H := .agg [.lit (.int .i64 1), .lit (.int .i64 4), .lit (.int .i64 3), .lit (.int .i64 3), .lit (.int .i64 3), .lit (.int .i64 3), .lit (.int .i64 2), .lit (.int .i64 3), .lit (.int .i64 3), .lit (.int .i64 3), .lit (.int .i64 3), .lit (.int .i64 3), .lit (.int .i64 3), .lit (.int .i64 3), .lit (.int .i64 3), .lit (.int .i64 3), .lit (.int .i64 3), .lit (.int .i64 3), .lit (.int .i64 3), .lit (.int .i64 3), .lit (.int .i64 3), .lit (.int .i64 3), .lit (.int .i64 3), .lit (.int .i64 4), .lit (.int .i64 2), .lit (.int .i64 2), .lit (.int .i64 4), .lit (.int .i64 4)]

/-- 'trivetlaw14.EvalBinary': WHATEVER THE INPUT: true; the input reads as it did. -/
def evalBinarySpec : ChangeSpec := { name := "evalBinary", fn := fun _ => fun
  | [d1, d2, d3] => { results := [.lit (.bool true)], args := [d1, d2, d3] }
  | _ => none }
def evalBinaryRow : OpenClaim := { program := "ytldapckooohigaadoor", sum := "9ff4f975972e5e6d36ec0d61074a77977cfec97271d394317f2c84d574f95331", func := "trivet/trivetlaw14.EvalBinary", spec := "evalBinary", unfollowed := true, recurses := true, named := ["trivet/code.sizes"], plainKeys := false, apart := false, laid := [("trivet/code.sizes", laid_trivet_code_sizes)] }
def EvalBinarySaid : Prop := evalBinaryRow.holds Tryd.pinned (OpenSpec.ofChange evalBinarySpec)

/-- ITS FALSE NEIGHBOUR: 'it returns false'. Refute it at one input. -/
def evalBinaryWrong : ChangeSpec := { name := "evalBinary", fn := fun _ => fun
  | [d1, d2, d3] => { results := [.lit (.bool false)], args := [d1, d2, d3] }
  | _ => none }
def EvalBinaryWrongFalsely : Prop := evalBinaryRow.holds Tryd.pinned (OpenSpec.ofChange evalBinaryWrong)

/-- 'trivetlaw14.EvalMaps': WHATEVER THE INPUT: true; the input reads as it did. -/
def evalMapsSpec : ChangeSpec := { name := "evalMaps", fn := fun _ => fun
  | [d1, d2, d3] => { results := [.lit (.bool true)], args := [d1, d2, d3] }
  | _ => none }
def evalMapsRow : OpenClaim := { program := "ytldapckooohigaadoor", sum := "9ff4f975972e5e6d36ec0d61074a77977cfec97271d394317f2c84d574f95331", func := "trivet/trivetlaw14.EvalMaps", spec := "evalMaps", unfollowed := true, recurses := true, named := ["trivet/code.sizes"], plainKeys := false, apart := false, laid := [("trivet/code.sizes", laid_trivet_code_sizes)] }
def EvalMapsSaid : Prop := evalMapsRow.holds Tryd.pinned (OpenSpec.ofChange evalMapsSpec)

/-- ITS FALSE NEIGHBOUR: 'it returns false'. Refute it at one input. -/
def evalMapsWrong : ChangeSpec := { name := "evalMaps", fn := fun _ => fun
  | [d1, d2, d3] => { results := [.lit (.bool false)], args := [d1, d2, d3] }
  | _ => none }
def EvalMapsWrongFalsely : Prop := evalMapsRow.holds Tryd.pinned (OpenSpec.ofChange evalMapsWrong)

/-- 'trivetlaw14.EvalSame': WHATEVER THE INPUT: true; the input reads as it did. -/
def evalSameSpec : ChangeSpec := { name := "evalSame", fn := fun _ => fun
  | [d1, d2] => { results := [.lit (.bool true)], args := [d1, d2] }
  | _ => none }
def evalSameRow : OpenClaim := { program := "ytldapckooohigaadoor", sum := "9ff4f975972e5e6d36ec0d61074a77977cfec97271d394317f2c84d574f95331", func := "trivet/trivetlaw14.EvalSame", spec := "evalSame", unfollowed := true, recurses := true, named := ["trivet/code.sizes"], plainKeys := false, apart := false, laid := [("trivet/code.sizes", laid_trivet_code_sizes)] }
def EvalSameSaid : Prop := evalSameRow.holds Tryd.pinned (OpenSpec.ofChange evalSameSpec)

/-- ITS FALSE NEIGHBOUR: 'it returns false'. Refute it at one input. -/
def evalSameWrong : ChangeSpec := { name := "evalSame", fn := fun _ => fun
  | [d1, d2] => { results := [.lit (.bool false)], args := [d1, d2] }
  | _ => none }
def EvalSameWrongFalsely : Prop := evalSameRow.holds Tryd.pinned (OpenSpec.ofChange evalSameWrong)

/-- 'trivetlaw14.EvalEnds': WHATEVER THE INPUT: true; the input reads as it did. -/
def evalEndsSpec : ChangeSpec := { name := "evalEnds", fn := fun _ => fun
  | [d1, d2, d3, d4] => { results := [.lit (.bool true)], args := [d1, d2, d3, d4] }
  | _ => none }
def evalEndsRow : OpenClaim := { program := "ytldapckooohigaadoor", sum := "9ff4f975972e5e6d36ec0d61074a77977cfec97271d394317f2c84d574f95331", func := "trivet/trivetlaw14.EvalEnds", spec := "evalEnds", unfollowed := true, recurses := true, named := ["trivet/code.sizes"], plainKeys := false, apart := false, laid := [("trivet/code.sizes", laid_trivet_code_sizes)] }
def EvalEndsSaid : Prop := evalEndsRow.holds Tryd.pinned (OpenSpec.ofChange evalEndsSpec)

/-- ITS FALSE NEIGHBOUR: 'it returns false'. Refute it at one input. -/
def evalEndsWrong : ChangeSpec := { name := "evalEnds", fn := fun _ => fun
  | [d1, d2, d3, d4] => { results := [.lit (.bool false)], args := [d1, d2, d3, d4] }
  | _ => none }
def EvalEndsWrongFalsely : Prop := evalEndsRow.holds Tryd.pinned (OpenSpec.ofChange evalEndsWrong)

/-- 'trivetlaw14.EvalWithin': WHATEVER THE INPUT: true; the input reads as it did. -/
def evalWithinSpec : ChangeSpec := { name := "evalWithin", fn := fun _ => fun
  | [d1, d2, d3] => { results := [.lit (.bool true)], args := [d1, d2, d3] }
  | _ => none }
def evalWithinRow : OpenClaim := { program := "ytldapckooohigaadoor", sum := "9ff4f975972e5e6d36ec0d61074a77977cfec97271d394317f2c84d574f95331", func := "trivet/trivetlaw14.EvalWithin", spec := "evalWithin", unfollowed := true, recurses := true, named := ["trivet/code.sizes"], plainKeys := false, apart := false, laid := [("trivet/code.sizes", laid_trivet_code_sizes)] }
def EvalWithinSaid : Prop := evalWithinRow.holds Tryd.pinned (OpenSpec.ofChange evalWithinSpec)

/-- ITS FALSE NEIGHBOUR: 'it returns false'. Refute it at one input. -/
def evalWithinWrong : ChangeSpec := { name := "evalWithin", fn := fun _ => fun
  | [d1, d2, d3] => { results := [.lit (.bool false)], args := [d1, d2, d3] }
  | _ => none }
def EvalWithinWrongFalsely : Prop := evalWithinRow.holds Tryd.pinned (OpenSpec.ofChange evalWithinWrong)

/- THE SECOND FORM. 'bulk': how many values and letters a reading holds, each counted each time it is reached (what is shared counts as often as it is met; a slice's spare places count too). A statement '..UptoSaid' is the law's where the arguments, and the package variables that the reading takes, are together of bulk at most 1048576: NARROWER than '..Said'. Prove '..Said' where nothing that the law and all that it calls make is longer than what came in: it says more and counts as full. Else prove '..UptoSaid'. A law counts once. -/
mutual
def uptoBulk {H : Type} : DataW H → Nat
  | .lit (.string bytes) => bytes.length + 1
  | .lit _ => 1
  | .nil => 1
  | .ptr d => uptoBulk d + 1
  | .slice elems spare => uptoBulkAll elems + uptoBulkAll spare + 1
  | .agg parts => uptoBulkAll parts + 1
  | .iface _ d => uptoBulk d + 1
  | .map entries => uptoBulkEntries entries + 1
  | .held _ => 1
def uptoBulkAll {H : Type} : List (DataW H) → Nat
  | [] => 0
  | d :: r => uptoBulk d + uptoBulkAll r
def uptoBulkEntries {H : Type} : List (Lit × DataW H) → Nat
  | [] => 0
  | x :: r => uptoBulkEntry x + uptoBulkEntries r
def uptoBulkEntry {H : Type} : Lit × DataW H → Nat
  | (.string bytes, d) => bytes.length + uptoBulk d + 1
  | (_, d) => uptoBulk d + 1
 end
def uptoSmall : (H : Type) → List (DataW H) → Bool := fun _ ds => decide (uptoBulkAll ds ≤ 1048576)
def OpenSpec.upto (s : _root_.Go.ChangeSpec) : _root_.Go.OpenSpec := { _root_.Go.OpenSpec.ofChange s with cond := some uptoSmall }

/-- 'trivetlaw14.EvalBinary', WHERE WHAT IT READS IS OF BULK AT MOST 1048576: true; the input reads as it did. -/
def evalBinaryUptoRow : OpenClaim := { program := "ytldapckooohigaadoor", sum := "9ff4f975972e5e6d36ec0d61074a77977cfec97271d394317f2c84d574f95331", func := "trivet/trivetlaw14.EvalBinary", spec := "evalBinary", unfollowed := true, recurses := true, named := ["trivet/code.sizes"], plainKeys := false, apart := false, laid := [("trivet/code.sizes", laid_trivet_code_sizes)], narrowed := true }
def EvalBinaryUptoSaid : Prop := evalBinaryUptoRow.holds Tryd.pinned (OpenSpec.upto evalBinarySpec)

/-- 'trivetlaw14.EvalMaps', WHERE WHAT IT READS IS OF BULK AT MOST 1048576: true; the input reads as it did. -/
def evalMapsUptoRow : OpenClaim := { program := "ytldapckooohigaadoor", sum := "9ff4f975972e5e6d36ec0d61074a77977cfec97271d394317f2c84d574f95331", func := "trivet/trivetlaw14.EvalMaps", spec := "evalMaps", unfollowed := true, recurses := true, named := ["trivet/code.sizes"], plainKeys := false, apart := false, laid := [("trivet/code.sizes", laid_trivet_code_sizes)], narrowed := true }
def EvalMapsUptoSaid : Prop := evalMapsUptoRow.holds Tryd.pinned (OpenSpec.upto evalMapsSpec)

/-- 'trivetlaw14.EvalSame', WHERE WHAT IT READS IS OF BULK AT MOST 1048576: true; the input reads as it did. -/
def evalSameUptoRow : OpenClaim := { program := "ytldapckooohigaadoor", sum := "9ff4f975972e5e6d36ec0d61074a77977cfec97271d394317f2c84d574f95331", func := "trivet/trivetlaw14.EvalSame", spec := "evalSame", unfollowed := true, recurses := true, named := ["trivet/code.sizes"], plainKeys := false, apart := false, laid := [("trivet/code.sizes", laid_trivet_code_sizes)], narrowed := true }
def EvalSameUptoSaid : Prop := evalSameUptoRow.holds Tryd.pinned (OpenSpec.upto evalSameSpec)

/-- 'trivetlaw14.EvalEnds', WHERE WHAT IT READS IS OF BULK AT MOST 1048576: true; the input reads as it did. -/
def evalEndsUptoRow : OpenClaim := { program := "ytldapckooohigaadoor", sum := "9ff4f975972e5e6d36ec0d61074a77977cfec97271d394317f2c84d574f95331", func := "trivet/trivetlaw14.EvalEnds", spec := "evalEnds", unfollowed := true, recurses := true, named := ["trivet/code.sizes"], plainKeys := false, apart := false, laid := [("trivet/code.sizes", laid_trivet_code_sizes)], narrowed := true }
def EvalEndsUptoSaid : Prop := evalEndsUptoRow.holds Tryd.pinned (OpenSpec.upto evalEndsSpec)

/-- 'trivetlaw14.EvalWithin', WHERE WHAT IT READS IS OF BULK AT MOST 1048576: true; the input reads as it did. -/
def evalWithinUptoRow : OpenClaim := { program := "ytldapckooohigaadoor", sum := "9ff4f975972e5e6d36ec0d61074a77977cfec97271d394317f2c84d574f95331", func := "trivet/trivetlaw14.EvalWithin", spec := "evalWithin", unfollowed := true, recurses := true, named := ["trivet/code.sizes"], plainKeys := false, apart := false, laid := [("trivet/code.sizes", laid_trivet_code_sizes)], narrowed := true }
def EvalWithinUptoSaid : Prop := evalWithinUptoRow.holds Tryd.pinned (OpenSpec.upto evalWithinSpec)

end Rows
end Go.Proofs.YtldapckooohigaaDoor
