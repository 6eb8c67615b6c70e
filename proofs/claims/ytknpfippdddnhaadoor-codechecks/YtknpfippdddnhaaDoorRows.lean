/-
  NARROWER THAN 'FOR EVERY INPUT', by the rows' own cells (each row's printed sentence says how): CodeReads: laid · CodeWrites: laid · CodeChecks: laid · CodeBack: laid · CodeReach: laid · CodeParts: laid.
  DERIVED. THE GIVEN ROWS OF THIS SEAT. 6 by the template 'for every input the law returns true; each argument reads behind the call as it read before'; 0 by the template 'total and deterministic' (their statements: YtknpfippdddnhaaDoorTotals.lean).
  GIVEN WITH THE SEED: the statements are not yours to turn. If you find one false, say at which input.
  Laid BY PROGRAM, IN A SANDBOX (cutbox-rows.mjs): the forced cells as the released guide's own fill.sh prints them over the translation 976b6fbaacd3a540… (all of the seat's roots in one cut). By AI agents, Wed Nov 11 2026. No macro, syntax, notation, axiom, sorry.
-/
import Derived.Test.YtknpfippdddnhaaDoorChecked
import GoSem.Claim
import GoSem.ClaimJoined
import GoSem.ClaimMapViews
import Derived.JoinedTies
import Derived.KernelRfl
namespace Go.Proofs.YtknpfippdddnhaaDoor
/- THE CELL 'sum', in the pinned program and in every row, IS THE sha256 OF THE DUMP (.gsa) THAT YtknpfippdddnhaaDoorProg.lean LOADS. Nothing in Lean hashes anything: it is a label: what it is worth is what the hold of that sum in a sandbox is worth. -/
noncomputable def Tryd.pinned : Pinned := { name := "ytknpfippdddnhaadoor", sum := "976b6fbaacd3a540c4d6994dbadc8851463ebd4f4503ee2a648c529f5ecb954e", checked := Tryd.checked }
namespace Rows
def none {H : Type} : Left H := { results := [], args := [] }

/- WHAT THE LISTED PACKAGE-LEVEL VARIABLES READ AS WHEN THE CALL BEGINS. Each datum BY PROGRAM (the guide's laid-datum.mjs) off the statement by which the dump's own 'gosem.cut.vars' lays the variable. In a bare row this is a premise. The card (YtknpfippdddnhaaDoorCards.lean) ties it to the program's text. -/
def laid_trivet_code_sizes {H : Type} : DataW H := .agg [.lit (.int .i64 1), .lit (.int .i64 4), .lit (.int .i64 3), .lit (.int .i64 3), .lit (.int .i64 3), .lit (.int .i64 3), .lit (.int .i64 2), .lit (.int .i64 3), .lit (.int .i64 3), .lit (.int .i64 3), .lit (.int .i64 3), .lit (.int .i64 3), .lit (.int .i64 3), .lit (.int .i64 3), .lit (.int .i64 3), .lit (.int .i64 3), .lit (.int .i64 3), .lit (.int .i64 3), .lit (.int .i64 3), .lit (.int .i64 3), .lit (.int .i64 3), .lit (.int .i64 3), .lit (.int .i64 3), .lit (.int .i64 4), .lit (.int .i64 2), .lit (.int .i64 2), .lit (.int .i64 4), .lit (.int .i64 4)]

/-- 'trivetlaw13.CodeReads': WHATEVER THE INPUT: true; the input reads as it did. -/
def codeReadsSpec : ChangeSpec := { name := "codeReads", fn := fun _ => fun
  | [d1, d2, d3] => { results := [.lit (.bool true)], args := [d1, d2, d3] }
  | _ => none }
def codeReadsRow : OpenClaim := { program := "ytknpfippdddnhaadoor", sum := "976b6fbaacd3a540c4d6994dbadc8851463ebd4f4503ee2a648c529f5ecb954e", func := "trivet/trivetlaw13.CodeReads", spec := "codeReads", unfollowed := true, recurses := true, named := ["trivet/code.sizes"], apart := false, laid := [("trivet/code.sizes", laid_trivet_code_sizes)] }
def CodeReadsSaid : Prop := codeReadsRow.holds Tryd.pinned (OpenSpec.ofChange codeReadsSpec)

/-- ITS FALSE NEIGHBOUR: 'it returns false'. Refute it at one input. -/
def codeReadsWrong : ChangeSpec := { name := "codeReads", fn := fun _ => fun
  | [d1, d2, d3] => { results := [.lit (.bool false)], args := [d1, d2, d3] }
  | _ => none }
def CodeReadsWrongFalsely : Prop := codeReadsRow.holds Tryd.pinned (OpenSpec.ofChange codeReadsWrong)

/-- 'trivetlaw13.CodeWrites': WHATEVER THE INPUT: true; the input reads as it did. -/
def codeWritesSpec : ChangeSpec := { name := "codeWrites", fn := fun _ => fun
  | [d1, d2] => { results := [.lit (.bool true)], args := [d1, d2] }
  | _ => none }
def codeWritesRow : OpenClaim := { program := "ytknpfippdddnhaadoor", sum := "976b6fbaacd3a540c4d6994dbadc8851463ebd4f4503ee2a648c529f5ecb954e", func := "trivet/trivetlaw13.CodeWrites", spec := "codeWrites", unfollowed := true, recurses := true, named := ["trivet/code.sizes"], apart := false, laid := [("trivet/code.sizes", laid_trivet_code_sizes)] }
def CodeWritesSaid : Prop := codeWritesRow.holds Tryd.pinned (OpenSpec.ofChange codeWritesSpec)

/-- ITS FALSE NEIGHBOUR: 'it returns false'. Refute it at one input. -/
def codeWritesWrong : ChangeSpec := { name := "codeWrites", fn := fun _ => fun
  | [d1, d2] => { results := [.lit (.bool false)], args := [d1, d2] }
  | _ => none }
def CodeWritesWrongFalsely : Prop := codeWritesRow.holds Tryd.pinned (OpenSpec.ofChange codeWritesWrong)

/-- 'trivetlaw13.CodeChecks': WHATEVER THE INPUT: true; the input reads as it did. -/
def codeChecksSpec : ChangeSpec := { name := "codeChecks", fn := fun _ => fun
  | [d] => { results := [.lit (.bool true)], args := [d] }
  | _ => none }
def codeChecksRow : OpenClaim := { program := "ytknpfippdddnhaadoor", sum := "976b6fbaacd3a540c4d6994dbadc8851463ebd4f4503ee2a648c529f5ecb954e", func := "trivet/trivetlaw13.CodeChecks", spec := "codeChecks", unfollowed := true, recurses := true, named := ["trivet/code.sizes"], apart := false, laid := [("trivet/code.sizes", laid_trivet_code_sizes)] }
def CodeChecksSaid : Prop := codeChecksRow.holds Tryd.pinned (OpenSpec.ofChange codeChecksSpec)

/-- ITS FALSE NEIGHBOUR: 'it returns false'. Refute it at one input. -/
def codeChecksWrong : ChangeSpec := { name := "codeChecks", fn := fun _ => fun
  | [d] => { results := [.lit (.bool false)], args := [d] }
  | _ => none }
def CodeChecksWrongFalsely : Prop := codeChecksRow.holds Tryd.pinned (OpenSpec.ofChange codeChecksWrong)

/-- 'trivetlaw13.CodeBack': WHATEVER THE INPUT: true; the input reads as it did. -/
def codeBackSpec : ChangeSpec := { name := "codeBack", fn := fun _ => fun
  | [d1, d2] => { results := [.lit (.bool true)], args := [d1, d2] }
  | _ => none }
def codeBackRow : OpenClaim := { program := "ytknpfippdddnhaadoor", sum := "976b6fbaacd3a540c4d6994dbadc8851463ebd4f4503ee2a648c529f5ecb954e", func := "trivet/trivetlaw13.CodeBack", spec := "codeBack", unfollowed := true, recurses := true, named := ["trivet/code.sizes"], apart := false, laid := [("trivet/code.sizes", laid_trivet_code_sizes)] }
def CodeBackSaid : Prop := codeBackRow.holds Tryd.pinned (OpenSpec.ofChange codeBackSpec)

/-- ITS FALSE NEIGHBOUR: 'it returns false'. Refute it at one input. -/
def codeBackWrong : ChangeSpec := { name := "codeBack", fn := fun _ => fun
  | [d1, d2] => { results := [.lit (.bool false)], args := [d1, d2] }
  | _ => none }
def CodeBackWrongFalsely : Prop := codeBackRow.holds Tryd.pinned (OpenSpec.ofChange codeBackWrong)

/-- 'trivetlaw13.CodeReach': WHATEVER THE INPUT: true; the input reads as it did. -/
def codeReachSpec : ChangeSpec := { name := "codeReach", fn := fun _ => fun
  | [d] => { results := [.lit (.bool true)], args := [d] }
  | _ => none }
def codeReachRow : OpenClaim := { program := "ytknpfippdddnhaadoor", sum := "976b6fbaacd3a540c4d6994dbadc8851463ebd4f4503ee2a648c529f5ecb954e", func := "trivet/trivetlaw13.CodeReach", spec := "codeReach", unfollowed := true, recurses := true, named := ["trivet/code.sizes"], apart := false, laid := [("trivet/code.sizes", laid_trivet_code_sizes)] }
def CodeReachSaid : Prop := codeReachRow.holds Tryd.pinned (OpenSpec.ofChange codeReachSpec)

/-- ITS FALSE NEIGHBOUR: 'it returns false'. Refute it at one input. -/
def codeReachWrong : ChangeSpec := { name := "codeReach", fn := fun _ => fun
  | [d] => { results := [.lit (.bool false)], args := [d] }
  | _ => none }
def CodeReachWrongFalsely : Prop := codeReachRow.holds Tryd.pinned (OpenSpec.ofChange codeReachWrong)

/-- 'trivetlaw13.CodeParts': WHATEVER THE INPUT: true; the input reads as it did. -/
def codePartsSpec : ChangeSpec := { name := "codeParts", fn := fun _ => fun
  | [d1, d2, d3] => { results := [.lit (.bool true)], args := [d1, d2, d3] }
  | _ => none }
def codePartsRow : OpenClaim := { program := "ytknpfippdddnhaadoor", sum := "976b6fbaacd3a540c4d6994dbadc8851463ebd4f4503ee2a648c529f5ecb954e", func := "trivet/trivetlaw13.CodeParts", spec := "codeParts", unfollowed := true, recurses := true, named := ["trivet/code.sizes"], apart := false, laid := [("trivet/code.sizes", laid_trivet_code_sizes)] }
def CodePartsSaid : Prop := codePartsRow.holds Tryd.pinned (OpenSpec.ofChange codePartsSpec)

/-- ITS FALSE NEIGHBOUR: 'it returns false'. Refute it at one input. -/
def codePartsWrong : ChangeSpec := { name := "codeParts", fn := fun _ => fun
  | [d1, d2, d3] => { results := [.lit (.bool false)], args := [d1, d2, d3] }
  | _ => none }
def CodePartsWrongFalsely : Prop := codePartsRow.holds Tryd.pinned (OpenSpec.ofChange codePartsWrong)

/- THE SECOND FORM. 'bulk': how many values and letters a reading holds, each counted each time it is reached (what is shared counts as often as it is met; a slice's spare places count too). A statement '..UptoSaid' is the law's where the arguments, and the package variables that the reading takes, are together of bulk at most 1048576: NARROWER than '..Said'. Prove '..Said' where nothing that the law and all that it calls make is longer than what came in: it says more and counts as full. Else prove '..UptoSaid'. A law counts once. -/
mutual
def uptoBulk {H : Type} : DataW H → Nat
  | .lit (.string bytes) => bytes.length + 1
  | .lit _ => 1
  | .nil => 1
  | .ptr d => uptoBulk d + 1
  | .slice elems spare => uptoBulkAll elems + uptoBulkAll spare + 1
  | .agg parts => uptoBulkAll parts + 1
  | .iface _ d => uptoBulk d + 1
  | .map entries => uptoBulkEntries entries + 1
  | .held _ => 1
def uptoBulkAll {H : Type} : List (DataW H) → Nat
  | [] => 0
  | d :: r => uptoBulk d + uptoBulkAll r
def uptoBulkEntries {H : Type} : List (Lit × DataW H) → Nat
  | [] => 0
  | x :: r => uptoBulkEntry x + uptoBulkEntries r
def uptoBulkEntry {H : Type} : Lit × DataW H → Nat
  | (.string bytes, d) => bytes.length + uptoBulk d + 1
  | (_, d) => uptoBulk d + 1
 end
def uptoSmall : (H : Type) → List (DataW H) → Bool := fun _ ds => decide (uptoBulkAll ds ≤ 1048576)
def OpenSpec.upto (s : _root_.Go.ChangeSpec) : _root_.Go.OpenSpec := { _root_.Go.OpenSpec.ofChange s with cond := some uptoSmall }

/-- 'trivetlaw13.CodeReads', WHERE WHAT IT READS IS OF BULK AT MOST 1048576: true; the input reads as it did. -/
def codeReadsUptoRow : OpenClaim := { program := "ytknpfippdddnhaadoor", sum := "976b6fbaacd3a540c4d6994dbadc8851463ebd4f4503ee2a648c529f5ecb954e", func := "trivet/trivetlaw13.CodeReads", spec := "codeReads", unfollowed := true, recurses := true, named := ["trivet/code.sizes"], apart := false, laid := [("trivet/code.sizes", laid_trivet_code_sizes)], narrowed := true }
def CodeReadsUptoSaid : Prop := codeReadsUptoRow.holds Tryd.pinned (OpenSpec.upto codeReadsSpec)

/-- 'trivetlaw13.CodeWrites', WHERE WHAT IT READS IS OF BULK AT MOST 1048576: true; the input reads as it did. -/
def codeWritesUptoRow : OpenClaim := { program := "ytknpfippdddnhaadoor", sum := "976b6fbaacd3a540c4d6994dbadc8851463ebd4f4503ee2a648c529f5ecb954e", func := "trivet/trivetlaw13.CodeWrites", spec := "codeWrites", unfollowed := true, recurses := true, named := ["trivet/code.sizes"], apart := false, laid := [("trivet/code.sizes", laid_trivet_code_sizes)], narrowed := true }
def CodeWritesUptoSaid : Prop := codeWritesUptoRow.holds Tryd.pinned (OpenSpec.upto codeWritesSpec)

/-- 'trivetlaw13.CodeChecks', WHERE WHAT IT READS IS OF BULK AT MOST 1048576: true; the input reads as it did. -/
def codeChecksUptoRow : OpenClaim := { program := "ytknpfippdddnhaadoor", sum := "976b6fbaacd3a540c4d6994dbadc8851463ebd4f4503ee2a648c529f5ecb954e", func := "trivet/trivetlaw13.CodeChecks", spec := "codeChecks", unfollowed := true, recurses := true, named := ["trivet/code.sizes"], apart := false, laid := [("trivet/code.sizes", laid_trivet_code_sizes)], narrowed := true }
def CodeChecksUptoSaid : Prop := codeChecksUptoRow.holds Tryd.pinned (OpenSpec.upto codeChecksSpec)

/-- 'trivetlaw13.CodeBack', WHERE WHAT IT READS IS OF BULK AT MOST 1048576: true; the input reads as it did. -/
def codeBackUptoRow : OpenClaim := { program := "ytknpfippdddnhaadoor", sum := "976b6fbaacd3a540c4d6994dbadc8851463ebd4f4503ee2a648c529f5ecb954e", func := "trivet/trivetlaw13.CodeBack", spec := "codeBack", unfollowed := true, recurses := true, named := ["trivet/code.sizes"], apart := false, laid := [("trivet/code.sizes", laid_trivet_code_sizes)], narrowed := true }
def CodeBackUptoSaid : Prop := codeBackUptoRow.holds Tryd.pinned (OpenSpec.upto codeBackSpec)

/-- 'trivetlaw13.CodeReach', WHERE WHAT IT READS IS OF BULK AT MOST 1048576: true; the input reads as it did. -/
def codeReachUptoRow : OpenClaim := { program := "ytknpfippdddnhaadoor", sum := "976b6fbaacd3a540c4d6994dbadc8851463ebd4f4503ee2a648c529f5ecb954e", func := "trivet/trivetlaw13.CodeReach", spec := "codeReach", unfollowed := true, recurses := true, named := ["trivet/code.sizes"], apart := false, laid := [("trivet/code.sizes", laid_trivet_code_sizes)], narrowed := true }
def CodeReachUptoSaid : Prop := codeReachUptoRow.holds Tryd.pinned (OpenSpec.upto codeReachSpec)

/-- 'trivetlaw13.CodeParts', WHERE WHAT IT READS IS OF BULK AT MOST 1048576: true; the input reads as it did. -/
def codePartsUptoRow : OpenClaim := { program := "ytknpfippdddnhaadoor", sum := "976b6fbaacd3a540c4d6994dbadc8851463ebd4f4503ee2a648c529f5ecb954e", func := "trivet/trivetlaw13.CodeParts", spec := "codeParts", unfollowed := true, recurses := true, named := ["trivet/code.sizes"], apart := false, laid := [("trivet/code.sizes", laid_trivet_code_sizes)], narrowed := true }
def CodePartsUptoSaid : Prop := codePartsUptoRow.holds Tryd.pinned (OpenSpec.upto codePartsSpec)

end Rows
end Go.Proofs.YtknpfippdddnhaaDoor
