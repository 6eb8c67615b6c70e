/-
  No cell of these rows narrows 'for every input' (looked for: loops, veiled, ifaces, maps, wideKeys, modest, calm, conditions, laid).
  DERIVED. THE GIVEN ROWS OF THIS SEAT. 5 by the template 'for every input the law returns true; each argument reads behind the call as it read before'; 0 by the template 'total and deterministic' (their statements: YtiijbklaapaheaaTotals.lean).
  GIVEN WITH THE SEED: the statements are not yours to turn. If you find one false, say at which input.
  Laid BY PROGRAM, IN A SANDBOX (cutbox-rows.mjs): the forced cells as the released guide's own fill.sh prints them over the translation fb0b5a0467f4d1eb… (all of the seat's roots in one cut). By AI agents, Wed Nov 11 2026. No macro, syntax, notation, axiom, sorry.
-/
import Derived.Test.YtiijbklaapaheaaChecked
import GoSem.Claim
import GoSem.ClaimJoined
import GoSem.ClaimMapViews
import Derived.JoinedTies
import Derived.KernelRfl
namespace Go.Proofs.Ytiijbklaapaheaa
/- THE CELL 'sum', in the pinned program and in every row, IS THE sha256 OF THE DUMP (.gsa) THAT YtiijbklaapaheaaProg.lean LOADS. Nothing in Lean hashes anything: it is a label: what it is worth is what the hold of that sum in a sandbox is worth. -/
noncomputable def Try.pinned : Pinned := { name := "ytiijbklaapaheaa", sum := "fb0b5a0467f4d1eb8b862f7b74630b8bad7c5451d3fbcfcd1abac30a6c434e41", checked := Try.checked }
namespace Rows
def none {H : Type} : Left H := { results := [], args := [] }

/-- 'trivetlaw06.CkptCodes': WHATEVER THE INPUT: true; the input reads as it did. -/
def ckptCodesSpec : ChangeSpec := { name := "ckptCodes", fn := fun _ => fun
  | [d1, d2, d3, d4] => { results := [.lit (.bool true)], args := [d1, d2, d3, d4] }
  | _ => none }
def ckptCodesRow : OpenClaim := { program := "ytiijbklaapaheaa", sum := "fb0b5a0467f4d1eb8b862f7b74630b8bad7c5451d3fbcfcd1abac30a6c434e41", func := "trivet/trivetlaw06.CkptCodes", spec := "ckptCodes", inPlace := ["internal/abi.NoEscape", "internal/bytealg.MakeNoZero"], unfollowed := true, recurses := true, apart := false }
def CkptCodesSaid : Prop := ckptCodesRow.holds Try.pinned (OpenSpec.ofChange ckptCodesSpec)

/-- ITS FALSE NEIGHBOUR: 'it returns false'. Refute it at one input. -/
def ckptCodesWrong : ChangeSpec := { name := "ckptCodes", fn := fun _ => fun
  | [d1, d2, d3, d4] => { results := [.lit (.bool false)], args := [d1, d2, d3, d4] }
  | _ => none }
def CkptCodesWrongFalsely : Prop := ckptCodesRow.holds Try.pinned (OpenSpec.ofChange ckptCodesWrong)

/-- 'trivetlaw06.CkptOneStep': WHATEVER THE INPUT: true; the input reads as it did. -/
def ckptOneStepSpec : ChangeSpec := { name := "ckptOneStep", fn := fun _ => fun
  | [d1, d2, d3, d4] => { results := [.lit (.bool true)], args := [d1, d2, d3, d4] }
  | _ => none }
def ckptOneStepRow : OpenClaim := { program := "ytiijbklaapaheaa", sum := "fb0b5a0467f4d1eb8b862f7b74630b8bad7c5451d3fbcfcd1abac30a6c434e41", func := "trivet/trivetlaw06.CkptOneStep", spec := "ckptOneStep", inPlace := ["internal/abi.NoEscape", "internal/bytealg.MakeNoZero"], unfollowed := true, recurses := true, apart := false }
def CkptOneStepSaid : Prop := ckptOneStepRow.holds Try.pinned (OpenSpec.ofChange ckptOneStepSpec)

/-- ITS FALSE NEIGHBOUR: 'it returns false'. Refute it at one input. -/
def ckptOneStepWrong : ChangeSpec := { name := "ckptOneStep", fn := fun _ => fun
  | [d1, d2, d3, d4] => { results := [.lit (.bool false)], args := [d1, d2, d3, d4] }
  | _ => none }
def CkptOneStepWrongFalsely : Prop := ckptOneStepRow.holds Try.pinned (OpenSpec.ofChange ckptOneStepWrong)

/-- 'trivetlaw06.CkptTurns': WHATEVER THE INPUT: true; the input reads as it did. -/
def ckptTurnsSpec : ChangeSpec := { name := "ckptTurns", fn := fun _ => fun
  | [d1, d2] => { results := [.lit (.bool true)], args := [d1, d2] }
  | _ => none }
def ckptTurnsRow : OpenClaim := { program := "ytiijbklaapaheaa", sum := "fb0b5a0467f4d1eb8b862f7b74630b8bad7c5451d3fbcfcd1abac30a6c434e41", func := "trivet/trivetlaw06.CkptTurns", spec := "ckptTurns", inPlace := ["internal/abi.NoEscape", "internal/bytealg.MakeNoZero"], unfollowed := true, recurses := true, apart := false }
def CkptTurnsSaid : Prop := ckptTurnsRow.holds Try.pinned (OpenSpec.ofChange ckptTurnsSpec)

/-- ITS FALSE NEIGHBOUR: 'it returns false'. Refute it at one input. -/
def ckptTurnsWrong : ChangeSpec := { name := "ckptTurns", fn := fun _ => fun
  | [d1, d2] => { results := [.lit (.bool false)], args := [d1, d2] }
  | _ => none }
def CkptTurnsWrongFalsely : Prop := ckptTurnsRow.holds Try.pinned (OpenSpec.ofChange ckptTurnsWrong)

/-- 'trivetlaw06.CkptMost': WHATEVER THE INPUT: true; the input reads as it did. -/
def ckptMostSpec : ChangeSpec := { name := "ckptMost", fn := fun _ => fun
  | [d1, d2] => { results := [.lit (.bool true)], args := [d1, d2] }
  | _ => none }
def ckptMostRow : OpenClaim := { program := "ytiijbklaapaheaa", sum := "fb0b5a0467f4d1eb8b862f7b74630b8bad7c5451d3fbcfcd1abac30a6c434e41", func := "trivet/trivetlaw06.CkptMost", spec := "ckptMost", inPlace := ["internal/abi.NoEscape", "internal/bytealg.MakeNoZero"], unfollowed := true, recurses := true, apart := false }
def CkptMostSaid : Prop := ckptMostRow.holds Try.pinned (OpenSpec.ofChange ckptMostSpec)

/-- ITS FALSE NEIGHBOUR: 'it returns false'. Refute it at one input. -/
def ckptMostWrong : ChangeSpec := { name := "ckptMost", fn := fun _ => fun
  | [d1, d2] => { results := [.lit (.bool false)], args := [d1, d2] }
  | _ => none }
def CkptMostWrongFalsely : Prop := ckptMostRow.holds Try.pinned (OpenSpec.ofChange ckptMostWrong)

/-- 'trivetlaw06.CkptOwn': WHATEVER THE INPUT: true; the input reads as it did. -/
def ckptOwnSpec : ChangeSpec := { name := "ckptOwn", fn := fun _ => fun
  | [d] => { results := [.lit (.bool true)], args := [d] }
  | _ => none }
def ckptOwnRow : OpenClaim := { program := "ytiijbklaapaheaa", sum := "fb0b5a0467f4d1eb8b862f7b74630b8bad7c5451d3fbcfcd1abac30a6c434e41", func := "trivet/trivetlaw06.CkptOwn", spec := "ckptOwn", inPlace := ["internal/abi.NoEscape", "internal/bytealg.MakeNoZero"], unfollowed := true, recurses := true, apart := false }
def CkptOwnSaid : Prop := ckptOwnRow.holds Try.pinned (OpenSpec.ofChange ckptOwnSpec)

/-- ITS FALSE NEIGHBOUR: 'it returns false'. Refute it at one input. -/
def ckptOwnWrong : ChangeSpec := { name := "ckptOwn", fn := fun _ => fun
  | [d] => { results := [.lit (.bool false)], args := [d] }
  | _ => none }
def CkptOwnWrongFalsely : Prop := ckptOwnRow.holds Try.pinned (OpenSpec.ofChange ckptOwnWrong)

/- THE SECOND FORM. 'bulk': how many values and letters a reading holds, each counted each time it is reached (what is shared counts as often as it is met; a slice's spare places count too). A statement '..UptoSaid' is the law's where the arguments, and the package variables that the reading takes, are together of bulk at most 1048576: NARROWER than '..Said'. Prove '..Said' where nothing that the law and all that it calls make is longer than what came in: it says more and counts as full. Else prove '..UptoSaid'. A law counts once. -/
mutual
def uptoBulk {H : Type} : DataW H → Nat
  | .lit (.string bytes) => bytes.length + 1
  | .lit _ => 1
  | .nil => 1
  | .ptr d => uptoBulk d + 1
  | .slice elems spare => uptoBulkAll elems + uptoBulkAll spare + 1
  | .agg parts => uptoBulkAll parts + 1
  | .iface _ d => uptoBulk d + 1
  | .map entries => uptoBulkEntries entries + 1
  | .held _ => 1
def uptoBulkAll {H : Type} : List (DataW H) → Nat
  | [] => 0
  | d :: r => uptoBulk d + uptoBulkAll r
def uptoBulkEntries {H : Type} : List (Lit × DataW H) → Nat
  | [] => 0
  | x :: r => uptoBulkEntry x + uptoBulkEntries r
def uptoBulkEntry {H : Type} : Lit × DataW H → Nat
  | (.string bytes, d) => bytes.length + uptoBulk d + 1
  | (_, d) => uptoBulk d + 1
 end
def uptoSmall : (H : Type) → List (DataW H) → Bool := fun _ ds => decide (uptoBulkAll ds ≤ 1048576)
def OpenSpec.upto (s : _root_.Go.ChangeSpec) : _root_.Go.OpenSpec := { _root_.Go.OpenSpec.ofChange s with cond := some uptoSmall }

/-- 'trivetlaw06.CkptCodes', WHERE WHAT IT READS IS OF BULK AT MOST 1048576: true; the input reads as it did. -/
def ckptCodesUptoRow : OpenClaim := { program := "ytiijbklaapaheaa", sum := "fb0b5a0467f4d1eb8b862f7b74630b8bad7c5451d3fbcfcd1abac30a6c434e41", func := "trivet/trivetlaw06.CkptCodes", spec := "ckptCodes", inPlace := ["internal/abi.NoEscape", "internal/bytealg.MakeNoZero"], unfollowed := true, recurses := true, apart := false, narrowed := true }
def CkptCodesUptoSaid : Prop := ckptCodesUptoRow.holds Try.pinned (OpenSpec.upto ckptCodesSpec)

/-- 'trivetlaw06.CkptOneStep', WHERE WHAT IT READS IS OF BULK AT MOST 1048576: true; the input reads as it did. -/
def ckptOneStepUptoRow : OpenClaim := { program := "ytiijbklaapaheaa", sum := "fb0b5a0467f4d1eb8b862f7b74630b8bad7c5451d3fbcfcd1abac30a6c434e41", func := "trivet/trivetlaw06.CkptOneStep", spec := "ckptOneStep", inPlace := ["internal/abi.NoEscape", "internal/bytealg.MakeNoZero"], unfollowed := true, recurses := true, apart := false, narrowed := true }
def CkptOneStepUptoSaid : Prop := ckptOneStepUptoRow.holds Try.pinned (OpenSpec.upto ckptOneStepSpec)

/-- 'trivetlaw06.CkptTurns', WHERE WHAT IT READS IS OF BULK AT MOST 1048576: true; the input reads as it did. -/
def ckptTurnsUptoRow : OpenClaim := { program := "ytiijbklaapaheaa", sum := "fb0b5a0467f4d1eb8b862f7b74630b8bad7c5451d3fbcfcd1abac30a6c434e41", func := "trivet/trivetlaw06.CkptTurns", spec := "ckptTurns", inPlace := ["internal/abi.NoEscape", "internal/bytealg.MakeNoZero"], unfollowed := true, recurses := true, apart := false, narrowed := true }
def CkptTurnsUptoSaid : Prop := ckptTurnsUptoRow.holds Try.pinned (OpenSpec.upto ckptTurnsSpec)

/-- 'trivetlaw06.CkptMost', WHERE WHAT IT READS IS OF BULK AT MOST 1048576: true; the input reads as it did. -/
def ckptMostUptoRow : OpenClaim := { program := "ytiijbklaapaheaa", sum := "fb0b5a0467f4d1eb8b862f7b74630b8bad7c5451d3fbcfcd1abac30a6c434e41", func := "trivet/trivetlaw06.CkptMost", spec := "ckptMost", inPlace := ["internal/abi.NoEscape", "internal/bytealg.MakeNoZero"], unfollowed := true, recurses := true, apart := false, narrowed := true }
def CkptMostUptoSaid : Prop := ckptMostUptoRow.holds Try.pinned (OpenSpec.upto ckptMostSpec)

/-- 'trivetlaw06.CkptOwn', WHERE WHAT IT READS IS OF BULK AT MOST 1048576: true; the input reads as it did. -/
def ckptOwnUptoRow : OpenClaim := { program := "ytiijbklaapaheaa", sum := "fb0b5a0467f4d1eb8b862f7b74630b8bad7c5451d3fbcfcd1abac30a6c434e41", func := "trivet/trivetlaw06.CkptOwn", spec := "ckptOwn", inPlace := ["internal/abi.NoEscape", "internal/bytealg.MakeNoZero"], unfollowed := true, recurses := true, apart := false, narrowed := true }
def CkptOwnUptoSaid : Prop := ckptOwnUptoRow.holds Try.pinned (OpenSpec.upto ckptOwnSpec)

end Rows
end Go.Proofs.Ytiijbklaapaheaa
