/-
  DERIVED. GIVEN WITH THE SEED: THE CARDS: each row of YtldapckooohigaaDoorRows.lean that lists a variable, with what it lists TIED to the program's text (the seventh form; the later family's looks); each row that meets fmt, with fmt's text TOLD by the authors' own Lean function (tested against real Go, not proved from fmt's source: count such statements apart). THE CARD IS WHAT COUNTS. Prove the row's statement (the work); the ties are given (YtldapckooohigaaDoorTie.lean); close each card by the builder's one call (the guide's Derived/Test/ToyasCard.lean, 'card_holds'). Laid BY PROGRAM, IN A SANDBOX (cutbox-door.mjs). By AI agents, Wed Nov 11 2026. No macro, syntax, notation, axiom, sorry.
-/
import Derived.Test.YtldapckooohigaaDoorRows
import GoSem.ClaimSeven
namespace Go.Proofs.YtldapckooohigaaDoor
namespace Rows

/-- THE TIED CARD OF 'trivetlaw14.EvalBinary'. -/
def evalBinaryCard : Claim7 := { stood := { row := evalBinaryRow, standIns := [], harness := (true, "b4f790868916fba8bd4f3006afce8eb5be074a6f95077f6a5233fe80dc32ba46"), looks := true }, kinds := [], alts := [], laidByText := true, laidKinds := [.data], laidTests := true, laidLooks := .later }
def EvalBinaryCardSaid : Prop := Claim7.holds Tryd.pinned (.plain (OpenSpec.ofChange evalBinarySpec)) evalBinaryCard

/-- THE TIED CARD OF 'trivetlaw14.EvalMaps'. -/
def evalMapsCard : Claim7 := { stood := { row := evalMapsRow, standIns := [], harness := (true, "b4f790868916fba8bd4f3006afce8eb5be074a6f95077f6a5233fe80dc32ba46"), looks := true }, kinds := [], alts := [], laidByText := true, laidKinds := [.data], laidTests := true, laidLooks := .later }
def EvalMapsCardSaid : Prop := Claim7.holds Tryd.pinned (.plain (OpenSpec.ofChange evalMapsSpec)) evalMapsCard

/-- THE TIED CARD OF 'trivetlaw14.EvalSame'. -/
def evalSameCard : Claim7 := { stood := { row := evalSameRow, standIns := [], harness := (true, "b4f790868916fba8bd4f3006afce8eb5be074a6f95077f6a5233fe80dc32ba46"), looks := true }, kinds := [], alts := [], laidByText := true, laidKinds := [.data], laidTests := true, laidLooks := .later }
def EvalSameCardSaid : Prop := Claim7.holds Tryd.pinned (.plain (OpenSpec.ofChange evalSameSpec)) evalSameCard

/-- THE TIED CARD OF 'trivetlaw14.EvalEnds'. -/
def evalEndsCard : Claim7 := { stood := { row := evalEndsRow, standIns := [], harness := (true, "b4f790868916fba8bd4f3006afce8eb5be074a6f95077f6a5233fe80dc32ba46"), looks := true }, kinds := [], alts := [], laidByText := true, laidKinds := [.data], laidTests := true, laidLooks := .later }
def EvalEndsCardSaid : Prop := Claim7.holds Tryd.pinned (.plain (OpenSpec.ofChange evalEndsSpec)) evalEndsCard

/-- THE TIED CARD OF 'trivetlaw14.EvalWithin'. -/
def evalWithinCard : Claim7 := { stood := { row := evalWithinRow, standIns := [], harness := (true, "b4f790868916fba8bd4f3006afce8eb5be074a6f95077f6a5233fe80dc32ba46"), looks := true }, kinds := [], alts := [], laidByText := true, laidKinds := [.data], laidTests := true, laidLooks := .later }
def EvalWithinCardSaid : Prop := Claim7.holds Tryd.pinned (.plain (OpenSpec.ofChange evalWithinSpec)) evalWithinCard

/-- THE SECOND FORM's CARD OF 'trivetlaw14.EvalBinary'. -/
def evalBinaryUptoCard : Claim7 := { stood := { row := evalBinaryUptoRow, standIns := [], harness := (true, "b4f790868916fba8bd4f3006afce8eb5be074a6f95077f6a5233fe80dc32ba46"), looks := true }, kinds := [], alts := [], laidByText := true, laidKinds := [.data], laidTests := true, laidLooks := .later }
def EvalBinaryUptoCardSaid : Prop := Claim7.holds Tryd.pinned (.plain (OpenSpec.upto evalBinarySpec)) evalBinaryUptoCard

/-- THE SECOND FORM's CARD OF 'trivetlaw14.EvalMaps'. -/
def evalMapsUptoCard : Claim7 := { stood := { row := evalMapsUptoRow, standIns := [], harness := (true, "b4f790868916fba8bd4f3006afce8eb5be074a6f95077f6a5233fe80dc32ba46"), looks := true }, kinds := [], alts := [], laidByText := true, laidKinds := [.data], laidTests := true, laidLooks := .later }
def EvalMapsUptoCardSaid : Prop := Claim7.holds Tryd.pinned (.plain (OpenSpec.upto evalMapsSpec)) evalMapsUptoCard

/-- THE SECOND FORM's CARD OF 'trivetlaw14.EvalSame'. -/
def evalSameUptoCard : Claim7 := { stood := { row := evalSameUptoRow, standIns := [], harness := (true, "b4f790868916fba8bd4f3006afce8eb5be074a6f95077f6a5233fe80dc32ba46"), looks := true }, kinds := [], alts := [], laidByText := true, laidKinds := [.data], laidTests := true, laidLooks := .later }
def EvalSameUptoCardSaid : Prop := Claim7.holds Tryd.pinned (.plain (OpenSpec.upto evalSameSpec)) evalSameUptoCard

/-- THE SECOND FORM's CARD OF 'trivetlaw14.EvalEnds'. -/
def evalEndsUptoCard : Claim7 := { stood := { row := evalEndsUptoRow, standIns := [], harness := (true, "b4f790868916fba8bd4f3006afce8eb5be074a6f95077f6a5233fe80dc32ba46"), looks := true }, kinds := [], alts := [], laidByText := true, laidKinds := [.data], laidTests := true, laidLooks := .later }
def EvalEndsUptoCardSaid : Prop := Claim7.holds Tryd.pinned (.plain (OpenSpec.upto evalEndsSpec)) evalEndsUptoCard

/-- THE SECOND FORM's CARD OF 'trivetlaw14.EvalWithin'. -/
def evalWithinUptoCard : Claim7 := { stood := { row := evalWithinUptoRow, standIns := [], harness := (true, "b4f790868916fba8bd4f3006afce8eb5be074a6f95077f6a5233fe80dc32ba46"), looks := true }, kinds := [], alts := [], laidByText := true, laidKinds := [.data], laidTests := true, laidLooks := .later }
def EvalWithinUptoCardSaid : Prop := Claim7.holds Tryd.pinned (.plain (OpenSpec.upto evalWithinSpec)) evalWithinUptoCard
end Rows
end Go.Proofs.YtldapckooohigaaDoor
