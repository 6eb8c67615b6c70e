/-
  DERIVED. GIVEN WITH THE SEED: THE CARDS: each row of YtdcmkapfcmibeaaDoorRows.lean that lists a variable, with what it lists TIED to the program's text (the seventh form; the later family's looks); each row that meets fmt, with fmt's text TOLD by the authors' own Lean function (tested against real Go, not proved from fmt's source: count such statements apart). THE CARD IS WHAT COUNTS. Prove the row's statement (the work); the ties are given (YtdcmkapfcmibeaaDoorTie.lean); close each card by the builder's one call (the guide's Derived/Test/ToyasCard.lean, 'card_holds'). Laid BY PROGRAM, IN A SANDBOX (cutbox-door.mjs). By AI agents, Wed Nov 11 2026. No macro, syntax, notation, axiom, sorry.
-/
import Derived.Test.YtdcmkapfcmibeaaDoorRows
import GoSem.ClaimSeven
namespace Go.Proofs.YtdcmkapfcmibeaaDoor
namespace Rows

/-- THE TIED CARD OF 'trivetlaw12.SkipDoes'. -/
def skipDoesCard : Claim7 := { stood := { row := skipDoesRow, standIns := [], harness := (true, "2377f69be50e3fa44b7828506a464c90620f1a1bc61fddaf9f435366fc837364"), looks := true }, kinds := [], alts := [], laidByText := true, laidKinds := [.data], laidTests := true, laidLooks := .later }
def SkipDoesCardSaid : Prop := Claim7.holds Tryd.pinned (.plain (OpenSpec.ofChange skipDoesSpec)) skipDoesCard

/-- THE TIED CARD OF 'trivetlaw12.SkipReads'. -/
def skipReadsCard : Claim7 := { stood := { row := skipReadsRow, standIns := [], harness := (true, "2377f69be50e3fa44b7828506a464c90620f1a1bc61fddaf9f435366fc837364"), looks := true }, kinds := [], alts := [], laidByText := true, laidKinds := [.data], laidTests := true, laidLooks := .later }
def SkipReadsCardSaid : Prop := Claim7.holds Tryd.pinned (.plain (OpenSpec.ofChange skipReadsSpec)) skipReadsCard

/-- THE TIED CARD OF 'trivetlaw12.SkipMap'. -/
def skipMapCard : Claim7 := { stood := { row := skipMapRow, standIns := [], harness := (true, "2377f69be50e3fa44b7828506a464c90620f1a1bc61fddaf9f435366fc837364"), looks := true }, kinds := [], alts := [], laidByText := true, laidKinds := [.data], laidTests := true, laidLooks := .later }
def SkipMapCardSaid : Prop := Claim7.holds Tryd.pinned (.plain (OpenSpec.ofChange skipMapSpec)) skipMapCard

/-- THE TIED CARD OF 'trivetlaw12.SkipLevels'. -/
def skipLevelsCard : Claim7 := { stood := { row := skipLevelsRow, standIns := [], harness := (true, "2377f69be50e3fa44b7828506a464c90620f1a1bc61fddaf9f435366fc837364"), looks := true }, kinds := [], alts := [], laidByText := true, laidKinds := [.data], laidTests := true, laidLooks := .later }
def SkipLevelsCardSaid : Prop := Claim7.holds Tryd.pinned (.plain (OpenSpec.ofChange skipLevelsSpec)) skipLevelsCard

/-- THE TIED CARD OF 'trivetlaw12.SkipSame'. -/
def skipSameCard : Claim7 := { stood := { row := skipSameRow, standIns := [], harness := (true, "2377f69be50e3fa44b7828506a464c90620f1a1bc61fddaf9f435366fc837364"), looks := true }, kinds := [], alts := [], laidByText := true, laidKinds := [.data], laidTests := true, laidLooks := .later }
def SkipSameCardSaid : Prop := Claim7.holds Tryd.pinned (.plain (OpenSpec.ofChange skipSameSpec)) skipSameCard

/-- THE TIED CARD OF 'trivetlaw12.SkipNone'. -/
def skipNoneCard : Claim7 := { stood := { row := skipNoneRow, standIns := [], harness := (true, "2377f69be50e3fa44b7828506a464c90620f1a1bc61fddaf9f435366fc837364"), looks := true }, kinds := [], alts := [], laidByText := true, laidKinds := [.data], laidTests := true, laidLooks := .later }
def SkipNoneCardSaid : Prop := Claim7.holds Tryd.pinned (.plain (OpenSpec.ofChange skipNoneSpec)) skipNoneCard

/-- THE SECOND FORM's CARD OF 'trivetlaw12.SkipDoes'. -/
def skipDoesUptoCard : Claim7 := { stood := { row := skipDoesUptoRow, standIns := [], harness := (true, "2377f69be50e3fa44b7828506a464c90620f1a1bc61fddaf9f435366fc837364"), looks := true }, kinds := [], alts := [], laidByText := true, laidKinds := [.data], laidTests := true, laidLooks := .later }
def SkipDoesUptoCardSaid : Prop := Claim7.holds Tryd.pinned (.plain (OpenSpec.upto skipDoesSpec)) skipDoesUptoCard

/-- THE SECOND FORM's CARD OF 'trivetlaw12.SkipReads'. -/
def skipReadsUptoCard : Claim7 := { stood := { row := skipReadsUptoRow, standIns := [], harness := (true, "2377f69be50e3fa44b7828506a464c90620f1a1bc61fddaf9f435366fc837364"), looks := true }, kinds := [], alts := [], laidByText := true, laidKinds := [.data], laidTests := true, laidLooks := .later }
def SkipReadsUptoCardSaid : Prop := Claim7.holds Tryd.pinned (.plain (OpenSpec.upto skipReadsSpec)) skipReadsUptoCard

/-- THE SECOND FORM's CARD OF 'trivetlaw12.SkipMap'. -/
def skipMapUptoCard : Claim7 := { stood := { row := skipMapUptoRow, standIns := [], harness := (true, "2377f69be50e3fa44b7828506a464c90620f1a1bc61fddaf9f435366fc837364"), looks := true }, kinds := [], alts := [], laidByText := true, laidKinds := [.data], laidTests := true, laidLooks := .later }
def SkipMapUptoCardSaid : Prop := Claim7.holds Tryd.pinned (.plain (OpenSpec.upto skipMapSpec)) skipMapUptoCard

/-- THE SECOND FORM's CARD OF 'trivetlaw12.SkipLevels'. -/
def skipLevelsUptoCard : Claim7 := { stood := { row := skipLevelsUptoRow, standIns := [], harness := (true, "2377f69be50e3fa44b7828506a464c90620f1a1bc61fddaf9f435366fc837364"), looks := true }, kinds := [], alts := [], laidByText := true, laidKinds := [.data], laidTests := true, laidLooks := .later }
def SkipLevelsUptoCardSaid : Prop := Claim7.holds Tryd.pinned (.plain (OpenSpec.upto skipLevelsSpec)) skipLevelsUptoCard

/-- THE SECOND FORM's CARD OF 'trivetlaw12.SkipSame'. -/
def skipSameUptoCard : Claim7 := { stood := { row := skipSameUptoRow, standIns := [], harness := (true, "2377f69be50e3fa44b7828506a464c90620f1a1bc61fddaf9f435366fc837364"), looks := true }, kinds := [], alts := [], laidByText := true, laidKinds := [.data], laidTests := true, laidLooks := .later }
def SkipSameUptoCardSaid : Prop := Claim7.holds Tryd.pinned (.plain (OpenSpec.upto skipSameSpec)) skipSameUptoCard

/-- THE SECOND FORM's CARD OF 'trivetlaw12.SkipNone'. -/
def skipNoneUptoCard : Claim7 := { stood := { row := skipNoneUptoRow, standIns := [], harness := (true, "2377f69be50e3fa44b7828506a464c90620f1a1bc61fddaf9f435366fc837364"), looks := true }, kinds := [], alts := [], laidByText := true, laidKinds := [.data], laidTests := true, laidLooks := .later }
def SkipNoneUptoCardSaid : Prop := Claim7.holds Tryd.pinned (.plain (OpenSpec.upto skipNoneSpec)) skipNoneUptoCard
end Rows
end Go.Proofs.YtdcmkapfcmibeaaDoor
