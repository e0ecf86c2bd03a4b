/-
  DERIVED. GIVEN WITH THE SEED: THE CARDS: each row of YtanaggahdadejaaDoorRows.lean that lists a variable, with what it lists TIED to the program's text (the seventh form; the later family's looks); each row that meets fmt, with fmt's text TOLD by the authors' own Lean function (tested against real Go, not proved from fmt's source: count such statements apart). THE CARD IS WHAT COUNTS. Prove the row's statement (the work); the ties are given (YtanaggahdadejaaDoorTie.lean); close each card by the builder's one call (the guide's Derived/Test/ToyasCard.lean, 'card_holds'). Laid BY PROGRAM, IN A SANDBOX (cutbox-door.mjs). By AI agents, Wed Nov 11 2026. No macro, syntax, notation, axiom, sorry.
-/
import Derived.Test.YtanaggahdadejaaDoorRows
import GoSem.ClaimSeven
namespace Go.Proofs.YtanaggahdadejaaDoor
namespace Rows

/-- THE TIED CARD OF 'solderlaw01.CountNumbers'. -/
def countNumbersCard : Claim7 := { stood := { row := countNumbersRow, standIns := [], harness := (true, "f4ee58d7c006a88c6dfa60363414e9fa8b385ee2de6f1065687471cfdee793e5"), looks := true }, kinds := [], alts := [], laidByText := true, laidKinds := [.data, .data, .data, .sentinel, .sentinel], laidTests := true, laidLooks := .later }
def CountNumbersCardSaid : Prop := Claim7.holds Tryd.pinned (.plain (OpenSpec.ofChange countNumbersSpec)) countNumbersCard

/-- THE TIED CARD OF 'solderlaw01.CountHex'. -/
def countHexCard : Claim7 := { stood := { row := countHexRow, standIns := [], harness := (true, "f4ee58d7c006a88c6dfa60363414e9fa8b385ee2de6f1065687471cfdee793e5"), looks := true }, kinds := [], alts := [], laidByText := true, laidKinds := [.data, .data, .data, .sentinel, .sentinel], laidTests := true, laidLooks := .later }
def CountHexCardSaid : Prop := Claim7.holds Tryd.pinned (.plain (OpenSpec.ofChange countHexSpec)) countHexCard

/-- THE TIED CARD OF 'solderlaw01.CountWords'. -/
def countWordsCard : Claim7 := { stood := { row := countWordsRow, standIns := [], harness := (true, "f4ee58d7c006a88c6dfa60363414e9fa8b385ee2de6f1065687471cfdee793e5"), looks := true }, kinds := [], alts := [], laidByText := true, laidKinds := [.data, .data, .data, .sentinel, .sentinel], laidTests := true, laidLooks := .later }
def CountWordsCardSaid : Prop := Claim7.holds Tryd.pinned (.plain (OpenSpec.ofChange countWordsSpec)) countWordsCard

/-- THE TIED CARD OF 'solderlaw01.CountBack'. -/
def countBackCard : Claim7 := { stood := { row := countBackRow, standIns := [], harness := (true, "f4ee58d7c006a88c6dfa60363414e9fa8b385ee2de6f1065687471cfdee793e5"), looks := true }, kinds := [], alts := [], laidByText := true, laidKinds := [.data, .data, .data, .sentinel, .sentinel], laidTests := true, laidLooks := .later }
def CountBackCardSaid : Prop := Claim7.holds Tryd.pinned (.plain (OpenSpec.ofChange countBackSpec)) countBackCard

/-- THE SECOND FORM's CARD OF 'solderlaw01.CountNumbers'. -/
def countNumbersUptoCard : Claim7 := { stood := { row := countNumbersUptoRow, standIns := [], harness := (true, "f4ee58d7c006a88c6dfa60363414e9fa8b385ee2de6f1065687471cfdee793e5"), looks := true }, kinds := [], alts := [], laidByText := true, laidKinds := [.data, .data, .data, .sentinel, .sentinel], laidTests := true, laidLooks := .later }
def CountNumbersUptoCardSaid : Prop := Claim7.holds Tryd.pinned (.plain (OpenSpec.upto countNumbersSpec)) countNumbersUptoCard

/-- THE SECOND FORM's CARD OF 'solderlaw01.CountHex'. -/
def countHexUptoCard : Claim7 := { stood := { row := countHexUptoRow, standIns := [], harness := (true, "f4ee58d7c006a88c6dfa60363414e9fa8b385ee2de6f1065687471cfdee793e5"), looks := true }, kinds := [], alts := [], laidByText := true, laidKinds := [.data, .data, .data, .sentinel, .sentinel], laidTests := true, laidLooks := .later }
def CountHexUptoCardSaid : Prop := Claim7.holds Tryd.pinned (.plain (OpenSpec.upto countHexSpec)) countHexUptoCard

/-- THE SECOND FORM's CARD OF 'solderlaw01.CountWords'. -/
def countWordsUptoCard : Claim7 := { stood := { row := countWordsUptoRow, standIns := [], harness := (true, "f4ee58d7c006a88c6dfa60363414e9fa8b385ee2de6f1065687471cfdee793e5"), looks := true }, kinds := [], alts := [], laidByText := true, laidKinds := [.data, .data, .data, .sentinel, .sentinel], laidTests := true, laidLooks := .later }
def CountWordsUptoCardSaid : Prop := Claim7.holds Tryd.pinned (.plain (OpenSpec.upto countWordsSpec)) countWordsUptoCard

/-- THE SECOND FORM's CARD OF 'solderlaw01.CountBack'. -/
def countBackUptoCard : Claim7 := { stood := { row := countBackUptoRow, standIns := [], harness := (true, "f4ee58d7c006a88c6dfa60363414e9fa8b385ee2de6f1065687471cfdee793e5"), looks := true }, kinds := [], alts := [], laidByText := true, laidKinds := [.data, .data, .data, .sentinel, .sentinel], laidTests := true, laidLooks := .later }
def CountBackUptoCardSaid : Prop := Claim7.holds Tryd.pinned (.plain (OpenSpec.upto countBackSpec)) countBackUptoCard
end Rows
end Go.Proofs.YtanaggahdadejaaDoor
