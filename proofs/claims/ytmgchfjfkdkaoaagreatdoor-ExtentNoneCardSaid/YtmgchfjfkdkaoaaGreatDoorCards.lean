/-
  DERIVED. GIVEN WITH THE SEED: THE CARDS: each row of YtmgchfjfkdkaoaaGreatDoorRows.lean that lists a variable, with what it lists TIED to the program's text (the seventh form; the later family's looks); each row that meets fmt, with fmt's text TOLD by the authors' own Lean function (tested against real Go, not proved from fmt's source: count such statements apart). THE CARD IS WHAT COUNTS. Prove the row's statement (the work); the ties are given (YtmgchfjfkdkaoaaGreatDoorTie.lean); close each card by the builder's one call (the guide's Derived/Test/ToyasCard.lean, 'card_holds'). Laid BY PROGRAM, IN A SANDBOX (cutbox-door.mjs). By AI agents, Wed Nov 11 2026. No macro, syntax, notation, axiom, sorry.
-/
import Derived.Test.YtmgchfjfkdkaoaaGreatDoorRows
import GoSem.ClaimSeven
namespace Go.Proofs.YtmgchfjfkdkaoaaGreatDoor
namespace Rows

/-- THE TIED CARD OF 'solderlaw20.ExtentDoes'. -/
def extentDoesCard : Claim7 := { stood := { row := extentDoesRow, standIns := [], harness := (true, "ee1c9984479c079c4ffd64461b72a2231a55ab637f91dc59fe5f18e9f7efa00a"), looks := true }, kinds := [], alts := [], laidByText := true, laidKinds := [.handle, .data], laidTests := true, laidLooks := .later }
def ExtentDoesCardSaid : Prop := Claim7.holds Tryz.pinned (.plain (OpenSpec.ofChange extentDoesSpec)) extentDoesCard

/-- THE TIED CARD OF 'solderlaw20.ExtentRows'. -/
def extentRowsCard : Claim7 := { stood := { row := extentRowsRow, standIns := [], harness := (true, "ee1c9984479c079c4ffd64461b72a2231a55ab637f91dc59fe5f18e9f7efa00a"), looks := true }, kinds := [], alts := [], laidByText := true, laidKinds := [.handle, .data], laidTests := true, laidLooks := .later }
def ExtentRowsCardSaid : Prop := Claim7.holds Tryz.pinned (.plain (OpenSpec.ofChange extentRowsSpec)) extentRowsCard

/-- THE TIED CARD OF 'solderlaw20.ExtentNone'. -/
def extentNoneCard : Claim7 := { stood := { row := extentNoneRow, standIns := [], harness := (true, "ee1c9984479c079c4ffd64461b72a2231a55ab637f91dc59fe5f18e9f7efa00a"), looks := true }, kinds := [], alts := [], laidByText := true, laidKinds := [.handle, .data], laidTests := true, laidLooks := .later }
def ExtentNoneCardSaid : Prop := Claim7.holds Tryz.pinned (.plain (OpenSpec.ofChange extentNoneSpec)) extentNoneCard

/-- THE SECOND FORM's CARD OF 'solderlaw20.ExtentDoes'. -/
def extentDoesUptoCard : Claim7 := { stood := { row := extentDoesUptoRow, standIns := [], harness := (true, "ee1c9984479c079c4ffd64461b72a2231a55ab637f91dc59fe5f18e9f7efa00a"), looks := true }, kinds := [], alts := [], laidByText := true, laidKinds := [.handle, .data], laidTests := true, laidLooks := .later }
def ExtentDoesUptoCardSaid : Prop := Claim7.holds Tryz.pinned (.plain (OpenSpec.upto extentDoesSpec)) extentDoesUptoCard

/-- THE SECOND FORM's CARD OF 'solderlaw20.ExtentRows'. -/
def extentRowsUptoCard : Claim7 := { stood := { row := extentRowsUptoRow, standIns := [], harness := (true, "ee1c9984479c079c4ffd64461b72a2231a55ab637f91dc59fe5f18e9f7efa00a"), looks := true }, kinds := [], alts := [], laidByText := true, laidKinds := [.handle, .data], laidTests := true, laidLooks := .later }
def ExtentRowsUptoCardSaid : Prop := Claim7.holds Tryz.pinned (.plain (OpenSpec.upto extentRowsSpec)) extentRowsUptoCard

/-- THE SECOND FORM's CARD OF 'solderlaw20.ExtentNone'. -/
def extentNoneUptoCard : Claim7 := { stood := { row := extentNoneUptoRow, standIns := [], harness := (true, "ee1c9984479c079c4ffd64461b72a2231a55ab637f91dc59fe5f18e9f7efa00a"), looks := true }, kinds := [], alts := [], laidByText := true, laidKinds := [.handle, .data], laidTests := true, laidLooks := .later }
def ExtentNoneUptoCardSaid : Prop := Claim7.holds Tryz.pinned (.plain (OpenSpec.upto extentNoneSpec)) extentNoneUptoCard
end Rows
end Go.Proofs.YtmgchfjfkdkaoaaGreatDoor
