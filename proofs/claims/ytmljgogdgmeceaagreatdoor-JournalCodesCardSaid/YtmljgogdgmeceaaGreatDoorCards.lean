/-
  DERIVED. GIVEN WITH THE SEED: THE CARDS: each row of YtmljgogdgmeceaaGreatDoorRows.lean that lists a variable, with what it lists TIED to the program's text (the seventh form; the later family's looks); each row that meets fmt, with fmt's text TOLD by the authors' own Lean function (tested against real Go, not proved from fmt's source: count such statements apart). THE CARD IS WHAT COUNTS. Prove the row's statement (the work); the ties are given (YtmljgogdgmeceaaGreatDoorTie.lean); close each card by the builder's one call (the guide's Derived/Test/ToyasCard.lean, 'card_holds'). Laid BY PROGRAM, IN A SANDBOX (cutbox-door.mjs). By AI agents, Wed Nov 11 2026. No macro, syntax, notation, axiom, sorry.
-/
import Derived.Test.YtmljgogdgmeceaaGreatDoorRows
import GoSem.ClaimSeven
namespace Go.Proofs.YtmljgogdgmeceaaGreatDoor
namespace Rows

/-- THE TIED CARD OF 'solderlaw19.JournalCodes'. -/
def journalCodesCard : Claim7 := { stood := { row := journalCodesRow, standIns := [], harness := (true, "44952612abf974df4812664d5515b128c036d2a1a3ec0ef05e737fdb3cebbc69"), looks := true }, kinds := [], alts := [], laidByText := true, laidKinds := [.handle, .data], laidTests := true, laidLooks := .later }
def JournalCodesCardSaid : Prop := Claim7.holds Tryz.pinned (.plain (OpenSpec.ofChange journalCodesSpec)) journalCodesCard

/-- THE TIED CARD OF 'solderlaw19.JournalMarks'. -/
def journalMarksCard : Claim7 := { stood := { row := journalMarksRow, standIns := [], harness := (true, "44952612abf974df4812664d5515b128c036d2a1a3ec0ef05e737fdb3cebbc69"), looks := true }, kinds := [], alts := [], laidByText := true, laidKinds := [.handle, .data], laidTests := true, laidLooks := .later }
def JournalMarksCardSaid : Prop := Claim7.holds Tryz.pinned (.plain (OpenSpec.ofChange journalMarksSpec)) journalMarksCard

/-- THE SECOND FORM's CARD OF 'solderlaw19.JournalCodes'. -/
def journalCodesUptoCard : Claim7 := { stood := { row := journalCodesUptoRow, standIns := [], harness := (true, "44952612abf974df4812664d5515b128c036d2a1a3ec0ef05e737fdb3cebbc69"), looks := true }, kinds := [], alts := [], laidByText := true, laidKinds := [.handle, .data], laidTests := true, laidLooks := .later }
def JournalCodesUptoCardSaid : Prop := Claim7.holds Tryz.pinned (.plain (OpenSpec.upto journalCodesSpec)) journalCodesUptoCard

/-- THE SECOND FORM's CARD OF 'solderlaw19.JournalMarks'. -/
def journalMarksUptoCard : Claim7 := { stood := { row := journalMarksUptoRow, standIns := [], harness := (true, "44952612abf974df4812664d5515b128c036d2a1a3ec0ef05e737fdb3cebbc69"), looks := true }, kinds := [], alts := [], laidByText := true, laidKinds := [.handle, .data], laidTests := true, laidLooks := .later }
def JournalMarksUptoCardSaid : Prop := Claim7.holds Tryz.pinned (.plain (OpenSpec.upto journalMarksSpec)) journalMarksUptoCard
end Rows
end Go.Proofs.YtmljgogdgmeceaaGreatDoor
