/-
  DERIVED. GIVEN WITH THE SEED: THE CARDS: each row of YtdegfkhbcgnmmaaDoorRows.lean that lists a variable, with what it lists TIED to the program's text (the seventh form; the later family's looks); each row that meets fmt, with fmt's text TOLD by the authors' own Lean function (tested against real Go, not proved from fmt's source: count such statements apart). THE CARD IS WHAT COUNTS. Prove the row's statement (the work); the ties are given (YtdegfkhbcgnmmaaDoorTie.lean); close each card by the builder's one call (the guide's Derived/Test/ToyasCard.lean, 'card_holds'). Laid BY PROGRAM, IN A SANDBOX (cutbox-door.mjs). By AI agents, Wed Nov 11 2026. No macro, syntax, notation, axiom, sorry.
-/
import Derived.Test.YtdegfkhbcgnmmaaDoorRows
import GoSem.ClaimSeven
namespace Go.Proofs.YtdegfkhbcgnmmaaDoor
namespace Rows

/-- THE TIED CARD OF 'solderlaw10.LogheadPuts'. -/
def logheadPutsCard : Claim7 := { stood := { row := logheadPutsRow, standIns := [], harness := (true, "18793388182ab3bfa7b94653cb2f21f9ac05168afa71cb2b06d16fc2ef0e8eea"), looks := false }, kinds := [], alts := [], laidByText := true, laidKinds := [.data], laidTests := true, laidLooks := .later }
def LogheadPutsCardSaid : Prop := Claim7.holds Tryd.pinned (.plain (OpenSpec.ofChange logheadPutsSpec)) logheadPutsCard

/-- THE TIED CARD OF 'solderlaw10.LogheadGets'. -/
def logheadGetsCard : Claim7 := { stood := { row := logheadGetsRow, standIns := [], harness := (true, "18793388182ab3bfa7b94653cb2f21f9ac05168afa71cb2b06d16fc2ef0e8eea"), looks := false }, kinds := [], alts := [], laidByText := true, laidKinds := [.data], laidTests := true, laidLooks := .later }
def LogheadGetsCardSaid : Prop := Claim7.holds Tryd.pinned (.plain (OpenSpec.ofChange logheadGetsSpec)) logheadGetsCard

/-- THE TIED CARD OF 'solderlaw10.LogheadBack'. -/
def logheadBackCard : Claim7 := { stood := { row := logheadBackRow, standIns := [], harness := (true, "18793388182ab3bfa7b94653cb2f21f9ac05168afa71cb2b06d16fc2ef0e8eea"), looks := false }, kinds := [], alts := [], laidByText := true, laidKinds := [.data], laidTests := true, laidLooks := .later }
def LogheadBackCardSaid : Prop := Claim7.holds Tryd.pinned (.plain (OpenSpec.ofChange logheadBackSpec)) logheadBackCard

/-- THE SECOND FORM's CARD OF 'solderlaw10.LogheadPuts'. -/
def logheadPutsUptoCard : Claim7 := { stood := { row := logheadPutsUptoRow, standIns := [], harness := (true, "18793388182ab3bfa7b94653cb2f21f9ac05168afa71cb2b06d16fc2ef0e8eea"), looks := false }, kinds := [], alts := [], laidByText := true, laidKinds := [.data], laidTests := true, laidLooks := .later }
def LogheadPutsUptoCardSaid : Prop := Claim7.holds Tryd.pinned (.plain (OpenSpec.upto logheadPutsSpec)) logheadPutsUptoCard

/-- THE SECOND FORM's CARD OF 'solderlaw10.LogheadGets'. -/
def logheadGetsUptoCard : Claim7 := { stood := { row := logheadGetsUptoRow, standIns := [], harness := (true, "18793388182ab3bfa7b94653cb2f21f9ac05168afa71cb2b06d16fc2ef0e8eea"), looks := false }, kinds := [], alts := [], laidByText := true, laidKinds := [.data], laidTests := true, laidLooks := .later }
def LogheadGetsUptoCardSaid : Prop := Claim7.holds Tryd.pinned (.plain (OpenSpec.upto logheadGetsSpec)) logheadGetsUptoCard

/-- THE SECOND FORM's CARD OF 'solderlaw10.LogheadBack'. -/
def logheadBackUptoCard : Claim7 := { stood := { row := logheadBackUptoRow, standIns := [], harness := (true, "18793388182ab3bfa7b94653cb2f21f9ac05168afa71cb2b06d16fc2ef0e8eea"), looks := false }, kinds := [], alts := [], laidByText := true, laidKinds := [.data], laidTests := true, laidLooks := .later }
def LogheadBackUptoCardSaid : Prop := Claim7.holds Tryd.pinned (.plain (OpenSpec.upto logheadBackSpec)) logheadBackUptoCard
end Rows
end Go.Proofs.YtdegfkhbcgnmmaaDoor
