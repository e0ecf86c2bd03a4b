/-
  DERIVED. GIVEN WITH THE SEED: THE CARDS: each row of YtlmnmiomfhgcdaaDoorRows.lean that lists a variable, with what it lists TIED to the program's text (the seventh form; the later family's looks); each row that meets fmt, with fmt's text TOLD by the authors' own Lean function (tested against real Go, not proved from fmt's source: count such statements apart). THE CARD IS WHAT COUNTS. Prove the row's statement (the work); the ties are given (YtlmnmiomfhgcdaaDoorTie.lean); close each card by the builder's one call (the guide's Derived/Test/ToyasCard.lean, 'card_holds'). Laid BY PROGRAM, IN A SANDBOX (cutbox-door.mjs). By AI agents, Wed Nov 11 2026. No macro, syntax, notation, axiom, sorry.
-/
import Derived.Test.YtlmnmiomfhgcdaaDoorRows
import GoSem.ClaimSeven
namespace Go.Proofs.YtlmnmiomfhgcdaaDoor
namespace Rows

/-- THE TIED CARD OF 'solderlaw05.VectorTells'. -/
def vectorTellsCard : Claim7 := { stood := { row := vectorTellsRow, standIns := [], harness := (true, "fd8c051aef513172b189b8886d57ecd0843022c0f744b5c971b8d7bc3f98bb5c"), looks := false }, kinds := [], alts := [], laidByText := true, laidKinds := [.data, .data, .data], laidTests := true, laidLooks := .later }
def VectorTellsCardSaid : Prop := Claim7.holds Tryd.pinned (.plain (OpenSpec.ofChange vectorTellsSpec)) vectorTellsCard

/-- THE TIED CARD OF 'solderlaw05.VectorBumps'. -/
def vectorBumpsCard : Claim7 := { stood := { row := vectorBumpsRow, standIns := [], harness := (true, "fd8c051aef513172b189b8886d57ecd0843022c0f744b5c971b8d7bc3f98bb5c"), looks := false }, kinds := [], alts := [], laidByText := true, laidKinds := [.data, .data, .data], laidTests := true, laidLooks := .later }
def VectorBumpsCardSaid : Prop := Claim7.holds Tryd.pinned (.plain (OpenSpec.ofChange vectorBumpsSpec)) vectorBumpsCard

/-- THE TIED CARD OF 'solderlaw05.VectorOrder'. -/
def vectorOrderCard : Claim7 := { stood := { row := vectorOrderRow, standIns := [], harness := (true, "fd8c051aef513172b189b8886d57ecd0843022c0f744b5c971b8d7bc3f98bb5c"), looks := false }, kinds := [], alts := [], laidByText := true, laidKinds := [.data, .data, .data], laidTests := true, laidLooks := .later }
def VectorOrderCardSaid : Prop := Claim7.holds Tryd.pinned (.plain (OpenSpec.ofChange vectorOrderSpec)) vectorOrderCard

/-- THE TIED CARD OF 'solderlaw05.VectorJoins'. -/
def vectorJoinsCard : Claim7 := { stood := { row := vectorJoinsRow, standIns := [], harness := (true, "fd8c051aef513172b189b8886d57ecd0843022c0f744b5c971b8d7bc3f98bb5c"), looks := false }, kinds := [], alts := [], laidByText := true, laidKinds := [.data, .data, .data], laidTests := true, laidLooks := .later }
def VectorJoinsCardSaid : Prop := Claim7.holds Tryd.pinned (.plain (OpenSpec.ofChange vectorJoinsSpec)) vectorJoinsCard

/-- THE SECOND FORM's CARD OF 'solderlaw05.VectorTells'. -/
def vectorTellsUptoCard : Claim7 := { stood := { row := vectorTellsUptoRow, standIns := [], harness := (true, "fd8c051aef513172b189b8886d57ecd0843022c0f744b5c971b8d7bc3f98bb5c"), looks := false }, kinds := [], alts := [], laidByText := true, laidKinds := [.data, .data, .data], laidTests := true, laidLooks := .later }
def VectorTellsUptoCardSaid : Prop := Claim7.holds Tryd.pinned (.plain (OpenSpec.upto vectorTellsSpec)) vectorTellsUptoCard

/-- THE SECOND FORM's CARD OF 'solderlaw05.VectorBumps'. -/
def vectorBumpsUptoCard : Claim7 := { stood := { row := vectorBumpsUptoRow, standIns := [], harness := (true, "fd8c051aef513172b189b8886d57ecd0843022c0f744b5c971b8d7bc3f98bb5c"), looks := false }, kinds := [], alts := [], laidByText := true, laidKinds := [.data, .data, .data], laidTests := true, laidLooks := .later }
def VectorBumpsUptoCardSaid : Prop := Claim7.holds Tryd.pinned (.plain (OpenSpec.upto vectorBumpsSpec)) vectorBumpsUptoCard

/-- THE SECOND FORM's CARD OF 'solderlaw05.VectorOrder'. -/
def vectorOrderUptoCard : Claim7 := { stood := { row := vectorOrderUptoRow, standIns := [], harness := (true, "fd8c051aef513172b189b8886d57ecd0843022c0f744b5c971b8d7bc3f98bb5c"), looks := false }, kinds := [], alts := [], laidByText := true, laidKinds := [.data, .data, .data], laidTests := true, laidLooks := .later }
def VectorOrderUptoCardSaid : Prop := Claim7.holds Tryd.pinned (.plain (OpenSpec.upto vectorOrderSpec)) vectorOrderUptoCard

/-- THE SECOND FORM's CARD OF 'solderlaw05.VectorJoins'. -/
def vectorJoinsUptoCard : Claim7 := { stood := { row := vectorJoinsUptoRow, standIns := [], harness := (true, "fd8c051aef513172b189b8886d57ecd0843022c0f744b5c971b8d7bc3f98bb5c"), looks := false }, kinds := [], alts := [], laidByText := true, laidKinds := [.data, .data, .data], laidTests := true, laidLooks := .later }
def VectorJoinsUptoCardSaid : Prop := Claim7.holds Tryd.pinned (.plain (OpenSpec.upto vectorJoinsSpec)) vectorJoinsUptoCard
end Rows
end Go.Proofs.YtlmnmiomfhgcdaaDoor
