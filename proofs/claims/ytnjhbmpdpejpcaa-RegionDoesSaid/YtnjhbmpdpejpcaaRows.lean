/-
  No cell of these rows narrows 'for every input' (looked for: loops, veiled, ifaces, maps, wideKeys, modest, calm, conditions, laid).
  DERIVED. THE GIVEN ROWS OF THIS SEAT. 3 by the template 'for every input the law returns true; each argument reads behind the call as it read before'; 0 by the template 'total and deterministic' (their statements: YtnjhbmpdpejpcaaTotals.lean).
  GIVEN WITH THE SEED: the statements are not yours to turn. If you find one false, say at which input.
  Laid BY PROGRAM, IN A SANDBOX (cutbox-rows.mjs): the forced cells as the released guide's own fill.sh prints them over the translation d284395a6c2b74ec… (all of the seat's roots in one cut). By AI agents, Wed Nov 11 2026. No macro, syntax, notation, axiom, sorry.
-/
import Derived.Test.YtnjhbmpdpejpcaaChecked
import GoSem.Claim
import GoSem.ClaimJoined
import GoSem.ClaimMapViews
import Derived.JoinedTies
import Derived.KernelRfl
namespace Go.Proofs.Ytnjhbmpdpejpcaa
/- THE CELL 'sum', in the pinned program and in every row, IS THE sha256 OF THE DUMP (.gsa) THAT YtnjhbmpdpejpcaaProg.lean LOADS. Nothing in Lean hashes anything: it is a label: what it is worth is what the hold of that sum in a sandbox is worth. -/
noncomputable def Try.pinned : Pinned := { name := "ytnjhbmpdpejpcaa", sum := "d284395a6c2b74ecea8bdcfb73eb16e48714be93877e505e1c071f572828b52e", checked := Try.checked }
namespace Rows
def none {H : Type} : Left H := { results := [], args := [] }

/-- 'solderlaw09.RegionDoes': WHATEVER THE INPUT: true; the input reads as it did. -/
def regionDoesSpec : ChangeSpec := { name := "regionDoes", fn := fun _ => fun
  | [d1, d2, d3] => { results := [.lit (.bool true)], args := [d1, d2, d3] }
  | _ => none }
def regionDoesRow : OpenClaim := { program := "ytnjhbmpdpejpcaa", sum := "d284395a6c2b74ecea8bdcfb73eb16e48714be93877e505e1c071f572828b52e", func := "solder/solderlaw09.RegionDoes", spec := "regionDoes", inPlace := ["internal/abi.NoEscape", "internal/bytealg.MakeNoZero"], unfollowed := true, recurses := true, apart := false }
def RegionDoesSaid : Prop := regionDoesRow.holds Try.pinned (OpenSpec.ofChange regionDoesSpec)

/-- ITS FALSE NEIGHBOUR: 'it returns false'. Refute it at one input. -/
def regionDoesWrong : ChangeSpec := { name := "regionDoes", fn := fun _ => fun
  | [d1, d2, d3] => { results := [.lit (.bool false)], args := [d1, d2, d3] }
  | _ => none }
def RegionDoesWrongFalsely : Prop := regionDoesRow.holds Try.pinned (OpenSpec.ofChange regionDoesWrong)

/-- 'solderlaw09.RegionOwn': WHATEVER THE INPUT: true; the input reads as it did. -/
def regionOwnSpec : ChangeSpec := { name := "regionOwn", fn := fun _ => fun
  | [d1, d2, d3, d4] => { results := [.lit (.bool true)], args := [d1, d2, d3, d4] }
  | _ => none }
def regionOwnRow : OpenClaim := { program := "ytnjhbmpdpejpcaa", sum := "d284395a6c2b74ecea8bdcfb73eb16e48714be93877e505e1c071f572828b52e", func := "solder/solderlaw09.RegionOwn", spec := "regionOwn", inPlace := ["internal/abi.NoEscape", "internal/bytealg.MakeNoZero"], apart := false }
def RegionOwnSaid : Prop := regionOwnRow.holds Try.pinned (OpenSpec.ofChange regionOwnSpec)

/-- ITS FALSE NEIGHBOUR: 'it returns false'. Refute it at one input. -/
def regionOwnWrong : ChangeSpec := { name := "regionOwn", fn := fun _ => fun
  | [d1, d2, d3, d4] => { results := [.lit (.bool false)], args := [d1, d2, d3, d4] }
  | _ => none }
def RegionOwnWrongFalsely : Prop := regionOwnRow.holds Try.pinned (OpenSpec.ofChange regionOwnWrong)

/-- 'solderlaw09.RegionNone': WHATEVER THE INPUT: true; the input reads as it did. -/
def regionNoneSpec : ChangeSpec := { name := "regionNone", fn := fun _ => fun
  | [d1, d2, d3] => { results := [.lit (.bool true)], args := [d1, d2, d3] }
  | _ => none }
def regionNoneRow : OpenClaim := { program := "ytnjhbmpdpejpcaa", sum := "d284395a6c2b74ecea8bdcfb73eb16e48714be93877e505e1c071f572828b52e", func := "solder/solderlaw09.RegionNone", spec := "regionNone", inPlace := ["internal/abi.NoEscape", "internal/bytealg.MakeNoZero"], unfollowed := true, recurses := true, apart := false }
def RegionNoneSaid : Prop := regionNoneRow.holds Try.pinned (OpenSpec.ofChange regionNoneSpec)

/-- ITS FALSE NEIGHBOUR: 'it returns false'. Refute it at one input. -/
def regionNoneWrong : ChangeSpec := { name := "regionNone", fn := fun _ => fun
  | [d1, d2, d3] => { results := [.lit (.bool false)], args := [d1, d2, d3] }
  | _ => none }
def RegionNoneWrongFalsely : Prop := regionNoneRow.holds Try.pinned (OpenSpec.ofChange regionNoneWrong)

/- THE SECOND FORM. 'bulk': how many values and letters a reading holds, each counted each time it is reached (what is shared counts as often as it is met; a slice's spare places count too). A statement '..UptoSaid' is the law's where the arguments, and the package variables that the reading takes, are together of bulk at most 1048576: NARROWER than '..Said'. Prove '..Said' where nothing that the law and all that it calls make is longer than what came in: it says more and counts as full. Else prove '..UptoSaid'. A law counts once. -/
mutual
def uptoBulk {H : Type} : DataW H → Nat
  | .lit (.string bytes) => bytes.length + 1
  | .lit _ => 1
  | .nil => 1
  | .ptr d => uptoBulk d + 1
  | .slice elems spare => uptoBulkAll elems + uptoBulkAll spare + 1
  | .agg parts => uptoBulkAll parts + 1
  | .iface _ d => uptoBulk d + 1
  | .map entries => uptoBulkEntries entries + 1
  | .held _ => 1
def uptoBulkAll {H : Type} : List (DataW H) → Nat
  | [] => 0
  | d :: r => uptoBulk d + uptoBulkAll r
def uptoBulkEntries {H : Type} : List (Lit × DataW H) → Nat
  | [] => 0
  | x :: r => uptoBulkEntry x + uptoBulkEntries r
def uptoBulkEntry {H : Type} : Lit × DataW H → Nat
  | (.string bytes, d) => bytes.length + uptoBulk d + 1
  | (_, d) => uptoBulk d + 1
 end
def uptoSmall : (H : Type) → List (DataW H) → Bool := fun _ ds => decide (uptoBulkAll ds ≤ 1048576)
def OpenSpec.upto (s : _root_.Go.ChangeSpec) : _root_.Go.OpenSpec := { _root_.Go.OpenSpec.ofChange s with cond := some uptoSmall }

/-- 'solderlaw09.RegionDoes', WHERE WHAT IT READS IS OF BULK AT MOST 1048576: true; the input reads as it did. -/
def regionDoesUptoRow : OpenClaim := { program := "ytnjhbmpdpejpcaa", sum := "d284395a6c2b74ecea8bdcfb73eb16e48714be93877e505e1c071f572828b52e", func := "solder/solderlaw09.RegionDoes", spec := "regionDoes", inPlace := ["internal/abi.NoEscape", "internal/bytealg.MakeNoZero"], unfollowed := true, recurses := true, apart := false, narrowed := true }
def RegionDoesUptoSaid : Prop := regionDoesUptoRow.holds Try.pinned (OpenSpec.upto regionDoesSpec)

/-- 'solderlaw09.RegionOwn', WHERE WHAT IT READS IS OF BULK AT MOST 1048576: true; the input reads as it did. -/
def regionOwnUptoRow : OpenClaim := { program := "ytnjhbmpdpejpcaa", sum := "d284395a6c2b74ecea8bdcfb73eb16e48714be93877e505e1c071f572828b52e", func := "solder/solderlaw09.RegionOwn", spec := "regionOwn", inPlace := ["internal/abi.NoEscape", "internal/bytealg.MakeNoZero"], apart := false, narrowed := true }
def RegionOwnUptoSaid : Prop := regionOwnUptoRow.holds Try.pinned (OpenSpec.upto regionOwnSpec)

/-- 'solderlaw09.RegionNone', WHERE WHAT IT READS IS OF BULK AT MOST 1048576: true; the input reads as it did. -/
def regionNoneUptoRow : OpenClaim := { program := "ytnjhbmpdpejpcaa", sum := "d284395a6c2b74ecea8bdcfb73eb16e48714be93877e505e1c071f572828b52e", func := "solder/solderlaw09.RegionNone", spec := "regionNone", inPlace := ["internal/abi.NoEscape", "internal/bytealg.MakeNoZero"], unfollowed := true, recurses := true, apart := false, narrowed := true }
def RegionNoneUptoSaid : Prop := regionNoneUptoRow.holds Try.pinned (OpenSpec.upto regionNoneSpec)

end Rows
end Go.Proofs.Ytnjhbmpdpejpcaa
