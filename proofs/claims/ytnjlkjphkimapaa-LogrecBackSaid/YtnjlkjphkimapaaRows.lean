/-
  No cell of these rows narrows 'for every input' (looked for: loops, veiled, ifaces, maps, wideKeys, modest, calm, conditions, laid).
  DERIVED. THE GIVEN ROWS OF THIS SEAT. 3 by the template 'for every input the law returns true; each argument reads behind the call as it read before'; 0 by the template 'total and deterministic' (their statements: YtnjlkjphkimapaaTotals.lean).
  GIVEN WITH THE SEED: the statements are not yours to turn. If you find one false, say at which input.
  Laid BY PROGRAM, IN A SANDBOX (cutbox-rows.mjs): the forced cells as the released guide's own fill.sh prints them over the translation 1c18192a7642623c… (all of the seat's roots in one cut). By AI agents, Wed Nov 11 2026. No macro, syntax, notation, axiom, sorry.
-/
import Derived.Test.YtnjlkjphkimapaaChecked
import GoSem.Claim
import GoSem.ClaimJoined
import GoSem.ClaimMapViews
import Derived.JoinedTies
import Derived.KernelRfl
namespace Go.Proofs.Ytnjlkjphkimapaa
/- THE CELL 'sum', in the pinned program and in every row, IS THE sha256 OF THE DUMP (.gsa) THAT YtnjlkjphkimapaaProg.lean LOADS. Nothing in Lean hashes anything: it is a label: what it is worth is what the hold of that sum in a sandbox is worth. -/
noncomputable def Try.pinned : Pinned := { name := "ytnjlkjphkimapaa", sum := "1c18192a7642623c0000e027ea28013179df06af95fa68078af9b019f9a817f9", checked := Try.checked }
namespace Rows
def none {H : Type} : Left H := { results := [], args := [] }

/-- 'solderlaw11.LogrecPuts': WHATEVER THE INPUT: true; the input reads as it did. -/
def logrecPutsSpec : ChangeSpec := { name := "logrecPuts", fn := fun _ => fun
  | [d1, d2] => { results := [.lit (.bool true)], args := [d1, d2] }
  | _ => none }
def logrecPutsRow : OpenClaim := { program := "ytnjlkjphkimapaa", sum := "1c18192a7642623c0000e027ea28013179df06af95fa68078af9b019f9a817f9", func := "solder/solderlaw11.LogrecPuts", spec := "logrecPuts", inPlace := ["internal/abi.NoEscape", "internal/bytealg.MakeNoZero"], unfollowed := true, recurses := true, apart := false }
def LogrecPutsSaid : Prop := logrecPutsRow.holds Try.pinned (OpenSpec.ofChange logrecPutsSpec)

/-- ITS FALSE NEIGHBOUR: 'it returns false'. Refute it at one input. -/
def logrecPutsWrong : ChangeSpec := { name := "logrecPuts", fn := fun _ => fun
  | [d1, d2] => { results := [.lit (.bool false)], args := [d1, d2] }
  | _ => none }
def LogrecPutsWrongFalsely : Prop := logrecPutsRow.holds Try.pinned (OpenSpec.ofChange logrecPutsWrong)

/-- 'solderlaw11.LogrecGets': WHATEVER THE INPUT: true; the input reads as it did. -/
def logrecGetsSpec : ChangeSpec := { name := "logrecGets", fn := fun _ => fun
  | [d1, d2] => { results := [.lit (.bool true)], args := [d1, d2] }
  | _ => none }
def logrecGetsRow : OpenClaim := { program := "ytnjlkjphkimapaa", sum := "1c18192a7642623c0000e027ea28013179df06af95fa68078af9b019f9a817f9", func := "solder/solderlaw11.LogrecGets", spec := "logrecGets", inPlace := ["internal/abi.NoEscape", "internal/bytealg.MakeNoZero"], unfollowed := true, recurses := true, apart := false }
def LogrecGetsSaid : Prop := logrecGetsRow.holds Try.pinned (OpenSpec.ofChange logrecGetsSpec)

/-- ITS FALSE NEIGHBOUR: 'it returns false'. Refute it at one input. -/
def logrecGetsWrong : ChangeSpec := { name := "logrecGets", fn := fun _ => fun
  | [d1, d2] => { results := [.lit (.bool false)], args := [d1, d2] }
  | _ => none }
def LogrecGetsWrongFalsely : Prop := logrecGetsRow.holds Try.pinned (OpenSpec.ofChange logrecGetsWrong)

/-- 'solderlaw11.LogrecBack': WHATEVER THE INPUT: true; the input reads as it did. -/
def logrecBackSpec : ChangeSpec := { name := "logrecBack", fn := fun _ => fun
  | [d1, d2, d3, d4] => { results := [.lit (.bool true)], args := [d1, d2, d3, d4] }
  | _ => none }
def logrecBackRow : OpenClaim := { program := "ytnjlkjphkimapaa", sum := "1c18192a7642623c0000e027ea28013179df06af95fa68078af9b019f9a817f9", func := "solder/solderlaw11.LogrecBack", spec := "logrecBack", inPlace := ["internal/abi.NoEscape", "internal/bytealg.MakeNoZero"], unfollowed := true, recurses := true, apart := false }
def LogrecBackSaid : Prop := logrecBackRow.holds Try.pinned (OpenSpec.ofChange logrecBackSpec)

/-- ITS FALSE NEIGHBOUR: 'it returns false'. Refute it at one input. -/
def logrecBackWrong : ChangeSpec := { name := "logrecBack", fn := fun _ => fun
  | [d1, d2, d3, d4] => { results := [.lit (.bool false)], args := [d1, d2, d3, d4] }
  | _ => none }
def LogrecBackWrongFalsely : Prop := logrecBackRow.holds Try.pinned (OpenSpec.ofChange logrecBackWrong)

/- THE SECOND FORM. 'bulk': how many values and letters a reading holds, each counted each time it is reached (what is shared counts as often as it is met; a slice's spare places count too). A statement '..UptoSaid' is the law's where the arguments, and the package variables that the reading takes, are together of bulk at most 1048576: NARROWER than '..Said'. Prove '..Said' where nothing that the law and all that it calls make is longer than what came in: it says more and counts as full. Else prove '..UptoSaid'. A law counts once. -/
mutual
def uptoBulk {H : Type} : DataW H → Nat
  | .lit (.string bytes) => bytes.length + 1
  | .lit _ => 1
  | .nil => 1
  | .ptr d => uptoBulk d + 1
  | .slice elems spare => uptoBulkAll elems + uptoBulkAll spare + 1
  | .agg parts => uptoBulkAll parts + 1
  | .iface _ d => uptoBulk d + 1
  | .map entries => uptoBulkEntries entries + 1
  | .held _ => 1
def uptoBulkAll {H : Type} : List (DataW H) → Nat
  | [] => 0
  | d :: r => uptoBulk d + uptoBulkAll r
def uptoBulkEntries {H : Type} : List (Lit × DataW H) → Nat
  | [] => 0
  | x :: r => uptoBulkEntry x + uptoBulkEntries r
def uptoBulkEntry {H : Type} : Lit × DataW H → Nat
  | (.string bytes, d) => bytes.length + uptoBulk d + 1
  | (_, d) => uptoBulk d + 1
 end
def uptoSmall : (H : Type) → List (DataW H) → Bool := fun _ ds => decide (uptoBulkAll ds ≤ 1048576)
def OpenSpec.upto (s : _root_.Go.ChangeSpec) : _root_.Go.OpenSpec := { _root_.Go.OpenSpec.ofChange s with cond := some uptoSmall }

/-- 'solderlaw11.LogrecPuts', WHERE WHAT IT READS IS OF BULK AT MOST 1048576: true; the input reads as it did. -/
def logrecPutsUptoRow : OpenClaim := { program := "ytnjlkjphkimapaa", sum := "1c18192a7642623c0000e027ea28013179df06af95fa68078af9b019f9a817f9", func := "solder/solderlaw11.LogrecPuts", spec := "logrecPuts", inPlace := ["internal/abi.NoEscape", "internal/bytealg.MakeNoZero"], unfollowed := true, recurses := true, apart := false, narrowed := true }
def LogrecPutsUptoSaid : Prop := logrecPutsUptoRow.holds Try.pinned (OpenSpec.upto logrecPutsSpec)

/-- 'solderlaw11.LogrecGets', WHERE WHAT IT READS IS OF BULK AT MOST 1048576: true; the input reads as it did. -/
def logrecGetsUptoRow : OpenClaim := { program := "ytnjlkjphkimapaa", sum := "1c18192a7642623c0000e027ea28013179df06af95fa68078af9b019f9a817f9", func := "solder/solderlaw11.LogrecGets", spec := "logrecGets", inPlace := ["internal/abi.NoEscape", "internal/bytealg.MakeNoZero"], unfollowed := true, recurses := true, apart := false, narrowed := true }
def LogrecGetsUptoSaid : Prop := logrecGetsUptoRow.holds Try.pinned (OpenSpec.upto logrecGetsSpec)

/-- 'solderlaw11.LogrecBack', WHERE WHAT IT READS IS OF BULK AT MOST 1048576: true; the input reads as it did. -/
def logrecBackUptoRow : OpenClaim := { program := "ytnjlkjphkimapaa", sum := "1c18192a7642623c0000e027ea28013179df06af95fa68078af9b019f9a817f9", func := "solder/solderlaw11.LogrecBack", spec := "logrecBack", inPlace := ["internal/abi.NoEscape", "internal/bytealg.MakeNoZero"], unfollowed := true, recurses := true, apart := false, narrowed := true }
def LogrecBackUptoSaid : Prop := logrecBackUptoRow.holds Try.pinned (OpenSpec.upto logrecBackSpec)

end Rows
end Go.Proofs.Ytnjlkjphkimapaa
