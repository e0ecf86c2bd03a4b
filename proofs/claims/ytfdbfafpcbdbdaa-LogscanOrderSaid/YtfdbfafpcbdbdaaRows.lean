/-
  No cell of these rows narrows 'for every input' (looked for: loops, veiled, ifaces, maps, wideKeys, modest, calm, conditions, laid).
  DERIVED. THE GIVEN ROWS OF THIS SEAT. 2 by the template 'for every input the law returns true; each argument reads behind the call as it read before'; 0 by the template 'total and deterministic' (their statements: YtfdbfafpcbdbdaaTotals.lean).
  GIVEN WITH THE SEED: the statements are not yours to turn. If you find one false, say at which input.
  Laid BY PROGRAM, IN A SANDBOX (cutbox-rows.mjs): the forced cells as the released guide's own fill.sh prints them over the translation fd0df7e4ae8fd4fc… (all of the seat's roots in one cut). By AI agents, Wed Nov 11 2026. No macro, syntax, notation, axiom, sorry.
-/
import Derived.Test.YtfdbfafpcbdbdaaChecked
import GoSem.Claim
import GoSem.ClaimJoined
import GoSem.ClaimMapViews
import Derived.JoinedTies
import Derived.KernelRfl
namespace Go.Proofs.Ytfdbfafpcbdbdaa
/- THE CELL 'sum', in the pinned program and in every row, IS THE sha256 OF THE DUMP (.gsa) THAT YtfdbfafpcbdbdaaProg.lean LOADS. Nothing in Lean hashes anything: it is a label: what it is worth is what the hold of that sum in a sandbox is worth. -/
noncomputable def Try.pinned : Pinned := { name := "ytfdbfafpcbdbdaa", sum := "fd0df7e4ae8fd4fca15810c4e5899b79500b8f03f1f8428c3771df0dfa24c4ea", checked := Try.checked }
namespace Rows
def none {H : Type} : Left H := { results := [], args := [] }

/-- 'solderlaw12.LogscanOrder': WHATEVER THE INPUT: true; the input reads as it did. -/
def logscanOrderSpec : ChangeSpec := { name := "logscanOrder", fn := fun _ => fun
  | [d1, d2, d3, d4, d5] => { results := [.lit (.bool true)], args := [d1, d2, d3, d4, d5] }
  | _ => none }
def logscanOrderRow : OpenClaim := { program := "ytfdbfafpcbdbdaa", sum := "fd0df7e4ae8fd4fca15810c4e5899b79500b8f03f1f8428c3771df0dfa24c4ea", func := "solder/solderlaw12.LogscanOrder", spec := "logscanOrder", inPlace := ["internal/abi.NoEscape", "internal/bytealg.MakeNoZero"], unfollowed := true, recurses := true, apart := false }
def LogscanOrderSaid : Prop := logscanOrderRow.holds Try.pinned (OpenSpec.ofChange logscanOrderSpec)

/-- ITS FALSE NEIGHBOUR: 'it returns false'. Refute it at one input. -/
def logscanOrderWrong : ChangeSpec := { name := "logscanOrder", fn := fun _ => fun
  | [d1, d2, d3, d4, d5] => { results := [.lit (.bool false)], args := [d1, d2, d3, d4, d5] }
  | _ => none }
def LogscanOrderWrongFalsely : Prop := logscanOrderRow.holds Try.pinned (OpenSpec.ofChange logscanOrderWrong)

/-- 'solderlaw12.LogscanNone': WHATEVER THE INPUT: true; the input reads as it did. -/
def logscanNoneSpec : ChangeSpec := { name := "logscanNone", fn := fun _ => fun
  | [d1, d2, d3] => { results := [.lit (.bool true)], args := [d1, d2, d3] }
  | _ => none }
def logscanNoneRow : OpenClaim := { program := "ytfdbfafpcbdbdaa", sum := "fd0df7e4ae8fd4fca15810c4e5899b79500b8f03f1f8428c3771df0dfa24c4ea", func := "solder/solderlaw12.LogscanNone", spec := "logscanNone", inPlace := ["internal/abi.NoEscape", "internal/bytealg.MakeNoZero"], unfollowed := true, recurses := true, apart := false }
def LogscanNoneSaid : Prop := logscanNoneRow.holds Try.pinned (OpenSpec.ofChange logscanNoneSpec)

/-- ITS FALSE NEIGHBOUR: 'it returns false'. Refute it at one input. -/
def logscanNoneWrong : ChangeSpec := { name := "logscanNone", fn := fun _ => fun
  | [d1, d2, d3] => { results := [.lit (.bool false)], args := [d1, d2, d3] }
  | _ => none }
def LogscanNoneWrongFalsely : Prop := logscanNoneRow.holds Try.pinned (OpenSpec.ofChange logscanNoneWrong)

/- THE SECOND FORM. 'bulk': how many values and letters a reading holds, each counted each time it is reached (what is shared counts as often as it is met; a slice's spare places count too). A statement '..UptoSaid' is the law's where the arguments, and the package variables that the reading takes, are together of bulk at most 1048576: NARROWER than '..Said'. Prove '..Said' where nothing that the law and all that it calls make is longer than what came in: it says more and counts as full. Else prove '..UptoSaid'. A law counts once. -/
mutual
def uptoBulk {H : Type} : DataW H → Nat
  | .lit (.string bytes) => bytes.length + 1
  | .lit _ => 1
  | .nil => 1
  | .ptr d => uptoBulk d + 1
  | .slice elems spare => uptoBulkAll elems + uptoBulkAll spare + 1
  | .agg parts => uptoBulkAll parts + 1
  | .iface _ d => uptoBulk d + 1
  | .map entries => uptoBulkEntries entries + 1
  | .held _ => 1
def uptoBulkAll {H : Type} : List (DataW H) → Nat
  | [] => 0
  | d :: r => uptoBulk d + uptoBulkAll r
def uptoBulkEntries {H : Type} : List (Lit × DataW H) → Nat
  | [] => 0
  | x :: r => uptoBulkEntry x + uptoBulkEntries r
def uptoBulkEntry {H : Type} : Lit × DataW H → Nat
  | (.string bytes, d) => bytes.length + uptoBulk d + 1
  | (_, d) => uptoBulk d + 1
 end
def uptoSmall : (H : Type) → List (DataW H) → Bool := fun _ ds => decide (uptoBulkAll ds ≤ 1048576)
def OpenSpec.upto (s : _root_.Go.ChangeSpec) : _root_.Go.OpenSpec := { _root_.Go.OpenSpec.ofChange s with cond := some uptoSmall }

/-- 'solderlaw12.LogscanOrder', WHERE WHAT IT READS IS OF BULK AT MOST 1048576: true; the input reads as it did. -/
def logscanOrderUptoRow : OpenClaim := { program := "ytfdbfafpcbdbdaa", sum := "fd0df7e4ae8fd4fca15810c4e5899b79500b8f03f1f8428c3771df0dfa24c4ea", func := "solder/solderlaw12.LogscanOrder", spec := "logscanOrder", inPlace := ["internal/abi.NoEscape", "internal/bytealg.MakeNoZero"], unfollowed := true, recurses := true, apart := false, narrowed := true }
def LogscanOrderUptoSaid : Prop := logscanOrderUptoRow.holds Try.pinned (OpenSpec.upto logscanOrderSpec)

/-- 'solderlaw12.LogscanNone', WHERE WHAT IT READS IS OF BULK AT MOST 1048576: true; the input reads as it did. -/
def logscanNoneUptoRow : OpenClaim := { program := "ytfdbfafpcbdbdaa", sum := "fd0df7e4ae8fd4fca15810c4e5899b79500b8f03f1f8428c3771df0dfa24c4ea", func := "solder/solderlaw12.LogscanNone", spec := "logscanNone", inPlace := ["internal/abi.NoEscape", "internal/bytealg.MakeNoZero"], unfollowed := true, recurses := true, apart := false, narrowed := true }
def LogscanNoneUptoSaid : Prop := logscanNoneUptoRow.holds Try.pinned (OpenSpec.upto logscanNoneSpec)

end Rows
end Go.Proofs.Ytfdbfafpcbdbdaa
