/-
  No cell of these rows narrows 'for every input' (looked for: loops, veiled, ifaces, maps, wideKeys, modest, calm, conditions, laid).
  DERIVED. THE GIVEN ROWS OF THIS SEAT. 4 by the template 'for every input the law returns true; each argument reads behind the call as it read before'; 0 by the template 'total and deterministic' (their statements: YtngdacnbjdhjaaaTotals.lean).
  GIVEN WITH THE SEED: the statements are not yours to turn. If you find one false, say at which input.
  Laid BY PROGRAM, IN A SANDBOX (cutbox-rows.mjs): the forced cells as the released guide's own fill.sh prints them over the translation 8075ad0420216e64… (all of the seat's roots in one cut). By AI agents, Wed Nov 11 2026. No macro, syntax, notation, axiom, sorry.
-/
import Derived.Test.YtngdacnbjdhjaaaChecked
import GoSem.Claim
import GoSem.ClaimJoined
import GoSem.ClaimMapViews
import Derived.JoinedTies
import Derived.KernelRfl
namespace Go.Proofs.Ytngdacnbjdhjaaa
/- THE CELL 'sum', in the pinned program and in every row, IS THE sha256 OF THE DUMP (.gsa) THAT YtngdacnbjdhjaaaProg.lean LOADS. Nothing in Lean hashes anything: it is a label: what it is worth is what the hold of that sum in a sandbox is worth. -/
noncomputable def Try.pinned : Pinned := { name := "ytngdacnbjdhjaaa", sum := "8075ad0420216e641787870fe205f7f0432f0d0cca3af7b4a56be674ee96beed", checked := Try.checked }
namespace Rows
def none {H : Type} : Left H := { results := [], args := [] }

/-- 'solderlaw03.CyclicOf': WHATEVER THE INPUT: true; the input reads as it did. -/
def cyclicOfSpec : ChangeSpec := { name := "cyclicOf", fn := fun _ => fun
  | [d] => { results := [.lit (.bool true)], args := [d] }
  | _ => none }
def cyclicOfRow : OpenClaim := { program := "ytngdacnbjdhjaaa", sum := "8075ad0420216e641787870fe205f7f0432f0d0cca3af7b4a56be674ee96beed", func := "solder/solderlaw03.CyclicOf", spec := "cyclicOf", apart := false }
def CyclicOfSaid : Prop := cyclicOfRow.holds Try.pinned (OpenSpec.ofChange cyclicOfSpec)

/-- ITS FALSE NEIGHBOUR: 'it returns false'. Refute it at one input. -/
def cyclicOfWrong : ChangeSpec := { name := "cyclicOf", fn := fun _ => fun
  | [d] => { results := [.lit (.bool false)], args := [d] }
  | _ => none }
def CyclicOfWrongFalsely : Prop := cyclicOfRow.holds Try.pinned (OpenSpec.ofChange cyclicOfWrong)

/-- 'solderlaw03.CyclicPieces': WHATEVER THE INPUT: true; the input reads as it did. -/
def cyclicPiecesSpec : ChangeSpec := { name := "cyclicPieces", fn := fun _ => fun
  | [d] => { results := [.lit (.bool true)], args := [d] }
  | _ => none }
def cyclicPiecesRow : OpenClaim := { program := "ytngdacnbjdhjaaa", sum := "8075ad0420216e641787870fe205f7f0432f0d0cca3af7b4a56be674ee96beed", func := "solder/solderlaw03.CyclicPieces", spec := "cyclicPieces", apart := false }
def CyclicPiecesSaid : Prop := cyclicPiecesRow.holds Try.pinned (OpenSpec.ofChange cyclicPiecesSpec)

/-- ITS FALSE NEIGHBOUR: 'it returns false'. Refute it at one input. -/
def cyclicPiecesWrong : ChangeSpec := { name := "cyclicPieces", fn := fun _ => fun
  | [d] => { results := [.lit (.bool false)], args := [d] }
  | _ => none }
def CyclicPiecesWrongFalsely : Prop := cyclicPiecesRow.holds Try.pinned (OpenSpec.ofChange cyclicPiecesWrong)

/-- 'solderlaw03.CyclicTail': WHATEVER THE INPUT: true; the input reads as it did. -/
def cyclicTailSpec : ChangeSpec := { name := "cyclicTail", fn := fun _ => fun
  | [d] => { results := [.lit (.bool true)], args := [d] }
  | _ => none }
def cyclicTailRow : OpenClaim := { program := "ytngdacnbjdhjaaa", sum := "8075ad0420216e641787870fe205f7f0432f0d0cca3af7b4a56be674ee96beed", func := "solder/solderlaw03.CyclicTail", spec := "cyclicTail", apart := false }
def CyclicTailSaid : Prop := cyclicTailRow.holds Try.pinned (OpenSpec.ofChange cyclicTailSpec)

/-- ITS FALSE NEIGHBOUR: 'it returns false'. Refute it at one input. -/
def cyclicTailWrong : ChangeSpec := { name := "cyclicTail", fn := fun _ => fun
  | [d] => { results := [.lit (.bool false)], args := [d] }
  | _ => none }
def CyclicTailWrongFalsely : Prop := cyclicTailRow.holds Try.pinned (OpenSpec.ofChange cyclicTailWrong)

/-- 'solderlaw03.CyclicNear': WHATEVER THE INPUT: true; the input reads as it did. -/
def cyclicNearSpec : ChangeSpec := { name := "cyclicNear", fn := fun _ => fun
  | [d1, d2, d3] => { results := [.lit (.bool true)], args := [d1, d2, d3] }
  | _ => none }
def cyclicNearRow : OpenClaim := { program := "ytngdacnbjdhjaaa", sum := "8075ad0420216e641787870fe205f7f0432f0d0cca3af7b4a56be674ee96beed", func := "solder/solderlaw03.CyclicNear", spec := "cyclicNear", apart := false }
def CyclicNearSaid : Prop := cyclicNearRow.holds Try.pinned (OpenSpec.ofChange cyclicNearSpec)

/-- ITS FALSE NEIGHBOUR: 'it returns false'. Refute it at one input. -/
def cyclicNearWrong : ChangeSpec := { name := "cyclicNear", fn := fun _ => fun
  | [d1, d2, d3] => { results := [.lit (.bool false)], args := [d1, d2, d3] }
  | _ => none }
def CyclicNearWrongFalsely : Prop := cyclicNearRow.holds Try.pinned (OpenSpec.ofChange cyclicNearWrong)

/- THE SECOND FORM. 'bulk': how many values and letters a reading holds, each counted each time it is reached (what is shared counts as often as it is met; a slice's spare places count too). A statement '..UptoSaid' is the law's where the arguments, and the package variables that the reading takes, are together of bulk at most 1048576: NARROWER than '..Said'. Prove '..Said' where nothing that the law and all that it calls make is longer than what came in: it says more and counts as full. Else prove '..UptoSaid'. A law counts once. -/
mutual
def uptoBulk {H : Type} : DataW H → Nat
  | .lit (.string bytes) => bytes.length + 1
  | .lit _ => 1
  | .nil => 1
  | .ptr d => uptoBulk d + 1
  | .slice elems spare => uptoBulkAll elems + uptoBulkAll spare + 1
  | .agg parts => uptoBulkAll parts + 1
  | .iface _ d => uptoBulk d + 1
  | .map entries => uptoBulkEntries entries + 1
  | .held _ => 1
def uptoBulkAll {H : Type} : List (DataW H) → Nat
  | [] => 0
  | d :: r => uptoBulk d + uptoBulkAll r
def uptoBulkEntries {H : Type} : List (Lit × DataW H) → Nat
  | [] => 0
  | x :: r => uptoBulkEntry x + uptoBulkEntries r
def uptoBulkEntry {H : Type} : Lit × DataW H → Nat
  | (.string bytes, d) => bytes.length + uptoBulk d + 1
  | (_, d) => uptoBulk d + 1
 end
def uptoSmall : (H : Type) → List (DataW H) → Bool := fun _ ds => decide (uptoBulkAll ds ≤ 1048576)
def OpenSpec.upto (s : _root_.Go.ChangeSpec) : _root_.Go.OpenSpec := { _root_.Go.OpenSpec.ofChange s with cond := some uptoSmall }

/-- 'solderlaw03.CyclicOf', WHERE WHAT IT READS IS OF BULK AT MOST 1048576: true; the input reads as it did. -/
def cyclicOfUptoRow : OpenClaim := { program := "ytngdacnbjdhjaaa", sum := "8075ad0420216e641787870fe205f7f0432f0d0cca3af7b4a56be674ee96beed", func := "solder/solderlaw03.CyclicOf", spec := "cyclicOf", apart := false, narrowed := true }
def CyclicOfUptoSaid : Prop := cyclicOfUptoRow.holds Try.pinned (OpenSpec.upto cyclicOfSpec)

/-- 'solderlaw03.CyclicPieces', WHERE WHAT IT READS IS OF BULK AT MOST 1048576: true; the input reads as it did. -/
def cyclicPiecesUptoRow : OpenClaim := { program := "ytngdacnbjdhjaaa", sum := "8075ad0420216e641787870fe205f7f0432f0d0cca3af7b4a56be674ee96beed", func := "solder/solderlaw03.CyclicPieces", spec := "cyclicPieces", apart := false, narrowed := true }
def CyclicPiecesUptoSaid : Prop := cyclicPiecesUptoRow.holds Try.pinned (OpenSpec.upto cyclicPiecesSpec)

/-- 'solderlaw03.CyclicTail', WHERE WHAT IT READS IS OF BULK AT MOST 1048576: true; the input reads as it did. -/
def cyclicTailUptoRow : OpenClaim := { program := "ytngdacnbjdhjaaa", sum := "8075ad0420216e641787870fe205f7f0432f0d0cca3af7b4a56be674ee96beed", func := "solder/solderlaw03.CyclicTail", spec := "cyclicTail", apart := false, narrowed := true }
def CyclicTailUptoSaid : Prop := cyclicTailUptoRow.holds Try.pinned (OpenSpec.upto cyclicTailSpec)

/-- 'solderlaw03.CyclicNear', WHERE WHAT IT READS IS OF BULK AT MOST 1048576: true; the input reads as it did. -/
def cyclicNearUptoRow : OpenClaim := { program := "ytngdacnbjdhjaaa", sum := "8075ad0420216e641787870fe205f7f0432f0d0cca3af7b4a56be674ee96beed", func := "solder/solderlaw03.CyclicNear", spec := "cyclicNear", apart := false, narrowed := true }
def CyclicNearUptoSaid : Prop := cyclicNearUptoRow.holds Try.pinned (OpenSpec.upto cyclicNearSpec)

end Rows
end Go.Proofs.Ytngdacnbjdhjaaa
