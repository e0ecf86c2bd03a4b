/-
  No cell of these rows narrows 'for every input' (looked for: loops, veiled, ifaces, maps, wideKeys, modest, calm, conditions, laid).
  DERIVED. THE GIVEN ROWS OF THIS SEAT. 3 by the template 'for every input the law returns true; each argument reads behind the call as it read before'; 0 by the template 'total and deterministic' (their statements: YtfklbinccpdnmaaTotals.lean).
  GIVEN WITH THE SEED: the statements are not yours to turn. If you find one false, say at which input.
  Laid BY PROGRAM, IN A SANDBOX (cutbox-rows.mjs): the forced cells as the released guide's own fill.sh prints them over the translation 7f466f6cd540d121… (all of the seat's roots in one cut). By AI agents, Wed Nov 11 2026. No macro, syntax, notation, axiom, sorry.
-/
import Derived.Test.YtfklbinccpdnmaaChecked
import GoSem.Claim
import GoSem.ClaimJoined
import GoSem.ClaimMapViews
import Derived.JoinedTies
import Derived.KernelRfl
namespace Go.Proofs.Ytfklbinccpdnmaa
/- THE CELL 'sum', in the pinned program and in every row, IS THE sha256 OF THE DUMP (.gsa) THAT YtfklbinccpdnmaaProg.lean LOADS. Nothing in Lean hashes anything: it is a label: what it is worth is what the hold of that sum in a sandbox is worth. -/
noncomputable def Try.pinned : Pinned := { name := "ytfklbinccpdnmaa", sum := "7f466f6cd540d12157e43507f00a755a915cc9fb90c3a7839ec3c3e915115e89", checked := Try.checked }
namespace Rows
def none {H : Type} : Left H := { results := [], args := [] }

/-- 'solderlaw13.ShadowDoes': WHATEVER THE INPUT: true; the input reads as it did. -/
def shadowDoesSpec : ChangeSpec := { name := "shadowDoes", fn := fun _ => fun
  | [d1, d2] => { results := [.lit (.bool true)], args := [d1, d2] }
  | _ => none }
def shadowDoesRow : OpenClaim := { program := "ytfklbinccpdnmaa", sum := "7f466f6cd540d12157e43507f00a755a915cc9fb90c3a7839ec3c3e915115e89", func := "solder/solderlaw13.ShadowDoes", spec := "shadowDoes", inPlace := ["maps.clone"], unfollowed := true, recurses := true, apart := false }
def ShadowDoesSaid : Prop := shadowDoesRow.holds Try.pinned (OpenSpec.ofChange shadowDoesSpec)

/-- ITS FALSE NEIGHBOUR: 'it returns false'. Refute it at one input. -/
def shadowDoesWrong : ChangeSpec := { name := "shadowDoes", fn := fun _ => fun
  | [d1, d2] => { results := [.lit (.bool false)], args := [d1, d2] }
  | _ => none }
def ShadowDoesWrongFalsely : Prop := shadowDoesRow.holds Try.pinned (OpenSpec.ofChange shadowDoesWrong)

/-- 'solderlaw13.ShadowBack': WHATEVER THE INPUT: true; the input reads as it did. -/
def shadowBackSpec : ChangeSpec := { name := "shadowBack", fn := fun _ => fun
  | [d1, d2, d3] => { results := [.lit (.bool true)], args := [d1, d2, d3] }
  | _ => none }
def shadowBackRow : OpenClaim := { program := "ytfklbinccpdnmaa", sum := "7f466f6cd540d12157e43507f00a755a915cc9fb90c3a7839ec3c3e915115e89", func := "solder/solderlaw13.ShadowBack", spec := "shadowBack", inPlace := ["maps.clone"], unfollowed := true, recurses := true, apart := false }
def ShadowBackSaid : Prop := shadowBackRow.holds Try.pinned (OpenSpec.ofChange shadowBackSpec)

/-- ITS FALSE NEIGHBOUR: 'it returns false'. Refute it at one input. -/
def shadowBackWrong : ChangeSpec := { name := "shadowBack", fn := fun _ => fun
  | [d1, d2, d3] => { results := [.lit (.bool false)], args := [d1, d2, d3] }
  | _ => none }
def ShadowBackWrongFalsely : Prop := shadowBackRow.holds Try.pinned (OpenSpec.ofChange shadowBackWrong)

/-- 'solderlaw13.ShadowNone': WHATEVER THE INPUT: true; the input reads as it did. -/
def shadowNoneSpec : ChangeSpec := { name := "shadowNone", fn := fun _ => fun
  | [d1, d2] => { results := [.lit (.bool true)], args := [d1, d2] }
  | _ => none }
def shadowNoneRow : OpenClaim := { program := "ytfklbinccpdnmaa", sum := "7f466f6cd540d12157e43507f00a755a915cc9fb90c3a7839ec3c3e915115e89", func := "solder/solderlaw13.ShadowNone", spec := "shadowNone", inPlace := ["maps.clone"], unfollowed := true, recurses := true, apart := false }
def ShadowNoneSaid : Prop := shadowNoneRow.holds Try.pinned (OpenSpec.ofChange shadowNoneSpec)

/-- ITS FALSE NEIGHBOUR: 'it returns false'. Refute it at one input. -/
def shadowNoneWrong : ChangeSpec := { name := "shadowNone", fn := fun _ => fun
  | [d1, d2] => { results := [.lit (.bool false)], args := [d1, d2] }
  | _ => none }
def ShadowNoneWrongFalsely : Prop := shadowNoneRow.holds Try.pinned (OpenSpec.ofChange shadowNoneWrong)

/- THE SECOND FORM. 'bulk': how many values and letters a reading holds, each counted each time it is reached (what is shared counts as often as it is met; a slice's spare places count too). A statement '..UptoSaid' is the law's where the arguments, and the package variables that the reading takes, are together of bulk at most 1048576: NARROWER than '..Said'. Prove '..Said' where nothing that the law and all that it calls make is longer than what came in: it says more and counts as full. Else prove '..UptoSaid'. A law counts once. -/
mutual
def uptoBulk {H : Type} : DataW H → Nat
  | .lit (.string bytes) => bytes.length + 1
  | .lit _ => 1
  | .nil => 1
  | .ptr d => uptoBulk d + 1
  | .slice elems spare => uptoBulkAll elems + uptoBulkAll spare + 1
  | .agg parts => uptoBulkAll parts + 1
  | .iface _ d => uptoBulk d + 1
  | .map entries => uptoBulkEntries entries + 1
  | .held _ => 1
def uptoBulkAll {H : Type} : List (DataW H) → Nat
  | [] => 0
  | d :: r => uptoBulk d + uptoBulkAll r
def uptoBulkEntries {H : Type} : List (Lit × DataW H) → Nat
  | [] => 0
  | x :: r => uptoBulkEntry x + uptoBulkEntries r
def uptoBulkEntry {H : Type} : Lit × DataW H → Nat
  | (.string bytes, d) => bytes.length + uptoBulk d + 1
  | (_, d) => uptoBulk d + 1
 end
def uptoSmall : (H : Type) → List (DataW H) → Bool := fun _ ds => decide (uptoBulkAll ds ≤ 1048576)
def OpenSpec.upto (s : _root_.Go.ChangeSpec) : _root_.Go.OpenSpec := { _root_.Go.OpenSpec.ofChange s with cond := some uptoSmall }

/-- 'solderlaw13.ShadowDoes', WHERE WHAT IT READS IS OF BULK AT MOST 1048576: true; the input reads as it did. -/
def shadowDoesUptoRow : OpenClaim := { program := "ytfklbinccpdnmaa", sum := "7f466f6cd540d12157e43507f00a755a915cc9fb90c3a7839ec3c3e915115e89", func := "solder/solderlaw13.ShadowDoes", spec := "shadowDoes", inPlace := ["maps.clone"], unfollowed := true, recurses := true, apart := false, narrowed := true }
def ShadowDoesUptoSaid : Prop := shadowDoesUptoRow.holds Try.pinned (OpenSpec.upto shadowDoesSpec)

/-- 'solderlaw13.ShadowBack', WHERE WHAT IT READS IS OF BULK AT MOST 1048576: true; the input reads as it did. -/
def shadowBackUptoRow : OpenClaim := { program := "ytfklbinccpdnmaa", sum := "7f466f6cd540d12157e43507f00a755a915cc9fb90c3a7839ec3c3e915115e89", func := "solder/solderlaw13.ShadowBack", spec := "shadowBack", inPlace := ["maps.clone"], unfollowed := true, recurses := true, apart := false, narrowed := true }
def ShadowBackUptoSaid : Prop := shadowBackUptoRow.holds Try.pinned (OpenSpec.upto shadowBackSpec)

/-- 'solderlaw13.ShadowNone', WHERE WHAT IT READS IS OF BULK AT MOST 1048576: true; the input reads as it did. -/
def shadowNoneUptoRow : OpenClaim := { program := "ytfklbinccpdnmaa", sum := "7f466f6cd540d12157e43507f00a755a915cc9fb90c3a7839ec3c3e915115e89", func := "solder/solderlaw13.ShadowNone", spec := "shadowNone", inPlace := ["maps.clone"], unfollowed := true, recurses := true, apart := false, narrowed := true }
def ShadowNoneUptoSaid : Prop := shadowNoneUptoRow.holds Try.pinned (OpenSpec.upto shadowNoneSpec)

end Rows
end Go.Proofs.Ytfklbinccpdnmaa
