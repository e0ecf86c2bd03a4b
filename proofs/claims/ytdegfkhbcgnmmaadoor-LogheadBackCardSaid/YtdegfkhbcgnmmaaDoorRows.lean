/-
  NARROWER THAN 'FOR EVERY INPUT', by the rows' own cells (each row's printed sentence says how): LogheadPuts: laid · LogheadGets: laid · LogheadBack: laid.
  DERIVED. THE GIVEN ROWS OF THIS SEAT. 3 by the template 'for every input the law returns true; each argument reads behind the call as it read before'; 0 by the template 'total and deterministic' (their statements: YtdegfkhbcgnmmaaDoorTotals.lean).
  GIVEN WITH THE SEED: the statements are not yours to turn. If you find one false, say at which input.
  Laid BY PROGRAM, IN A SANDBOX (cutbox-rows.mjs): the forced cells as the released guide's own fill.sh prints them over the translation 68ad7031f5dcdca5… (all of the seat's roots in one cut). By AI agents, Wed Nov 11 2026. No macro, syntax, notation, axiom, sorry.
-/
import Derived.Test.YtdegfkhbcgnmmaaDoorChecked
import GoSem.Claim
import GoSem.ClaimJoined
import GoSem.ClaimMapViews
import Derived.JoinedTies
import Derived.KernelRfl
namespace Go.Proofs.YtdegfkhbcgnmmaaDoor
/- THE CELL 'sum', in the pinned program and in every row, IS THE sha256 OF THE DUMP (.gsa) THAT YtdegfkhbcgnmmaaDoorProg.lean LOADS. Nothing in Lean hashes anything: it is a label: what it is worth is what the hold of that sum in a sandbox is worth. -/
noncomputable def Tryd.pinned : Pinned := { name := "ytdegfkhbcgnmmaadoor", sum := "68ad7031f5dcdca5fc8dad38f8d5cc0667a7a2f5be6d0d91ff94ee2cb6908694", checked := Tryd.checked }
namespace Rows
def none {H : Type} : Left H := { results := [], args := [] }

/- WHAT THE LISTED PACKAGE-LEVEL VARIABLES READ AS WHEN THE CALL BEGINS. Each datum BY PROGRAM (the guide's laid-datum.mjs) off the statement by which the dump's own 'gosem.cut.vars' lays the variable. In a bare row this is a premise. The card (YtdegfkhbcgnmmaaDoorCards.lean) ties it to the program's text. -/
def laid_solder_loghead_none {H : Type} : DataW H := .agg [.lit (.int .i64 (-1)), .lit (.int .i64 0), .lit (.int .i64 0)]

/-- 'solderlaw10.LogheadPuts': WHATEVER THE INPUT: true; the input reads as it did. -/
def logheadPutsSpec : ChangeSpec := { name := "logheadPuts", fn := fun _ => fun
  | [d] => { results := [.lit (.bool true)], args := [d] }
  | _ => none }
def logheadPutsRow : OpenClaim := { program := "ytdegfkhbcgnmmaadoor", sum := "68ad7031f5dcdca5fc8dad38f8d5cc0667a7a2f5be6d0d91ff94ee2cb6908694", func := "solder/solderlaw10.LogheadPuts", spec := "logheadPuts", inPlace := ["internal/abi.NoEscape", "internal/bytealg.MakeNoZero"], named := ["solder/loghead.none"], apart := false, laid := [("solder/loghead.none", laid_solder_loghead_none)] }
def LogheadPutsSaid : Prop := logheadPutsRow.holds Tryd.pinned (OpenSpec.ofChange logheadPutsSpec)

/-- ITS FALSE NEIGHBOUR: 'it returns false'. Refute it at one input. -/
def logheadPutsWrong : ChangeSpec := { name := "logheadPuts", fn := fun _ => fun
  | [d] => { results := [.lit (.bool false)], args := [d] }
  | _ => none }
def LogheadPutsWrongFalsely : Prop := logheadPutsRow.holds Tryd.pinned (OpenSpec.ofChange logheadPutsWrong)

/-- 'solderlaw10.LogheadGets': WHATEVER THE INPUT: true; the input reads as it did. -/
def logheadGetsSpec : ChangeSpec := { name := "logheadGets", fn := fun _ => fun
  | [d1, d2] => { results := [.lit (.bool true)], args := [d1, d2] }
  | _ => none }
def logheadGetsRow : OpenClaim := { program := "ytdegfkhbcgnmmaadoor", sum := "68ad7031f5dcdca5fc8dad38f8d5cc0667a7a2f5be6d0d91ff94ee2cb6908694", func := "solder/solderlaw10.LogheadGets", spec := "logheadGets", inPlace := ["internal/abi.NoEscape", "internal/bytealg.MakeNoZero"], named := ["solder/loghead.none"], apart := false, laid := [("solder/loghead.none", laid_solder_loghead_none)] }
def LogheadGetsSaid : Prop := logheadGetsRow.holds Tryd.pinned (OpenSpec.ofChange logheadGetsSpec)

/-- ITS FALSE NEIGHBOUR: 'it returns false'. Refute it at one input. -/
def logheadGetsWrong : ChangeSpec := { name := "logheadGets", fn := fun _ => fun
  | [d1, d2] => { results := [.lit (.bool false)], args := [d1, d2] }
  | _ => none }
def LogheadGetsWrongFalsely : Prop := logheadGetsRow.holds Tryd.pinned (OpenSpec.ofChange logheadGetsWrong)

/-- 'solderlaw10.LogheadBack': WHATEVER THE INPUT: true; the input reads as it did. -/
def logheadBackSpec : ChangeSpec := { name := "logheadBack", fn := fun _ => fun
  | [d1, d2, d3, d4] => { results := [.lit (.bool true)], args := [d1, d2, d3, d4] }
  | _ => none }
def logheadBackRow : OpenClaim := { program := "ytdegfkhbcgnmmaadoor", sum := "68ad7031f5dcdca5fc8dad38f8d5cc0667a7a2f5be6d0d91ff94ee2cb6908694", func := "solder/solderlaw10.LogheadBack", spec := "logheadBack", inPlace := ["internal/abi.NoEscape", "internal/bytealg.MakeNoZero"], named := ["solder/loghead.none"], apart := false, laid := [("solder/loghead.none", laid_solder_loghead_none)] }
def LogheadBackSaid : Prop := logheadBackRow.holds Tryd.pinned (OpenSpec.ofChange logheadBackSpec)

/-- ITS FALSE NEIGHBOUR: 'it returns false'. Refute it at one input. -/
def logheadBackWrong : ChangeSpec := { name := "logheadBack", fn := fun _ => fun
  | [d1, d2, d3, d4] => { results := [.lit (.bool false)], args := [d1, d2, d3, d4] }
  | _ => none }
def LogheadBackWrongFalsely : Prop := logheadBackRow.holds Tryd.pinned (OpenSpec.ofChange logheadBackWrong)

/- THE SECOND FORM. 'bulk': how many values and letters a reading holds, each counted each time it is reached (what is shared counts as often as it is met; a slice's spare places count too). A statement '..UptoSaid' is the law's where the arguments, and the package variables that the reading takes, are together of bulk at most 1048576: NARROWER than '..Said'. Prove '..Said' where nothing that the law and all that it calls make is longer than what came in: it says more and counts as full. Else prove '..UptoSaid'. A law counts once. -/
mutual
def uptoBulk {H : Type} : DataW H → Nat
  | .lit (.string bytes) => bytes.length + 1
  | .lit _ => 1
  | .nil => 1
  | .ptr d => uptoBulk d + 1
  | .slice elems spare => uptoBulkAll elems + uptoBulkAll spare + 1
  | .agg parts => uptoBulkAll parts + 1
  | .iface _ d => uptoBulk d + 1
  | .map entries => uptoBulkEntries entries + 1
  | .held _ => 1
def uptoBulkAll {H : Type} : List (DataW H) → Nat
  | [] => 0
  | d :: r => uptoBulk d + uptoBulkAll r
def uptoBulkEntries {H : Type} : List (Lit × DataW H) → Nat
  | [] => 0
  | x :: r => uptoBulkEntry x + uptoBulkEntries r
def uptoBulkEntry {H : Type} : Lit × DataW H → Nat
  | (.string bytes, d) => bytes.length + uptoBulk d + 1
  | (_, d) => uptoBulk d + 1
 end
def uptoSmall : (H : Type) → List (DataW H) → Bool := fun _ ds => decide (uptoBulkAll ds ≤ 1048576)
def OpenSpec.upto (s : _root_.Go.ChangeSpec) : _root_.Go.OpenSpec := { _root_.Go.OpenSpec.ofChange s with cond := some uptoSmall }

/-- 'solderlaw10.LogheadPuts', WHERE WHAT IT READS IS OF BULK AT MOST 1048576: true; the input reads as it did. -/
def logheadPutsUptoRow : OpenClaim := { program := "ytdegfkhbcgnmmaadoor", sum := "68ad7031f5dcdca5fc8dad38f8d5cc0667a7a2f5be6d0d91ff94ee2cb6908694", func := "solder/solderlaw10.LogheadPuts", spec := "logheadPuts", inPlace := ["internal/abi.NoEscape", "internal/bytealg.MakeNoZero"], named := ["solder/loghead.none"], apart := false, laid := [("solder/loghead.none", laid_solder_loghead_none)], narrowed := true }
def LogheadPutsUptoSaid : Prop := logheadPutsUptoRow.holds Tryd.pinned (OpenSpec.upto logheadPutsSpec)

/-- 'solderlaw10.LogheadGets', WHERE WHAT IT READS IS OF BULK AT MOST 1048576: true; the input reads as it did. -/
def logheadGetsUptoRow : OpenClaim := { program := "ytdegfkhbcgnmmaadoor", sum := "68ad7031f5dcdca5fc8dad38f8d5cc0667a7a2f5be6d0d91ff94ee2cb6908694", func := "solder/solderlaw10.LogheadGets", spec := "logheadGets", inPlace := ["internal/abi.NoEscape", "internal/bytealg.MakeNoZero"], named := ["solder/loghead.none"], apart := false, laid := [("solder/loghead.none", laid_solder_loghead_none)], narrowed := true }
def LogheadGetsUptoSaid : Prop := logheadGetsUptoRow.holds Tryd.pinned (OpenSpec.upto logheadGetsSpec)

/-- 'solderlaw10.LogheadBack', WHERE WHAT IT READS IS OF BULK AT MOST 1048576: true; the input reads as it did. -/
def logheadBackUptoRow : OpenClaim := { program := "ytdegfkhbcgnmmaadoor", sum := "68ad7031f5dcdca5fc8dad38f8d5cc0667a7a2f5be6d0d91ff94ee2cb6908694", func := "solder/solderlaw10.LogheadBack", spec := "logheadBack", inPlace := ["internal/abi.NoEscape", "internal/bytealg.MakeNoZero"], named := ["solder/loghead.none"], apart := false, laid := [("solder/loghead.none", laid_solder_loghead_none)], narrowed := true }
def LogheadBackUptoSaid : Prop := logheadBackUptoRow.holds Tryd.pinned (OpenSpec.upto logheadBackSpec)

end Rows
end Go.Proofs.YtdegfkhbcgnmmaaDoor
