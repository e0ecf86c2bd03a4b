/-
  A vector as an argument: opened and shut. What the rows' listed variables give the walks; the start that fits.
-/
import Derived.Test.YtlmnmiomfhgcdaaDoorRows
import Derived.Test.YtlmnmiomfhgcdaaDoorTie
import Derived.Test.YtlmnmiomfhgcdaaDoorText
import Derived.ProofKit
import Derived.LaidMore
import Derived.MakeChecks
import Derived.OpenShut
import Derived.Stop.Joined
import Derived.Stop.LaidErr
import Derived.SevenTiedAt
import Derived.ChangeSame
namespace Go.Proofs.YtlmnmiomfhgcdaaDoor
open Go.ChangeShapes Go.WideShapes Go.ChangeAt Go.RowKit

theorem two_of (l : List Value) (h : l.length = 2) : ∃ a b, l = [a, b] := by
  match l, h with
  | [a, b], _ => exact ⟨a, b, rfl⟩
theorem vec_open {H : Type} {enc : TypeId × Value → H} {W : World} {r : Reach} {b0 : Nat} {v : Value} {d : DataW H} {p : List MemPlace} (hval : Value.okWide Tryd.prog W r b0 23 v)
    (h : DataW.Trod enc Tryd.prog W 0 (fun _ => true) true 23 v d p) :
    ∃ a b : Int, v = .agg #[.int .i64 a, .int .i64 b] ∧ d = .agg [.lit (.int .i64 a), .lit (.int .i64 b)] ∧ p = [] ∧ (Lit.int .i64 a).wf = true ∧ (Lit.int .i64 b).wf = true := by
  obtain ⟨cs, rfl, hsz, _⟩ : ∃ cs, v = .agg cs ∧ cs.size = Tryd.prog.cellsOf 23 ∧ Row.okWide Tryd.prog W r b0 23 cs := by
    simpa [Value.okWide, Tryd.underlying23] using hval
  have c2 : Tryd.prog.cellsOf 23 = 2 := by kernel_rfl
  have c1 : Tryd.prog.cellsOf 3 = 1 := by kernel_rfl
  rw [c2] at hsz
  obtain ⟨l⟩ := cs
  obtain ⟨e0, e1, rfl⟩ := two_of l hsz
  obtain ⟨fuel, hf⟩ := h
  obtain ⟨y0, y1, m, hx, _, hy0, hy1⟩ := trod_struct2 Tryd.underlying23 hf
  rw [c1] at hy0 hy1
  obtain ⟨x0, h0, g0, w0⟩ := DataW.trod_int Tryd.underlying3 hy0
  obtain ⟨x1, h1, g1, w1⟩ := DataW.trod_int Tryd.underlying3 hy1
  obtain rfl : e0 = .int .i64 x0 := by have h : [e0] = [Value.int .i64 x0] := h0; simpa using h
  obtain rfl : e1 = .int .i64 x1 := by have h : [e1] = [Value.int .i64 x1] := h1; simpa using h
  subst g0 g1
  obtain ⟨rfl, rfl⟩ := Prod.mk.inj hx
  exact ⟨x0, x1, rfl, rfl, rfl, w0, w1⟩
theorem vec_shut {H : Type} {enc : TypeId × Value → H} {W : World} {base : Nat} {spare : Nat → Bool} {held : Bool} {a b : Int} (wa : (Lit.int .i64 a).wf = true) (wb : (Lit.int .i64 b).wf = true) :
    DataW.Trod enc Tryd.prog W base spare held 23 (.agg #[.int .i64 a, .int .i64 b]) (.agg [.lit (.int .i64 a), .lit (.int .i64 b)]) [] := by
  have c2 : Tryd.prog.cellsOf 23 = 2 := by kernel_rfl
  have c1 : Tryd.prog.cellsOf 3 = 1 := by kernel_rfl
  refine ⟨2, ?_⟩
  have := trod_struct2_mk (enc := enc) (w := W) (base := base) (spare := spare) (held := held) (n := 1) (cs := [.int .i64 a, .int .i64 b]) Tryd.underlying23 (by rw [c2]; rfl)
    (by rw [c1]; exact trod_int_mk 0 Tryd.underlying3 wa) (by rw [c1]; exact trod_int_mk 0 Tryd.underlying3 wb)
  exact this

theorem Tryd.own : ownKnob Tryd.prog.godebug = none := by kernel_rfl
def laidL : List (String × DataW Unit) := [("math/bits.deBruijn32tab", Rows.laid_math_bits_deBruijn32tab), ("math/bits.deBruijn64tab", Rows.laid_math_bits_deBruijn64tab), ("internal/strconv.uint64pow10", Rows.laid_internal_strconv_uint64pow10)]
/-- The door's own heap meets the condition: three closed facts. -/
theorem door_met (os : Os) (args : Array Value) : laidMetH Tryd.prog laidL ((World.doorLaid Tryd.prog 400 os).forCall (fun _ _ => 0) ⟨#[], args, []⟩).memory :=
  laidMetH_of_parts3 (fuel := 8) (laidMet_of_run' 8 (by kernel_rfl) (by kernel_rfl)) (by kernel_rfl) (by kernel_rfl)
theorem pow10_eq : (Rows.laid_internal_strconv_uint64pow10 : DataW Unit) = Lib.tabData .u64 Lib.pow10Tab := by kernel_rfl
theorem Tryd.gPow : Tryd.prog.globalNamed "internal/strconv.uint64pow10" = some 0 := by kernel_rfl
theorem Tryd.gPowType : (Tryd.prog.globals[0]?).map (·.type) = some 54 := by kernel_rfl
theorem Tryd.cellsU64 : Tryd.prog.cellsOf 47 = 1 := by kernel_rfl
theorem Tryd.cellsTab : Tryd.prog.cellsOf 54 = 20 := by kernel_rfl
/-- What the condition gives the walks. -/
theorem tab_of_laid {W : World} (h : laidMetH Tryd.prog laidL W) : TabE W := by
  rw [MakeChecks.laidMetH_plain _ _ _ (by kernel_rfl)] at h
  have h3 := h.tail.tail
  rw [pow10_eq] at h3
  exact Lib.tabIs_of_head Tryd.gPow Tryd.gPowType Tryd.underlying54 Tryd.underlying47 Tryd.cellsU64 Tryd.cellsTab h3
end Go.Proofs.YtlmnmiomfhgcdaaDoor
