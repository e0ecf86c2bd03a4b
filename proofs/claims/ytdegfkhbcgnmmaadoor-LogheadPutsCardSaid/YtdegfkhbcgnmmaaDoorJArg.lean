/-
  A head as an argument: opened and shut. What the rows' listed variable gives the walks; the start that fits.
-/
import Derived.Test.YtdegfkhbcgnmmaaDoorRows
import Derived.Test.YtdegfkhbcgnmmaaDoorTie
import Derived.Test.YtdegfkhbcgnmmaaDoorJNewer
import Derived.ProofKit
import Derived.LaidMore
import Derived.MakeChecks
import Derived.OpenShut
import Derived.SevenTiedAt
import Derived.ChangeSame
import Derived.Deep.Strs
namespace Go.Proofs.YtdegfkhbcgnmmaaDoor
open Go.ChangeShapes Go.WideShapes Go.ChangeAt Go.RowKit Go.Deep

theorem three_of (l : List Value) (h : l.length = 3) : ∃ a b c, l = [a, b, c] := by
  match l, h with
  | [a, b, c], _ => exact ⟨a, b, c, rfl⟩
theorem hd_open {H : Type} {enc : TypeId × Value → H} {W : World} {r : Reach} {b0 : Nat} {v : Value} {d : DataW H} {p : List MemPlace} (hval : Value.okWide Tryd.prog W r b0 23 v)
    (h : DataW.Trod enc Tryd.prog W 0 (fun _ => true) true 23 v d p) :
    ∃ a b c : Int, v = .agg #[.int .i64 a, .int .i64 b, .int .i64 c] ∧ d = .agg [.lit (.int .i64 a), .lit (.int .i64 b), .lit (.int .i64 c)] ∧ p = [] ∧ (Lit.int .i64 a).wf = true ∧ (Lit.int .i64 b).wf = true ∧ (Lit.int .i64 c).wf = true := by
  obtain ⟨cs, rfl, hsz, _⟩ : ∃ cs, v = .agg cs ∧ cs.size = Tryd.prog.cellsOf 23 ∧ Row.okWide Tryd.prog W r b0 23 cs := by
    simpa [Value.okWide, Tryd.underlying23] using hval
  have c3 : Tryd.prog.cellsOf 23 = 3 := by kernel_rfl
  have c1 : Tryd.prog.cellsOf 3 = 1 := by kernel_rfl
  rw [c3] at hsz
  obtain ⟨l⟩ := cs
  obtain ⟨e0, e1, e2, rfl⟩ := three_of l hsz
  obtain ⟨fuel, hf⟩ := h
  obtain ⟨y0, y1, y2, m, hx, _, hy0, hy1, hy2⟩ := trod_struct3 Tryd.underlying23 hf
  rw [c1] at hy0 hy1 hy2
  obtain ⟨x0, h0, g0, w0⟩ := DataW.trod_int Tryd.underlying3 hy0
  obtain ⟨x1, h1, g1, w1⟩ := DataW.trod_int Tryd.underlying3 hy1
  obtain ⟨x2, h2, g2, w2⟩ := DataW.trod_int Tryd.underlying3 hy2
  obtain rfl : e0 = .int .i64 x0 := by have h : [e0] = [Value.int .i64 x0] := h0; simpa using h
  obtain rfl : e1 = .int .i64 x1 := by have h : [e1] = [Value.int .i64 x1] := h1; simpa using h
  obtain rfl : e2 = .int .i64 x2 := by have h : [e2] = [Value.int .i64 x2] := h2; simpa using h
  subst g0 g1 g2
  obtain ⟨rfl, rfl⟩ := Prod.mk.inj hx
  exact ⟨x0, x1, x2, rfl, rfl, rfl, w0, w1, w2⟩
theorem hd_shut {H : Type} {enc : TypeId × Value → H} {W : World} {base : Nat} {spare : Nat → Bool} {held : Bool} {a b c : Int} (wa : (Lit.int .i64 a).wf = true) (wb : (Lit.int .i64 b).wf = true) (wc : (Lit.int .i64 c).wf = true) :
    DataW.Trod enc Tryd.prog W base spare held 23 (.agg #[.int .i64 a, .int .i64 b, .int .i64 c]) (.agg [.lit (.int .i64 a), .lit (.int .i64 b), .lit (.int .i64 c)]) [] := by
  have c3 : Tryd.prog.cellsOf 23 = 3 := by kernel_rfl
  have c1 : Tryd.prog.cellsOf 3 = 1 := by kernel_rfl
  refine ⟨2, ?_⟩
  have := trod_struct3_mk (enc := enc) (w := W) (base := base) (spare := spare) (held := held) (n := 1) (cs := [.int .i64 a, .int .i64 b, .int .i64 c]) Tryd.underlying23 (by rw [c3]; rfl)
    (by rw [c1]; exact trod_int_mk 0 Tryd.underlying3 wa) (by rw [c1]; exact trod_int_mk 0 Tryd.underlying3 wb) (by rw [c1]; exact trod_int_mk 0 Tryd.underlying3 wc)
  exact this

theorem Tryd.own : ownKnob Tryd.prog.godebug = none := by kernel_rfl
def laidL : List (String × DataW Unit) := [("solder/loghead.none", Rows.laid_solder_loghead_none)]
/-- The door's own heap meets the condition: three closed facts. -/
theorem door_met (os : Os) (args : Array Value) : laidMetH Tryd.prog laidL ((World.doorLaid Tryd.prog 400 os).forCall (fun _ _ => 0) ⟨#[], args, []⟩).memory :=
  laidMetH_of_parts3 (fuel := 8) (laidMet_of_run' 8 (by kernel_rfl) (by kernel_rfl)) (by kernel_rfl) (by kernel_rfl)
theorem Tryd.gNoneType : (Tryd.prog.globals[0]?).map (·.type) = some 28 := by kernel_rfl
/-- What the condition gives the walks. -/
theorem env_of_laid {W : World} (h : laidMetH Tryd.prog laidL W) : Env10 W := by
  rw [MakeChecks.laidMetH_plain _ _ _ (by kernel_rfl)] at h
  obtain ⟨ps, ⟨g', t', cs, fuel, p, q, hg', ht', hvar, hd, _, _⟩, _⟩ := h
  obtain rfl := Option.some.inj (Tryd.gNone.symm.trans hg')
  obtain rfl := Option.some.inj (Tryd.gNoneType.symm.trans ht')
  unfold Env10
  rw [hvar]
  have c3 : Tryd.prog.cellsOf 28 = 3 := by kernel_rfl
  have c1 : Tryd.prog.cellsOf 3 = 1 := by kernel_rfl
  obtain ⟨y0, y1, y2, m, hx, hl, hy0, hy1, hy2⟩ := trod_struct3 Tryd.underlying28 hd
  rw [c3] at hl
  obtain ⟨e0, e1, e2, he⟩ := three_of cs.toList (by simpa using hl)
  rw [he] at hy0 hy1 hy2
  rw [c1] at hy0 hy1 hy2
  obtain ⟨x0, h0, g0, w0⟩ := DataW.trod_int Tryd.underlying3 hy0
  obtain ⟨x1, h1, g1, w1⟩ := DataW.trod_int Tryd.underlying3 hy1
  obtain ⟨x2, h2, g2, w2⟩ := DataW.trod_int Tryd.underlying3 hy2
  obtain rfl : e0 = .int .i64 x0 := by have h : [e0] = [Value.int .i64 x0] := h0; simpa using h
  obtain rfl : e1 = .int .i64 x1 := by have h : [e1] = [Value.int .i64 x1] := h1; simpa using h
  obtain rfl : e2 = .int .i64 x2 := by have h : [e2] = [Value.int .i64 x2] := h2; simpa using h
  subst g0 g1 g2
  have hx' := (Prod.mk.inj hx).1
  unfold Rows.laid_solder_loghead_none at hx'
  injection hx' with hx'
  injection hx' with a0 hx'
  injection hx' with a1 hx'
  injection hx' with a2 _
  injection a0 with a0
  injection a0 with _ a0
  injection a1 with a1
  injection a1 with _ a1
  injection a2 with a2
  injection a2 with _ a2
  subst a0 a1 a2
  congr 1
  exact Array.ext' he
theorem logheadBack_open3 {H : Type} {enc : TypeId × Value → H} {W : World} {r : Reach} {b0 : Nat} {v : Value} {d : DataW H} {p : List MemPlace} (hval : Value.okWide Tryd.prog W r b0 39 v)
    (h : DataW.Trod enc Tryd.prog W 0 (fun _ => true) true 39 v d p) : FourAt W v := four_open hval h
end Go.Proofs.YtdegfkhbcgnmmaaDoor
