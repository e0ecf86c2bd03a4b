/-
  What the rows' listed variables give the walks: loghead's none, errors' errorType; the start that fits. What the rows' listed variables give the walks: the start that fits. A volume's numbers as an argument: opened and shut.
-/
import Derived.Test.YtmgchfjfkdkaoaaGreatDoorRows
import Derived.Test.YtmgchfjfkdkaoaaGreatDoorTie
import Derived.Test.YtmgchfjfkdkaoaaGreatDoorPD
import Derived.Test.YtmgchfjfkdkaoaaGreatDoorMP
import Derived.Test.YtmgchfjfkdkaoaaGreatDoorMA
import Derived.ProofKit
import Derived.LaidMore
import Derived.LaidHandle
import Derived.MakeChecks
import Derived.OpenShut
import Derived.SevenTiedAt
import Derived.ChangeSame
import Derived.Stop.Joined
import Derived.Deep.Strs
namespace Go.Proofs.YtmgchfjfkdkaoaaGreatDoor
open Go.ChangeShapes Go.WideShapes Go.ChangeAt Go.RowKit

theorem Tryz.own14 : ownKnob Tryz.prog.godebug = none := by kernel_rfl
def laidL : List (String × DataW Unit) := [("errors.errorType", Rows.laid_errors_errorType), ("solder/loghead.none", Rows.laid_solder_loghead_none)]
theorem door_met (os : Os) (args : Array Value) : laidMetH Tryz.prog laidL ((World.doorLaid Tryz.prog 400 os).forCall (fun _ _ => 0) ⟨#[], args, []⟩).memory :=
  laidMetH_of_parts3 (fuel := 8) (laidMet_of_run' 8 (by kernel_rfl) (by kernel_rfl)) (by kernel_rfl) (by kernel_rfl)
/-- The one that is data: JArg's env_of_laid goes on from here. -/
theorem none_of_laid14 {W : World} (h : laidMetH Tryz.prog laidL W) : laidMet Tryz.prog [("solder/loghead.none", Rows.laid_solder_loghead_none)] W :=
  (show laidMet Tryz.prog [("solder/loghead.none", Rows.laid_solder_loghead_none)] W ∧ handlesMet Tryz.prog [("errors.errorType", Rows.laid_errors_errorType)] W from h).1
theorem Tryz.et14 : Tryz.prog.globalNamed "errors.errorType" = some 1 := by kernel_rfl
theorem Tryz.rt14 : (Tryz.prog.cutTypes.find? (·.1 == "internal/reflectlite.rtype")).map (·.2) = some 203 := by kernel_rfl
theorem Tryz.oneRow14 : ((List.range 271).filter fun t => Tryz.prog.rowNamed t [101, 114, 114, 111, 114]) = [95] := by kernel_rfl
theorem Tryz.size14 : Tryz.prog.types.size = 271 := by kernel_rfl
theorem type_of_laid14 {W : World} (h : laidMetH Tryz.prog laidL W) : W.cell? ⟨1, 0, none⟩ = some (.iface 203 (.agg #[.pointer (some ⟨3, 95, none⟩)])) := by
  have h' : laidMet Tryz.prog [("solder/loghead.none", Rows.laid_solder_loghead_none)] W ∧ handlesMet Tryz.prog [("errors.errorType", Rows.laid_errors_errorType)] W := h
  obtain ⟨name, u, ty, e1, e2, e3, e4, e5⟩ := h'.2 _ (List.mem_singleton.2 rfl)
  have en : name = [101, 114, 114, 111, 114] := (Option.some.inj e1).symm
  subst en
  obtain rfl := Option.some.inj (Tryz.rt14.symm.trans e2)
  have hm : ty ∈ (List.range 271).filter fun t => Tryz.prog.rowNamed t [101, 114, 114, 111, 114] := List.mem_filter.2 ⟨List.mem_range.2 (by rw [← Tryz.size14]; exact e3), e4⟩
  rw [Tryz.oneRow14] at hm
  obtain rfl := List.mem_singleton.1 hm
  have hh : typeHandle Tryz.prog 95 = .pointer (some ⟨3, 95, none⟩) := by kernel_rfl
  rw [hh] at e5
  simpa using World.var?_cell Tryz.et14 e5 0
end Go.Proofs.YtmgchfjfkdkaoaaGreatDoor
namespace Go.Proofs.YtmgchfjfkdkaoaaGreatDoor
open Go.ChangeShapes Go.WideShapes Go.ChangeAt Go.RowKit Go.Deep

theorem Tryz.own : ownKnob Tryz.prog.godebug = none := by kernel_rfl
theorem three_of (l : List Value) (h : l.length = 3) : ∃ a b c, l = [a, b, c] := by
  match l, h with
  | [a, b, c], _ => exact ⟨a, b, c, rfl⟩
theorem Tryz.gNoneType : (Tryz.prog.globals[0]?).map (·.type) = some 73 := by kernel_rfl
set_option maxRecDepth 100000 in
/-- What the condition gives the walks. -/
theorem none_env15 {W : World} (h : laidMetH Tryz.prog laidL W) : Env10 W := by
  replace h := none_of_laid14 h
  obtain ⟨ps, ⟨g', t', cs, fuel, p, q, hg', ht', hvar, hd, _, _⟩, _⟩ := h
  obtain rfl := Option.some.inj (Tryz.gNone.symm.trans hg')
  obtain rfl := Option.some.inj (Tryz.gNoneType.symm.trans ht')
  unfold Env10
  rw [hvar]
  have c3 : Tryz.prog.cellsOf 73 = 3 := by kernel_rfl
  have c1 : Tryz.prog.cellsOf 3 = 1 := by kernel_rfl
  obtain ⟨y0, y1, y2, m, hx, hl, hy0, hy1, hy2⟩ := trod_struct3 Tryz.underlying73 hd
  rw [c3] at hl
  obtain ⟨e0, e1, e2, he⟩ := three_of cs.toList (by simpa using hl)
  rw [he] at hy0 hy1 hy2
  rw [c1] at hy0 hy1 hy2
  obtain ⟨x0, h0, g0, w0⟩ := DataW.trod_int Tryz.underlying3 hy0
  obtain ⟨x1, h1, g1, w1⟩ := DataW.trod_int Tryz.underlying3 hy1
  obtain ⟨x2, h2, g2, w2⟩ := DataW.trod_int Tryz.underlying3 hy2
  obtain rfl : e0 = .int .i64 x0 := by have h : [e0] = [Value.int .i64 x0] := h0; simpa using h
  obtain rfl : e1 = .int .i64 x1 := by have h : [e1] = [Value.int .i64 x1] := h1; simpa using h
  obtain rfl : e2 = .int .i64 x2 := by have h : [e2] = [Value.int .i64 x2] := h2; simpa using h
  subst g0 g1 g2
  have hx' := (Prod.mk.inj hx).1
  unfold Rows.laid_solder_loghead_none at hx'
  injection hx' with hx'
  injection hx' with a0 hx'
  injection hx' with a1 hx'
  injection hx' with a2 _
  injection a0 with a0
  injection a0 with _ a0
  injection a1 with a1
  injection a1 with _ a1
  injection a2 with a2
  injection a2 with _ a2
  subst a0 a1 a2
  congr 1
  exact Array.ext' he
/-- What the condition gives the walks. -/
theorem env_of_laid {W : World} (h : laidMetH Tryz.prog laidL W) : Env10 W ∧ ErrT W := ⟨none_env15 h, type_of_laid14 h⟩
end Go.Proofs.YtmgchfjfkdkaoaaGreatDoor
namespace Go.Proofs.YtmgchfjfkdkaoaaGreatDoor
open Go.ChangeShapes Go.WideShapes Go.ChangeAt Go.RowKit Go.Deep

theorem three_of15 (l : List Value) (h : l.length = 3) : ∃ a b c, l = [a, b, c] := by
  match l, h with
  | [a, b, c], _ => exact ⟨a, b, c, rfl⟩
set_option maxRecDepth 100000 in
theorem cf_open {H : Type} {enc : TypeId × Value → H} {W : World} {r : Reach} {b0 : Nat} {v : Value} {d : DataW H} {p : List MemPlace} (hval : Value.okWide Tryz.prog W r b0 23 v)
    (h : DataW.Trod enc Tryz.prog W 0 (fun _ => true) true 23 v d p) :
    ∃ a b c : Int, v = .agg #[.int .i64 a, .int .i64 b, .int .i64 c] ∧ d = .agg [.lit (.int .i64 a), .lit (.int .i64 b), .lit (.int .i64 c)] ∧ p = [] ∧ (Lit.int .i64 a).wf = true ∧ (Lit.int .i64 b).wf = true ∧ (Lit.int .i64 c).wf = true := by
  obtain ⟨cs, rfl, hsz, _⟩ : ∃ cs, v = .agg cs ∧ cs.size = Tryz.prog.cellsOf 23 ∧ Row.okWide Tryz.prog W r b0 23 cs := by
    simpa [Value.okWide, Tryz.underlying23] using hval
  have c3 : Tryz.prog.cellsOf 23 = 3 := by kernel_rfl
  have c1 : Tryz.prog.cellsOf 3 = 1 := by kernel_rfl
  rw [c3] at hsz
  obtain ⟨l⟩ := cs
  obtain ⟨e0, e1, e2, rfl⟩ := three_of15 l hsz
  obtain ⟨fuel, hf⟩ := h
  obtain ⟨y0, y1, y2, m, hx, _, hy0, hy1, hy2⟩ := trod_struct3 Tryz.underlying23 hf
  rw [c1] at hy0 hy1 hy2
  obtain ⟨x0, h0, g0, w0⟩ := DataW.trod_int Tryz.underlying3 hy0
  obtain ⟨x1, h1, g1, w1⟩ := DataW.trod_int Tryz.underlying3 hy1
  obtain ⟨x2, h2, g2, w2⟩ := DataW.trod_int Tryz.underlying3 hy2
  obtain rfl : e0 = .int .i64 x0 := by have h : [e0] = [Value.int .i64 x0] := h0; simpa using h
  obtain rfl : e1 = .int .i64 x1 := by have h : [e1] = [Value.int .i64 x1] := h1; simpa using h
  obtain rfl : e2 = .int .i64 x2 := by have h : [e2] = [Value.int .i64 x2] := h2; simpa using h
  subst g0 g1 g2
  obtain ⟨rfl, rfl⟩ := Prod.mk.inj hx
  exact ⟨x0, x1, x2, rfl, rfl, rfl, w0, w1, w2⟩
set_option maxRecDepth 100000 in
theorem cf_shut {H : Type} {enc : TypeId × Value → H} {W : World} {base : Nat} {spare : Nat → Bool} {held : Bool} {a b c : Int} (wa : (Lit.int .i64 a).wf = true) (wb : (Lit.int .i64 b).wf = true) (wc : (Lit.int .i64 c).wf = true) :
    DataW.Trod enc Tryz.prog W base spare held 23 (.agg #[.int .i64 a, .int .i64 b, .int .i64 c]) (.agg [.lit (.int .i64 a), .lit (.int .i64 b), .lit (.int .i64 c)]) [] := by
  have c3 : Tryz.prog.cellsOf 23 = 3 := by kernel_rfl
  have c1 : Tryz.prog.cellsOf 3 = 1 := by kernel_rfl
  refine ⟨2, ?_⟩
  have := trod_struct3_mk (enc := enc) (w := W) (base := base) (spare := spare) (held := held) (n := 1) (cs := [.int .i64 a, .int .i64 b, .int .i64 c]) Tryz.underlying23 (by rw [c3]; rfl)
    (by rw [c1]; exact trod_int_mk 0 Tryz.underlying3 wa) (by rw [c1]; exact trod_int_mk 0 Tryz.underlying3 wb) (by rw [c1]; exact trod_int_mk 0 Tryz.underlying3 wc)
  exact this

end Go.Proofs.YtmgchfjfkdkaoaaGreatDoor
