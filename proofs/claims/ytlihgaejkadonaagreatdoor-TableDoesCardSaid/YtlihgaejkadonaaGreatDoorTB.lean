/-
  What the rows' listed variables give the walks: loghead's none, errors' errorType; the start that fits. What the rows' listed variables give the walks: the start that fits.
-/
import Derived.Test.YtlihgaejkadonaaGreatDoorRows
import Derived.Test.YtlihgaejkadonaaGreatDoorTie
import Derived.Test.YtlihgaejkadonaaGreatDoorPD
import Derived.Test.YtlihgaejkadonaaGreatDoorMP
import Derived.ProofKit
import Derived.LaidMore
import Derived.LaidHandle
import Derived.MakeChecks
import Derived.OpenShut
import Derived.SevenTiedAt
import Derived.ChangeSame
import Derived.Stop.Joined
import Derived.Deep.Strs
namespace Go.Proofs.YtlihgaejkadonaaGreatDoor
open Go.ChangeShapes Go.WideShapes Go.ChangeAt Go.RowKit

theorem Tryz.own14 : ownKnob Tryz.prog.godebug = none := by kernel_rfl
def laidL : List (String × DataW Unit) := [("errors.errorType", Rows.laid_errors_errorType), ("solder/loghead.none", Rows.laid_solder_loghead_none)]
theorem door_met (os : Os) (args : Array Value) : laidMetH Tryz.prog laidL ((World.doorLaid Tryz.prog 400 os).forCall (fun _ _ => 0) ⟨#[], args, []⟩).memory :=
  laidMetH_of_parts3 (fuel := 8) (laidMet_of_run' 8 (by kernel_rfl) (by kernel_rfl)) (by kernel_rfl) (by kernel_rfl)
/-- The one that is data: JArg's env_of_laid goes on from here. -/
theorem none_of_laid14 {W : World} (h : laidMetH Tryz.prog laidL W) : laidMet Tryz.prog [("solder/loghead.none", Rows.laid_solder_loghead_none)] W :=
  (show laidMet Tryz.prog [("solder/loghead.none", Rows.laid_solder_loghead_none)] W ∧ handlesMet Tryz.prog [("errors.errorType", Rows.laid_errors_errorType)] W from h).1
theorem Tryz.et14 : Tryz.prog.globalNamed "errors.errorType" = some 1 := by kernel_rfl
theorem Tryz.rt14 : (Tryz.prog.cutTypes.find? (·.1 == "internal/reflectlite.rtype")).map (·.2) = some 227 := by kernel_rfl
theorem Tryz.oneRow14 : ((List.range 293).filter fun t => Tryz.prog.rowNamed t [101, 114, 114, 111, 114]) = [111] := by kernel_rfl
theorem Tryz.size14 : Tryz.prog.types.size = 293 := by kernel_rfl
theorem type_of_laid14 {W : World} (h : laidMetH Tryz.prog laidL W) : W.cell? ⟨1, 0, none⟩ = some (.iface 227 (.agg #[.pointer (some ⟨3, 111, none⟩)])) := by
  have h' : laidMet Tryz.prog [("solder/loghead.none", Rows.laid_solder_loghead_none)] W ∧ handlesMet Tryz.prog [("errors.errorType", Rows.laid_errors_errorType)] W := h
  obtain ⟨name, u, ty, e1, e2, e3, e4, e5⟩ := h'.2 _ (List.mem_singleton.2 rfl)
  have en : name = [101, 114, 114, 111, 114] := (Option.some.inj e1).symm
  subst en
  obtain rfl := Option.some.inj (Tryz.rt14.symm.trans e2)
  have hm : ty ∈ (List.range 293).filter fun t => Tryz.prog.rowNamed t [101, 114, 114, 111, 114] := List.mem_filter.2 ⟨List.mem_range.2 (by rw [← Tryz.size14]; exact e3), e4⟩
  rw [Tryz.oneRow14] at hm
  obtain rfl := List.mem_singleton.1 hm
  have hh : typeHandle Tryz.prog 111 = .pointer (some ⟨3, 111, none⟩) := by kernel_rfl
  rw [hh] at e5
  simpa using World.var?_cell Tryz.et14 e5 0
end Go.Proofs.YtlihgaejkadonaaGreatDoor
namespace Go.Proofs.YtlihgaejkadonaaGreatDoor
open Go.ChangeShapes Go.WideShapes Go.ChangeAt Go.RowKit Go.Deep

theorem Tryz.own : ownKnob Tryz.prog.godebug = none := by kernel_rfl
theorem three_of (l : List Value) (h : l.length = 3) : ∃ a b c, l = [a, b, c] := by
  match l, h with
  | [a, b, c], _ => exact ⟨a, b, c, rfl⟩
theorem Tryz.gNoneType : (Tryz.prog.globals[0]?).map (·.type) = some 90 := by kernel_rfl
set_option maxRecDepth 100000 in
/-- What the condition gives the walks. -/
theorem none_env15 {W : World} (h : laidMetH Tryz.prog laidL W) : Env10 W := by
  replace h := none_of_laid14 h
  obtain ⟨ps, ⟨g', t', cs, fuel, p, q, hg', ht', hvar, hd, _, _⟩, _⟩ := h
  obtain rfl := Option.some.inj (Tryz.gNone.symm.trans hg')
  obtain rfl := Option.some.inj (Tryz.gNoneType.symm.trans ht')
  unfold Env10
  rw [hvar]
  have c3 : Tryz.prog.cellsOf 90 = 3 := by kernel_rfl
  have c1 : Tryz.prog.cellsOf 3 = 1 := by kernel_rfl
  obtain ⟨y0, y1, y2, m, hx, hl, hy0, hy1, hy2⟩ := trod_struct3 Tryz.underlying90 hd
  rw [c3] at hl
  obtain ⟨e0, e1, e2, he⟩ := three_of cs.toList (by simpa using hl)
  rw [he] at hy0 hy1 hy2
  rw [c1] at hy0 hy1 hy2
  obtain ⟨x0, h0, g0, w0⟩ := DataW.trod_int Tryz.underlying3 hy0
  obtain ⟨x1, h1, g1, w1⟩ := DataW.trod_int Tryz.underlying3 hy1
  obtain ⟨x2, h2, g2, w2⟩ := DataW.trod_int Tryz.underlying3 hy2
  obtain rfl : e0 = .int .i64 x0 := by have h : [e0] = [Value.int .i64 x0] := h0; simpa using h
  obtain rfl : e1 = .int .i64 x1 := by have h : [e1] = [Value.int .i64 x1] := h1; simpa using h
  obtain rfl : e2 = .int .i64 x2 := by have h : [e2] = [Value.int .i64 x2] := h2; simpa using h
  subst g0 g1 g2
  have hx' := (Prod.mk.inj hx).1
  unfold Rows.laid_solder_loghead_none at hx'
  injection hx' with hx'
  injection hx' with a0 hx'
  injection hx' with a1 hx'
  injection hx' with a2 _
  injection a0 with a0
  injection a0 with _ a0
  injection a1 with a1
  injection a1 with _ a1
  injection a2 with a2
  injection a2 with _ a2
  subst a0 a1 a2
  congr 1
  exact Array.ext' he
/-- What the condition gives the walks. -/
theorem env_of_laid {W : World} (h : laidMetH Tryz.prog laidL W) : Env10 W ∧ ErrT W := ⟨none_env15 h, type_of_laid14 h⟩
end Go.Proofs.YtlihgaejkadonaaGreatDoor
