/-
  What a node knows of itself as an argument: opened and shut. What the rows' listed variables give the walks: loghead's none, errors' errorType; the start that fits. What the rows' listed variables give the walks: the start that fits. The walks over SuperPuts' and SuperGets' parameters as they come.
-/
import Derived.Test.YtiflhbjhnonidaaGreatDoorRows
import Derived.Test.YtiflhbjhnonidaaGreatDoorUA
import Derived.Test.YtiflhbjhnonidaaGreatDoorTie
import Derived.Test.YtiflhbjhnonidaaGreatDoorPD
import Derived.Test.YtiflhbjhnonidaaGreatDoorMP
import Derived.Test.YtiflhbjhnonidaaGreatDoorUG
import Derived.ProofKit
import Derived.OpenShut
import Derived.ChangeSame
import Derived.Deep.Strs
import Derived.LaidMore
import Derived.LaidHandle
import Derived.MakeChecks
import Derived.SevenTiedAt
import Derived.Stop.Joined
namespace Go.Proofs.YtiflhbjhnonidaaGreatDoor
open Go.ChangeShapes Go.WideShapes Go.ChangeAt Go.RowKit Go.Deep

theorem seven_of16 (l : List Value) (h : l.length = 7) : ∃ a b c d e f g, l = [a, b, c, d, e, f, g] := by
  match l, h with
  | [a, b, c, d, e, f, g], _ => exact ⟨a, b, c, d, e, f, g, rfl⟩
theorem Tryz.cells16 : Tryz.prog.cellsOf 25 = 7 := by kernel_rfl
theorem Tryz.cells15 : Tryz.prog.cellsOf 23 = 3 := by kernel_rfl
theorem Tryz.cellsI : Tryz.prog.cellsOf 3 = 1 := by kernel_rfl
set_option maxRecDepth 100000 in
theorem su_open {H : Type} {enc : TypeId × Value → H} {W : World} {r : Reach} {b0 : Nat} {v : Value} {d : DataW H} {p : List MemPlace} (hval : Value.okWide Tryz.prog W r b0 25 v)
    (h : DataW.Trod enc Tryz.prog W 0 (fun _ => true) true 25 v d p) :
    ∃ a b c k e s l : Int, v = Sv a b c k e s l ∧ d = .agg [.lit (.int .i64 a), .lit (.int .i64 b), .lit (.int .i64 c), .lit (.int .i64 k), .agg [.lit (.int .i64 e), .lit (.int .i64 s), .lit (.int .i64 l)]] ∧ p = [] ∧
      (Lit.int .i64 a).wf = true ∧ (Lit.int .i64 b).wf = true ∧ (Lit.int .i64 c).wf = true ∧ (Lit.int .i64 k).wf = true ∧ (Lit.int .i64 e).wf = true ∧ (Lit.int .i64 s).wf = true ∧ (Lit.int .i64 l).wf = true := by
  obtain ⟨cs, rfl, hsz, _⟩ : ∃ cs, v = .agg cs ∧ cs.size = Tryz.prog.cellsOf 25 ∧ Row.okWide Tryz.prog W r b0 25 cs := by
    simpa [Value.okWide, Tryz.underlying25] using hval
  rw [Tryz.cells16] at hsz
  obtain ⟨l⟩ := cs
  obtain ⟨e0, e1, e2, e3, e4, e5, e6, rfl⟩ := seven_of16 l hsz
  obtain ⟨fuel, hf⟩ := h
  obtain ⟨xs, k', _, hx, _, hxl, hfld⟩ := DataW.trod_struct Tryz.underlying25 hf
  match xs, hxl with
  | [y0, y1, y2, y3, y4], _ =>
  have hy0 : DataW.trod enc Tryz.prog W 0 (fun _ => true) true k' 3 (([e0, e1, e2, e3, e4, e5, e6].drop 0).take (Tryz.prog.cellsOf 3)) = some y0 := hfld 0 _ rfl
  have hy1 : DataW.trod enc Tryz.prog W 0 (fun _ => true) true k' 3 (([e0, e1, e2, e3, e4, e5, e6].drop 1).take (Tryz.prog.cellsOf 3)) = some y1 := hfld 1 _ rfl
  have hy2 : DataW.trod enc Tryz.prog W 0 (fun _ => true) true k' 3 (([e0, e1, e2, e3, e4, e5, e6].drop 2).take (Tryz.prog.cellsOf 3)) = some y2 := hfld 2 _ rfl
  have hy3 : DataW.trod enc Tryz.prog W 0 (fun _ => true) true k' 3 (([e0, e1, e2, e3, e4, e5, e6].drop 3).take (Tryz.prog.cellsOf 3)) = some y3 := hfld 3 _ rfl
  have hy4 : DataW.trod enc Tryz.prog W 0 (fun _ => true) true k' 23 (([e0, e1, e2, e3, e4, e5, e6].drop 4).take (Tryz.prog.cellsOf 23)) = some y4 := hfld 4 _ rfl
  rw [Tryz.cellsI] at hy0 hy1 hy2 hy3
  rw [Tryz.cells15] at hy4
  obtain ⟨x0, h0, g0, w0⟩ := DataW.trod_int Tryz.underlying3 hy0
  obtain ⟨x1, h1, g1, w1⟩ := DataW.trod_int Tryz.underlying3 hy1
  obtain ⟨x2, h2, g2, w2⟩ := DataW.trod_int Tryz.underlying3 hy2
  obtain ⟨x3, h3, g3, w3⟩ := DataW.trod_int Tryz.underlying3 hy3
  obtain ⟨z0, z1, z2, m, hz, _, hz0, hz1, hz2⟩ := trod_struct3 Tryz.underlying23 hy4
  rw [Tryz.cellsI] at hz0 hz1 hz2
  obtain ⟨x4, h4, g4, w4⟩ := DataW.trod_int Tryz.underlying3 hz0
  obtain ⟨x5, h5, g5, w5⟩ := DataW.trod_int Tryz.underlying3 hz1
  obtain ⟨x6, h6, g6, w6⟩ := DataW.trod_int Tryz.underlying3 hz2
  obtain rfl : e0 = .int .i64 x0 := by have h : [e0] = [Value.int .i64 x0] := h0; simpa using h
  obtain rfl : e1 = .int .i64 x1 := by have h : [e1] = [Value.int .i64 x1] := h1; simpa using h
  obtain rfl : e2 = .int .i64 x2 := by have h : [e2] = [Value.int .i64 x2] := h2; simpa using h
  obtain rfl : e3 = .int .i64 x3 := by have h : [e3] = [Value.int .i64 x3] := h3; simpa using h
  obtain rfl : e4 = .int .i64 x4 := by have h : [e4] = [Value.int .i64 x4] := h4; simpa using h
  obtain rfl : e5 = .int .i64 x5 := by have h : [e5] = [Value.int .i64 x5] := h5; simpa using h
  obtain rfl : e6 = .int .i64 x6 := by have h : [e6] = [Value.int .i64 x6] := h6; simpa using h
  subst g4 g5 g6
  subst hz
  subst g0 g1 g2 g3
  obtain ⟨rfl, rfl⟩ := Prod.mk.inj hx
  exact ⟨x0, x1, x2, x3, x4, x5, x6, rfl, rfl, rfl, w0, w1, w2, w3, w4, w5, w6⟩
set_option maxRecDepth 100000 in
theorem su_shut {H : Type} {enc : TypeId × Value → H} {W : World} {base : Nat} {spare : Nat → Bool} {held : Bool} {a b c k e s l : Int} (wa : (Lit.int .i64 a).wf = true) (wb : (Lit.int .i64 b).wf = true) (wc : (Lit.int .i64 c).wf = true) (wk : (Lit.int .i64 k).wf = true) (we : (Lit.int .i64 e).wf = true) (ws : (Lit.int .i64 s).wf = true) (wl : (Lit.int .i64 l).wf = true) :
    DataW.Trod enc Tryz.prog W base spare held 25 (Sv a b c k e s l) (.agg [.lit (.int .i64 a), .lit (.int .i64 b), .lit (.int .i64 c), .lit (.int .i64 k), .agg [.lit (.int .i64 e), .lit (.int .i64 s), .lit (.int .i64 l)]]) [] := by
  have hI : ∀ (n : Nat) (x : Int), (Lit.int .i64 x).wf = true → DataW.trod enc Tryz.prog W base spare held (n + 1) 3 [.int .i64 x] = some (.lit (.int .i64 x), []) := fun n x wx => trod_int_mk n Tryz.underlying3 wx
  have h3 : DataW.trod enc Tryz.prog W base spare held 2 23 [.int .i64 e, .int .i64 s, .int .i64 l] = some (.agg [.lit (.int .i64 e), .lit (.int .i64 s), .lit (.int .i64 l)], []) :=
    trod_struct3_mk (enc := enc) (w := W) (base := base) (spare := spare) (held := held) (n := 1) (cs := [.int .i64 e, .int .i64 s, .int .i64 l]) Tryz.underlying23 (by rw [Tryz.cells15]; rfl)
      (by rw [Tryz.cellsI]; exact hI 0 e we) (by rw [Tryz.cellsI]; exact hI 0 s ws) (by rw [Tryz.cellsI]; exact hI 0 l wl)
  refine ⟨3, ?_⟩
  have := trod_struct_mk (enc := enc) (w := W) (base := base) (spare := spare) (held := held) (n := 2) (cs := [.int .i64 a, .int .i64 b, .int .i64 c, .int .i64 k, .int .i64 e, .int .i64 s, .int .i64 l])
    (xs := [(.lit (.int .i64 a), []), (.lit (.int .i64 b), []), (.lit (.int .i64 c), []), (.lit (.int .i64 k), []), (.agg [.lit (.int .i64 e), .lit (.int .i64 s), .lit (.int .i64 l)], [])]) Tryz.underlying25 (by rw [Tryz.cells16]; rfl) (by
      simp only [List.mapM_cons, List.mapM_nil, Tryz.cellsI, Tryz.cells15, List.drop_zero, List.drop_succ_cons, List.take_succ_cons, List.take_zero, hI 1 a wa, hI 1 b wb, hI 1 c wc, hI 1 k wk, h3]
      rfl)
  exact this
end Go.Proofs.YtiflhbjhnonidaaGreatDoor
namespace Go.Proofs.YtiflhbjhnonidaaGreatDoor
open Go.ChangeShapes Go.WideShapes Go.ChangeAt Go.RowKit

theorem Tryz.own14 : ownKnob Tryz.prog.godebug = none := by kernel_rfl
def laidL : List (String × DataW Unit) := [("errors.errorType", Rows.laid_errors_errorType), ("solder/loghead.none", Rows.laid_solder_loghead_none)]
theorem door_met (os : Os) (args : Array Value) : laidMetH Tryz.prog laidL ((World.doorLaid Tryz.prog 400 os).forCall (fun _ _ => 0) ⟨#[], args, []⟩).memory :=
  laidMetH_of_parts3 (fuel := 8) (laidMet_of_run' 8 (by kernel_rfl) (by kernel_rfl)) (by kernel_rfl) (by kernel_rfl)
/-- The one that is data: JArg's env_of_laid goes on from here. -/
theorem none_of_laid14 {W : World} (h : laidMetH Tryz.prog laidL W) : laidMet Tryz.prog [("solder/loghead.none", Rows.laid_solder_loghead_none)] W :=
  (show laidMet Tryz.prog [("solder/loghead.none", Rows.laid_solder_loghead_none)] W ∧ handlesMet Tryz.prog [("errors.errorType", Rows.laid_errors_errorType)] W from h).1
theorem Tryz.et14 : Tryz.prog.globalNamed "errors.errorType" = some 1 := by kernel_rfl
theorem Tryz.rt14 : (Tryz.prog.cutTypes.find? (·.1 == "internal/reflectlite.rtype")).map (·.2) = some 204 := by kernel_rfl
theorem Tryz.oneRow14 : ((List.range 269).filter fun t => Tryz.prog.rowNamed t [101, 114, 114, 111, 114]) = [108] := by kernel_rfl
theorem Tryz.size14 : Tryz.prog.types.size = 269 := by kernel_rfl
theorem type_of_laid14 {W : World} (h : laidMetH Tryz.prog laidL W) : W.cell? ⟨1, 0, none⟩ = some (.iface 204 (.agg #[.pointer (some ⟨3, 108, none⟩)])) := by
  have h' : laidMet Tryz.prog [("solder/loghead.none", Rows.laid_solder_loghead_none)] W ∧ handlesMet Tryz.prog [("errors.errorType", Rows.laid_errors_errorType)] W := h
  obtain ⟨name, u, ty, e1, e2, e3, e4, e5⟩ := h'.2 _ (List.mem_singleton.2 rfl)
  have en : name = [101, 114, 114, 111, 114] := (Option.some.inj e1).symm
  subst en
  obtain rfl := Option.some.inj (Tryz.rt14.symm.trans e2)
  have hm : ty ∈ (List.range 269).filter fun t => Tryz.prog.rowNamed t [101, 114, 114, 111, 114] := List.mem_filter.2 ⟨List.mem_range.2 (by rw [← Tryz.size14]; exact e3), e4⟩
  rw [Tryz.oneRow14] at hm
  obtain rfl := List.mem_singleton.1 hm
  have hh : typeHandle Tryz.prog 108 = .pointer (some ⟨3, 108, none⟩) := by kernel_rfl
  rw [hh] at e5
  simpa using World.var?_cell Tryz.et14 e5 0
end Go.Proofs.YtiflhbjhnonidaaGreatDoor
namespace Go.Proofs.YtiflhbjhnonidaaGreatDoor
open Go.ChangeShapes Go.WideShapes Go.ChangeAt Go.RowKit Go.Deep

theorem Tryz.own : ownKnob Tryz.prog.godebug = none := by kernel_rfl
theorem three_of (l : List Value) (h : l.length = 3) : ∃ a b c, l = [a, b, c] := by
  match l, h with
  | [a, b, c], _ => exact ⟨a, b, c, rfl⟩
theorem Tryz.gNoneType : (Tryz.prog.globals[0]?).map (·.type) = some 78 := by kernel_rfl
set_option maxRecDepth 100000 in
/-- What the condition gives the walks. -/
theorem none_env15 {W : World} (h : laidMetH Tryz.prog laidL W) : Env10 W := by
  replace h := none_of_laid14 h
  obtain ⟨ps, ⟨g', t', cs, fuel, p, q, hg', ht', hvar, hd, _, _⟩, _⟩ := h
  obtain rfl := Option.some.inj (Tryz.gNone.symm.trans hg')
  obtain rfl := Option.some.inj (Tryz.gNoneType.symm.trans ht')
  unfold Env10
  rw [hvar]
  have c3 : Tryz.prog.cellsOf 78 = 3 := by kernel_rfl
  have c1 : Tryz.prog.cellsOf 3 = 1 := by kernel_rfl
  obtain ⟨y0, y1, y2, m, hx, hl, hy0, hy1, hy2⟩ := trod_struct3 Tryz.underlying78 hd
  rw [c3] at hl
  obtain ⟨e0, e1, e2, he⟩ := three_of cs.toList (by simpa using hl)
  rw [he] at hy0 hy1 hy2
  rw [c1] at hy0 hy1 hy2
  obtain ⟨x0, h0, g0, w0⟩ := DataW.trod_int Tryz.underlying3 hy0
  obtain ⟨x1, h1, g1, w1⟩ := DataW.trod_int Tryz.underlying3 hy1
  obtain ⟨x2, h2, g2, w2⟩ := DataW.trod_int Tryz.underlying3 hy2
  obtain rfl : e0 = .int .i64 x0 := by have h : [e0] = [Value.int .i64 x0] := h0; simpa using h
  obtain rfl : e1 = .int .i64 x1 := by have h : [e1] = [Value.int .i64 x1] := h1; simpa using h
  obtain rfl : e2 = .int .i64 x2 := by have h : [e2] = [Value.int .i64 x2] := h2; simpa using h
  subst g0 g1 g2
  have hx' := (Prod.mk.inj hx).1
  unfold Rows.laid_solder_loghead_none at hx'
  injection hx' with hx'
  injection hx' with a0 hx'
  injection hx' with a1 hx'
  injection hx' with a2 _
  injection a0 with a0
  injection a0 with _ a0
  injection a1 with a1
  injection a1 with _ a1
  injection a2 with a2
  injection a2 with _ a2
  subst a0 a1 a2
  congr 1
  exact Array.ext' he
/-- What the condition gives the walks. -/
theorem env_of_laid {W : World} (h : laidMetH Tryz.prog laidL W) : Env10 W ∧ ErrT W := ⟨none_env15 h, type_of_laid14 h⟩
end Go.Proofs.YtiflhbjhnonidaaGreatDoor
namespace Go.Proofs.YtiflhbjhnonidaaGreatDoor
open Go.ChangeShapes Go.WideShapes Go.ChangeAt Go.RowKit Go.Deep
theorem superPuts_walk (a b c d e f g : Int) (W : World) (hE : Env10 W ∧ ErrT W) :
    Calls Tryz.prog 3 #[.agg #[.int .i64 a, .int .i64 b, .int .i64 c, .int .i64 d, .int .i64 e, .int .i64 f, .int .i64 g]] W fun en y => en = .returned (.bool true) ∧ Below W.heap.size W y := superPuts_yes a b c d e f g W hE.1 hE.2
theorem superGets_walk (t : ByteArray) (W : World) (hE : Env10 W ∧ ErrT W) :
    Calls Tryz.prog 4 #[.string t] W fun en y => en = .returned (.bool true) ∧ Below W.heap.size W y := superGets_yes t W hE.1 hE.2
end Go.Proofs.YtiflhbjhnonidaaGreatDoor
