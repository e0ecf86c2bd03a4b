/-
  Two entries as an argument: opened.
-/
import Derived.Test.YtoljggleekbbbaaRows
import Derived.Test.YtoljggleekbbbaaNPut
import Derived.ProofKit
import Derived.OpenShut
import Derived.ChangeSame
import Derived.Deep.Strs
namespace Go.Proofs.Ytoljggleekbbbaa
open Go.ChangeShapes Go.WideShapes Go.ChangeAt Go.RowKit Go.Deep

/-- A value that is two entries. -/
def E2At (_ : World) (v : Value) : Prop := ∃ a b s c d u : Int, v = Ev2 a b s c d u
theorem six_of17 (l : List Value) (h : l.length = 6) : ∃ a b c d e f, l = [a, b, c, d, e, f] := by
  match l, h with
  | [a, b, c, d, e, f], _ => exact ⟨a, b, c, d, e, f, rfl⟩
theorem Try.cellsE2 : Try.prog.cellsOf 26 = 6 := by kernel_rfl
theorem Try.cellsE : Try.prog.cellsOf 25 = 3 := by kernel_rfl
theorem Try.cellsV : Try.prog.cellsOf 23 = 2 := by kernel_rfl
theorem Try.cellsInt : Try.prog.cellsOf 3 = 1 := by kernel_rfl
/-- One entry, opened. -/
theorem entry_open17 {H : Type} {enc : TypeId × Value → H} {W : World} {base fuel : Nat} {spare : Nat → Bool} {held : Bool} {e0 e1 e2 : Value} {x : DataW H × List MemPlace}
    (h : DataW.trod enc Try.prog W base spare held fuel 25 [e0, e1, e2] = some x) : ∃ a b s : Int, e0 = .int .i64 a ∧ e1 = .int .i64 b ∧ e2 = .int .i64 s := by
  obtain ⟨y0, y1, n, _, _, hy0, hy1⟩ := trod_struct2 Try.underlying25 h
  have hy0' : DataW.trod enc Try.prog W base spare held n 23 [e0, e1] = some y0 := by rw [Try.cellsV] at hy0; exact hy0
  have hy1' : DataW.trod enc Try.prog W base spare held n 3 [e2] = some y1 := by rw [Try.cellsInt] at hy1; exact hy1
  obtain ⟨z0, z1, m, _, _, hz0, hz1⟩ := trod_struct2 Try.underlying23 hy0'
  rw [Try.cellsInt] at hz0 hz1
  obtain ⟨a, ha, _, _⟩ := DataW.trod_int Try.underlying3 hz0
  obtain ⟨b, hb, _, _⟩ := DataW.trod_int Try.underlying3 hz1
  obtain ⟨s, hs, _, _⟩ := DataW.trod_int Try.underlying3 hy1'
  obtain rfl : e0 = .int .i64 a := by have h : [e0] = [Value.int .i64 a] := ha; simpa using h
  obtain rfl : e1 = .int .i64 b := by have h : [e1] = [Value.int .i64 b] := hb; simpa using h
  obtain rfl : e2 = .int .i64 s := by have h : [e2] = [Value.int .i64 s] := hs; simpa using h
  exact ⟨a, b, s, rfl, rfl, rfl⟩
theorem e2_open {H : Type} {enc : TypeId × Value → H} {W : World} {r : Reach} {b0 : Nat} {v : Value} {d : DataW H} {p : List MemPlace} (hval : Value.okWide Try.prog W r b0 26 v)
    (h : DataW.Trod enc Try.prog W 0 (fun _ => true) true 26 v d p) : E2At W v := by
  obtain ⟨cs, rfl, hsz, _⟩ : ∃ cs, v = .agg cs ∧ cs.size = Try.prog.cellsOf 26 ∧ Row.okWide Try.prog W r b0 26 cs := by
    simpa [Value.okWide, Try.underlying26] using hval
  rw [Try.cellsE2] at hsz
  obtain ⟨l⟩ := cs
  obtain ⟨e0, e1, e2, e3, e4, e5, rfl⟩ := six_of17 l hsz
  obtain ⟨fuel, hf⟩ := h
  obtain ⟨xs, m, _, _, _, hxl, hfld⟩ := DataW.trod_array Try.underlying26 hf
  match xs, hxl with
  | [y0, y1], _ =>
  have g0 := hfld 0 (by decide)
  have g1 := hfld 1 (by decide)
  rw [Try.cellsE] at g0 g1
  obtain ⟨a, b, s, rfl, rfl, rfl⟩ := entry_open17 (e0 := e0) (e1 := e1) (e2 := e2) g0
  obtain ⟨c, dd, u, rfl, rfl, rfl⟩ := entry_open17 (e0 := e3) (e1 := e4) (e2 := e5) g1
  exact ⟨a, b, s, c, dd, u, rfl⟩
theorem entryPuts_open0 {H : Type} {enc : TypeId × Value → H} {W : World} {r : Reach} {b0 : Nat} {v : Value} {d : DataW H} {p : List MemPlace} (hval : Value.okWide Try.prog W r b0 26 v)
    (h : DataW.Trod enc Try.prog W 0 (fun _ => true) true 26 v d p) : E2At W v := e2_open hval h
theorem entryBack_open0 {H : Type} {enc : TypeId × Value → H} {W : World} {r : Reach} {b0 : Nat} {v : Value} {d : DataW H} {p : List MemPlace} (hval : Value.okWide Try.prog W r b0 26 v)
    (h : DataW.Trod enc Try.prog W 0 (fun _ => true) true 26 v d p) : E2At W v := e2_open hval h
theorem entryBack_open2 {H : Type} {enc : TypeId × Value → H} {W : World} {r : Reach} {b0 : Nat} {v : Value} {d : DataW H} {p : List MemPlace} (hval : Value.okWide Try.prog W r b0 36 v)
    (h : DataW.Trod enc Try.prog W 0 (fun _ => true) true 36 v d p) : FourAt W v := four_open hval h
end Go.Proofs.Ytoljggleekbbbaa
