/-
  A volume's numbers as an argument: opened and shut.
-/
import Derived.Test.YtbmgfdnmjilfdaaRows
import Derived.Test.YtbmgfdnmjilfdaaBox
import Derived.ProofKit
import Derived.OpenShut
import Derived.ChangeSame
import Derived.Deep.Strs
namespace Go.Proofs.Ytbmgfdnmjilfdaa
open Go.ChangeShapes Go.WideShapes Go.ChangeAt Go.RowKit Go.Deep

theorem three_of15 (l : List Value) (h : l.length = 3) : ∃ a b c, l = [a, b, c] := by
  match l, h with
  | [a, b, c], _ => exact ⟨a, b, c, rfl⟩
theorem cf_open {H : Type} {enc : TypeId × Value → H} {W : World} {r : Reach} {b0 : Nat} {v : Value} {d : DataW H} {p : List MemPlace} (hval : Value.okWide Try.prog W r b0 23 v)
    (h : DataW.Trod enc Try.prog W 0 (fun _ => true) true 23 v d p) :
    ∃ a b c : Int, v = .agg #[.int .i64 a, .int .i64 b, .int .i64 c] ∧ d = .agg [.lit (.int .i64 a), .lit (.int .i64 b), .lit (.int .i64 c)] ∧ p = [] ∧ (Lit.int .i64 a).wf = true ∧ (Lit.int .i64 b).wf = true ∧ (Lit.int .i64 c).wf = true := by
  obtain ⟨cs, rfl, hsz, _⟩ : ∃ cs, v = .agg cs ∧ cs.size = Try.prog.cellsOf 23 ∧ Row.okWide Try.prog W r b0 23 cs := by
    simpa [Value.okWide, Try.underlying23] using hval
  have c3 : Try.prog.cellsOf 23 = 3 := by kernel_rfl
  have c1 : Try.prog.cellsOf 3 = 1 := by kernel_rfl
  rw [c3] at hsz
  obtain ⟨l⟩ := cs
  obtain ⟨e0, e1, e2, rfl⟩ := three_of15 l hsz
  obtain ⟨fuel, hf⟩ := h
  obtain ⟨y0, y1, y2, m, hx, _, hy0, hy1, hy2⟩ := trod_struct3 Try.underlying23 hf
  rw [c1] at hy0 hy1 hy2
  obtain ⟨x0, h0, g0, w0⟩ := DataW.trod_int Try.underlying3 hy0
  obtain ⟨x1, h1, g1, w1⟩ := DataW.trod_int Try.underlying3 hy1
  obtain ⟨x2, h2, g2, w2⟩ := DataW.trod_int Try.underlying3 hy2
  obtain rfl : e0 = .int .i64 x0 := by have h : [e0] = [Value.int .i64 x0] := h0; simpa using h
  obtain rfl : e1 = .int .i64 x1 := by have h : [e1] = [Value.int .i64 x1] := h1; simpa using h
  obtain rfl : e2 = .int .i64 x2 := by have h : [e2] = [Value.int .i64 x2] := h2; simpa using h
  subst g0 g1 g2
  obtain ⟨rfl, rfl⟩ := Prod.mk.inj hx
  exact ⟨x0, x1, x2, rfl, rfl, rfl, w0, w1, w2⟩
theorem cf_shut {H : Type} {enc : TypeId × Value → H} {W : World} {base : Nat} {spare : Nat → Bool} {held : Bool} {a b c : Int} (wa : (Lit.int .i64 a).wf = true) (wb : (Lit.int .i64 b).wf = true) (wc : (Lit.int .i64 c).wf = true) :
    DataW.Trod enc Try.prog W base spare held 23 (.agg #[.int .i64 a, .int .i64 b, .int .i64 c]) (.agg [.lit (.int .i64 a), .lit (.int .i64 b), .lit (.int .i64 c)]) [] := by
  have c3 : Try.prog.cellsOf 23 = 3 := by kernel_rfl
  have c1 : Try.prog.cellsOf 3 = 1 := by kernel_rfl
  refine ⟨2, ?_⟩
  have := trod_struct3_mk (enc := enc) (w := W) (base := base) (spare := spare) (held := held) (n := 1) (cs := [.int .i64 a, .int .i64 b, .int .i64 c]) Try.underlying23 (by rw [c3]; rfl)
    (by rw [c1]; exact trod_int_mk 0 Try.underlying3 wa) (by rw [c1]; exact trod_int_mk 0 Try.underlying3 wb) (by rw [c1]; exact trod_int_mk 0 Try.underlying3 wc)
  exact this

end Go.Proofs.Ytbmgfdnmjilfdaa
