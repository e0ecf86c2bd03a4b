/-
  Walks over cyclic's State (New, Add, Sum) and over solderlaw03.CyclicPieces.
-/
import Derived.Test.YtngdacnbjdhjaaaCLawOf
import Derived.Deep.SlicePairs
import Derived.ChangeOld
import Derived.ProofKit
import Derived.OpenShut
namespace Go.Proofs.Ytngdacnbjdhjaaa
open Go.RowKit Go.ChangeShapes Go.WideShapes Go.ChangeAt Go.Deep

theorem ext_of (a s : List UInt8) : M.run (M.of a ^^^ 4294967295) s ^^^ 4294967295 = M.of (a ++ s) := by
  rw [M.of, M.xor_turn, M.of, M.run_app]

theorem new_any (w : World) :
    Calls Try.prog 12 #[] w fun e w' => e = .returned (.pointer (some ⟨w.heap.size, 0, none⟩)) ∧ w' = w.alloc (.cells #[.int .u32 0] 40) := by
  go_enter Try.func12, Try.ntmps12
  go_wp2_with fail
  go_ret
  exact ⟨rfl, rfl⟩
theorem add_nil (s : ByteArray) (w : World) : Calls Try.prog 13 #[.pointer none, .string s] w fun e w' => e = .returned (.tuple #[]) ∧ w = w' := by
  go_enter Try.func13, Try.ntmps13
  go_wp2_with fail
  go_end0
  exact ⟨rfl, rfl⟩
theorem add_any (b n : Nat) (s : ByteArray) (w : World) (h : n < 4294967296) (hs : s.size ≤ 9223372036854775807) (hB : Box w b 40 #[.int .u32 n]) :
    Calls Try.prog 13 #[.pointer (some ⟨b, 0, none⟩), .string s] w fun e w' => e = .returned (.tuple #[]) ∧ w' = w.setCell ⟨b, 0, none⟩ (.int .u32 ((M.run (n ^^^ 4294967295) s.data.toList ^^^ 4294967295 : Nat) : Int)) := by
  have HC := Lib.hid (extend_any n s w h hs)
  obtain ⟨q, hq⟩ : ∃ q, q = M.run (n ^^^ 4294967295) s.data.toList ^^^ 4294967295 := ⟨_, rfl⟩
  rw [← hq] at HC
  rw [← hq]
  clear hq
  have h0 := hB.cell 0
  have h1 := hB.frozen 0
  have HB := Lib.hid hB; clear hB
  simp at h0
  go_enter Try.func13, Try.ntmps13
  go_wp2_with fail
  refine HC.out.mono ?_
  rintro e w1 ⟨rfl, rfl⟩
  go_wp2_with fail
  go_end0
  exact ⟨rfl, rfl⟩
theorem sum_nil (w : World) : Calls Try.prog 14 #[.pointer none] w fun e w' => e = .returned (.int .i64 0) ∧ w = w' := by
  go_enter Try.func14, Try.ntmps14
  go_wp2_with fail
  go_ret
  exact ⟨rfl, rfl⟩
theorem sum_any (b n : Nat) (w : World) (h : n < 4294967296) (hB : Box w b 40 #[.int .u32 n]) :
    Calls Try.prog 14 #[.pointer (some ⟨b, 0, none⟩)] w fun e w' => e = .returned (.int .i64 n) ∧ w = w' := by
  have h0 := hB.cell 0
  have HB := Lib.hid hB; clear hB
  simp at h0
  go_enter Try.func14, Try.ntmps14
  go_wp2_with fail
  go_ret
  exact ⟨rfl, rfl⟩

theorem add_block (a : Addr) (n : Nat) : (a.add n).block = a.block := by unfold Addr.add; split <;> rfl
/-- v is a slice of strings: at each index one stands, in a block of w. -/
def StrsAt (w : World) (v : Value) : Prop := ∃ (A : Option Addr) (len cap : Nat), v = .slice A len cap ∧
  ∀ i, i < len → ∃ (ad : Addr) (s : ByteArray), A = some ad ∧ ad.block < w.heap.size ∧ w.cell? (ad.add i) = some (.string s)

theorem cyclicPieces_open0 {H : Type} {enc : TypeId × Value → H} {W : World} {r : Reach} {b0 : Nat} {v : Value} {d : DataW H} {p : List MemPlace} (hval : Value.okWide Try.prog W r b0 26 v)
    (h : DataW.Trod enc Try.prog W 0 (fun _ => true) true 26 v d p) : StrsAt W v := by
  obtain ⟨A, len, cap, rfl⟩ := okWide_slice Try.underlying26 hval
  obtain ⟨fuel, hf⟩ := h
  rcases open_slice1 Try.underlying26 (by kernel_rfl) hf with ⟨hc, _⟩ | ⟨a, l, c, m, k, V, D, Pl, hc, _, hl, _, hmm, _, hall⟩
  · simp [Value.cells] at hc
    obtain ⟨rfl, rfl, rfl⟩ := hc
    exact ⟨none, 0, 0, rfl, fun i hi => absurd hi (by omega)⟩
  · simp [Value.cells] at hc
    obtain ⟨rfl, rfl, rfl⟩ := hc
    simp only [if_true] at hmm
    subst hmm
    refine ⟨some a, len, m, rfl, fun i hi => ?_⟩
    obtain ⟨c0, t0⟩ := hall i (by omega)
    obtain ⟨s, h1, _⟩ := DataW.trod_string Try.underlying9 t0
    simp only [List.cons.injEq, and_true] at h1
    rw [h1] at c0
    have hlt := World.block_lt_of_cell? W _ c0
    rw [add_block] at hlt
    exact ⟨a, s, rfl, hlt, c0⟩
end Go.Proofs.Ytngdacnbjdhjaaa
