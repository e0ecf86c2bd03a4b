/-
  The argument l of solderlaw02.FieldReads, opened to its cells.
-/
import Derived.Test.YtdhagdggfhjokaaFLawPuts
import Derived.Test.YtdhagdggfhjokaaFRef
import Derived.Deep.SlicePairs
import Derived.ChangeOld
import Derived.ProofKit
import Derived.OpenShut
namespace Go.Proofs.Ytdhagdggfhjokaa
open Go.RowKit Go.ChangeShapes Go.WideShapes Go.ChangeAt Go.Deep

theorem blk_add (a : Addr) (n : Nat) : (a.add n).block = a.block := by unfold Addr.add; split <;> rfl

/-- v is a slice of reads: at each index a bool and a number stand, in a block of w. -/
def OpsAt (w : World) (v : Value) : Prop := ∃ (A : Option Addr) (len cap : Nat), v = .slice A len cap ∧
  ∀ i, i < len → ∃ (ad : Addr) (b : Bool) (n : Int), A = some ad ∧ ad.block < w.heap.size ∧ w.cell? (ad.add (i * 2)) = some (.bool b) ∧ w.cell? (ad.add (i * 2 + 1)) = some (.int .i64 n) ∧ -9223372036854775808 ≤ n ∧ n ≤ 9223372036854775807

theorem fieldReads_open1 {H : Type} {enc : TypeId × Value → H} {W : World} {r : Reach} {b0 : Nat} {v : Value} {d : DataW H} {p : List MemPlace} (hval : Value.okWide Try.prog W r b0 26 v)
    (h : DataW.Trod enc Try.prog W 0 (fun _ => true) true 26 v d p) : OpsAt W v := by
  obtain ⟨A, len, cap, rfl⟩ := okWide_slice Try.underlying26 hval
  obtain ⟨fuel, hf⟩ := h
  rcases open_slice_pairs Try.underlying26 Try.underlying34 (by kernel_rfl) rfl rfl (by kernel_rfl) (by kernel_rfl) hf with ⟨hc, _⟩ | ⟨a, l, c, m, k, V0, V1, D0, D1, P0, P1, hc, _, hl, _, hmm, _, hall⟩
  · simp [Value.cells] at hc
    obtain ⟨rfl, rfl, rfl⟩ := hc
    exact ⟨none, 0, 0, rfl, fun i hi => absurd hi (by omega)⟩
  · simp [Value.cells] at hc
    obtain ⟨rfl, rfl, rfl⟩ := hc
    simp only [if_true] at hmm
    subst hmm
    refine ⟨some a, len, m, rfl, fun i hi => ?_⟩
    obtain ⟨c0, c1, t0, t1⟩ := hall i (by omega)
    obtain ⟨b, h1, _⟩ := DataW.trod_bool Try.underlying4 t0
    obtain ⟨n, h2, _, hw⟩ := DataW.trod_int Try.underlying3 t1
    simp only [List.cons.injEq, and_true] at h1 h2
    rw [h1] at c0
    rw [h2] at c1
    have hlt := World.block_lt_of_cell? W _ c0
    rw [blk_add] at hlt
    have hbd := bounds_i64 hw
    exact ⟨a, b, n, rfl, hlt, c0, c1, hbd.1, hbd.2⟩
end Go.Proofs.Ytdhagdggfhjokaa
