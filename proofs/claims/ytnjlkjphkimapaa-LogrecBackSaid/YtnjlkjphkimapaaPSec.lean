/-
  Sectors in memory: a slice of them, as functions of the index.
-/
import Derived.Test.YtnjlkjphkimapaaBox
import Derived.Deep.SlicePairs
import Derived.ChangeOld
import Derived.ProofKit
import Derived.OpenShut
import Derived.WalkKit
import Derived.WalkSpells
import Derived.WalkSmall
import Derived.Deep.QuietTactic
namespace Go.Proofs.Ytnjlkjphkimapaa
open Go.RowKit Go.ChangeShapes Go.WideShapes Go.ChangeAt Go.Deep

theorem add_block (a : Addr) (n : Nat) : (a.add n).block = a.block := by unfold Addr.add; split <;> rfl
theorem add_next (a : Addr) (m : Nat) : a.add (m + 1) = ⟨(a.add m).block, (a.add m).off + 1, none⟩ := by
  unfold Addr.add
  by_cases h : m = 0
  · subst h; simp
  · simp [h]; omega

/-- v is a slice of sectors: at each index a number and a text stand, in a block of w. -/
def SecsAt (w : World) (v : Value) : Prop := ∃ (A : Option Addr) (len cap : Nat), v = .slice A len cap ∧ len ≤ cap ∧ cap ≤ maxLen ∧
  ∀ i, i < len → ∃ (ad : Addr) (n : Int) (s : ByteArray), A = some ad ∧ ad.block < w.heap.size ∧ w.cell? (ad.add (i * 2)) = some (.int .i64 n) ∧ w.cell? (ad.add (i * 2 + 1)) = some (.string s) ∧ n ≤ 9223372036854775807

theorem secs_open {H : Type} {enc : TypeId × Value → H} {W : World} {r : Reach} {b0 : Nat} {v : Value} {d : DataW H} {p : List MemPlace} (hval : Value.okWide Try.prog W r b0 22 v)
    (h : DataW.Trod enc Try.prog W 0 (fun _ => true) true 22 v d p) : SecsAt W v := by
  obtain ⟨A, len, cap, rfl⟩ := okWide_slice Try.underlying22 hval
  obtain ⟨fuel, hf⟩ := h
  rcases open_slice_pairs Try.underlying22 Try.underlying41 (by kernel_rfl) rfl rfl (by kernel_rfl) (by kernel_rfl) hf with ⟨hc, _⟩ | ⟨a, l, c, m, k, V0, V1, D0, D1, P0, P1, hc, _, hl, hcc, hmm, _, hall⟩
  · simp [Value.cells] at hc
    obtain ⟨rfl, rfl, rfl⟩ := hc
    exact ⟨none, 0, 0, rfl, Nat.le_refl _, Nat.zero_le _, fun i hi => absurd hi (by omega)⟩
  · simp [Value.cells] at hc
    obtain ⟨rfl, rfl, rfl⟩ := hc
    simp only [if_true] at hmm
    subst hmm
    refine ⟨some a, len, m, rfl, by omega, by omega, fun i hi => ?_⟩
    obtain ⟨c0, c1, t0, t1⟩ := hall i (by omega)
    obtain ⟨n, h1, _, w1⟩ := DataW.trod_int Try.underlying3 t0
    obtain ⟨s, h2, _⟩ := DataW.trod_string Try.underlying9 t1
    simp only [List.cons.injEq, and_true] at h1 h2
    rw [h1] at c0
    rw [h2] at c1
    have hlt := World.block_lt_of_cell? W _ c0
    rw [add_block] at hlt
    exact ⟨a, n, s, rfl, hlt, c0, c1, (bounds_i64 w1).2⟩

/-- The same with functions that tell what stands there. -/
def SecF (w : World) (A : Option Addr) (len : Nat) (a : Nat → Int) (t : Nat → ByteArray) : Prop :=
  ∀ i, i < len → ∃ ad : Addr, A = some ad ∧ ad.block < w.heap.size ∧ w.cell? (ad.add (i * 2)) = some (.int .i64 (a i)) ∧ w.cell? ⟨(ad.add (i * 2)).block, (ad.add (i * 2)).off + 1, none⟩ = some (.string (t i)) ∧ a i ≤ 9223372036854775807
theorem SecF.of {w : World} {A : Option Addr} {len : Nat} (h : ∀ i, i < len → ∃ (ad : Addr) (n : Int) (s : ByteArray), A = some ad ∧ ad.block < w.heap.size ∧ w.cell? (ad.add (i * 2)) = some (.int .i64 n) ∧ w.cell? (ad.add (i * 2 + 1)) = some (.string s) ∧ n ≤ 9223372036854775807) :
    ∃ a t, SecF w A len a t := by
  classical
  refine ⟨fun i => if hi : i < len then Classical.choose (Classical.choose_spec (h i hi)) else 0, fun i => if hi : i < len then Classical.choose (Classical.choose_spec (Classical.choose_spec (h i hi))) else ⟨#[]⟩, fun i hi => ?_⟩
  have := Classical.choose_spec (Classical.choose_spec (Classical.choose_spec (h i hi)))
  simp only [dif_pos hi]
  refine ⟨Classical.choose (h i hi), this.1, this.2.1, this.2.2.1, ?_, this.2.2.2.2⟩
  rw [← add_next]
  exact this.2.2.2.1
theorem SecF.at_ {w : World} {A : Option Addr} {len : Nat} {a : Nat → Int} {t : Nat → ByteArray} (h : SecF w A len a t) {i : Nat} (hi : i < len) :
    ∃ ad : Addr, A = some ad ∧ w.cell? (ad.add (i * 2)) = some (.int .i64 (a i)) ∧ w.cell? ⟨(ad.add (i * 2)).block, (ad.add (i * 2)).off + 1, none⟩ = some (.string (t i)) := by
  obtain ⟨ad, h1, _, h3, h4, _⟩ := h i hi
  exact ⟨ad, h1, h3, h4⟩
theorem SecF.below {w y : World} {N : Nat} {A : Option Addr} {len : Nat} {a : Nat → Int} {t : Nat → ByteArray} (h : SecF w A len a t) (hN : w.heap.size ≤ N) (hb : Below N w y) : SecF y A len a t := by
  intro i hi
  obtain ⟨ad, h1, h2, h3, h4, h5⟩ := h i hi
  have hl : ad.block < N := by omega
  exact ⟨ad, h1, Nat.lt_of_lt_of_le h2 hb.size, (hb.cell (by rw [add_block]; exact hl)).trans h3, (hb.cell (by show (ad.add (i * 2)).block < _; rw [add_block]; exact hl)).trans h4, h5⟩
theorem SecF.take {w : World} {A : Option Addr} {len k : Nat} {a : Nat → Int} {t : Nat → ByteArray} (h : SecF w A len a t) (hk : k ≤ len) : SecF w A k a t := fun i hi => h i (by omega)
theorem SecF.nil (w : World) (a : Nat → Int) (t : Nat → ByteArray) (A : Option Addr) : SecF w A 0 a t := fun i hi => absurd hi (by omega)
end Go.Proofs.Ytnjlkjphkimapaa
