/-
  A reader beside the box of a call's result: Bytes and Num where enough bytes are left.
-/
import Derived.Test.YtoljggleekbbbaaFRdF
import Derived.Test.YtoljggleekbbbaaSMath
namespace Go.Proofs.Ytoljggleekbbbaa
open Go.RowKit

/-- The number that bytes of s are. -/
def M.hnum (s : ByteArray) (i j : Nat) : Int := (M.num (s.extract i j).data.toList : Nat)
theorem M.num_at (s : ByteArray) (k z : Nat) (h1 : 1 ≤ z) (h7 : z ≤ 7) (h : k + z ≤ s.size) : M.outN s ⟨k, 0⟩ (z : Nat) = M.hnum s k (k + z) ∧ M.stN s ⟨k, 0⟩ (z : Nat) = ⟨k + z, 0⟩ := by
  constructor
  · rw [M.outN, if_pos (by omega), M.outB, if_pos ⟨rfl, by omega, by simp only; omega⟩]
    rfl
  · rw [M.stN, if_pos (by omega), M.stB, if_neg (by simp), if_neg (by omega), if_neg (by simp only; omega)]
    rfl
theorem M.bytes_at (s : ByteArray) (k z : Nat) (h : k + z ≤ s.size) : M.outB s ⟨k, 0⟩ (z : Nat) = s.extract k (k + z) ∧ M.stB s ⟨k, 0⟩ (z : Nat) = ⟨k + z, 0⟩ := by
  constructor
  · rw [M.outB, if_pos ⟨rfl, by omega, by simp only; omega⟩]
    rfl
  · rw [M.stB, if_neg (by simp), if_neg (by omega), if_neg (by simp only; omega)]
    rfl

/-- In y, a later world than w, there is a reader that has read k of s's bytes, and ahead of it the result's box. -/
structure RdK (w y : World) (b : Nat) (t : TypeId) (cs : Array Value) (s : ByteArray) (k : Nat) : Prop where
  rd : RdF y b s ⟨k, 0⟩
  box : Box y w.heap.size t cs
  below : Below w.heap.size w y
  lt : w.heap.size < b
section
variable {w y : World} {b : Nat} {t : TypeId} {cs : Array Value} {s : ByteArray} {k : Nat}
theorem RdK.keep {z : World} (h : RdK w y b t cs s k) (hb : Below y.heap.size y z) : RdK w z b t cs s k :=
  ⟨Box.below h.rd hb (Box.lt h.rd), Box.below h.box hb (Box.lt h.box), h.below.trans (hb.mono h.below.size), h.lt⟩
theorem RdK.drew (h : RdK w y b t cs s k) : RdK w y.drew b t cs s k := h.keep (Below.refl _ _).drew
theorem RdK.alloc (h : RdK w y b t cs s k) (o : Obj) : RdK w (y.alloc o) b t cs s k := h.keep ((Below.refl _ _).alloc (Nat.le_refl _) o)
theorem RdK.step {z : World} {k' : Nat} (h : RdK w y b t cs s k) (hr : RdF z b s ⟨k', 0⟩) (hg : y.grownBy z (some b)) : RdK w z b t cs s k' :=
  ⟨hr, Box.kept h.box hg (by have := h.lt; omega), below_by h.below hg (by have := h.lt; omega) h.below.size, h.lt⟩
theorem RdK.num (h : RdK w y b t cs s k) (z : Nat) (h1 : 1 ≤ z) (h7 : z ≤ 7) (hz : k + z ≤ s.size) :
    Calls Try.prog 35 #[.pointer (some ⟨b, 0, none⟩), .int .i64 (z : Nat)] y fun e y' => e = .returned (.int .i64 (M.hnum s k (k + z))) ∧ RdK w y' b t cs s (k + z) := by
  refine (numF b s ⟨k, 0⟩ (z : Nat) (by omega) (by omega) y h.rd (by show k ≤ s.size; omega)).mono ?_
  rintro e y' ⟨h1', h2, h3⟩
  obtain ⟨e1, e2⟩ := M.num_at s k z h1 h7 hz
  rw [e1] at h1'
  rw [e2] at h2
  exact ⟨h1', h.step h2 h3⟩
theorem RdK.bytes (h : RdK w y b t cs s k) (z : Nat) (hz : k + z ≤ s.size) :
    Calls Try.prog 24 #[.pointer (some ⟨b, 0, none⟩), .int .i64 (z : Nat)] y fun e y' => e = .returned (.string (s.extract k (k + z))) ∧ RdK w y' b t cs s (k + z) := by
  refine (bytesF b s ⟨k, 0⟩ (z : Nat) y h.rd (by show k ≤ s.size; omega)).mono ?_
  rintro e y' ⟨h1', h2, h3⟩
  obtain ⟨e1, e2⟩ := M.bytes_at s k z hz
  rw [e1] at h1'
  rw [e2] at h2
  exact ⟨h1', h.step h2 h3⟩
theorem RdK.bytes2 (h : RdK w y b t cs s k) (z : Nat) (hz : k + z ≤ s.size) {hb : Nat} {t2 : TypeId} {cs2 : Array Value} (h2 : Box y hb t2 cs2) (hne : b < hb) :
    Calls Try.prog 24 #[.pointer (some ⟨b, 0, none⟩), .int .i64 (z : Nat)] y fun e y' => e = .returned (.string (s.extract k (k + z))) ∧ RdK w y' b t cs s (k + z) ∧ Box y' hb t2 cs2 := by
  refine (bytesF b s ⟨k, 0⟩ (z : Nat) y h.rd (by show k ≤ s.size; omega)).mono ?_
  rintro e y' ⟨h1', h2', h3⟩
  obtain ⟨e1, e2⟩ := M.bytes_at s k z hz
  rw [e1] at h1'
  rw [e2] at h2'
  exact ⟨h1', h.step h2' h3, Box.kept h2 h3 (by omega)⟩
end
/-- A new reader behind the box of a call's result, in a block that a letter names. -/
theorem newK (s : ByteArray) (w : World) (t : TypeId) (cs : Array Value) : Calls Try.prog 23 #[.string s] (w.alloc (.cells cs t)) fun e y => ∃ b, e = .returned (.pointer (some ⟨b, 0, none⟩)) ∧ RdK w y b t cs s 0 := by
  refine (newF s _).mono ?_
  rintro e y ⟨h1, h2, h3⟩
  exact ⟨_, h1, h2, (Box.new w t cs).below h3 (Box.new w t cs).lt, ((Below.refl w.heap.size w).alloc (Nat.le_refl _) _).trans (h3.mono (by simp)), by simp⟩
end Go.Proofs.Ytoljggleekbbbaa
