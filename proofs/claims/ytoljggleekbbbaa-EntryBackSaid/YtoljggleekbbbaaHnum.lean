/-
  Numbers out of bytes.
-/
import Derived.Test.YtoljggleekbbbaaFRdK
namespace Go.Proofs.Ytoljggleekbbbaa
open Go.RowKit

theorem M.ex_at (s : ByteArray) (i : Nat) (h : i < s.size) : s.extract i (i + 1) = ⟨#[s[i]'h]⟩ := by
  apply M.ba_ext
  rw [M.ex_list]
  have l : i < s.data.toList.length := h
  rw [List.drop_eq_getElem_cons l]
  show List.take (i + 1 - i) _ = _
  rw [Nat.add_sub_cancel_left]
  rfl
theorem M.hnum_at (s : ByteArray) (i : Nat) (h : i < s.size) : M.hnum s i (i + 1) = ((s[i]'h).toNat : Int) := by
  rw [M.hnum, M.ex_at s i h]
  show ((M.num [s[i]'h] : Nat) : Int) = _
  simp [M.num]
theorem M.hnum_bound (s : ByteArray) (i z : Nat) (h : i + z ≤ s.size) : 0 ≤ M.hnum s i (i + z) ∧ M.hnum s i (i + z) < (256 ^ z : Nat) := by
  have hl : (s.extract i (i + z)).data.toList.length = z := by rw [M.size_list, ByteArray.size_extract]; omega
  have := M.num_lt z _ hl
  unfold M.hnum
  omega
end Go.Proofs.Ytoljggleekbbbaa
