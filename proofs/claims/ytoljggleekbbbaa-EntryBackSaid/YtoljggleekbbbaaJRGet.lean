/-
  Walks over solderref10.Get.
-/
import Derived.Test.YtoljggleekbbbaaJGet
namespace Go.Proofs.Ytoljggleekbbbaa
open Go.RowKit

theorem M.ex_one (s : ByteArray) (h : 0 < s.size) : s.extract 0 1 = ⟨#[s[0]'h]⟩ := by
  apply M.ba_ext
  rw [M.ex_list]
  have l : 0 < s.data.toList.length := h
  rw [List.drop_eq_getElem_cons l]
  rfl
theorem M.ex_one_eq (s : ByteArray) (h : 0 < s.size) (c : UInt8) : s.extract 0 1 = ⟨#[c]⟩ ↔ s[0]'h = c := by
  rw [M.ex_one s h]
  constructor
  · intro e
    injection e with e
    simpa using e
  · intro e; rw [e]
theorem u8_eq (c : UInt8) (n : Nat) (h : n < 256) : ((c.toNat : Int) == (n : Int)) = decide (c = UInt8.ofNat n) := by
  rw [Bool.eq_iff_iff, beq_iff_eq, decide_eq_true_eq]
  constructor
  · intro e
    have e' : c.toNat = n := by omega
    rw [← e']
    simp
  · intro e
    rw [e]
    simp
    omega

end Go.Proofs.Ytoljggleekbbbaa
