/-
  Walks over loghead.Get and solderref10.Get.
-/
import Derived.Test.YtoljggleekbbbaaJRef
namespace Go.Proofs.Ytoljggleekbbbaa
open Go.RowKit

/-- What Get answers. -/
def M.hgot (r : M.Hd × Int) : Value := .tuple #[.agg #[.int .i64 r.1.g, .int .i64 r.1.q, .int .i64 r.1.a], .int .i64 r.2]
theorem M.hgot_of {r : M.Hd × Int} {g q a e : Int} (h : r = (⟨g, q, a⟩, e)) : Ending.returned (.tuple #[.agg #[.int .i64 g, .int .i64 q, .int .i64 a], .int .i64 e]) = .returned (M.hgot r) := by rw [h]; rfl
theorem ne_of_toList10 {a b : ByteArray} (h : a ≠ b) : (a.toList == b.toList) = false := by
  rw [beq_eq_false_iff_ne]
  intro e
  apply h
  rw [ByteArray.toList_eq, ByteArray.toList_eq] at e
  exact M.ba_ext e
theorem L_toList : (⟨#[76]⟩ : ByteArray).toList = [76] := by rw [ByteArray.toList_eq]

end Go.Proofs.Ytoljggleekbbbaa
