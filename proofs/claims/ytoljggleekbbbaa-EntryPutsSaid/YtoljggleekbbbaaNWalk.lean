/-
  EntryPuts over its argument as a value.
-/
import Derived.Test.YtoljggleekbbbaaNArg
import Derived.Test.YtoljggleekbbbaaNLaws
namespace Go.Proofs.Ytoljggleekbbbaa
open Go.RowKit
theorem entryPuts_walk (v : Value) (w : World) (h : E2At w v) : Calls Try.prog 3 #[v] w fun e w' => e = .returned (.bool true) ∧ Below w.heap.size w w' := by
  obtain ⟨a, b, s, c, d, u, rfl⟩ := h
  exact entryPuts_yes a b s c d u w
end Go.Proofs.Ytoljggleekbbbaa
