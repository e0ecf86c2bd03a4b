/-
  wal.cause where no step failed; a log is moved on where no call fails.
-/
import Derived.Test.YtncbbejmibddcaaGreatDoorNE
namespace Go.Proofs.YtncbbejmibddcaaGreatDoor
open Go.RowKit

/-- errors.As(nil, target). -/
theorem as_nil14 (t : Value) (w : World) : Calls Tryz.prog 96 #[.nilIface, t] w fun e w' => e = .returned (.bool false) ∧ w' = w := by
  go_enter Tryz.func96, Tryz.ntmps96
  go_wp2
  go_ret
  exact ⟨rfl, rfl⟩

theorem cause_nil (w : World) : Calls Tryz.prog 59 #[.nilIface] w fun e w' => e = .returned (.int .i64 0) ∧ Below w.heap.size w w' := by
  have hb := Box.new w 36 #[.int .i64 0]
  have c0 := hb.cell 0
  simp only [List.getElem?_toArray, List.getElem?_cons_zero] at c0
  clear hb
  go_enter Tryz.func59, Tryz.ntmps59
  go_wp2_with fail
  refine (as_nil14 _ _).mono ?_
  rintro e w1 ⟨rfl, rfl⟩
  go_wp2_with fail
  go_ret
  exact ⟨rfl, below1 _ _⟩
end Go.Proofs.YtncbbejmibddcaaGreatDoor
