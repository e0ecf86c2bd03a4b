/-
  Two entries, held against the same two.
-/
import Derived.Test.YtoljggleekbbbaaNPut
import Derived.ChangeKeysEq
namespace Go.Proofs.Ytoljggleekbbbaa
open Go.RowKit

theorem eqEntry17 (d : Nat) (a b s : Int) (W : World) : (Op.equalIn (d + 3) 25 (Ev a b s) (Ev a b s)).run Try.prog W = .ok true W := by
  rw [run_equalIn_struct (P := Try.prog) W (d + 2) 25 _ _ (by kernel_rfl) (by kernel_rfl)]
  go_simp
theorem eqEntries17 (a b s c d u : Int) (W : World) : (Op.equalIn 10000 26 (Ev2 a b s c d u) (Ev2 a b s c d u)).run Try.prog W = .ok true W := by
  have c3 : Try.prog.cellsOf 25 = 3 := by kernel_rfl
  have p0 : ∀ w, (part 25 #[.int .i64 a, .int .i64 b, .int .i64 s, .int .i64 c, .int .i64 d, .int .i64 u] (0 * 3)).run Try.prog w = .ok (Ev a b s) w := fun _ => rfl
  have p1 : ∀ w, (part 25 #[.int .i64 a, .int .i64 b, .int .i64 s, .int .i64 c, .int .i64 d, .int .i64 u] (1 * 3)).run Try.prog w = .ok (Ev c d u) w := fun _ => rfl
  have q0 : ∀ w, (Op.equalIn 9999 25 (Ev a b s) (Ev a b s)).run Try.prog w = .ok true w := fun w => eqEntry17 9996 a b s w
  have q1 : ∀ w, (Op.equalIn 9999 25 (Ev c d u) (Ev c d u)).run Try.prog w = .ok true w := fun w => eqEntry17 9996 c d u w
  rw [run_equalIn_array (P := Try.prog) W 9999 (t := 26) (e := 25) (n := 2) _ _ Try.underlying26 rfl, c3, show List.range 2 = [0, 1] from rfl]
  simp only [Op.eqItems, Sem.run_bind, p0, p1, q0, q1, Result.andThen_ok, Bool.not_true, Bool.false_eq_true, if_false, Sem.run_pure]
end Go.Proofs.Ytoljggleekbbbaa
