/-
  Walk over field.isSize.
-/
import Derived.Test.YtoljggleekbbbaaProg
import Derived.Test.YtoljggleekbbbaaFMath
import Derived.Test.YtoljggleekbbbaaBox
import Derived.WalkKit
import Derived.WalkSpells
import Derived.WalkSmall
import Derived.Deep.LoopGhost
import Derived.Lib.OthersKept
import Derived.Lib.Hide
import Derived.BigQuiet
import Derived.Deep.QuietTactic
import Derived.Laws.BitsAllLaws
namespace Go.Proofs.Ytoljggleekbbbaa
open Go.RowKit

theorem isSize_any (n : Int) (w : World) (h0 : -9223372036854775808 ≤ n) (h1 : n ≤ 9223372036854775807) :
    Calls Try.prog 36 #[.int .i64 n] w fun e w' => e = .returned (.bool (M.sizeB n)) ∧ w = w' := by
  by_cases ha : 1 ≤ n
  · by_cases hb : n ≤ 7
    · have e : M.sizeB n = true := by unfold M.sizeB; simp; omega
      rw [e]
      have E := Lib.hid e; clear e
      go_enter Try.func36, Try.ntmps36
      go_wp2_with fail
      go_ret
      exact ⟨rfl, rfl⟩
    · have e : M.sizeB n = false := by unfold M.sizeB; simp; omega
      rw [e]
      have E := Lib.hid e; clear e
      have hd : decide (n ≤ 7) = false := by simpa using hb
      go_enter Try.func36, Try.ntmps36
      go_wp2_with fail
      go_ret
      exact ⟨rfl, rfl⟩
  · have e : M.sizeB n = false := by unfold M.sizeB; simp; omega
    rw [e]
    have E := Lib.hid e; clear e
    have hd : decide (1 ≤ n) = false := by simpa using ha
    go_enter Try.func36, Try.ntmps36
    go_wp2_with fail
    go_ret
    exact ⟨rfl, rfl⟩
end Go.Proofs.Ytoljggleekbbbaa
