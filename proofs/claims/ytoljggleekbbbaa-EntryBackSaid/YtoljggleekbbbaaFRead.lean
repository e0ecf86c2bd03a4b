/-
  Walks over field's Reader: fail, New, Bytes, Num, Left, End.
-/
import Derived.Test.YtoljggleekbbbaaProg
import Derived.Test.YtoljggleekbbbaaFSize
import Derived.WalkKit
import Derived.WalkSpells
import Derived.WalkSmall
import Derived.Deep.LoopGhost
import Derived.Lib.OthersKept
import Derived.Lib.Hide
import Derived.BigQuiet
import Derived.Deep.QuietTactic
import Derived.Laws.BitsAllLaws
namespace Go.Proofs.Ytoljggleekbbbaa
open Go.RowKit

theorem fail_nil (e : Int) (w : World) : Calls Try.prog 34 #[.pointer none, .int .i64 e] w fun x w' => x = .returned (.tuple #[]) ∧ w = w' := by
  go_enter Try.func34, Try.ntmps34
  go_wp2_with fail
  go_end0
  exact ⟨rfl, rfl⟩
theorem fail_not (b : Nat) (r : ByteArray) (f e : Int) (hf : f ≠ 0) (w : World) (hB : Box w b 56 #[.string r, .int .i64 f]) :
    Calls Try.prog 34 #[.pointer (some ⟨b, 0, none⟩), .int .i64 e] w fun x w' => x = .returned (.tuple #[]) ∧ w = w' := by
  have h1 := hB.cell 1
  have hd : (f == 0) = false := by simpa using hf
  have HB := Lib.hid hB; clear hB hf
  simp at h1
  go_enter Try.func34, Try.ntmps34
  go_wp2_with fail
  go_end0
  exact ⟨rfl, rfl⟩
theorem fail_yes (b : Nat) (r : ByteArray) (e : Int) (w : World) (hB : Box w b 56 #[.string r, .int .i64 0]) :
    Calls Try.prog 34 #[.pointer (some ⟨b, 0, none⟩), .int .i64 e] w fun x w' => x = .returned (.tuple #[]) ∧ w' = w.setCell ⟨b, 1, none⟩ (.int .i64 e) := by
  have h1 := hB.cell 1
  have h2 := hB.frozen 1
  have HB := Lib.hid hB; clear hB
  simp at h1
  go_enter Try.func34, Try.ntmps34
  go_wp2_with fail
  go_end0
  exact ⟨rfl, rfl⟩

/-- A field.Reader in block b of w that has read k of s's bytes and failed with e. -/
def RdF (w : World) (b : Nat) (s : ByteArray) (t : M.St) : Prop := Box w b 56 #[.string (s.extract t.k s.size), .int .i64 t.e]

theorem fnew_any (s : ByteArray) (w : World) :
    Calls Try.prog 23 #[.string s] w fun e w' => e = .returned (.pointer (some ⟨w.heap.size, 0, none⟩)) ∧ w' = w.alloc (.cells #[.string s, .int .i64 0] 56) := by
  go_enter Try.func23, Try.ntmps23
  go_wp2_with fail
  go_ret
  exact ⟨rfl, rfl⟩

theorem bytes_nil (n : Int) (w : World) : Calls Try.prog 24 #[.pointer none, .int .i64 n] w fun e w' => e = .returned (.string ⟨#[]⟩) ∧ w = w' := by
  go_enter Try.func24, Try.ntmps24
  go_wp2_with fail
  go_ret
  exact ⟨rfl, rfl⟩
theorem bytes_failed (b : Nat) (r : ByteArray) (f n : Int) (hf : f ≠ 0) (w : World) (hB : Box w b 56 #[.string r, .int .i64 f]) :
    Calls Try.prog 24 #[.pointer (some ⟨b, 0, none⟩), .int .i64 n] w fun e w' => e = .returned (.string ⟨#[]⟩) ∧ w = w' := by
  have h1 := hB.cell 1
  have hd : (f != 0) = true := by simpa using hf
  have HB := Lib.hid hB; clear hB hf
  simp at h1
  go_enter Try.func24, Try.ntmps24
  go_wp2_with fail
  go_ret
  exact ⟨rfl, rfl⟩
theorem bytes_neg (b : Nat) (r : ByteArray) (n : Int) (hn : n < 0) (w : World) (hB : Box w b 56 #[.string r, .int .i64 0]) :
    Calls Try.prog 24 #[.pointer (some ⟨b, 0, none⟩), .int .i64 n] w fun e w' => e = .returned (.string ⟨#[]⟩) ∧ w' = w.setCell ⟨b, 1, none⟩ (.int .i64 3) := by
  have h1 := hB.cell 1
  have HB := Lib.hid hB; clear hB
  simp at h1
  go_enter Try.func24, Try.ntmps24
  go_wp2_with fail
  refine (fail_yes b r 3 w HB.out).mono ?_
  rintro e w' ⟨rfl, rfl⟩
  go_wp2_with fail
  go_ret
  exact ⟨rfl, rfl⟩
theorem bytes_short (b : Nat) (r : ByteArray) (n : Int) (hn : (r.size : Int) < n) (w : World) (hB : Box w b 56 #[.string r, .int .i64 0]) :
    Calls Try.prog 24 #[.pointer (some ⟨b, 0, none⟩), .int .i64 n] w fun e w' => e = .returned (.string ⟨#[]⟩) ∧ w' = w.setCell ⟨b, 1, none⟩ (.int .i64 1) := by
  have h0 := hB.cell 0
  have h1 := hB.cell 1
  have hn0 : decide (n < 0) = false := by simp; omega
  have HB := Lib.hid hB; clear hB
  simp at h0 h1
  go_enter Try.func24, Try.ntmps24
  go_wp2_with fail
  refine (fail_yes b r 1 w HB.out).mono ?_
  rintro e w' ⟨rfl, rfl⟩
  go_wp2_with fail
  go_ret
  exact ⟨rfl, rfl⟩
theorem bytes_ok (b : Nat) (r : ByteArray) (m : Nat) (hm : m ≤ r.size) (w : World) (hB : Box w b 56 #[.string r, .int .i64 0]) :
    Calls Try.prog 24 #[.pointer (some ⟨b, 0, none⟩), .int .i64 m] w fun e w' => e = .returned (.string (r.extract 0 m)) ∧ w' = w.setCell ⟨b, 0, none⟩ (.string (r.extract m r.size)) := by
  have h0 := hB.cell 0
  have h1 := hB.cell 1
  have h2 := hB.frozen 0
  have hn0 : decide ((m : Int) < 0) = false := by simp
  have hn1 : decide ((r.size : Int) < (m : Int)) = false := by simp; omega
  have HB := Lib.hid hB; clear hB
  simp at h0 h1
  go_enter Try.func24, Try.ntmps24
  go_wp2_with fail
  go_ret
  exact ⟨rfl, rfl⟩

theorem left_nil (w : World) : Calls Try.prog 26 #[.pointer none] w fun e w' => e = .returned (.int .i64 0) ∧ w = w' := by
  go_enter Try.func26, Try.ntmps26
  go_wp2_with fail
  go_ret
  exact ⟨rfl, rfl⟩
theorem left_any (b : Nat) (r : ByteArray) (f : Int) (w : World) (hB : Box w b 56 #[.string r, .int .i64 f]) :
    Calls Try.prog 26 #[.pointer (some ⟨b, 0, none⟩)] w fun e w' => e = .returned (.int .i64 r.size) ∧ w = w' := by
  have h0 := hB.cell 0
  have HB := Lib.hid hB; clear hB
  simp at h0
  go_enter Try.func26, Try.ntmps26
  go_wp2_with fail
  go_ret
  exact ⟨rfl, rfl⟩
end Go.Proofs.Ytoljggleekbbbaa
