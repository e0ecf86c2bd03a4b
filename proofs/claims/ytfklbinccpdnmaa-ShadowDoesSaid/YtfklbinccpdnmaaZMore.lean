/-
  Walks over shadow.Clear and Kept, at things that are ints; what Put, Get, Loose, Back and Clear do of a shadow that is none.
-/
import Derived.Test.YtfklbinccpdnmaaZWith
namespace Go.Proofs.Ytfklbinccpdnmaa
open Go.RowKit Go.Maps
section
variable {b : Nat} {P : Nat → Prop} {L K : List (Int × Value)}
theorem clear_any (w : World) (h : Sh 53 w b P L K) :
    Calls Try.prog 13 #[.pointer (some ⟨b, 0, none⟩)] w fun e w' => e = .returned (.tuple #[]) ∧ Sh 53 w' b P L [] ∧ Kept P w w' := by
  obtain ⟨lo, so, h, p1, p2, p3⟩ := h
  have c1 := h.c1
  obtain ⟨-, f1, HY⟩ := h.set1 (o := none) (M := []) (Kept.refl _ w) (MapV.nil w) (fun _ e => by cases e)
  clear h
  go_enter Try.func13, Try.ntmps13
  go_wp2_with fail
  go_end0
  exact ⟨rfl, ⟨_, _, HY.out.1, p1, p2, fun _ e => (by cases e)⟩, HY.out.2.mono (fun j _ e => e.elim (fun e => by rw [e]; exact p1) (fun e => p3 j e))⟩
end
theorem kept_any (p : Option Addr) (w : World) :
    Calls Try.prog 19 #[.pointer p] w fun e w' => e = .returned (.func (.func 32) #[] #[.pointer (some ⟨w.heap.size, 0, none⟩)]) ∧ w' = w.alloc (.cells #[.pointer p] 24) := by
  go_enter Try.func19, Try.ntmps19
  go_wp2_with fail
  go_ret
  exact ⟨rfl, rfl⟩
theorem put13_nil (k : Int) (x : Value) (w : World) : Calls Try.prog 8 #[.pointer none, .int .i64 k, x] w fun e w' => e = .returned (.tuple #[]) ∧ w' = w := by
  go_enter Try.func8, Try.ntmps8
  go_wp2_with fail
  go_end0
  exact ⟨rfl, rfl⟩
theorem get13_nil (k : Int) (w : World) : Calls Try.prog 14 #[.pointer none, .int .i64 k] w fun e w' => e = .returned (.tuple #[.int .i64 0, .bool false]) ∧ w' = w := by
  go_enter Try.func14, Try.ntmps14
  go_wp2_with fail
  go_ret2
  exact ⟨rfl, rfl⟩
theorem loose_nil (w : World) : Calls Try.prog 16 #[.pointer none] w fun e w' => e = .returned (.int .i64 0) ∧ w' = w := by
  go_enter Try.func16, Try.ntmps16
  go_wp2_with fail
  go_ret
  exact ⟨rfl, rfl⟩
theorem back_nil (w : World) : Calls Try.prog 12 #[.pointer none] w fun e w' => e = .returned (.tuple #[]) ∧ w' = w := by
  go_enter Try.func12, Try.ntmps12
  go_wp2_with fail
  go_end0
  exact ⟨rfl, rfl⟩
theorem clear_nil (w : World) : Calls Try.prog 13 #[.pointer none] w fun e w' => e = .returned (.tuple #[]) ∧ w' = w := by
  go_enter Try.func13, Try.ntmps13
  go_wp2_with fail
  go_end0
  exact ⟨rfl, rfl⟩
theorem keep_nil (w : World) : Calls Try.prog 10 #[.pointer none] w fun e w' => e = .returned (.tuple #[]) ∧ Below w.heap.size w w' := by
  have HX : Hid (Below w.heap.size w (w.alloc (.cells #[.pointer none] 24))) := (Below.refl _ w).alloc (Nat.le_refl _) _
  go_enter Try.func10, Try.ntmps10
  go_wp2_with fail
  exact bodyPost_ret (results_none rfl _ _ _) rfl ⟨rfl, HX.out⟩
theorem fresh1_nil (sb : Nat) (f : Nat) (cap : Array Value) (w : World) (hc : w.cell? ⟨sb, 0, none⟩ = some (.pointer none)) : Calls Try.prog 30 #[.func (.func f) #[] cap, .pointer (some ⟨sb, 0, none⟩)] w fun e w' => e = .returned (.tuple #[]) ∧ w' = w := by
  go_enter Try.func30, Try.ntmps30
  go_wp2_with fail
  go_end0
  exact ⟨rfl, rfl⟩
theorem kept1_nil (sb : Nat) (f : Nat) (cap : Array Value) (w : World) (hc : w.cell? ⟨sb, 0, none⟩ = some (.pointer none)) : Calls Try.prog 32 #[.func (.func f) #[] cap, .pointer (some ⟨sb, 0, none⟩)] w fun e w' => e = .returned (.tuple #[]) ∧ w' = w := by
  go_enter Try.func32, Try.ntmps32
  go_wp2_with fail
  go_end0
  exact ⟨rfl, rfl⟩
end Go.Proofs.Ytfklbinccpdnmaa
