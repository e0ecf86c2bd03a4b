/-
  A walk over solderlaw13.ShadowNone.
-/
import Derived.Test.YtfklbinccpdnmaaZWorks
import Derived.Test.YtfklbinccpdnmaaZSame
import Derived.Shelf.Abstract
namespace Go.Proofs.Ytfklbinccpdnmaa
open Go.RowKit Go.Maps Go.Shelf

set_option maxHeartbeats 2000000 in
theorem shadowNone_walk (k : Int) (_k0 : -9223372036854775808 ≤ k) (_k9 : k ≤ 9223372036854775807) (n : Int) (_n0 : -9223372036854775808 ≤ n) (_n9 : n ≤ 9223372036854775807) (w : World) : Calls Try.prog 5 #[.int .i64 k, .int .i64 n] w fun e w' => e = .returned (.bool true) ∧ Below w.heap.size w w' := by
  have HW := Lib.hid (works13_any w)
  have HS1 : Hid (∀ y : World, Calls Try.prog 17 #[.func (.func 30) #[] #[.pointer (some ⟨y.heap.size, 0, none⟩)], .slice none 0 0, .int .i64 5] (y.alloc (.cells #[.pointer none] 24)) fun e w' => e = .returned (.bool true) ∧ Below (y.heap.size + 1) (y.alloc (.cells #[.pointer none] 24)) w') := by
    intro y
    have hB := Box.new y 24 #[.pointer none]
    have := same13_any 30 y.heap.size (enters_of Try.func30 (by kernel_rfl) rfl) (y.alloc (.cells #[.pointer none] 24)) (q := 5) (Things.nil _)
      (fun z S N W Q hT _ _ hb => (fresh1_nil y.heap.size _ _ z ((hb.cell (p := ⟨y.heap.size, 0, none⟩) hB.lt).trans ((hB.cell 0).trans rfl))).mono (fun e w' ⟨he, hw⟩ => ⟨he, by rw [hw]; exact hT, by rw [hw]; exact Kept.refl _ _⟩))
    rwa [World.size_alloc] at this
  have HS2 : Hid (∀ y : World, Calls Try.prog 17 #[.func (.func 32) #[] #[.pointer (some ⟨y.heap.size, 0, none⟩)], .slice none 0 0, .int .i64 5] (y.alloc (.cells #[.pointer none] 24)) fun e w' => e = .returned (.bool true) ∧ Below (y.heap.size + 1) (y.alloc (.cells #[.pointer none] 24)) w') := by
    intro y
    have hB := Box.new y 24 #[.pointer none]
    have := same13_any 32 y.heap.size (enters_of Try.func32 (by kernel_rfl) rfl) (y.alloc (.cells #[.pointer none] 24)) (q := 5) (Things.nil _)
      (fun z S N W Q hT _ _ hb => (kept1_nil y.heap.size _ _ z ((hb.cell (p := ⟨y.heap.size, 0, none⟩) hB.lt).trans ((hB.cell 0).trans rfl))).mono (fun e w' ⟨he, hw⟩ => ⟨he, by rw [hw]; exact hT, by rw [hw]; exact Kept.refl _ _⟩))
    rwa [World.size_alloc] at this
  have HA : Hid (∀ (y : World) o, Below y.heap.size y (y.alloc o)) := fun y o => (Below.refl _ y).alloc (Nat.le_refl _) o
  go_enter Try.func5, Try.ntmps5
  go_wp2_with fail
  refine HW.out.mono ?_
  rintro e w1 ⟨rfl, hb1⟩
  have HB1 := Lib.hid hb1
  clear hb1 HW
  go_wp2_with fail
  refine (put13_nil _ _ _).mono ?_
  rintro e w2 ⟨rfl, rfl⟩
  go_wp2_with fail
  refine (keep_nil _).mono ?_
  rintro e w3 ⟨rfl, hb3⟩
  have HB3 : Hid (Below w.heap.size w w3) := HB1.out.trans (hb3.mono HB1.out.size)
  clear hb3 HB1
  go_wp2_with fail
  refine (back_nil _).mono ?_
  rintro e w4 ⟨rfl, rfl⟩
  go_wp2_with fail
  refine (clear_nil _).mono ?_
  rintro e w5 ⟨rfl, rfl⟩
  go_wp2_with fail
  refine (get13_nil _ _).mono ?_
  rintro e w6 ⟨rfl, rfl⟩
  go_wp2_with fail
  refine (loose_nil _).mono ?_
  rintro e w7 ⟨rfl, rfl⟩
  go_wp2_with fail
  refine (fresh_any _ _).mono ?_
  rintro e w8 ⟨rfl, rfl⟩
  go_wp2_with fail
  refine (HS1.out _).mono ?_
  rintro e w9 ⟨rfl, hb9⟩
  have HB9 : Hid (Below w.heap.size w w9) := HB3.out.trans (((HA.out _ _).trans (hb9.mono (by omega))).mono HB3.out.size)
  clear hb9 HB3
  go_wp2_with fail
  refine (kept_any _ _).mono ?_
  rintro e w10 ⟨rfl, rfl⟩
  go_wp2_with fail
  refine (HS2.out _).mono ?_
  rintro e w11 ⟨rfl, hb11⟩
  have HB11 : Hid (Below w.heap.size w w11) := HB9.out.trans (((HA.out _ _).trans (hb11.mono (by omega))).mono HB9.out.size)
  clear hb11 HB9
  go_wp2_with fail
  go_ret
  exact ⟨rfl, HB11.out⟩
end Go.Proofs.Ytfklbinccpdnmaa
