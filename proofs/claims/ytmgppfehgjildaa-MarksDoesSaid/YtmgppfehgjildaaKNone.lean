/-
  Walks over solderlaw07's works and MarksNone.
-/
import Derived.Test.YtmgppfehgjildaaKFree
import Derived.Test.YtmgppfehgjildaaKAll
namespace Go.Proofs.Ytmgppfehgjildaa
open Go.RowKit

def M.wf1 : Nat → Bool := M.putI 10 (fun _ => false) 0 true
def M.wf2 : Nat → Bool := M.putI 10 M.wf1 9 true
def M.wf3 : Nat → Bool := M.putI 10 M.wf2 9 true
def M.wf4 : Nat → Bool := M.putI 10 M.wf3 10 true

set_option maxHeartbeats 1000000 in
theorem works_any (w : World) : Calls Try.prog 7 #[] w fun e w' => e = .returned (.bool true) ∧ Below w.heap.size w w' := by
  have HN := Lib.hid (new_any 10 w)
  rw [show M.most 10 = 10 by rfl] at HN
  have HS0 : Hid (Set (w.alloc (.cells (M.cells 10 (fun _ => false)) 54)) w.heap.size 10 (fun _ => false)) := Set.new w 10
  have HK0 : Hid (Kept (fun k => k = w.heap.size) w (w.alloc (.cells (M.cells 10 (fun _ => false)) 54))) := (Kept.refl _ w).alloc _
  have HE1 : Hid (M.addB 10 (fun _ => false) 0 = true ∧ M.addB 10 M.wf1 9 = true ∧ M.addB 10 M.wf2 9 = false ∧ M.addB 10 M.wf3 10 = false) := ⟨by decide, by decide, by decide, by decide⟩
  have HE2 : Hid (M.bytes 10 M.wf4 = [1, 2] ∧ (M.nums 10 M.wf4).length = 2) := ⟨by decide, by decide⟩
  go_enter Try.func7, Try.ntmps7
  go_wp2_with fail
  refine HN.out.mono ?_
  rintro e w1 ⟨rfl, hw1⟩
  rw [← hw1] at HS0 HK0
  clear hw1 HN
  go_wp2_with fail
  refine (add_any 0 w1 HS0.out).mono ?_
  rintro e w2 ⟨he, hS2, hK2⟩
  rw [HE1.out.1] at he
  subst he
  have HS2 : Hid (Set w2 w.heap.size 10 M.wf1) := hS2
  have HK2 := Lib.hid (HK0.out.trans hK2)
  clear hS2 hK2 HS0 HK0
  go_wp2_with fail
  refine (add_any 9 w2 HS2.out).mono ?_
  rintro e w3 ⟨he, hS3, hK3⟩
  rw [HE1.out.2.1] at he
  subst he
  have HS3 : Hid (Set w3 w.heap.size 10 M.wf2) := hS3
  have HK3 := Lib.hid (HK2.out.trans hK3)
  clear hS3 hK3 HS2 HK2
  go_wp2_with fail
  refine (add_any 9 w3 HS3.out).mono ?_
  rintro e w4 ⟨he, hS4, hK4⟩
  rw [HE1.out.2.2.1] at he
  subst he
  have HS4 : Hid (Set w4 w.heap.size 10 M.wf3) := hS4
  have HK4 := Lib.hid (HK3.out.trans hK4)
  clear hS4 hK4 HS3 HK3
  go_wp2_with fail
  refine (add_any 10 w4 HS4.out).mono ?_
  rintro e w5 ⟨he, hS5, hK5⟩
  rw [HE1.out.2.2.2] at he
  subst he
  have HS5 : Hid (Set w5 w.heap.size 10 M.wf4) := hS5
  have HK5 := Lib.hid (HK4.out.trans hK5)
  clear hS5 hK5 HS4 HK4
  go_wp2_with fail
  refine (bytes_any w5 HS5.out).mono ?_
  rintro e w6 ⟨he, n, hw6⟩
  rw [HE2.out.1] at he
  subst he
  have HS6 : Hid (Set w6 w.heap.size 10 M.wf4) := by rw [hw6]; exact HS5.out.drewN n
  have HK6 : Hid (Kept (fun k => k = w.heap.size) w w6) := by rw [hw6]; exact HK5.out.drewN n
  clear hw6 HS5 HK5
  go_wp2_with fail
  refine (len_n w6 HS6.out.n).mono ?_
  rintro e w7 ⟨he, hb7⟩
  rw [HE2.out.2] at he
  subst he
  have HB7 : Hid (Below w.heap.size w w7) := (HK6.out.below (Nat.le_refl _) (fun k hk h => by omega)).trans (hb7.mono HK6.out.size)
  clear hb7
  go_wp2_with fail
  go_ret
  exact ⟨rfl, HB7.out⟩

set_option maxHeartbeats 2000000 in
theorem marksNone_walk (n : Int) (_n0 : -9223372036854775808 ≤ n) (_n9 : n ≤ 9223372036854775807) (w : World) :
    Calls Try.prog 6 #[.int .i64 n] w fun e w' => e = .returned (.bool true) ∧ Below w.heap.size w w' := by
  have HN := Lib.hid (fun x => SetN.nil x)
  have HE : Hid (M.next 0 (fun _ => false) n = none ∧ M.free 0 (fun _ => false) = none ∧ M.hasI (fun _ => false) n = false ∧ M.nums 0 (fun _ => false) = []) := ⟨rfl, rfl, by simp [M.hasI], rfl⟩
  have HO : Hid (n < 0 ∨ ((0 : Nat) : Int) ≤ n) := by show _ ∨ _; omega
  go_enter Try.func6, Try.ntmps6
  go_wp2_with fail
  refine (works_any w).mono ?_
  rintro e w1 ⟨rfl, hb1⟩
  have HB1 := Lib.hid hb1
  clear hb1
  go_wp2_with fail
  refine (next_n n w1 (HN.out w1)).mono ?_
  rintro e w2 ⟨he, hb2⟩
  rw [HE.out.1] at he
  subst he
  have HB2 := Lib.hid (HB1.out.trans (hb2.mono HB1.out.size))
  clear hb2 HB1
  go_wp2_with fail
  refine (free_n w2 (HN.out w2)).mono ?_
  rintro e w3 ⟨he, n3, hw3⟩
  rw [HE.out.2.1] at he
  subst he
  have HB3 : Hid (Below w.heap.size w w3) := by rw [hw3]; exact below_drewN HB2.out n3
  clear hw3 HB2
  go_wp2_with fail
  refine (add_out n w3 (HN.out w3) HO.out).mono ?_
  rintro e w4 ⟨rfl, n4, hw4⟩
  have HB4 : Hid (Below w.heap.size w w4) := by rw [hw4]; exact below_drewN HB3.out n4
  clear hw4 HB3
  go_wp2_with fail
  refine (remove_none n w4 (HN.out w4) HE.out.2.2.1).mono ?_
  rintro e w5 ⟨rfl, n5, hw5⟩
  have HB5 : Hid (Below w.heap.size w w5) := by rw [hw5]; exact below_drewN HB4.out n5
  clear hw5 HB4
  go_wp2_with fail
  refine (has_n n w5 (HN.out w5)).mono ?_
  rintro e w6 ⟨he, n6, hw6⟩
  rw [HE.out.2.2.1] at he
  subst he
  have HB6 : Hid (Below w.heap.size w w6) := by rw [hw6]; exact below_drewN HB5.out n6
  clear hw6 HB5
  go_wp2_with fail
  refine (len_n w6 (HN.out w6)).mono ?_
  rintro e w7 ⟨he, hb7⟩
  rw [HE.out.2.2.2] at he
  subst he
  have HB7 := Lib.hid (HB6.out.trans (hb7.mono HB6.out.size))
  clear hb7 HB6
  go_wp2_with fail
  refine (many_nil w7).mono ?_
  rintro e w8 ⟨rfl, rfl⟩
  go_wp2_with fail
  refine (bytes_nil w8).mono ?_
  rintro e w9 ⟨rfl, rfl⟩
  go_wp2_with fail
  refine (all_nil w9 5).mono ?_
  rintro e w10 ⟨rfl, hb10⟩
  have HB10 := Lib.hid (HB7.out.trans (hb10.mono HB7.out.size))
  clear hb10 HB7
  go_wp2_with fail
  go_ret
  exact ⟨rfl, HB10.out⟩
end Go.Proofs.Ytmgppfehgjildaa
