/-
  Walk over solderlaw06's works.
-/
import Derived.Test.YtlpcjfjjfnnbcaaRDrop
namespace Go.Proofs.Ytlpcjfjjfnnbcaa
open Go.RowKit

set_option maxHeartbeats 1000000 in
theorem works_any (w : World) : Calls Try.prog 6 #[] w fun e w' => e = .returned (.bool true) ∧ Below w.heap.size w w' := by
  have HN := Lib.hid (new_any 1 w)
  rw [show M.most 1 = 1 by rfl] at HN
  have HR0 := Lib.hid (Ring.new w 1 (by omega))
  have HK0 : Hid (Kept (fun k => w.heap.size ≤ k) w (w.alloc (.cells #[.slice none 0 0, .int .i64 0, .int .i64 0, .int .i64 ((1 : Nat) : Int)] 56))) := (Kept.refl _ w).alloc _
  go_enter Try.func6, Try.ntmps6
  go_wp2_with fail
  refine HN.out.mono ?_
  rintro e w1 ⟨rfl, hw1⟩
  rw [← hw1] at HR0 HK0
  clear hw1 HN
  go_wp2_with fail
  refine (push_any 5 w1 HR0.out (by simp)).mono ?_
  rintro e w2 ⟨rfl, ⟨g2, A2, ss2, f2, hR2, hg2⟩, hk2⟩
  have HR2 := Lib.hid hR2
  have HK2 : Hid (Kept (fun k => w.heap.size ≤ k) w w2) := HK0.out.next hk2 (fun i _ h => by rcases h with rfl | rfl <;> exact Nat.le_refl _)
  have hz : w.heap.size ≤ w1.heap.size := HK0.out.size
  have hg : w.heap.size ≤ g2 := by omega
  clear hR2 hk2 HR0 HK0 hg2
  go_wp2_with fail
  refine (push_full 6 w2 HR2.out (by simp)).mono ?_
  rintro e w3 ⟨rfl, n3, hw3⟩
  have HR3 : Hid (Ring w3 w.heap.size g2 1 A2 ss2 f2 [5]) := by rw [hw3]; exact HR2.out.drewN n3
  have HK3 : Hid (Kept (fun k => w.heap.size ≤ k) w w3) := by rw [hw3]; exact HK2.out.drewN n3
  clear hw3 HR2 HK2
  go_wp2_with fail
  refine (pop_some w3 HR3.out).mono ?_
  rintro e w4 ⟨rfl, ⟨ss4, f4, hR4⟩, hk4⟩
  have HR4 := Lib.hid hR4
  have HK4 : Hid (Kept (fun k => w.heap.size ≤ k) w w4) := HK3.out.next hk4 (fun i _ h => by rcases h with rfl | rfl <;> omega)
  clear hR4 hk4 HR3 HK3
  go_wp2_with fail
  refine (len_any w4 HR4.out).mono ?_
  rintro e w5 ⟨rfl, rfl⟩
  go_wp2_with fail
  refine (room_any w5 HR4.out).mono ?_
  rintro e w6 ⟨rfl, n6, rfl⟩
  go_wp2_with fail
  go_ret
  exact ⟨rfl, (HK4.out.drewN n6).below (Nat.le_refl _) (fun k hk h => by omega)⟩
end Go.Proofs.Ytlpcjfjjfnnbcaa
