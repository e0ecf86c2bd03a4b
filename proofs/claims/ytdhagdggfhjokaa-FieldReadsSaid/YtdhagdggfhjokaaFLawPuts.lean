/-
  Walks over solderlaw02.works and solderlaw02.FieldPuts.
-/
import Derived.Test.YtdhagdggfhjokaaFPutF
namespace Go.Proofs.Ytdhagdggfhjokaa
open Go.RowKit

theorem newF (s : ByteArray) (w : World) :
    Calls Try.prog 11 #[.string s] w fun e w' => e = .returned (.pointer (some ⟨w.heap.size, 0, none⟩)) ∧ RdF w' w.heap.size s ⟨0, 0⟩ ∧ Below w.heap.size w w' := by
  refine (new_any s w).mono ?_
  rintro e w' ⟨rfl, rfl⟩
  refine ⟨rfl, ?_, (Below.refl _ _).alloc (Nat.le_refl _) _⟩
  unfold RdF
  rw [M.ext_all]
  exact Box.new _ _ _
theorem below_by {B b : Nat} {w w1 w2 : World} (h : Below B w w1) (hg : w1.grownBy w2 (some b)) (hB : B ≤ b) (hs : B ≤ w1.heap.size) : Below B w w2 :=
  h.grown hg hs (fun k e => by injection e with e; omega)

set_option maxHeartbeats 1000000 in
theorem works_any (w : World) : Calls Try.prog 6 #[] w fun e w' => e = .returned (.bool true) ∧ Below w.heap.size w w' := by
  obtain ⟨s, hs⟩ : ∃ s, s = (⟨#[1, 2, 97]⟩ : ByteArray) := ⟨_, rfl⟩
  have q1 : M.putS ⟨#[]⟩ 258 2 = ⟨#[1, 2]⟩ := by decide +kernel
  have q2 : M.outN s ⟨0, 0⟩ 2 = 258 := by rw [hs]; decide +kernel
  have q3 : M.stN s ⟨0, 0⟩ 2 = ⟨2, 0⟩ := by rw [hs]; rfl
  have q4 : M.left s ⟨2, 0⟩ = 1 := by rw [hs]; rfl
  have q5 : M.endE s ⟨2, 0⟩ = 2 := by rw [hs]; rfl
  have q6 : M.outB s ⟨2, 0⟩ 1 = ⟨#[97]⟩ := by rw [hs]; decide +kernel
  have q7 : M.stB s ⟨2, 0⟩ 1 = ⟨3, 0⟩ := by rw [hs]; rfl
  have q8 : M.endE s ⟨3, 0⟩ = 0 := by rw [hs]; rfl
  have o1 : (⟨0, 0⟩ : M.St).ok s := by rw [hs]; show 0 ≤ _; omega
  have o2 : (⟨2, 0⟩ : M.St).ok s := by rw [hs]; show 2 ≤ 3; omega
  have o3 : (⟨3, 0⟩ : M.St).ok s := by rw [hs]; show 3 ≤ 3; omega
  have C0 := Lib.hid (newF s w)
  have C1 := Lib.hid (fun w => put_any ⟨#[]⟩ 258 2 w (by decide) (by omega) (by omega) (by omega))
  have C2 := Lib.hid (fun b w hR => numF b s ⟨0, 0⟩ 2 (by omega) (by omega) w hR o1)
  have C3 := Lib.hid (fun b w hR => leftF b s ⟨2, 0⟩ w hR o2)
  have C4 := Lib.hid (fun b w hR => endF b s ⟨2, 0⟩ w hR o2)
  have C5 := Lib.hid (fun b w hR => bytesF b s ⟨2, 0⟩ 1 w hR o2)
  have C6 := Lib.hid (fun b w hR => endF b s ⟨3, 0⟩ w hR o3)
  rw [q1] at C1
  rw [q2, q3] at C2
  rw [q4] at C3
  rw [q5] at C4
  rw [q6, q7] at C5
  rw [q8] at C6
  rw [hs] at C0
  have HSS := Lib.hid hs
  clear q1 q2 q3 q4 q5 q6 q7 q8 o1 o2 o3 hs
  go_enter Try.func6, Try.ntmps6
  go_wp2_with fail
  refine C0.out.mono ?_
  rintro e w1 ⟨rfl, hR1, hb1⟩
  have HR1 := Lib.hid hR1
  clear hR1
  go_wp2_with fail
  refine (C1.out w1).mono ?_
  rintro e w2 ⟨rfl, hb2⟩
  have HR2 : Hid (RdF w2 w.heap.size s ⟨0, 0⟩) := by rw [HSS.out]; exact HR1.out.below hb2 HR1.out.lt
  have hb2' := hb1.trans (hb2.mono hb1.size)
  clear hb2 HR1 hb1
  go_wp2_with fail
  refine (C2.out w.heap.size w2 HR2.out).mono ?_
  rintro e w3 ⟨rfl, hR3, hg3⟩
  have hb3 := below_by hb2' hg3 (Nat.le_refl _) hb2'.size
  have HR3 := Lib.hid hR3
  clear hb2' HR2 hR3 hg3
  go_wp2_with fail
  refine (C3.out w.heap.size w3 HR3.out).mono ?_
  rintro e w4 ⟨rfl, rfl⟩
  go_wp2_with fail
  refine (C4.out w.heap.size w3 HR3.out).mono ?_
  rintro e w4 ⟨rfl, rfl⟩
  go_wp2_with fail
  refine (C5.out w.heap.size w3 HR3.out).mono ?_
  rintro e w4 ⟨rfl, hR4, hg4⟩
  have hb4 := below_by hb3 hg4 (Nat.le_refl _) hb3.size
  have HR4 := Lib.hid hR4
  clear hb3 HR3 hR4 hg4
  go_wp2_with fail
  refine (C6.out w.heap.size w4 HR4.out).mono ?_
  rintro e w5 ⟨rfl, rfl⟩
  go_wp2_with fail
  go_ret
  exact ⟨rfl, hb4⟩

theorem str_eq_self (s : ByteArray) : (s.toList == s.toList) = true := by simp
set_option maxHeartbeats 1000000 in
theorem fieldPuts_walk (s : ByteArray) (n : Int) (_n0 : -9223372036854775808 ≤ n) (n9 : n ≤ 9223372036854775807) (z : Int) (z0 : -9223372036854775808 ≤ z) (z9 : z ≤ 9223372036854775807) (w : World) :
    Calls Try.prog 3 #[.string s, .int .i64 n, .int .i64 z] w fun e w' => e = .returned (.bool true) ∧ Below w.heap.size w w' := by
  by_cases hs : s.size ≤ 3000
  · have hd : decide ((3000 : Int) < (s.size : Int)) = false := by simp; omega
    go_enter Try.func3, Try.ntmps3
    go_wp2_with fail
    refine (works_any w).mono ?_
    rintro e w1 ⟨rfl, hb1⟩
    go_wp2_with fail
    refine (fits_any n z w1 z0 z9).mono ?_
    rintro e w2 ⟨rfl, rfl⟩
    go_wp2_with fail
    refine (rfits_any n z w1 n9).mono ?_
    rintro e w2 ⟨rfl, rfl⟩
    go_wp2_with fail
    refine (put_any s n z w1 (by omega) n9 z0 z9).mono ?_
    rintro e w2 ⟨rfl, hb2⟩
    have hb2' := hb1.trans (hb2.mono hb1.size)
    clear hb2 hb1
    obtain ⟨p, hp⟩ : ∃ p, p = M.putS s n z := ⟨_, rfl⟩
    rw [← hp]
    have HP := Lib.hid hp
    clear hp
    go_wp2_with fail
    refine (rput_any s n z w2 (by omega) n9).mono ?_
    rintro e w3 ⟨rfl, hb3⟩
    have hb3' := hb2'.trans (hb3.mono hb2'.size)
    rw [← HP.out]
    clear hb3
    go_wp2_with fail
    go_ret
    exact ⟨rfl, hb3'⟩
  · have hd : decide ((3000 : Int) < (s.size : Int)) = true := by simp; omega
    go_enter Try.func3, Try.ntmps3
    go_wp2_with fail
    refine (works_any w).mono ?_
    rintro e w1 ⟨rfl, hb1⟩
    go_wp2_with fail
    go_ret
    exact ⟨rfl, hb1⟩
end Go.Proofs.Ytdhagdggfhjokaa
