/-
  Walk over solderlaw05.VectorTells.
-/
import Derived.Test.YtlmnmiomfhgcdaaDoorVWorks
namespace Go.Proofs.YtlmnmiomfhgcdaaDoor
open Go.RowKit

set_option maxHeartbeats 4000000 in
set_option maxRecDepth 100000 in
theorem vectorTells_few (a b c d : Int) (s : ByteArray) (hs : s.size ≤ 3000) (a0 : -9223372036854775808 ≤ a) (a9 : a ≤ 9223372036854775807) (b0 : -9223372036854775808 ≤ b) (b9 : b ≤ 9223372036854775807) (w : World) (hE : TabE w) :
    Calls Tryd.prog 3 #[.agg #[.int .i64 a, .int .i64 b], .agg #[.int .i64 c, .int .i64 d], .string s] w fun e w' => e = .returned (.bool true) ∧ Below w.heap.size w w' := by
  have HB := Lib.hid (below2 w (.cells #[.int .i64 a, .int .i64 b] 23) (.cells #[.int .i64 c, .int .i64 d] 23))
  have HS : Hid (∀ y, Below ((w.alloc (.cells #[.int .i64 a, .int .i64 b] 23)).alloc (.cells #[.int .i64 c, .int .i64 d] 23)).heap.size ((w.alloc (.cells #[.int .i64 a, .int .i64 b] 23)).alloc (.cells #[.int .i64 c, .int .i64 d] 23)) y →
      (y.cell? ⟨w.heap.size, 0, none⟩ = some (.int .i64 a) ∧ y.cell? ⟨w.heap.size, 1, none⟩ = some (.int .i64 b) ∧ y.cell? ⟨w.heap.size + 1, 0, none⟩ = some (.int .i64 c) ∧ y.cell? ⟨w.heap.size + 1, 1, none⟩ = some (.int .i64 d)) ∧ TabE y) :=
    fun y h => ⟨two_cells w a b c d _ y h, (hE.below HB.out).below h⟩
  have hd : decide ((3000 : Int) < (s.size : Int)) = false := by simp; omega
  obtain ⟨r, hr⟩ : ∃ r, r = M.rightB a b := ⟨_, rfl⟩
  obtain ⟨k, hk⟩ : ∃ k, k = M.cmpI a b c d := ⟨_, rfl⟩
  obtain ⟨q, hq⟩ : ∃ q, q = M.covB a b c d := ⟨_, rfl⟩
  obtain ⟨j1, hj1⟩ : ∃ q, q = M.mx a c := ⟨_, rfl⟩
  obtain ⟨j2, hj2⟩ : ∃ q, q = M.mx b d := ⟨_, rfl⟩
  obtain ⟨p, hp⟩ : ∃ q, q = M.vput s a b := ⟨_, rfl⟩
  obtain ⟨t, ht⟩ : ∃ q, q = M.vtext a b := ⟨_, rfl⟩
  have C1 := Lib.hid (fun x => right_any a b x)
  have C2 := Lib.hid (fun x => rright_any a b x)
  have C3 := Lib.hid (fun x => compare_any a b c d x)
  have C4 := Lib.hid (fun x => rcompare_any a b c d x)
  have C5 := Lib.hid (fun x => covers_any a b c d x)
  have C6 := Lib.hid (fun x => rcovers_any a b c d x)
  have C7 := Lib.hid (fun x => join_any a b c d x)
  have C8 := Lib.hid (fun x => rjoin_any a b c d x)
  have C9 := Lib.hid (fun x => vput_any s a b x (by omega) a9 b9)
  have D1 := Lib.hid (fun x => rvput_any s a b x (by omega) a9 b9)
  have D2 := Lib.hid (fun x (h : TabE x) => vtext_any a b a0 a9 b0 b9 x h)
  have D3 := Lib.hid (fun x => rvtext_any a b a0 a9 b0 b9 x)
  rw [← hr] at C1 C2
  rw [← hk] at C3 C4
  rw [← hq] at C5 C6
  rw [← hj1, ← hj2] at C7 C8
  rw [← hp] at C9 D1
  rw [← ht] at D2 D3
  clear hr hk hq hj1 hj2 hp ht a0 a9 b0 b9
  have z1 : (r == r) = true := by simp
  have z2 : (k == k) = true := by simp
  have z3 : (q == q) = true := by simp
  have z4 : (j1 == j1) = true := by simp
  have z5 : (j2 == j2) = true := by simp
  have z6 : (p.toList == p.toList) = true := by simp
  have z7 : (t.toList == t.toList) = true := by simp
  have HE := Lib.hid (hE.below HB.out)
  clear hE hs
  go_enter Tryd.func3, Tryd.ntmps3
  go_wp2_with fail
  obtain ⟨W, hW⟩ : ∃ W, W = (w.alloc (.cells #[.int .i64 a, .int .i64 b] 23)).alloc (.cells #[.int .i64 c, .int .i64 d] 23) := ⟨_, rfl⟩
  rw [← hW] at HS HB HE
  rw [← hW]
  clear hW
  have hb0 : Below W.heap.size W W := Below.refl _ _
  refine (Held.call HS hb0 (works_any _ HE.out)).mono ?_
  rintro e w1 ⟨rfl, hb1, hS1, hE1⟩
  clear hb0
  go_wp2_with fail
  go_region_held3 (fun y => y.cell? ⟨w.heap.size, 0, none⟩ = some (.int .i64 a) ∧ y.cell? ⟨w.heap.size, 1, none⟩ = some (.int .i64 b) ∧ y.cell? ⟨w.heap.size + 1, 0, none⟩ = some (.int .i64 c) ∧ y.cell? ⟨w.heap.size + 1, 1, none⟩ = some (.int .i64 d)) (first | assumption)
    (first
      | (go_at_call 8; refine (Held.call HS (by first | assumption | exact Below.drew (by assumption)) (C1.out _)).mono ?_; rintro e w2 ⟨rfl, hb2, hS2, hE2⟩)
      | (go_at_call 9; refine (Held.call HS (by first | assumption | exact Below.drew (by assumption)) (C2.out _)).mono ?_; rintro e w2 ⟨rfl, hb2, hS2, hE2⟩)
      | (go_at_call 10; refine (Held.call HS (by first | assumption | exact Below.drew (by assumption)) (C3.out _)).mono ?_; rintro e w2 ⟨rfl, hb2, hS2, hE2⟩)
      | (go_at_call 11; refine (Held.call HS (by first | assumption | exact Below.drew (by assumption)) (C4.out _)).mono ?_; rintro e w2 ⟨rfl, hb2, hS2, hE2⟩)
      | (go_at_call 12; refine (Held.call HS (by first | assumption | exact Below.drew (by assumption)) (C5.out _)).mono ?_; rintro e w2 ⟨rfl, hb2, hS2, hE2⟩)
      | (go_at_call 13; refine (Held.call HS (by first | assumption | exact Below.drew (by assumption)) (C6.out _)).mono ?_; rintro e w2 ⟨rfl, hb2, hS2, hE2⟩)
      | (go_at_call 14; refine (Held.call HS (by first | assumption | exact Below.drew (by assumption)) (C7.out _)).mono ?_; rintro e w2 ⟨rfl, hb2, hS2, hE2⟩)
      | (go_at_call 15; refine (Held.call HS (by first | assumption | exact Below.drew (by assumption)) (C8.out _)).mono ?_; rintro e w2 ⟨rfl, hb2, hS2, hE2⟩)
      | (go_at_call 16; refine (Held.call HS (by first | assumption | exact Below.drew (by assumption)) (C9.out _)).mono ?_; rintro e w2 ⟨rfl, hb2, hS2, hE2⟩)
      | (go_at_call 17; refine (Held.call HS (by first | assumption | exact Below.drew (by assumption)) (D1.out _)).mono ?_; rintro e w2 ⟨rfl, hb2, hS2, hE2⟩)
      | (go_at_call 18; refine (Held.call HS (by first | assumption | exact Below.drew (by assumption)) (D2.out _ (HS.out _ (by first | assumption | exact Below.drew (by assumption))).2)).mono ?_; rintro e w2 ⟨rfl, hb2, hS2, hE2⟩)
      | (go_at_call 19; refine (Held.call HS (by first | assumption | exact Below.drew (by assumption)) (D3.out _)).mono ?_; rintro e w2 ⟨rfl, hb2, hS2, hE2⟩))
  have hB := Lib.hid (HB.out.trans (hb2.mono HB.out.size))
  go_wp2_with fail
  go_ret
  exact ⟨rfl, hB.out⟩

set_option maxHeartbeats 1000000 in
theorem vectorTells_walk (a b c d : Int) (s : ByteArray) (a0 : -9223372036854775808 ≤ a) (a9 : a ≤ 9223372036854775807) (b0 : -9223372036854775808 ≤ b) (b9 : b ≤ 9223372036854775807) (w : World) (hE : TabE w) :
    Calls Tryd.prog 3 #[.agg #[.int .i64 a, .int .i64 b], .agg #[.int .i64 c, .int .i64 d], .string s] w fun e w' => e = .returned (.bool true) ∧ Below w.heap.size w w' := by
  by_cases hs : s.size ≤ 3000
  · exact vectorTells_few a b c d s hs a0 a9 b0 b9 w hE
  · have hd : decide ((3000 : Int) < (s.size : Int)) = true := by simp; omega
    have HB := Lib.hid (below2 w (.cells #[.int .i64 a, .int .i64 b] 23) (.cells #[.int .i64 c, .int .i64 d] 23))
    have HE := Lib.hid (hE.below HB.out)
    clear hE
    go_enter Tryd.func3, Tryd.ntmps3
    go_wp2_with fail
    refine (works_any _ HE.out).mono ?_
    rintro e w1 ⟨rfl, hb1⟩
    go_wp2_with fail
    go_ret
    exact ⟨rfl, HB.out.trans (hb1.mono HB.out.size)⟩
end Go.Proofs.YtlmnmiomfhgcdaaDoor
