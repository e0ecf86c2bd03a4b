/-
  Walk over solderlaw05.works.
-/
import Derived.Test.YtlmnmiomfhgcdaaDoorVBump
import Derived.Test.YtlmnmiomfhgcdaaDoorVPut
namespace Go.Proofs.YtlmnmiomfhgcdaaDoor
open Go.RowKit

theorem vtext_32 : M.vtext 3 2 = ⟨#[51, 46, 50]⟩ := by
  have e3 : Lib.itoa 3 = [51] := by show Lib.decDigits 3 = _; rw [Lib.decDigits_one (by omega)]; rfl
  have e2 : Lib.itoa 2 = [50] := by show Lib.decDigits 2 = _; rw [Lib.decDigits_one (by omega)]; rfl
  unfold M.vtext M.itS
  rw [e3, e2]
  decide +kernel
theorem vtext_works (w : World) (hE : TabE w) :
    Calls Tryd.prog 18 #[.agg #[.int .i64 3, .int .i64 2]] w fun e w' => e = .returned (.string ⟨#[51, 46, 50]⟩) ∧ Below w.heap.size w w' := by
  have h := vtext_any 3 2 (by omega) (by omega) (by omega) (by omega) w hE
  rw [vtext_32] at h
  exact h
theorem bump_works (w : World) :
    Calls Tryd.prog 20 #[.agg #[.int .i64 3, .int .i64 1], .int .i64 1, .int .i64 0] w fun e w' => e = .returned (.tuple #[.agg #[.int .i64 3, .int .i64 2], .int .i64 0]) ∧ Below w.heap.size w w' := by
  have h := bump_any 3 1 1 0 w
  have e : bumpT 3 1 1 0 = .tuple #[.agg #[.int .i64 3, .int .i64 2], .int .i64 0] := by
    unfold bumpT
    rw [show M.bumpA 3 1 1 0 = 3 by decide, show M.bumpB 3 1 1 0 = 2 by decide, show M.bumpE 3 1 1 0 = 0 by decide]
  rw [e] at h
  exact h
theorem compare_works (w : World) :
    Calls Tryd.prog 10 #[.agg #[.int .i64 3, .int .i64 1], .agg #[.int .i64 2, .int .i64 2]] w fun e w' => e = .returned (.int .i64 3) ∧ Below w.heap.size w w' := by
  have h := compare_any 3 1 2 2 w
  rw [show M.cmpI 3 1 2 2 = 3 by decide] at h
  exact h
theorem join_works (w : World) :
    Calls Tryd.prog 14 #[.agg #[.int .i64 3, .int .i64 1], .agg #[.int .i64 2, .int .i64 2]] w fun e w' => e = .returned (.agg #[.int .i64 3, .int .i64 2]) ∧ Below w.heap.size w w' := by
  have h := join_any 3 1 2 2 w
  rw [show M.mx 3 2 = 3 by decide, show M.mx 1 2 = 2 by decide] at h
  exact h

set_option maxHeartbeats 1000000 in
theorem works_any (w : World) (hE : TabE w) : Calls Tryd.prog 7 #[] w fun e w' => e = .returned (.bool true) ∧ Below w.heap.size w w' := by
  have HE := Lib.hid hE
  have HB := Lib.hid (below2 w (.cells #[.int .i64 3, .int .i64 1] 23) (.cells #[.int .i64 2, .int .i64 2] 23))
  have HS := Lib.hid (two_cells w 3 1 2 2 23)
  clear hE
  go_enter Tryd.func7, Tryd.ntmps7
  go_wp2_with fail
  obtain ⟨W, hW⟩ : ∃ W, W = (w.alloc (.cells #[.int .i64 3, .int .i64 1] 23)).alloc (.cells #[.int .i64 2, .int .i64 2] 23) := ⟨_, rfl⟩
  rw [← hW] at HS HB
  rw [← hW]
  clear hW
  have hb0 : Below W.heap.size W W := Below.refl _ _
  refine (Held.call HS hb0 (bump_works _)).mono ?_
  rintro e w1 ⟨rfl, hb1, hS1⟩
  have HC : Hid (∀ y, Below (w1.alloc (.cells #[.int .i64 3, .int .i64 2] 23)).heap.size (w1.alloc (.cells #[.int .i64 3, .int .i64 2] 23)) y →
      (y.cell? ⟨w.heap.size, 0, none⟩ = some (.int .i64 3) ∧ y.cell? ⟨w.heap.size, 1, none⟩ = some (.int .i64 1) ∧ y.cell? ⟨w.heap.size + 1, 0, none⟩ = some (.int .i64 2) ∧ y.cell? ⟨w.heap.size + 1, 1, none⟩ = some (.int .i64 2) ∧
      y.cell? ⟨w1.heap.size, 0, none⟩ = some (.int .i64 3) ∧ y.cell? ⟨w1.heap.size, 1, none⟩ = some (.int .i64 2)) ∧ TabE y) := fun y h => by
    have hw : Below W.heap.size W y := (hb1.alloc hb1.size _).trans (h.mono (hb1.alloc hb1.size _).size)
    obtain ⟨c1, c2, c3, c4⟩ := HS.out y hw
    obtain ⟨c5, c6⟩ := one_cells w1 3 2 _ y h
    exact ⟨⟨c1, c2, c3, c4, c5, c6⟩, (HE.out.below HB.out).below hw⟩
  have HB2 := Lib.hid (HB.out.trans ((hb1.alloc hb1.size (.cells #[.int .i64 3, .int .i64 2] 23)).mono HB.out.size))
  clear hS1 hb1 hb0
  go_wp2_with fail
  obtain ⟨X, hX⟩ : ∃ X, X = w1.alloc (.cells #[.int .i64 3, .int .i64 2] 23) := ⟨_, rfl⟩
  rw [← hX] at HC HB2
  rw [← hX]
  clear hX
  have hb0 : Below X.heap.size X X := Below.refl _ _
  obtain ⟨hS0, hE0⟩ := HC.out X hb0
  go_region_held3 (fun y => y.cell? ⟨w.heap.size, 0, none⟩ = some (.int .i64 3) ∧ y.cell? ⟨w.heap.size, 1, none⟩ = some (.int .i64 1) ∧ y.cell? ⟨w.heap.size + 1, 0, none⟩ = some (.int .i64 2) ∧ y.cell? ⟨w.heap.size + 1, 1, none⟩ = some (.int .i64 2) ∧
      y.cell? ⟨w1.heap.size, 0, none⟩ = some (.int .i64 3) ∧ y.cell? ⟨w1.heap.size, 1, none⟩ = some (.int .i64 2)) (first | assumption)
    (first
      | (go_at_call 10; refine (Held.call HC (by first | assumption | exact Below.drew (by assumption)) (compare_works _)).mono ?_; rintro e w2 ⟨rfl, hb2, hS2, hE2⟩)
      | (go_at_call 14; refine (Held.call HC (by first | assumption | exact Below.drew (by assumption)) (join_works _)).mono ?_; rintro e w3 ⟨rfl, hb3, hS3, hE3⟩)
      | (go_at_call 18; refine (Held.call HC (by first | assumption | exact Below.drew (by assumption)) (vtext_works _ (HC.out _ (by first | assumption | exact Below.drew (by assumption))).2)).mono ?_; rintro e w4 ⟨rfl, hb4, hS4, hE4⟩))
  have hB := Lib.hid (HB2.out.trans (hb4.mono HB2.out.size))
  go_wp2_with fail
  go_ret
  exact ⟨rfl, hB.out⟩
end Go.Proofs.YtlmnmiomfhgcdaaDoor
