/-
  Walk over solderlaw05.VectorOrder.
-/
import Derived.Test.YtlmnmiomfhgcdaaDoorVWorks
namespace Go.Proofs.YtlmnmiomfhgcdaaDoor
open Go.RowKit

/-- The cells of three vectors. -/
def Three (w y : World) (a b c d e f : Int) : Prop :=
  y.cell? ⟨w.heap.size, 0, none⟩ = some (.int .i64 a) ∧ y.cell? ⟨w.heap.size, 1, none⟩ = some (.int .i64 b) ∧ y.cell? ⟨w.heap.size + 1, 0, none⟩ = some (.int .i64 c) ∧ y.cell? ⟨w.heap.size + 1, 1, none⟩ = some (.int .i64 d) ∧ y.cell? ⟨w.heap.size + 1 + 1, 0, none⟩ = some (.int .i64 e) ∧ y.cell? ⟨w.heap.size + 1 + 1, 1, none⟩ = some (.int .i64 f)
theorem three_cells (w : World) (a b c d e f : Int) (t : TypeId) : ∀ y, Below (((w.alloc (.cells #[.int .i64 a, .int .i64 b] t)).alloc (.cells #[.int .i64 c, .int .i64 d] t)).alloc (.cells #[.int .i64 e, .int .i64 f] t)).heap.size (((w.alloc (.cells #[.int .i64 a, .int .i64 b] t)).alloc (.cells #[.int .i64 c, .int .i64 d] t)).alloc (.cells #[.int .i64 e, .int .i64 f] t)) y →
    Three w y a b c d e f := by
  intro y hb
  refine ⟨cell_of hb ?_, cell_of hb ?_, cell_of hb ?_, cell_of hb ?_, cell_of hb ?_, cell_of hb ?_⟩ <;> simp [go_sem]

set_option maxHeartbeats 400000 in
theorem order_false (a b c d e f : Int) (w : World) (hE : TabE w) (r1 r2 r3 q1 q2 : Bool) (h1 : M.covB a b c d = r1) (_h2 : M.covB c d e f = r2) (_h3 : M.covB c d a b = r3) (h4 : (a == c) = q1) (h5 : (b == d) = q2)
    (hc : (r1 = false ∧ q1 = false) ∨ (r1 = false ∧ q1 = true ∧ q2 = false)) :
    Calls Tryd.prog 5 #[.agg #[.int .i64 a, .int .i64 b], .agg #[.int .i64 c, .int .i64 d], .agg #[.int .i64 e, .int .i64 f]] w fun e w' => e = .returned (.bool true) ∧ Below w.heap.size w w' := by
  have HE := Lib.hid hE
  have HB := Lib.hid (below3 w (.cells #[.int .i64 a, .int .i64 b] 23) (.cells #[.int .i64 c, .int .i64 d] 23) (.cells #[.int .i64 e, .int .i64 f] 23))
  have HS := Lib.hid (three_cells w a b c d e f 23)
  have h7 := M.cov_refl a b
  clear hE
  rcases hc with ⟨rfl, rfl⟩ | ⟨rfl, rfl, rfl⟩
  all_goals
    go_enter Tryd.func5, Tryd.ntmps5
    go_wp2_with fail
    obtain ⟨W, hW⟩ : ∃ W, W = ((w.alloc (.cells #[.int .i64 a, .int .i64 b] 23)).alloc (.cells #[.int .i64 c, .int .i64 d] 23)).alloc (.cells #[.int .i64 e, .int .i64 f] 23) := ⟨_, rfl⟩
    rw [← hW] at HS HB
    rw [← hW]
    clear hW
    have hb0 : Below W.heap.size W W := Below.refl _ _
    refine (Held.call HS hb0 (works_any _ (HE.out.below HB.out))).mono ?_
    rintro e w1 ⟨rfl, hb1, hc1, hc2, hc3, hc4, hc5, hc6⟩
    clear hb0
    go_wp2_with (go_at_call 12; refine (Held.call HS (by first | assumption | exact Below.drew (by assumption)) (covers_any _ _ _ _ _)).mono ?_; rintro e w1 ⟨rfl, hb1, hc1, hc2, hc3, hc4, hc5, hc6⟩)
    have hS0 : w1.cell? ⟨w.heap.size, 0, none⟩ = some (.int .i64 a) ∧ w1.cell? ⟨w.heap.size, 1, none⟩ = some (.int .i64 b) ∧ w1.cell? ⟨w.heap.size + 1, 0, none⟩ = some (.int .i64 c) ∧ w1.cell? ⟨w.heap.size + 1, 1, none⟩ = some (.int .i64 d) := ⟨hc1, hc2, hc3, hc4⟩
    have HS2 : Hid (∀ y, Below W.heap.size W y → y.cell? ⟨w.heap.size, 0, none⟩ = some (.int .i64 a) ∧ y.cell? ⟨w.heap.size, 1, none⟩ = some (.int .i64 b) ∧ y.cell? ⟨w.heap.size + 1, 0, none⟩ = some (.int .i64 c) ∧ y.cell? ⟨w.heap.size + 1, 1, none⟩ = some (.int .i64 d)) := fun y h => ⟨(HS.out y h).1, (HS.out y h).2.1, (HS.out y h).2.2.1, (HS.out y h).2.2.2.1⟩
    clear hc1 hc2 hc3 hc4 hc5 hc6
    refine wp_region_held_drew (S := (fun y => y.cell? ⟨w.heap.size, 0, none⟩ = some (.int .i64 a) ∧ y.cell? ⟨w.heap.size, 1, none⟩ = some (.int .i64 b) ∧ y.cell? ⟨w.heap.size + 1, 0, none⟩ = some (.int .i64 c) ∧ y.cell? ⟨w.heap.size + 1, 1, none⟩ = some (.int .i64 d))) (by kernel_rfl) (by first | assumption) (fun hHeld => ?_)
    refine wpAnyH_take (i := 0) (oi := ?_) (v := ?_) ?_ (by kernel_rfl) (by kernel_rfl) (by kernel_rfl) ?_ ?_ (by assumption) ?_
    rotate_left 2
    · (simp only [List.getElem?_toArray, List.getElem?_cons_zero]; rfl)
    rotate_left
    · (refine Or.inl ⟨by rfl, ?_⟩; intro w hSw; (try dsimp only at hSw); go_simp; try with_reducible rfl)
    rotate_right
    · exact fun _ _ _ h => h
    simp only [Act.put, List.setIfInBounds_toArray, List.set_cons_zero, List.set_cons_succ]
    refine wpAnyH_take (i := 1) (oi := ?_) (v := ?_) ?_ (by kernel_rfl) (by kernel_rfl) (by kernel_rfl) ?_ ?_ (by assumption) ?_
    rotate_left 2
    · (simp only [List.getElem?_toArray, List.getElem?_cons_zero, List.getElem?_cons_succ]; rfl)
    rotate_left
    · (refine Or.inl ⟨by rfl, ?_⟩; intro w hSw; (try dsimp only at hSw); go_simp; try with_reducible rfl)
    rotate_right
    · exact fun _ _ _ h => h
    simp only [Act.put, List.setIfInBounds_toArray, List.set_cons_zero, List.set_cons_succ]
    refine wpAnyH_take (i := 8) (oi := ?_) (v := ?_) ?_ (by kernel_rfl) (by kernel_rfl) (by kernel_rfl) ?_ ?_ (by assumption) ?_
    rotate_left 2
    · (simp only [List.getElem?_toArray, List.getElem?_cons_zero, List.getElem?_cons_succ]; rfl)
    rotate_left
    · (refine Or.inl ⟨by rfl, ?_⟩; intro w hSw; (try dsimp only at hSw); go_simp; try with_reducible rfl)
    rotate_right
    · exact fun _ _ _ h => h
    simp only [Act.put, List.setIfInBounds_toArray, List.set_cons_zero, List.set_cons_succ]
    refine wpAnyH_take (i := 9) (oi := ?_) (v := ?_) ?_ (by kernel_rfl) (by kernel_rfl) (by kernel_rfl) ?_ ?_ (by assumption) ?_
    rotate_left 2
    · (simp only [List.getElem?_toArray, List.getElem?_cons_zero, List.getElem?_cons_succ]; rfl)
    rotate_left
    · (refine Or.inl ⟨by rfl, ?_⟩; intro w hSw; (try dsimp only at hSw); go_simp; try with_reducible rfl)
    rotate_right
    · exact fun _ _ _ h => h
    simp only [Act.put, List.setIfInBounds_toArray, List.set_cons_zero, List.set_cons_succ]
    refine wpAnyH_take (i := 10) (oi := ?_) (v := ?_) ?_ (by kernel_rfl) (by kernel_rfl) (by kernel_rfl) ?_ ?_ (by assumption) ?_
    rotate_left 2
    · (simp only [List.getElem?_toArray, List.getElem?_cons_zero, List.getElem?_cons_succ]; rfl)
    rotate_left
    · (refine Or.inl ⟨by rfl, ?_⟩; intro w hSw; (try dsimp only at hSw); go_simp; try with_reducible rfl)
    rotate_right
    · exact fun _ _ _ h => h
    simp only [Act.put, List.setIfInBounds_toArray, List.set_cons_zero, List.set_cons_succ]
    refine wpAnyH_ready (rs := [2]) (by kernel_rfl) (by simp) ?_
    refine AllReadyH.cons (o := ?_) ?_ (fun K hK => ?_) AllReadyH.nil
    rotate_left
    · (simp only [List.getElem?_toArray, List.getElem?_cons_zero, List.getElem?_cons_succ]; rfl)
    go_simp
    (refine (Held.call HS2 (by first | assumption | exact Below.drew (by assumption)) (covers_any _ _ _ _ _)).mono ?_; rintro e w2 ⟨he, hb2, hS2⟩; simp only [h1] at he; subst he)
    refine hK.out _ _ (by first | assumption) (fun hHeld => ?_)
    clear hK K
    refine wpAnyH_take (i := 3) (oi := ?_) (v := ?_) ?_ (by kernel_rfl) (by kernel_rfl) (by kernel_rfl) ?_ ?_ (by assumption) ?_
    rotate_left 2
    · (simp only [List.getElem?_toArray, List.getElem?_cons_zero, List.getElem?_cons_succ]; rfl)
    rotate_left
    · (refine Or.inl ⟨by rfl, ?_⟩; intro w hSw; (try dsimp only at hSw); go_simp; try with_reducible rfl)
    rotate_right
    · exact fun _ _ _ h => h
    simp only [Act.put, List.setIfInBounds_toArray, List.set_cons_zero, List.set_cons_succ]
    refine wpAnyH_take (i := 4) (oi := ?_) (v := undef) ?_ (by kernel_rfl) (by kernel_rfl) (by kernel_rfl) ?_ (Or.inr ⟨?_, rfl⟩) (by assumption) ?_
    rotate_left
    · (simp only [List.getElem?_toArray, List.getElem?_cons_zero, List.getElem?_cons_succ]; rfl)
    · exact fun _ _ _ h => h
    · rfl
    simp only [Act.put, List.setIfInBounds_toArray, List.set_cons_zero, List.set_cons_succ]
    refine wpAnyH_take (i := 5) (oi := ?_) (v := undef) ?_ (by kernel_rfl) (by kernel_rfl) (by kernel_rfl) ?_ (Or.inr ⟨?_, rfl⟩) (by assumption) ?_
    rotate_left
    · (simp only [List.getElem?_toArray, List.getElem?_cons_zero, List.getElem?_cons_succ]; rfl)
    · exact fun _ _ _ h => h
    · rfl
    simp only [Act.put, List.setIfInBounds_toArray, List.set_cons_zero, List.set_cons_succ]
    refine wpAnyH_take (i := 6) (oi := ?_) (v := undef) ?_ (by kernel_rfl) (by kernel_rfl) (by kernel_rfl) ?_ (Or.inr ⟨?_, rfl⟩) (by assumption) ?_
    rotate_left
    · (simp only [List.getElem?_toArray, List.getElem?_cons_zero, List.getElem?_cons_succ]; rfl)
    · exact fun _ _ _ h => h
    · rfl
    simp only [Act.put, List.setIfInBounds_toArray, List.set_cons_zero, List.set_cons_succ]
    refine wpAnyH_take (i := 7) (oi := ?_) (v := ?_) ?_ (by kernel_rfl) (by kernel_rfl) (by kernel_rfl) ?_ ?_ (by assumption) ?_
    rotate_left 2
    · (simp only [List.getElem?_toArray, List.getElem?_cons_zero, List.getElem?_cons_succ]; rfl)
    rotate_left
    · (refine Or.inl ⟨by rfl, ?_⟩; intro w hSw; (try dsimp only at hSw); go_simp; try with_reducible rfl)
    rotate_right
    · exact fun _ _ _ h => h
    simp only [Act.put, List.setIfInBounds_toArray, List.set_cons_zero, List.set_cons_succ]
    refine wpAnyH_take (i := 11) (oi := ?_) (v := ?_) ?_ (by kernel_rfl) (by kernel_rfl) (by kernel_rfl) ?_ ?_ (by assumption) ?_
    rotate_left 2
    · (simp only [List.getElem?_toArray, List.getElem?_cons_zero, List.getElem?_cons_succ]; rfl)
    rotate_left
    · (refine Or.inl ⟨by rfl, ?_⟩; intro w hSw; (try dsimp only at hSw); go_simp; try with_reducible rfl)
    rotate_right
    · exact fun _ _ _ h => h
    simp only [Act.put, List.setIfInBounds_toArray, List.set_cons_zero, List.set_cons_succ]
    refine wpAnyH_take (i := 12) (oi := ?_) (v := ?_) ?_ (by kernel_rfl) (by kernel_rfl) (by kernel_rfl) ?_ ?_ (by assumption) ?_
    rotate_left 2
    · (simp only [List.getElem?_toArray, List.getElem?_cons_zero, List.getElem?_cons_succ]; rfl)
    rotate_left
    · (refine Or.inl ⟨by rfl, ?_⟩; intro w hSw; (try dsimp only at hSw); go_simp; try with_reducible rfl)
    rotate_right
    · exact fun _ _ _ h => h
    simp only [Act.put, List.setIfInBounds_toArray, List.set_cons_zero, List.set_cons_succ]
    refine wpAnyH_take (i := 13) (oi := ?_) (v := ?_) ?_ (by kernel_rfl) (by kernel_rfl) (by kernel_rfl) ?_ ?_ (by assumption) ?_
    rotate_left 2
    · (simp only [List.getElem?_toArray, List.getElem?_cons_zero, List.getElem?_cons_succ]; rfl)
    rotate_left
    · (refine Or.inl ⟨by rfl, ?_⟩; intro w hSw; (try dsimp only at hSw); go_simp; try with_reducible rfl)
    rotate_right
    · exact fun _ _ _ h => h
    simp only [Act.put, List.setIfInBounds_toArray, List.set_cons_zero, List.set_cons_succ]
    refine wpAnyH_take (i := 14) (oi := ?_) (v := ?_) ?_ (by kernel_rfl) (by kernel_rfl) (by kernel_rfl) ?_ ?_ (by assumption) ?_
    rotate_left 2
    · (simp only [List.getElem?_toArray, List.getElem?_cons_zero, List.getElem?_cons_succ]; rfl)
    rotate_left
    · (refine Or.inl ⟨by rfl, ?_⟩; intro w hSw; (try dsimp only at hSw); go_simp; try with_reducible rfl)
    rotate_right
    · exact fun _ _ _ h => h
    simp only [Act.put, List.setIfInBounds_toArray, List.set_cons_zero, List.set_cons_succ]
    refine wpAnyH_ready (rs := [15]) (by kernel_rfl) (by simp) ?_
    refine AllReadyH.cons (o := ?_) ?_ (fun K hK => ?_) AllReadyH.nil
    rotate_left
    · (simp only [List.getElem?_toArray, List.getElem?_cons_zero, List.getElem?_cons_succ]; rfl)
    go_simp
    (refine (Held.call HS2 (by first | assumption | exact Below.drew (by assumption)) (covers_any _ _ _ _ _)).mono ?_; rintro e w2 ⟨he, hb2, hS2⟩; simp only [h7] at he; subst he)
    refine hK.out _ _ (by first | assumption) (fun hHeld => ?_)
    clear hK K
    refine wpAnyH_take (i := 16) (oi := ?_) (v := ?_) ?_ (by kernel_rfl) (by kernel_rfl) (by kernel_rfl) ?_ ?_ (by assumption) ?_
    rotate_left 2
    · (simp only [List.getElem?_toArray, List.getElem?_cons_zero, List.getElem?_cons_succ]; rfl)
    rotate_left
    · (refine Or.inl ⟨by rfl, ?_⟩; intro w hSw; (try dsimp only at hSw); go_simp; try with_reducible rfl)
    rotate_right
    · exact fun _ _ _ h => h
    simp only [Act.put, List.setIfInBounds_toArray, List.set_cons_zero, List.set_cons_succ]
    refine wpAnyH_take (i := 17) (oi := ?_) (v := ?_) ?_ (by kernel_rfl) (by kernel_rfl) (by kernel_rfl) ?_ ?_ (by assumption) ?_
    rotate_left 2
    · (simp only [List.getElem?_toArray, List.getElem?_cons_zero, List.getElem?_cons_succ]; rfl)
    rotate_left
    · (refine Or.inl ⟨by rfl, ?_⟩; intro w hSw; (try dsimp only at hSw); go_simp; try with_reducible rfl)
    rotate_right
    · exact fun _ _ _ h => h
    simp only [Act.put, List.setIfInBounds_toArray, List.set_cons_zero, List.set_cons_succ]
    refine wpAnyH_done (by kernel_rfl) ?_ _
    have hB := Lib.hid (HB.out.trans (hb2.mono HB.out.size))
    go_wp2_with fail
    go_ret
    exact ⟨rfl, hB.out⟩

set_option maxHeartbeats 2000000 in
theorem order_true (a b c d e f : Int) (w : World) (hE : TabE w) (r1 r2 r3 q1 q2 : Bool) (h1 : M.covB a b c d = r1) (h2 : M.covB c d e f = r2) (h3 : M.covB c d a b = r3) (h4 : (a == c) = q1) (h5 : (b == d) = q2)
    (hc : (r1 = true ∧ r2 = false ∧ r3 = false ∧ q1 = false) ∨ (r1 = true ∧ r2 = true ∧ r3 = false ∧ q1 = false) ∨ (r1 = true ∧ r2 = false ∧ r3 = false ∧ q1 = true ∧ q2 = false) ∨ (r1 = true ∧ r2 = true ∧ r3 = false ∧ q1 = true ∧ q2 = false) ∨ (r1 = true ∧ r2 = false ∧ r3 = true ∧ q1 = true ∧ q2 = true) ∨ (r1 = true ∧ r2 = true ∧ r3 = true ∧ q1 = true ∧ q2 = true)) :
    Calls Tryd.prog 5 #[.agg #[.int .i64 a, .int .i64 b], .agg #[.int .i64 c, .int .i64 d], .agg #[.int .i64 e, .int .i64 f]] w fun e w' => e = .returned (.bool true) ∧ Below w.heap.size w w' := by
  have HE := Lib.hid hE
  have HB := Lib.hid (below3 w (.cells #[.int .i64 a, .int .i64 b] 23) (.cells #[.int .i64 c, .int .i64 d] 23) (.cells #[.int .i64 e, .int .i64 f] 23))
  have HS := Lib.hid (three_cells w a b c d e f 23)
  have h6 : r1 = true → r2 = true → M.covB a b e f = true := fun x y => M.cov_trans (h1.trans x) (h2.trans y)
  have h7 := M.cov_refl a b
  clear hE
  rcases hc with ⟨rfl, rfl, rfl, rfl⟩ | ⟨rfl, rfl, rfl, rfl⟩ | ⟨rfl, rfl, rfl, rfl, rfl⟩ | ⟨rfl, rfl, rfl, rfl, rfl⟩ | ⟨rfl, rfl, rfl, rfl, rfl⟩ | ⟨rfl, rfl, rfl, rfl, rfl⟩
  all_goals
    have h6 := h6 rfl
    (try have h6 := h6 rfl)
    go_enter Tryd.func5, Tryd.ntmps5
    go_wp2_with fail
    obtain ⟨W, hW⟩ : ∃ W, W = ((w.alloc (.cells #[.int .i64 a, .int .i64 b] 23)).alloc (.cells #[.int .i64 c, .int .i64 d] 23)).alloc (.cells #[.int .i64 e, .int .i64 f] 23) := ⟨_, rfl⟩
    rw [← hW] at HS HB
    rw [← hW]
    clear hW
    have hb0 : Below W.heap.size W W := Below.refl _ _
    refine (Held.call HS hb0 (works_any _ (HE.out.below HB.out))).mono ?_
    rintro e w1 ⟨rfl, hb1, hc1, hc2, hc3, hc4, hc5, hc6⟩
    clear hb0
    go_wp2_with (go_at_call 12; refine (Held.call HS (by first | assumption | exact Below.drew (by assumption)) (covers_any _ _ _ _ _)).mono ?_; rintro e w1 ⟨rfl, hb1, hc1, hc2, hc3, hc4, hc5, hc6⟩)
    have hS0 : w1.cell? ⟨w.heap.size, 0, none⟩ = some (.int .i64 a) ∧ w1.cell? ⟨w.heap.size, 1, none⟩ = some (.int .i64 b) ∧ w1.cell? ⟨w.heap.size + 1, 0, none⟩ = some (.int .i64 c) ∧ w1.cell? ⟨w.heap.size + 1, 1, none⟩ = some (.int .i64 d) := ⟨hc1, hc2, hc3, hc4⟩
    have HS2 : Hid (∀ y, Below W.heap.size W y → y.cell? ⟨w.heap.size, 0, none⟩ = some (.int .i64 a) ∧ y.cell? ⟨w.heap.size, 1, none⟩ = some (.int .i64 b) ∧ y.cell? ⟨w.heap.size + 1, 0, none⟩ = some (.int .i64 c) ∧ y.cell? ⟨w.heap.size + 1, 1, none⟩ = some (.int .i64 d)) := fun y h => ⟨(HS.out y h).1, (HS.out y h).2.1, (HS.out y h).2.2.1, (HS.out y h).2.2.2.1⟩
    clear hc1 hc2 hc3 hc4 hc5 hc6
    go_region_held3 (fun y => y.cell? ⟨w.heap.size, 0, none⟩ = some (.int .i64 a) ∧ y.cell? ⟨w.heap.size, 1, none⟩ = some (.int .i64 b) ∧ y.cell? ⟨w.heap.size + 1, 0, none⟩ = some (.int .i64 c) ∧ y.cell? ⟨w.heap.size + 1, 1, none⟩ = some (.int .i64 d)) (first | assumption)
      (first | (go_at_call 12; refine (Held.call HS2 (by first | assumption | exact Below.drew (by assumption)) (covers_any _ _ _ _ _)).mono ?_; rintro e w2 ⟨he, hb2, hS2⟩; simp only [h1, h3, h7] at he; subst he))
    have hB := Lib.hid (HB.out.trans (hb2.mono HB.out.size))
    go_wp2_with fail
    go_ret
    exact ⟨rfl, hB.out⟩

theorem vectorOrder_walk (a b c d e f : Int) (w : World) (hE : TabE w) :
    Calls Tryd.prog 5 #[.agg #[.int .i64 a, .int .i64 b], .agg #[.int .i64 c, .int .i64 d], .agg #[.int .i64 e, .int .i64 f]] w fun e w' => e = .returned (.bool true) ∧ Below w.heap.size w w' := by
  have hb := M.cov_both a b c d
  cases h1 : M.covB a b c d
  · refine order_false a b c d e f w hE _ _ _ _ _ rfl rfl rfl rfl rfl ?_
    cases h4 : (a == c) <;> cases h5 : (b == d) <;> rw [h1, h4, h5] at hb <;> first | (revert hb; simp; done) | simp [h1]
  · refine order_true a b c d e f w hE _ _ _ _ _ rfl rfl rfl rfl rfl ?_
    cases h2 : M.covB c d e f <;> cases h3 : M.covB c d a b <;> cases h4 : (a == c) <;> cases h5 : (b == d) <;> rw [h1, h3, h4, h5] at hb <;> first | (revert hb; simp; done) | simp [h1]

end Go.Proofs.YtlmnmiomfhgcdaaDoor
