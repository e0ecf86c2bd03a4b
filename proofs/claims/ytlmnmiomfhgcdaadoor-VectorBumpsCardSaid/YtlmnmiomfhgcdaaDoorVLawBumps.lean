/-
  Walk over solderlaw05.VectorBumps.
-/
import Derived.Test.YtlmnmiomfhgcdaaDoorVWorks
namespace Go.Proofs.YtlmnmiomfhgcdaaDoor
open Go.RowKit

theorem bump_is {a b n t x y z : Int} (h : bumpT a b n t = .tuple #[.agg #[.int .i64 x, .int .i64 y], .int .i64 z]) (w : World) :
    Calls Tryd.prog 20 #[.agg #[.int .i64 a, .int .i64 b], .int .i64 n, .int .i64 t] w fun e w' => e = .returned (.tuple #[.agg #[.int .i64 x, .int .i64 y], .int .i64 z]) ∧ Below w.heap.size w w' := by
  rw [← h]; exact bump_any a b n t w
theorem rbump_is {a b n t x y z : Int} (h : bumpT a b n t = .tuple #[.agg #[.int .i64 x, .int .i64 y], .int .i64 z]) (w : World) :
    Calls Tryd.prog 21 #[.agg #[.int .i64 a, .int .i64 b], .int .i64 n, .int .i64 t] w fun e w' => e = .returned (.tuple #[.agg #[.int .i64 x, .int .i64 y], .int .i64 z]) ∧ Below w.heap.size w w' := by
  rw [← h]; exact rbump_any a b n t w

set_option maxHeartbeats 4000000 in
set_option maxRecDepth 100000 in
theorem bumps_core (a b n t x y z m u : Int) (w : World) (hE : TabE w) (hT : bumpT a b n t = .tuple #[.agg #[.int .i64 x, .int .i64 y], .int .i64 z]) (hm : m = M.atI a b n) (hu : u = M.atI x y n)
    (hz : ((z != 0) = true) ∨ (z = 0 ∧ M.cmpI x y a b = 1 ∧ M.cmpI a b x y = 2 ∧ t * 16777216 < u ∧ 0 ≤ t ∧ t ≤ 16777216)) :
    Calls Tryd.prog 4 #[.agg #[.int .i64 a, .int .i64 b], .int .i64 n, .int .i64 t] w fun e w' => e = .returned (.bool true) ∧ Below w.heap.size w w' := by
  have HB := Lib.hid ((Below.refl w.heap.size w).alloc (Nat.le_refl _) (.cells #[.int .i64 a, .int .i64 b] 23))
  have HS := Lib.hid (one_cells w a b 23)
  have HE := Lib.hid (hE.below HB.out)
  have HT := Lib.hid hT
  have C1 := Lib.hid (fun q => at_any a b n q)
  have C2 := Lib.hid (fun q => rat_any a b n q)
  have C3 := Lib.hid (fun q => at_any x y n q)
  rw [← hm] at C1 C2
  rw [← hu] at C3
  clear hE hT hm hu
  have z1 : (x == x) = true := by simp
  have z2 : (y == y) = true := by simp
  have z3 : (z != z) = false := by simp
  have z4 : (m != m) = false := by simp
  go_enter Tryd.func4, Tryd.ntmps4
  go_wp2_with fail
  obtain ⟨W, hW⟩ : ∃ W, W = w.alloc (.cells #[.int .i64 a, .int .i64 b] 23) := ⟨_, rfl⟩
  rw [← hW] at HS HB HE
  rw [← hW]
  clear hW
  have hb0 : Below W.heap.size W W := Below.refl _ _
  refine (Held.call HS hb0 (works_any _ HE.out)).mono ?_
  rintro e w1 ⟨rfl, hb1, hc1, hc2⟩
  clear hb0
  go_wp2_with fail
  refine (Held.call HS hb1 (bump_is HT.out _)).mono ?_
  rintro e w2 ⟨rfl, hb2, hc3, hc4⟩
  -- the box of a
  have HS2 : Hid (∀ q, Below (w2.alloc (.cells #[.int .i64 x, .int .i64 y] 23)).heap.size (w2.alloc (.cells #[.int .i64 x, .int .i64 y] 23)) q →
      q.cell? ⟨w.heap.size, 0, none⟩ = some (.int .i64 a) ∧ q.cell? ⟨w.heap.size, 1, none⟩ = some (.int .i64 b) ∧ q.cell? ⟨w2.heap.size, 0, none⟩ = some (.int .i64 x) ∧ q.cell? ⟨w2.heap.size, 1, none⟩ = some (.int .i64 y)) := fun q h => by
    have hw : Below W.heap.size W q := (hb2.alloc hb2.size _).trans (h.mono (hb2.alloc hb2.size _).size)
    exact ⟨(HS.out q hw).1, (HS.out q hw).2, (one_cells w2 x y _ q h).1, (one_cells w2 x y _ q h).2⟩
  have HB2 := Lib.hid (HB.out.trans ((hb2.alloc hb2.size (.cells #[.int .i64 x, .int .i64 y] 23)).mono HB.out.size))
  clear hc1 hc2 hb1 hb2
  obtain ⟨g1, g2, g3, g4⟩ := HS2.out _ (Below.refl _ _)
  go_wp2_with fail
  obtain ⟨X, hX⟩ : ∃ X, X = w2.alloc (.cells #[.int .i64 x, .int .i64 y] 23) := ⟨_, rfl⟩
  rw [← hX] at HS2 HB2
  rw [← hX]
  clear hX
  have hb0 : Below X.heap.size X X := Below.refl _ _
  refine (Held.call HS2 hb0 (rbump_is HT.out _)).mono ?_
  rintro e w3 ⟨rfl, hb3, hc5, hc6, hc7, hc8⟩
  clear hc3 hc4 g1 g2 g3 g4
  -- the box of b
  have HS3 : Hid (∀ q, Below (w3.alloc (.cells #[.int .i64 x, .int .i64 y] 23)).heap.size (w3.alloc (.cells #[.int .i64 x, .int .i64 y] 23)) q →
      q.cell? ⟨w.heap.size, 0, none⟩ = some (.int .i64 a) ∧ q.cell? ⟨w.heap.size, 1, none⟩ = some (.int .i64 b) ∧ q.cell? ⟨w2.heap.size, 0, none⟩ = some (.int .i64 x) ∧ q.cell? ⟨w2.heap.size, 1, none⟩ = some (.int .i64 y) ∧ q.cell? ⟨w3.heap.size, 0, none⟩ = some (.int .i64 x) ∧ q.cell? ⟨w3.heap.size, 1, none⟩ = some (.int .i64 y)) := fun q h => by
    have hw : Below X.heap.size X q := (hb3.alloc hb3.size _).trans (h.mono (hb3.alloc hb3.size _).size)
    exact ⟨(HS2.out q hw).1, (HS2.out q hw).2.1, (HS2.out q hw).2.2.1, (HS2.out q hw).2.2.2, (one_cells w3 x y _ q h).1, (one_cells w3 x y _ q h).2⟩
  have HB3 := Lib.hid (HB2.out.trans ((hb3.alloc hb3.size (.cells #[.int .i64 x, .int .i64 y] 23)).mono HB2.out.size))
  clear hb0 hb3
  go_wp2_with fail
  obtain ⟨Y, hY⟩ : ∃ Y, Y = w3.alloc (.cells #[.int .i64 x, .int .i64 y] 23) := ⟨_, rfl⟩
  rw [← hY] at HS3 HB3
  rw [← hY]
  clear hY hc5 hc6 hc7 hc8
  have hb0 : Below Y.heap.size Y Y := Below.refl _ _
  have hS0 := HS3.out Y hb0
  go_region_held3 (fun q => q.cell? ⟨w.heap.size, 0, none⟩ = some (.int .i64 a) ∧ q.cell? ⟨w.heap.size, 1, none⟩ = some (.int .i64 b) ∧ q.cell? ⟨w2.heap.size, 0, none⟩ = some (.int .i64 x) ∧ q.cell? ⟨w2.heap.size, 1, none⟩ = some (.int .i64 y) ∧ q.cell? ⟨w3.heap.size, 0, none⟩ = some (.int .i64 x) ∧ q.cell? ⟨w3.heap.size, 1, none⟩ = some (.int .i64 y)) (first | assumption)
    (first
      | (go_at_call 22; refine (Held.call HS3 (by first | assumption | exact Below.drew (by assumption)) (C1.out _)).mono ?_; rintro e w4 ⟨rfl, hb4, hS4⟩)
      | (go_at_call 23; refine (Held.call HS3 (by first | assumption | exact Below.drew (by assumption)) (C2.out _)).mono ?_; rintro e w4 ⟨rfl, hb4, hS4⟩))
  obtain ⟨k1, k2, k3, k4, k5, k6⟩ := hS4
  rcases hz with hz | ⟨rfl, e1, e2, e3, t0, t9⟩
  · go_wp2_with fail
    go_ret
    exact ⟨rfl, HB3.out.trans (hb4.mono HB3.out.size)⟩
  · go_wp2_with (first
      | (go_at_call 10; refine (Held.call HS3 (by first | assumption | exact Below.drew (by assumption)) (compare_any _ _ _ _ _)).mono ?_; rintro e w5 ⟨rfl, hb5, k1, k2, k3, k4, k5, k6⟩)
      | (go_at_call 22; refine (Held.call HS3 (by first | assumption | exact Below.drew (by assumption)) (C3.out _)).mono ?_; rintro e w6 ⟨rfl, hb6, k1, k2, k3, k4, k5, k6⟩))
    go_ret
    exact ⟨rfl, HB3.out.trans (hb6.mono HB3.out.size)⟩

theorem vectorBumps_walk (a b n t : Int) (w : World) (hE : TabE w) :
    Calls Tryd.prog 4 #[.agg #[.int .i64 a, .int .i64 b], .int .i64 n, .int .i64 t] w fun e w' => e = .returned (.bool true) ∧ Below w.heap.size w w' := by
  refine bumps_core a b n t _ _ _ _ _ w hE rfl rfl rfl ?_
  by_cases h : M.bumpE a b n t = 0
  · right
    obtain ⟨h1, h2, h3, h4, h5⟩ := M.bump_ahead h
    exact ⟨h, h1, h2, h3, h4, h5⟩
  · left; simpa using h
end Go.Proofs.YtlmnmiomfhgcdaaDoor
