/-
  Walks over vector.Bump and solderref05.Bump.
-/
import Derived.Test.YtlmnmiomfhgcdaaDoorVCov
namespace Go.Proofs.YtlmnmiomfhgcdaaDoor
open Go.RowKit

/-- A vector's box, and the box of the result. -/
theorem bump_cells (w : World) (a b : Int) (t : TypeId) : ∀ y, Below ((w.alloc (.cells #[.int .i64 a, .int .i64 b] t)).alloc (.cells #[.int .i64 0, .int .i64 0] t)).heap.size ((w.alloc (.cells #[.int .i64 a, .int .i64 b] t)).alloc (.cells #[.int .i64 0, .int .i64 0] t)) y →
    (y.cell? ⟨w.heap.size, 0, none⟩ = some (.int .i64 a) ∧ y.cell? ⟨w.heap.size, 1, none⟩ = some (.int .i64 b) ∧ y.cell? ⟨w.heap.size + 1, 0, none⟩ = some (.int .i64 0) ∧ y.cell? ⟨w.heap.size + 1, 1, none⟩ = some (.int .i64 0)) ∧
    (y.frozen? ⟨w.heap.size, 0, none⟩ = false ∧ y.frozen? ⟨w.heap.size, 1, none⟩ = false ∧ y.frozen? ⟨w.heap.size + 1, 0, none⟩ = false ∧ y.frozen? ⟨w.heap.size + 1, 1, none⟩ = false) := by
  intro y hb
  refine ⟨two_cells w a b 0 0 t y hb, ?_⟩
  have g1 : Box ((w.alloc (.cells #[.int .i64 a, .int .i64 b] t)).alloc (.cells #[.int .i64 0, .int .i64 0] t)) w.heap.size t #[.int .i64 a, .int .i64 b] :=
    (Box.new w t #[.int .i64 a, .int .i64 b]).below ((Below.refl _ _).alloc (Nat.le_refl _) _) (Box.new w t #[.int .i64 a, .int .i64 b]).lt
  have g2 : Box ((w.alloc (.cells #[.int .i64 a, .int .i64 b] t)).alloc (.cells #[.int .i64 0, .int .i64 0] t)) (w.heap.size + 1) t #[.int .i64 0, .int .i64 0] := by
    have := Box.new (w.alloc (.cells #[.int .i64 a, .int .i64 b] t)) t #[.int .i64 0, .int .i64 0]
    simpa using this
  have h1 := g1.below hb g1.lt
  have h2 := g2.below hb g2.lt
  exact ⟨h1.frozen 0, h1.frozen 1, h2.frozen 0, h2.frozen 1⟩

def bumpT (a b n t : Int) : Value := .tuple #[.agg #[.int .i64 (M.bumpA a b n t), .int .i64 (M.bumpB a b n t)], .int .i64 (M.bumpE a b n t)]
theorem bumpT_eq {a b n t x y z : Int} (h : M.bumpA a b n t = x ∧ M.bumpB a b n t = y ∧ M.bumpE a b n t = z) : Ending.returned (.tuple #[.agg #[.int .i64 x, .int .i64 y], .int .i64 z]) = .returned (bumpT a b n t) := by
  rw [bumpT, h.1, h.2.1, h.2.2]
theorem M.next_cases {a b n t : Int} (h : M.mayB a b n t = true) : (M.atI a b n < t * 16777216 ∧ M.nextI a b n t = t * 16777216 + 1 ∧ ¬ 1125899906842624 < M.nextI a b n t) ∨ (t * 16777216 ≤ M.atI a b n ∧ M.nextI a b n t = M.atI a b n + 1) := by
  have := M.may_of h
  have e : M.nextI a b n t = M.mx (M.atI a b n) (t * 16777216) + 1 := rfl
  rcases M.mx_or (M.atI a b n) (t * 16777216) with ⟨h1, h2⟩ | ⟨h1, h2⟩
  · left; rw [e, h2]; omega
  · right; rw [e, h2]; omega
theorem M.may_parts {a b n t : Int} (h : M.mayB a b n t = false) : M.nodeB n = false ∨ (M.nodeB n = true ∧ M.rightB a b = false) ∨ (M.nodeB n = true ∧ M.rightB a b = true ∧ t < 0) ∨ (M.nodeB n = true ∧ M.rightB a b = true ∧ 0 ≤ t ∧ 16777216 < t) := by
  unfold M.mayB at h
  cases h1 : M.nodeB n <;> cases h2 : M.rightB a b <;> simp [h1, h2] at h ⊢
  omega
theorem M.node_lt {n : Int} (h : M.nodeB n = false) : n < 0 ∨ (0 ≤ n ∧ 1 < n) := by
  unfold M.nodeB at h; simp at h; omega
theorem M.node_in {n : Int} (h : M.nodeB n = true) : 0 ≤ n ∧ n ≤ 1 := by
  unfold M.nodeB at h; simp at h; omega

set_option maxHeartbeats 400000 in
theorem bump_no_node (a b n t : Int) (w : World) (h : M.nodeB n = false) :
    Calls Tryd.prog 20 #[.agg #[.int .i64 a, .int .i64 b], .int .i64 n, .int .i64 t] w fun e w' => e = .returned (bumpT a b n t) ∧ Below w.heap.size w w' := by
  have HR := Lib.hid (M.bump_no (a := a) (b := b) (n := n) (t := t) (by simp [M.mayB, h]))
  have HB := Lib.hid (below2 w (.cells #[.int .i64 a, .int .i64 b] 23) (.cells #[.int .i64 0, .int .i64 0] 23))
  have HS := Lib.hid (bump_cells w a b 23)
  go_enter Tryd.func20, Tryd.ntmps20
  go_wp2_with (first | (go_at_call 29; refine (isNode_any _ _).mono ?_; rintro e w1 ⟨rfl, rfl⟩))
  exact bodyPost_ret (v := .tuple #[.agg #[.int .i64 0, .int .i64 0], .int .i64 3]) (by simp [results, Tryd.results20, go_sem, *]) rfl ⟨bumpT_eq HR.out, HB.out⟩

set_option maxHeartbeats 400000 in
theorem bump_no_right (a b n t : Int) (w : World) (h : M.nodeB n = true) (hr : M.rightB a b = false) :
    Calls Tryd.prog 20 #[.agg #[.int .i64 a, .int .i64 b], .int .i64 n, .int .i64 t] w fun e w' => e = .returned (bumpT a b n t) ∧ Below w.heap.size w w' := by
  have HR := Lib.hid (M.bump_no (a := a) (b := b) (n := n) (t := t) (by simp [M.mayB, hr]))
  have HB := Lib.hid (below2 w (.cells #[.int .i64 a, .int .i64 b] 23) (.cells #[.int .i64 0, .int .i64 0] 23))
  have HS := Lib.hid (bump_cells w a b 23)
  go_enter Tryd.func20, Tryd.ntmps20
  go_wp2_with (first | (go_at_call 29; refine (isNode_any _ _).mono ?_; rintro e w1 ⟨rfl, rfl⟩))
  obtain ⟨W, hW⟩ : ∃ W, W = (w.alloc (.cells #[.int .i64 a, .int .i64 b] 23)).alloc (.cells #[.int .i64 0, .int .i64 0] 23) := ⟨_, rfl⟩
  rw [← hW] at HS HB
  rw [← hW]
  clear hW
  have hb0 : Below W.heap.size W W := Below.refl _ _
  go_wp2_with (first | (go_at_call 8; refine (Held.call HS hb0 (right_any _ _ _)).mono ?_; rintro e w2 ⟨rfl, hb2, ⟨hc0, hc1, hc2, hc3⟩, hf0, hf1, hf2, hf3⟩))
  exact bodyPost_ret (v := .tuple #[.agg #[.int .i64 0, .int .i64 0], .int .i64 3]) (by simp [results, Tryd.results20, go_sem, *]) rfl ⟨bumpT_eq HR.out, by (repeat refine Below.setCell ?_ (by simp) _); exact HB.out.trans (hb2.mono HB.out.size)⟩

set_option maxHeartbeats 400000 in
theorem bump_neg (a b n t : Int) (w : World) (h : M.nodeB n = true) (hr : M.rightB a b = true) (ht : t < 0) :
    Calls Tryd.prog 20 #[.agg #[.int .i64 a, .int .i64 b], .int .i64 n, .int .i64 t] w fun e w' => e = .returned (bumpT a b n t) ∧ Below w.heap.size w w' := by
  have HR := Lib.hid (M.bump_no (a := a) (b := b) (n := n) (t := t) (by simp [M.mayB]; omega))
  have HB := Lib.hid (below2 w (.cells #[.int .i64 a, .int .i64 b] 23) (.cells #[.int .i64 0, .int .i64 0] 23))
  have HS := Lib.hid (bump_cells w a b 23)
  go_enter Tryd.func20, Tryd.ntmps20
  go_wp2_with (first | (go_at_call 29; refine (isNode_any _ _).mono ?_; rintro e w1 ⟨rfl, rfl⟩))
  obtain ⟨W, hW⟩ : ∃ W, W = (w.alloc (.cells #[.int .i64 a, .int .i64 b] 23)).alloc (.cells #[.int .i64 0, .int .i64 0] 23) := ⟨_, rfl⟩
  rw [← hW] at HS HB
  rw [← hW]
  clear hW
  have hb0 : Below W.heap.size W W := Below.refl _ _
  go_wp2_with (first | (go_at_call 8; refine (Held.call HS hb0 (right_any _ _ _)).mono ?_; rintro e w2 ⟨rfl, hb2, ⟨hc0, hc1, hc2, hc3⟩, hf0, hf1, hf2, hf3⟩))
  exact bodyPost_ret (v := .tuple #[.agg #[.int .i64 0, .int .i64 0], .int .i64 3]) (by simp [results, Tryd.results20, go_sem, *]) rfl ⟨bumpT_eq HR.out, by (repeat refine Below.setCell ?_ (by simp) _); exact HB.out.trans (hb2.mono HB.out.size)⟩

set_option maxHeartbeats 400000 in
theorem bump_big (a b n t : Int) (w : World) (h : M.nodeB n = true) (hr : M.rightB a b = true) (ht0 : 0 ≤ t) (ht : 16777216 < t) :
    Calls Tryd.prog 20 #[.agg #[.int .i64 a, .int .i64 b], .int .i64 n, .int .i64 t] w fun e w' => e = .returned (bumpT a b n t) ∧ Below w.heap.size w w' := by
  have HR := Lib.hid (M.bump_no (a := a) (b := b) (n := n) (t := t) (by simp [M.mayB]; omega))
  have HB := Lib.hid (below2 w (.cells #[.int .i64 a, .int .i64 b] 23) (.cells #[.int .i64 0, .int .i64 0] 23))
  have HS := Lib.hid (bump_cells w a b 23)
  go_enter Tryd.func20, Tryd.ntmps20
  go_wp2_with (first | (go_at_call 29; refine (isNode_any _ _).mono ?_; rintro e w1 ⟨rfl, rfl⟩))
  obtain ⟨W, hW⟩ : ∃ W, W = (w.alloc (.cells #[.int .i64 a, .int .i64 b] 23)).alloc (.cells #[.int .i64 0, .int .i64 0] 23) := ⟨_, rfl⟩
  rw [← hW] at HS HB
  rw [← hW]
  clear hW
  have hb0 : Below W.heap.size W W := Below.refl _ _
  go_wp2_with (first | (go_at_call 8; refine (Held.call HS hb0 (right_any _ _ _)).mono ?_; rintro e w2 ⟨rfl, hb2, ⟨hc0, hc1, hc2, hc3⟩, hf0, hf1, hf2, hf3⟩))
  exact bodyPost_ret (v := .tuple #[.agg #[.int .i64 0, .int .i64 0], .int .i64 3]) (by simp [results, Tryd.results20, go_sem, *]) rfl ⟨bumpT_eq HR.out, by (repeat refine Below.setCell ?_ (by simp) _); exact HB.out.trans (hb2.mono HB.out.size)⟩

set_option maxHeartbeats 1000000 in
theorem bump_may (a b n t : Int) (w : World) (h : M.mayB a b n t = true) :
    Calls Tryd.prog 20 #[.agg #[.int .i64 a, .int .i64 b], .int .i64 n, .int .i64 t] w fun e w' => e = .returned (bumpT a b n t) ∧ Below w.heap.size w w' := by
  have HB := Lib.hid (below2 w (.cells #[.int .i64 a, .int .i64 b] 23) (.cells #[.int .i64 0, .int .i64 0] 23))
  have HS := Lib.hid (bump_cells w a b 23)
  have hnode : M.nodeB n = true := by unfold M.mayB at h; simp at h; exact h.1.1
  have hright : M.rightB a b = true := by unfold M.mayB at h; simp at h; exact h.1.2
  obtain ⟨hn01, h1, h2, h3, h4, h5, h6⟩ := M.may_of h
  obtain ⟨n1, n2, n3, n4, n5, n6⟩ := M.next_bd h
  have HM := Lib.hid h
  rcases M.next_cases h with ⟨q, e, l⟩ | ⟨q, e⟩
  · clear h
    rcases hn01 with rfl | rfl
    · have HR := Lib.hid (M.bump_a HM.out l rfl)
      rw [e] at HR n1 n2 n3 n4 l
      clear e
      go_enter Tryd.func20, Tryd.ntmps20
      go_wp2_with (first | (go_at_call 29; refine (isNode_any _ _).mono ?_; rintro e w1 ⟨rfl, rfl⟩))
      obtain ⟨W, hW⟩ : ∃ W, W = (w.alloc (.cells #[.int .i64 a, .int .i64 b] 23)).alloc (.cells #[.int .i64 0, .int .i64 0] 23) := ⟨_, rfl⟩
      rw [← hW] at HS HB
      rw [← hW]
      clear hW
      have hb0 : Below W.heap.size W W := Below.refl _ _
      go_wp2_with (first | (go_at_call 8; refine (Held.call HS hb0 (right_any _ _ _)).mono ?_; rintro e w2 ⟨rfl, hb2, ⟨hc0, hc1, hc2, hc3⟩, hf0, hf1, hf2, hf3⟩))
      go_wp2_with (first | (go_at_call 22; refine (Held.call HS hb2 (at_any _ _ _ _)).mono ?_; rintro e w3 ⟨rfl, hb3, ⟨hc4, hc5, hc6, hc7⟩, hf4, hf5, hf6, hf7⟩))
      exact bodyPost_ret (v := .tuple #[.agg #[.int .i64 (t * 16777216 + 1), .int .i64 b], .int .i64 0]) (by simp [results, Tryd.results20, go_sem, *]) rfl ⟨bumpT_eq HR.out, by (repeat refine Below.setCell ?_ (by simp) _); exact HB.out.trans (hb3.mono HB.out.size)⟩
    · have HR := Lib.hid (M.bump_b HM.out l (by decide))
      rw [e] at HR n1 n2 n3 n4 l
      clear e
      go_enter Tryd.func20, Tryd.ntmps20
      go_wp2_with (first | (go_at_call 29; refine (isNode_any _ _).mono ?_; rintro e w1 ⟨rfl, rfl⟩))
      obtain ⟨W, hW⟩ : ∃ W, W = (w.alloc (.cells #[.int .i64 a, .int .i64 b] 23)).alloc (.cells #[.int .i64 0, .int .i64 0] 23) := ⟨_, rfl⟩
      rw [← hW] at HS HB
      rw [← hW]
      clear hW
      have hb0 : Below W.heap.size W W := Below.refl _ _
      go_wp2_with (first | (go_at_call 8; refine (Held.call HS hb0 (right_any _ _ _)).mono ?_; rintro e w2 ⟨rfl, hb2, ⟨hc0, hc1, hc2, hc3⟩, hf0, hf1, hf2, hf3⟩))
      go_wp2_with (first | (go_at_call 22; refine (Held.call HS hb2 (at_any _ _ _ _)).mono ?_; rintro e w3 ⟨rfl, hb3, ⟨hc4, hc5, hc6, hc7⟩, hf4, hf5, hf6, hf7⟩))
      exact bodyPost_ret (v := .tuple #[.agg #[.int .i64 a, .int .i64 (t * 16777216 + 1)], .int .i64 0]) (by simp [results, Tryd.results20, go_sem, *]) rfl ⟨bumpT_eq HR.out, by (repeat refine Below.setCell ?_ (by simp) _); exact HB.out.trans (hb3.mono HB.out.size)⟩
  · clear h
    by_cases l : 1125899906842624 < M.nextI a b n t
    · have HR := Lib.hid (M.bump_limit HM.out l)
      rw [e] at n1 n2 n3 n4 l
      clear e
      go_enter Tryd.func20, Tryd.ntmps20
      go_wp2_with (first | (go_at_call 29; refine (isNode_any _ _).mono ?_; rintro e w1 ⟨rfl, rfl⟩))
      obtain ⟨W, hW⟩ : ∃ W, W = (w.alloc (.cells #[.int .i64 a, .int .i64 b] 23)).alloc (.cells #[.int .i64 0, .int .i64 0] 23) := ⟨_, rfl⟩
      rw [← hW] at HS HB
      rw [← hW]
      clear hW
      have hb0 : Below W.heap.size W W := Below.refl _ _
      go_wp2_with (first | (go_at_call 8; refine (Held.call HS hb0 (right_any _ _ _)).mono ?_; rintro e w2 ⟨rfl, hb2, ⟨hc0, hc1, hc2, hc3⟩, hf0, hf1, hf2, hf3⟩))
      go_wp2_with (first | (go_at_call 22; refine (Held.call HS hb2 (at_any _ _ _ _)).mono ?_; rintro e w3 ⟨rfl, hb3, ⟨hc4, hc5, hc6, hc7⟩, hf4, hf5, hf6, hf7⟩))
      exact bodyPost_ret (v := .tuple #[.agg #[.int .i64 0, .int .i64 0], .int .i64 17]) (by simp [results, Tryd.results20, go_sem, *]) rfl ⟨bumpT_eq HR.out, by (repeat refine Below.setCell ?_ (by simp) _); exact HB.out.trans (hb3.mono HB.out.size)⟩
    · rcases hn01 with rfl | rfl
      · have HR := Lib.hid (M.bump_a HM.out l rfl)
        rw [e] at HR n1 n2 n3 n4 l
        clear e
        go_enter Tryd.func20, Tryd.ntmps20
        go_wp2_with (first | (go_at_call 29; refine (isNode_any _ _).mono ?_; rintro e w1 ⟨rfl, rfl⟩))
        obtain ⟨W, hW⟩ : ∃ W, W = (w.alloc (.cells #[.int .i64 a, .int .i64 b] 23)).alloc (.cells #[.int .i64 0, .int .i64 0] 23) := ⟨_, rfl⟩
        rw [← hW] at HS HB
        rw [← hW]
        clear hW
        have hb0 : Below W.heap.size W W := Below.refl _ _
        go_wp2_with (first | (go_at_call 8; refine (Held.call HS hb0 (right_any _ _ _)).mono ?_; rintro e w2 ⟨rfl, hb2, ⟨hc0, hc1, hc2, hc3⟩, hf0, hf1, hf2, hf3⟩))
        go_wp2_with (first | (go_at_call 22; refine (Held.call HS hb2 (at_any _ _ _ _)).mono ?_; rintro e w3 ⟨rfl, hb3, ⟨hc4, hc5, hc6, hc7⟩, hf4, hf5, hf6, hf7⟩))
        exact bodyPost_ret (v := .tuple #[.agg #[.int .i64 (M.atI a b 0 + 1), .int .i64 b], .int .i64 0]) (by simp [results, Tryd.results20, go_sem, *]) rfl ⟨bumpT_eq HR.out, by (repeat refine Below.setCell ?_ (by simp) _); exact HB.out.trans (hb3.mono HB.out.size)⟩
      · have HR := Lib.hid (M.bump_b HM.out l (by decide))
        rw [e] at HR n1 n2 n3 n4 l
        clear e
        go_enter Tryd.func20, Tryd.ntmps20
        go_wp2_with (first | (go_at_call 29; refine (isNode_any _ _).mono ?_; rintro e w1 ⟨rfl, rfl⟩))
        obtain ⟨W, hW⟩ : ∃ W, W = (w.alloc (.cells #[.int .i64 a, .int .i64 b] 23)).alloc (.cells #[.int .i64 0, .int .i64 0] 23) := ⟨_, rfl⟩
        rw [← hW] at HS HB
        rw [← hW]
        clear hW
        have hb0 : Below W.heap.size W W := Below.refl _ _
        go_wp2_with (first | (go_at_call 8; refine (Held.call HS hb0 (right_any _ _ _)).mono ?_; rintro e w2 ⟨rfl, hb2, ⟨hc0, hc1, hc2, hc3⟩, hf0, hf1, hf2, hf3⟩))
        go_wp2_with (first | (go_at_call 22; refine (Held.call HS hb2 (at_any _ _ _ _)).mono ?_; rintro e w3 ⟨rfl, hb3, ⟨hc4, hc5, hc6, hc7⟩, hf4, hf5, hf6, hf7⟩))
        exact bodyPost_ret (v := .tuple #[.agg #[.int .i64 a, .int .i64 (M.atI a b 1 + 1)], .int .i64 0]) (by simp [results, Tryd.results20, go_sem, *]) rfl ⟨bumpT_eq HR.out, by (repeat refine Below.setCell ?_ (by simp) _); exact HB.out.trans (hb3.mono HB.out.size)⟩

theorem bump_any (a b n t : Int) (w : World) :
    Calls Tryd.prog 20 #[.agg #[.int .i64 a, .int .i64 b], .int .i64 n, .int .i64 t] w fun e w' => e = .returned (bumpT a b n t) ∧ Below w.heap.size w w' := by
  cases h : M.mayB a b n t
  · rcases M.may_parts h with h1 | ⟨h1, h2⟩ | ⟨h1, h2, h3⟩ | ⟨h1, h2, h3, h4⟩
    · exact bump_no_node a b n t w h1
    · exact bump_no_right a b n t w h1 h2
    · exact bump_neg a b n t w h1 h2 h3
    · exact bump_big a b n t w h1 h2 h3 h4
  · exact bump_may a b n t w h

set_option maxHeartbeats 400000 in
theorem rbump_no_node (a b n t : Int) (w : World) (h : M.nodeB n = false) :
    Calls Tryd.prog 21 #[.agg #[.int .i64 a, .int .i64 b], .int .i64 n, .int .i64 t] w fun e w' => e = .returned (bumpT a b n t) ∧ Below w.heap.size w w' := by
  have HR := Lib.hid (M.bump_no (a := a) (b := b) (n := n) (t := t) (by simp [M.mayB, h]))
  have HB := Lib.hid (below2 w (.cells #[.int .i64 a, .int .i64 b] 23) (.cells #[.int .i64 0, .int .i64 0] 23))
  have HS := Lib.hid (bump_cells w a b 23)
  rcases M.node_lt h with h1 | ⟨h1, h2⟩
  all_goals
    clear h
    go_enter Tryd.func21, Tryd.ntmps21
    go_wp2_with fail
    exact bodyPost_ret (v := .tuple #[.agg #[.int .i64 0, .int .i64 0], .int .i64 3]) (by simp [results, Tryd.results21, go_sem, *]) rfl ⟨bumpT_eq HR.out, HB.out⟩

set_option maxHeartbeats 400000 in
theorem rbump_no_right (a b n t : Int) (w : World) (h : M.nodeB n = true) (hr : M.rightB a b = false) :
    Calls Tryd.prog 21 #[.agg #[.int .i64 a, .int .i64 b], .int .i64 n, .int .i64 t] w fun e w' => e = .returned (bumpT a b n t) ∧ Below w.heap.size w w' := by
  have HR := Lib.hid (M.bump_no (a := a) (b := b) (n := n) (t := t) (by simp [M.mayB, hr]))
  have HB := Lib.hid (below2 w (.cells #[.int .i64 a, .int .i64 b] 23) (.cells #[.int .i64 0, .int .i64 0] 23))
  have HS := Lib.hid (bump_cells w a b 23)
  have n0 := (M.node_in h).1
  have n1 := (M.node_in h).2
  clear h
  go_enter Tryd.func21, Tryd.ntmps21
  go_wp2_with fail
  obtain ⟨W, hW⟩ : ∃ W, W = (w.alloc (.cells #[.int .i64 a, .int .i64 b] 23)).alloc (.cells #[.int .i64 0, .int .i64 0] 23) := ⟨_, rfl⟩
  rw [← hW] at HS HB
  rw [← hW]
  clear hW
  have hb0 : Below W.heap.size W W := Below.refl _ _
  go_wp2_with (first | (go_at_call 9; refine (Held.call HS hb0 (rright_any _ _ _)).mono ?_; rintro e w2 ⟨rfl, hb2, ⟨hc0, hc1, hc2, hc3⟩, hf0, hf1, hf2, hf3⟩))
  exact bodyPost_ret (v := .tuple #[.agg #[.int .i64 0, .int .i64 0], .int .i64 3]) (by simp [results, Tryd.results21, go_sem, *]) rfl ⟨bumpT_eq HR.out, by (repeat refine Below.setCell ?_ (by simp) _); exact HB.out.trans (hb2.mono HB.out.size)⟩

set_option maxHeartbeats 400000 in
theorem rbump_neg (a b n t : Int) (w : World) (h : M.nodeB n = true) (hr : M.rightB a b = true) (ht : t < 0) :
    Calls Tryd.prog 21 #[.agg #[.int .i64 a, .int .i64 b], .int .i64 n, .int .i64 t] w fun e w' => e = .returned (bumpT a b n t) ∧ Below w.heap.size w w' := by
  have HR := Lib.hid (M.bump_no (a := a) (b := b) (n := n) (t := t) (by simp [M.mayB]; omega))
  have HB := Lib.hid (below2 w (.cells #[.int .i64 a, .int .i64 b] 23) (.cells #[.int .i64 0, .int .i64 0] 23))
  have HS := Lib.hid (bump_cells w a b 23)
  have n0 := (M.node_in h).1
  have n1 := (M.node_in h).2
  clear h
  go_enter Tryd.func21, Tryd.ntmps21
  go_wp2_with fail
  obtain ⟨W, hW⟩ : ∃ W, W = (w.alloc (.cells #[.int .i64 a, .int .i64 b] 23)).alloc (.cells #[.int .i64 0, .int .i64 0] 23) := ⟨_, rfl⟩
  rw [← hW] at HS HB
  rw [← hW]
  clear hW
  have hb0 : Below W.heap.size W W := Below.refl _ _
  go_wp2_with (first | (go_at_call 9; refine (Held.call HS hb0 (rright_any _ _ _)).mono ?_; rintro e w2 ⟨rfl, hb2, ⟨hc0, hc1, hc2, hc3⟩, hf0, hf1, hf2, hf3⟩))
  exact bodyPost_ret (v := .tuple #[.agg #[.int .i64 0, .int .i64 0], .int .i64 3]) (by simp [results, Tryd.results21, go_sem, *]) rfl ⟨bumpT_eq HR.out, by (repeat refine Below.setCell ?_ (by simp) _); exact HB.out.trans (hb2.mono HB.out.size)⟩

set_option maxHeartbeats 400000 in
theorem rbump_big (a b n t : Int) (w : World) (h : M.nodeB n = true) (hr : M.rightB a b = true) (ht0 : 0 ≤ t) (ht : 16777216 < t) :
    Calls Tryd.prog 21 #[.agg #[.int .i64 a, .int .i64 b], .int .i64 n, .int .i64 t] w fun e w' => e = .returned (bumpT a b n t) ∧ Below w.heap.size w w' := by
  have HR := Lib.hid (M.bump_no (a := a) (b := b) (n := n) (t := t) (by simp [M.mayB]; omega))
  have HB := Lib.hid (below2 w (.cells #[.int .i64 a, .int .i64 b] 23) (.cells #[.int .i64 0, .int .i64 0] 23))
  have HS := Lib.hid (bump_cells w a b 23)
  have n0 := (M.node_in h).1
  have n1 := (M.node_in h).2
  clear h
  go_enter Tryd.func21, Tryd.ntmps21
  go_wp2_with fail
  obtain ⟨W, hW⟩ : ∃ W, W = (w.alloc (.cells #[.int .i64 a, .int .i64 b] 23)).alloc (.cells #[.int .i64 0, .int .i64 0] 23) := ⟨_, rfl⟩
  rw [← hW] at HS HB
  rw [← hW]
  clear hW
  have hb0 : Below W.heap.size W W := Below.refl _ _
  go_wp2_with (first | (go_at_call 9; refine (Held.call HS hb0 (rright_any _ _ _)).mono ?_; rintro e w2 ⟨rfl, hb2, ⟨hc0, hc1, hc2, hc3⟩, hf0, hf1, hf2, hf3⟩))
  exact bodyPost_ret (v := .tuple #[.agg #[.int .i64 0, .int .i64 0], .int .i64 3]) (by simp [results, Tryd.results21, go_sem, *]) rfl ⟨bumpT_eq HR.out, by (repeat refine Below.setCell ?_ (by simp) _); exact HB.out.trans (hb2.mono HB.out.size)⟩

set_option maxHeartbeats 1000000 in
theorem rbump_may (a b n t : Int) (w : World) (h : M.mayB a b n t = true) :
    Calls Tryd.prog 21 #[.agg #[.int .i64 a, .int .i64 b], .int .i64 n, .int .i64 t] w fun e w' => e = .returned (bumpT a b n t) ∧ Below w.heap.size w w' := by
  have HB := Lib.hid (below2 w (.cells #[.int .i64 a, .int .i64 b] 23) (.cells #[.int .i64 0, .int .i64 0] 23))
  have HS := Lib.hid (bump_cells w a b 23)
  have hnode : M.nodeB n = true := by unfold M.mayB at h; simp at h; exact h.1.1
  have hright : M.rightB a b = true := by unfold M.mayB at h; simp at h; exact h.1.2
  obtain ⟨hn01, h1, h2, h3, h4, h5, h6⟩ := M.may_of h
  obtain ⟨n1, n2, n3, n4, n5, n6⟩ := M.next_bd h
  have HM := Lib.hid h
  have k0 := (M.node_in hnode).1
  have k1 := (M.node_in hnode).2
  clear hnode
  rcases M.next_cases h with ⟨q, e, l⟩ | ⟨q, e⟩
  · clear h
    rcases hn01 with rfl | rfl
    · have HR := Lib.hid (M.bump_a HM.out l rfl)
      rw [e] at HR n1 n2 n3 n4 l
      clear e
      go_enter Tryd.func21, Tryd.ntmps21
      go_wp2_with fail
      obtain ⟨W, hW⟩ : ∃ W, W = (w.alloc (.cells #[.int .i64 a, .int .i64 b] 23)).alloc (.cells #[.int .i64 0, .int .i64 0] 23) := ⟨_, rfl⟩
      rw [← hW] at HS HB
      rw [← hW]
      clear hW
      have hb0 : Below W.heap.size W W := Below.refl _ _
      go_wp2_with (first | (go_at_call 9; refine (Held.call HS hb0 (rright_any _ _ _)).mono ?_; rintro e w2 ⟨rfl, hb2, ⟨hc0, hc1, hc2, hc3⟩, hf0, hf1, hf2, hf3⟩))
      go_wp2_with (first | (go_at_call 23; refine (Held.call HS hb2 (rat_any _ _ _ _)).mono ?_; rintro e w3 ⟨rfl, hb3, ⟨hc4, hc5, hc6, hc7⟩, hf4, hf5, hf6, hf7⟩))
      exact bodyPost_ret (v := .tuple #[.agg #[.int .i64 (t * 16777216 + 1), .int .i64 b], .int .i64 0]) (by simp [results, Tryd.results21, go_sem, *]) rfl ⟨bumpT_eq HR.out, by (repeat refine Below.setCell ?_ (by simp) _); exact HB.out.trans (hb3.mono HB.out.size)⟩
    · have HR := Lib.hid (M.bump_b HM.out l (by decide))
      rw [e] at HR n1 n2 n3 n4 l
      clear e
      go_enter Tryd.func21, Tryd.ntmps21
      go_wp2_with fail
      obtain ⟨W, hW⟩ : ∃ W, W = (w.alloc (.cells #[.int .i64 a, .int .i64 b] 23)).alloc (.cells #[.int .i64 0, .int .i64 0] 23) := ⟨_, rfl⟩
      rw [← hW] at HS HB
      rw [← hW]
      clear hW
      have hb0 : Below W.heap.size W W := Below.refl _ _
      go_wp2_with (first | (go_at_call 9; refine (Held.call HS hb0 (rright_any _ _ _)).mono ?_; rintro e w2 ⟨rfl, hb2, ⟨hc0, hc1, hc2, hc3⟩, hf0, hf1, hf2, hf3⟩))
      go_wp2_with (first | (go_at_call 23; refine (Held.call HS hb2 (rat_any _ _ _ _)).mono ?_; rintro e w3 ⟨rfl, hb3, ⟨hc4, hc5, hc6, hc7⟩, hf4, hf5, hf6, hf7⟩))
      exact bodyPost_ret (v := .tuple #[.agg #[.int .i64 a, .int .i64 (t * 16777216 + 1)], .int .i64 0]) (by simp [results, Tryd.results21, go_sem, *]) rfl ⟨bumpT_eq HR.out, by (repeat refine Below.setCell ?_ (by simp) _); exact HB.out.trans (hb3.mono HB.out.size)⟩
  · clear h
    by_cases l : 1125899906842624 < M.nextI a b n t
    · have HR := Lib.hid (M.bump_limit HM.out l)
      rw [e] at n1 n2 n3 n4 l
      clear e
      go_enter Tryd.func21, Tryd.ntmps21
      go_wp2_with fail
      obtain ⟨W, hW⟩ : ∃ W, W = (w.alloc (.cells #[.int .i64 a, .int .i64 b] 23)).alloc (.cells #[.int .i64 0, .int .i64 0] 23) := ⟨_, rfl⟩
      rw [← hW] at HS HB
      rw [← hW]
      clear hW
      have hb0 : Below W.heap.size W W := Below.refl _ _
      go_wp2_with (first | (go_at_call 9; refine (Held.call HS hb0 (rright_any _ _ _)).mono ?_; rintro e w2 ⟨rfl, hb2, ⟨hc0, hc1, hc2, hc3⟩, hf0, hf1, hf2, hf3⟩))
      go_wp2_with (first | (go_at_call 23; refine (Held.call HS hb2 (rat_any _ _ _ _)).mono ?_; rintro e w3 ⟨rfl, hb3, ⟨hc4, hc5, hc6, hc7⟩, hf4, hf5, hf6, hf7⟩))
      exact bodyPost_ret (v := .tuple #[.agg #[.int .i64 0, .int .i64 0], .int .i64 17]) (by simp [results, Tryd.results21, go_sem, *]) rfl ⟨bumpT_eq HR.out, by (repeat refine Below.setCell ?_ (by simp) _); exact HB.out.trans (hb3.mono HB.out.size)⟩
    · rcases hn01 with rfl | rfl
      · have HR := Lib.hid (M.bump_a HM.out l rfl)
        rw [e] at HR n1 n2 n3 n4 l
        clear e
        go_enter Tryd.func21, Tryd.ntmps21
        go_wp2_with fail
        obtain ⟨W, hW⟩ : ∃ W, W = (w.alloc (.cells #[.int .i64 a, .int .i64 b] 23)).alloc (.cells #[.int .i64 0, .int .i64 0] 23) := ⟨_, rfl⟩
        rw [← hW] at HS HB
        rw [← hW]
        clear hW
        have hb0 : Below W.heap.size W W := Below.refl _ _
        go_wp2_with (first | (go_at_call 9; refine (Held.call HS hb0 (rright_any _ _ _)).mono ?_; rintro e w2 ⟨rfl, hb2, ⟨hc0, hc1, hc2, hc3⟩, hf0, hf1, hf2, hf3⟩))
        go_wp2_with (first | (go_at_call 23; refine (Held.call HS hb2 (rat_any _ _ _ _)).mono ?_; rintro e w3 ⟨rfl, hb3, ⟨hc4, hc5, hc6, hc7⟩, hf4, hf5, hf6, hf7⟩))
        exact bodyPost_ret (v := .tuple #[.agg #[.int .i64 (M.atI a b 0 + 1), .int .i64 b], .int .i64 0]) (by simp [results, Tryd.results21, go_sem, *]) rfl ⟨bumpT_eq HR.out, by (repeat refine Below.setCell ?_ (by simp) _); exact HB.out.trans (hb3.mono HB.out.size)⟩
      · have HR := Lib.hid (M.bump_b HM.out l (by decide))
        rw [e] at HR n1 n2 n3 n4 l
        clear e
        go_enter Tryd.func21, Tryd.ntmps21
        go_wp2_with fail
        obtain ⟨W, hW⟩ : ∃ W, W = (w.alloc (.cells #[.int .i64 a, .int .i64 b] 23)).alloc (.cells #[.int .i64 0, .int .i64 0] 23) := ⟨_, rfl⟩
        rw [← hW] at HS HB
        rw [← hW]
        clear hW
        have hb0 : Below W.heap.size W W := Below.refl _ _
        go_wp2_with (first | (go_at_call 9; refine (Held.call HS hb0 (rright_any _ _ _)).mono ?_; rintro e w2 ⟨rfl, hb2, ⟨hc0, hc1, hc2, hc3⟩, hf0, hf1, hf2, hf3⟩))
        go_wp2_with (first | (go_at_call 23; refine (Held.call HS hb2 (rat_any _ _ _ _)).mono ?_; rintro e w3 ⟨rfl, hb3, ⟨hc4, hc5, hc6, hc7⟩, hf4, hf5, hf6, hf7⟩))
        exact bodyPost_ret (v := .tuple #[.agg #[.int .i64 a, .int .i64 (M.atI a b 1 + 1)], .int .i64 0]) (by simp [results, Tryd.results21, go_sem, *]) rfl ⟨bumpT_eq HR.out, by (repeat refine Below.setCell ?_ (by simp) _); exact HB.out.trans (hb3.mono HB.out.size)⟩

theorem rbump_any (a b n t : Int) (w : World) :
    Calls Tryd.prog 21 #[.agg #[.int .i64 a, .int .i64 b], .int .i64 n, .int .i64 t] w fun e w' => e = .returned (bumpT a b n t) ∧ Below w.heap.size w w' := by
  cases h : M.mayB a b n t
  · rcases M.may_parts h with h1 | ⟨h1, h2⟩ | ⟨h1, h2, h3⟩ | ⟨h1, h2, h3, h4⟩
    · exact rbump_no_node a b n t w h1
    · exact rbump_no_right a b n t w h1 h2
    · exact rbump_neg a b n t w h1 h2 h3
    · exact rbump_big a b n t w h1 h2 h3 h4
  · exact rbump_may a b n t w h
end Go.Proofs.YtlmnmiomfhgcdaaDoor
