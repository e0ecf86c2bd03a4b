/-
  Walks over vector.Covers, isValue, Right, Compare, Join, At, isNode, and solderref05's like.
-/
import Derived.Test.YtlmnmiomfhgcdaaDoorVMath
import Derived.Test.YtlmnmiomfhgcdaaDoorBox
import Derived.Deep.RegionHeld3
namespace Go.Proofs.YtlmnmiomfhgcdaaDoor
open Go.RowKit

theorem ret_b {a b : Bool} (h : a = b) : Ending.returned (.bool a) = .returned (.bool b) := by rw [h]
theorem ret_i {k : IntKind} {a b : Int} (h : a = b) : Ending.returned (.int k a) = .returned (.int k b) := by rw [h]

theorem isValue_any (n : Int) (w : World) : Calls Tryd.prog 24 #[.int .i64 n] w fun e w' => e = .returned (.bool (M.valB n)) ∧ w = w' := by
  obtain ⟨r, hr⟩ : ∃ r, M.valB n = r := ⟨_, rfl⟩
  rw [hr]
  have h := hr
  unfold M.valB at h
  by_cases h1 : 0 ≤ n
  · by_cases h2 : n ≤ 1125899906842624
    · have e : r = true := by rw [← h]; simp; omega
      subst e
      clear h hr
      go_enter Tryd.func24, Tryd.ntmps24
      go_wp2_with fail
      go_ret
      exact ⟨rfl, rfl⟩
    · have e : r = false := by rw [← h]; simp; omega
      subst e
      have d2 : decide (n ≤ 1125899906842624) = false := by simpa using h2
      clear h hr h2
      go_enter Tryd.func24, Tryd.ntmps24
      go_wp2_with fail
      go_ret
      exact ⟨rfl, rfl⟩
  · have e : r = false := by rw [← h]; simp; omega
    subst e
    have d1 : decide (0 ≤ n) = false := by simpa using h1
    clear h hr h1
    go_enter Tryd.func24, Tryd.ntmps24
    go_wp2_with fail
    go_ret
    exact ⟨rfl, rfl⟩

theorem isNode_any (n : Int) (w : World) : Calls Tryd.prog 29 #[.int .i64 n] w fun e w' => e = .returned (.bool (M.nodeB n)) ∧ w = w' := by
  obtain ⟨r, hr⟩ : ∃ r, M.nodeB n = r := ⟨_, rfl⟩
  rw [hr]
  have h := hr
  unfold M.nodeB at h
  by_cases h1 : n = 0
  · have e : r = true := by rw [← h]; simp; omega
    subst e h1
    clear h hr
    go_enter Tryd.func29, Tryd.ntmps29
    go_wp2_with fail
    go_ret
    exact ⟨rfl, rfl⟩
  · by_cases h2 : n = 1
    · have e : r = true := by rw [← h]; simp; omega
      subst e h2
      clear h hr h1
      go_enter Tryd.func29, Tryd.ntmps29
      go_wp2_with fail
      go_ret
      exact ⟨rfl, rfl⟩
    · have e : r = false := by rw [← h]; simp; omega
      subst e
      have d1 : (n == 0) = false := by simpa using h1
      have d2 : (n == 1) = false := by simpa using h2
      clear h hr
      go_enter Tryd.func29, Tryd.ntmps29
      go_wp2_with fail
      go_ret
      exact ⟨rfl, rfl⟩

theorem covers_any (a b c d : Int) (w : World) :
    Calls Tryd.prog 12 #[.agg #[.int .i64 a, .int .i64 b], .agg #[.int .i64 c, .int .i64 d]] w fun e w' => e = .returned (.bool (M.covB a b c d)) ∧ Below w.heap.size w w' := by
  obtain ⟨r, hr⟩ : ∃ r, M.covB a b c d = r := ⟨_, rfl⟩
  rw [hr]
  have h := hr
  unfold M.covB at h
  have HB := Lib.hid (((Below.refl w.heap.size w).alloc (Nat.le_refl _) (.cells #[.int .i64 a, .int .i64 b] 23)).alloc (by simp) (.cells #[.int .i64 c, .int .i64 d] 23))
  by_cases h1 : c ≤ a
  · by_cases h2 : d ≤ b
    · have e : r = true := by rw [← h]; simp; omega
      subst e
      clear h hr
      go_enter Tryd.func12, Tryd.ntmps12
      go_wp2_with fail
      go_ret
      exact ⟨rfl, HB.out⟩
    · have e : r = false := by rw [← h]; simp; omega
      subst e
      have d2 : decide (d ≤ b) = false := by simpa using h2
      clear h hr h2
      go_enter Tryd.func12, Tryd.ntmps12
      go_wp2_with fail
      go_ret
      exact ⟨rfl, HB.out⟩
  · have e : r = false := by rw [← h]; simp; omega
    subst e
    have d1 : decide (c ≤ a) = false := by simpa using h1
    clear h hr h1
    go_enter Tryd.func12, Tryd.ntmps12
    go_wp2_with fail
    go_ret
    exact ⟨rfl, HB.out⟩

theorem rcovers_any (a b c d : Int) (w : World) :
    Calls Tryd.prog 13 #[.agg #[.int .i64 a, .int .i64 b], .agg #[.int .i64 c, .int .i64 d]] w fun e w' => e = .returned (.bool (M.covB a b c d)) ∧ Below w.heap.size w w' := by
  obtain ⟨r, hr⟩ : ∃ r, M.covB a b c d = r := ⟨_, rfl⟩
  rw [hr]
  have h := hr
  unfold M.covB at h
  have HB := Lib.hid (((Below.refl w.heap.size w).alloc (Nat.le_refl _) (.cells #[.int .i64 a, .int .i64 b] 23)).alloc (by simp) (.cells #[.int .i64 c, .int .i64 d] 23))
  by_cases h1 : c ≤ a
  · by_cases h2 : d ≤ b
    · have e : r = true := by rw [← h]; simp; omega
      subst e
      clear h hr
      go_enter Tryd.func13, Tryd.ntmps13
      go_wp2_with fail
      go_ret
      exact ⟨rfl, HB.out⟩
    · have e : r = false := by rw [← h]; simp; omega
      subst e
      have d2 : decide (d ≤ b) = false := by simpa using h2
      clear h hr h2
      go_enter Tryd.func13, Tryd.ntmps13
      go_wp2_with fail
      go_ret
      exact ⟨rfl, HB.out⟩
  · have e : r = false := by rw [← h]; simp; omega
    subst e
    have d1 : decide (c ≤ a) = false := by simpa using h1
    clear h hr h1
    go_enter Tryd.func13, Tryd.ntmps13
    go_wp2_with fail
    go_ret
    exact ⟨rfl, HB.out⟩

theorem M.mx_or (a b : Int) : (a < b ∧ M.mx a b = b) ∨ (b ≤ a ∧ M.mx a b = a) := by unfold M.mx; split <;> omega
theorem below2 (w : World) (o1 o2 : Obj) : Below w.heap.size w ((w.alloc o1).alloc o2) :=
  ((Below.refl w.heap.size w).alloc (Nat.le_refl _) o1).alloc (by simp) o2
theorem below3 (w : World) (o1 o2 o3 : Obj) : Below w.heap.size w (((w.alloc o1).alloc o2).alloc o3) :=
  (below2 w o1 o2).alloc (by simp; omega) o3

theorem join_any (a b c d : Int) (w : World) :
    Calls Tryd.prog 14 #[.agg #[.int .i64 a, .int .i64 b], .agg #[.int .i64 c, .int .i64 d]] w fun e w' => e = .returned (.agg #[.int .i64 (M.mx a c), .int .i64 (M.mx b d)]) ∧ Below w.heap.size w w' := by
  rcases M.mx_or a c with ⟨h1, e1⟩ | ⟨h1, e1⟩ <;> rcases M.mx_or b d with ⟨h2, e2⟩ | ⟨h2, e2⟩ <;> rw [e1, e2] <;> clear e1 e2
  all_goals
    go_enter Tryd.func14, Tryd.ntmps14
    go_wp2_with fail
    exact bodyPost_ret (by simp [results, Tryd.results14, go_sem]) rfl ⟨rfl, below3 _ _ _ _⟩
theorem rjoin_any (a b c d : Int) (w : World) :
    Calls Tryd.prog 15 #[.agg #[.int .i64 a, .int .i64 b], .agg #[.int .i64 c, .int .i64 d]] w fun e w' => e = .returned (.agg #[.int .i64 (M.mx a c), .int .i64 (M.mx b d)]) ∧ Below w.heap.size w w' := by
  rcases M.mx_or a c with ⟨h1, e1⟩ | ⟨h1, e1⟩ <;> rcases M.mx_or b d with ⟨h2, e2⟩ | ⟨h2, e2⟩ <;> rw [e1, e2] <;> clear e1 e2
  all_goals
    go_enter Tryd.func15, Tryd.ntmps15
    go_wp2_with fail
    exact bodyPost_ret (by simp [results, Tryd.results15, go_sem]) rfl ⟨rfl, below3 _ _ _ _⟩

/-- A call that leaves the old blocks alone, in a region where more is held. -/
theorem Held.call {P : Program} {f : Nat} {args : Array Value} {x W : World} {v : Value} {S : World → Prop} (hS : Hid (∀ y, Below W.heap.size W y → S y)) (hb : Below W.heap.size W x)
    (h : Calls P f args x fun e y => e = .returned v ∧ Below x.heap.size x y) : Calls P f args x fun e y => e = .returned v ∧ Below W.heap.size W y ∧ S y :=
  h.mono fun _ y ⟨he, h1⟩ => have h2 : Below W.heap.size W y := hb.trans (h1.mono hb.size); ⟨he, h2, hS.out y h2⟩
theorem cell_of {W x : World} {p : Addr} {u : Value} (hb : Below W.heap.size W x) (h : W.cell? p = some u) : x.cell? p = some u :=
  (hb.cell (World.block_lt_of_cell? W _ h)).trans h
/-- The cells of two vectors. -/
theorem two_cells (w : World) (a b c d : Int) (t : TypeId) : ∀ y, Below ((w.alloc (.cells #[.int .i64 a, .int .i64 b] t)).alloc (.cells #[.int .i64 c, .int .i64 d] t)).heap.size ((w.alloc (.cells #[.int .i64 a, .int .i64 b] t)).alloc (.cells #[.int .i64 c, .int .i64 d] t)) y →
    y.cell? ⟨w.heap.size, 0, none⟩ = some (.int .i64 a) ∧ y.cell? ⟨w.heap.size, 1, none⟩ = some (.int .i64 b) ∧ y.cell? ⟨w.heap.size + 1, 0, none⟩ = some (.int .i64 c) ∧ y.cell? ⟨w.heap.size + 1, 1, none⟩ = some (.int .i64 d) := by
  intro y hb
  refine ⟨cell_of hb ?_, cell_of hb ?_, cell_of hb ?_, cell_of hb ?_⟩ <;> simp [go_sem]

theorem right_any (a b : Int) (w : World) :
    Calls Tryd.prog 8 #[.agg #[.int .i64 a, .int .i64 b]] w fun e w' => e = .returned (.bool (M.rightB a b)) ∧ Below w.heap.size w w' := by
  have HB := Lib.hid ((Below.refl w.heap.size w).alloc (Nat.le_refl _) (.cells #[.int .i64 a, .int .i64 b] 23))
  have C1 := Lib.hid (fun x => isValue_any a x)
  have C2 := Lib.hid (fun x => isValue_any b x)
  unfold M.rightB
  obtain ⟨r, hr⟩ : ∃ r, M.valB a = r := ⟨_, rfl⟩
  obtain ⟨s, hs⟩ : ∃ r, M.valB b = r := ⟨_, rfl⟩
  rw [hr] at C1 ⊢
  rw [hs] at C2 ⊢
  clear hr hs
  cases r
  · go_enter Tryd.func8, Tryd.ntmps8
    go_wp2_with fail
    refine (C1.out _).mono ?_
    rintro e w1 ⟨rfl, rfl⟩
    go_wp2_with fail
    go_ret
    exact ⟨rfl, HB.out⟩
  · go_enter Tryd.func8, Tryd.ntmps8
    go_wp2_with fail
    refine (C1.out _).mono ?_
    rintro e w1 ⟨rfl, rfl⟩
    go_wp2_with fail
    refine (C2.out _).mono ?_
    rintro e w1 ⟨rfl, rfl⟩
    go_wp2_with fail
    go_ret
    exact ⟨rfl, HB.out⟩

theorem compare_any (a b c d : Int) (w : World) :
    Calls Tryd.prog 10 #[.agg #[.int .i64 a, .int .i64 b], .agg #[.int .i64 c, .int .i64 d]] w fun e w' => e = .returned (.int .i64 (M.cmpI a b c d)) ∧ Below w.heap.size w w' := by
  have HB := Lib.hid (below2 w (.cells #[.int .i64 a, .int .i64 b] 23) (.cells #[.int .i64 c, .int .i64 d] 23))
  have HS := Lib.hid (two_cells w a b c d 23)
  go_enter Tryd.func10, Tryd.ntmps10
  go_wp2_with fail
  obtain ⟨W, hW⟩ : ∃ W, W = (w.alloc (.cells #[.int .i64 a, .int .i64 b] 23)).alloc (.cells #[.int .i64 c, .int .i64 d] 23) := ⟨_, rfl⟩
  rw [← hW] at HS HB
  rw [← hW]
  clear hW
  have hb0 : Below W.heap.size W W := Below.refl _ _
  have hS0 := HS.out W hb0
  go_region_held3 (fun x => x.cell? ⟨w.heap.size, 0, none⟩ = some (.int .i64 a) ∧ x.cell? ⟨w.heap.size, 1, none⟩ = some (.int .i64 b) ∧ x.cell? ⟨w.heap.size + 1, 0, none⟩ = some (.int .i64 c) ∧ x.cell? ⟨w.heap.size + 1, 1, none⟩ = some (.int .i64 d)) (first | assumption) (first | (go_at_call 12; refine (Held.call HS (by first | assumption | exact Below.drew (by assumption)) (covers_any _ _ _ _ _)).mono ?_; rintro e w1 ⟨rfl, hb1, hS1⟩))
  have hB := Lib.hid (HB.out.trans (hb1.mono HB.out.size))
  cases hr : M.covB a b c d <;> cases hs : M.covB c d a b
  all_goals
    have HR := Lib.hid (And.intro hr hs)
    clear hr hs
    go_wp2_with fail
    go_ret
    exact ⟨ret_i (by simp [M.cmpI, HR.out.1, HR.out.2]), hB.out⟩

theorem rcompare_any (a b c d : Int) (w : World) :
    Calls Tryd.prog 11 #[.agg #[.int .i64 a, .int .i64 b], .agg #[.int .i64 c, .int .i64 d]] w fun e w' => e = .returned (.int .i64 (M.cmpI a b c d)) ∧ Below w.heap.size w w' := by
  have HB := Lib.hid (below2 w (.cells #[.int .i64 a, .int .i64 b] 23) (.cells #[.int .i64 c, .int .i64 d] 23))
  have HS := Lib.hid (two_cells w a b c d 23)
  cases hr : M.covB a b c d <;> cases hs : M.covB c d a b
  all_goals
    have HR := Lib.hid (And.intro hr hs)
    go_enter Tryd.func11, Tryd.ntmps11
    go_wp2_with fail
    obtain ⟨W, hW⟩ : ∃ W, W = (w.alloc (.cells #[.int .i64 a, .int .i64 b] 23)).alloc (.cells #[.int .i64 c, .int .i64 d] 23) := ⟨_, rfl⟩
    rw [← hW] at HS HB
    rw [← hW]
    clear hW
    have hb0 : Below W.heap.size W W := Below.refl _ _
    go_wp2_with (go_at_call 13; refine (Held.call HS (by first | assumption | exact Below.drew (by assumption)) (rcovers_any _ _ _ _ _)).mono ?_; rintro e w1 ⟨rfl, hb1, hc1, hc2, hc3, hc4⟩)
    go_ret
    exact ⟨ret_i (by simp [M.cmpI, HR.out.1, HR.out.2]), HB.out.trans (hb1.mono HB.out.size)⟩

theorem at_any (a b n : Int) (w : World) :
    Calls Tryd.prog 22 #[.agg #[.int .i64 a, .int .i64 b], .int .i64 n] w fun e w' => e = .returned (.int .i64 (M.atI a b n)) ∧ Below w.heap.size w w' := by
  have HB := Lib.hid ((Below.refl w.heap.size w).alloc (Nat.le_refl _) (.cells #[.int .i64 a, .int .i64 b] 23))
  by_cases h0 : n = 0
  · subst h0
    go_enter Tryd.func22, Tryd.ntmps22
    go_wp2_with fail
    go_ret
    exact ⟨rfl, HB.out⟩
  · by_cases h1 : n = 1
    · subst h1
      clear h0
      go_enter Tryd.func22, Tryd.ntmps22
      go_wp2_with fail
      go_ret
      exact ⟨rfl, HB.out⟩
    · have d0 : (n == 0) = false := by simpa using h0
      have d1 : (n == 1) = false := by simpa using h1
      have HN := Lib.hid (And.intro h0 h1)
      clear h0 h1
      go_enter Tryd.func22, Tryd.ntmps22
      go_wp2_with fail
      go_ret
      exact ⟨ret_i (by simp [M.atI, HN.out.1, HN.out.2]), HB.out⟩
theorem rat_any (a b n : Int) (w : World) :
    Calls Tryd.prog 23 #[.agg #[.int .i64 a, .int .i64 b], .int .i64 n] w fun e w' => e = .returned (.int .i64 (M.atI a b n)) ∧ Below w.heap.size w w' := by
  have HB := Lib.hid ((Below.refl w.heap.size w).alloc (Nat.le_refl _) (.cells #[.int .i64 a, .int .i64 b] 23))
  by_cases h0 : n = 0
  · subst h0
    go_enter Tryd.func23, Tryd.ntmps23
    go_wp2_with fail
    go_ret
    exact ⟨rfl, HB.out⟩
  · by_cases h1 : n = 1
    · subst h1
      clear h0
      go_enter Tryd.func23, Tryd.ntmps23
      go_wp2_with fail
      go_ret
      exact ⟨rfl, HB.out⟩
    · have d0 : (n == 0) = false := by simpa using h0
      have d1 : (n == 1) = false := by simpa using h1
      have HN := Lib.hid (And.intro h0 h1)
      clear h0 h1
      go_enter Tryd.func23, Tryd.ntmps23
      go_wp2_with fail
      go_ret
      exact ⟨ret_i (by simp [M.atI, HN.out.1, HN.out.2]), HB.out⟩

set_option maxHeartbeats 400000 in
theorem rright_any (a b : Int) (w : World) :
    Calls Tryd.prog 9 #[.agg #[.int .i64 a, .int .i64 b]] w fun e w' => e = .returned (.bool (M.rightB a b)) ∧ Below w.heap.size w w' := by
  have HB := Lib.hid ((Below.refl w.heap.size w).alloc (Nat.le_refl _) (.cells #[.int .i64 a, .int .i64 b] 23))
  obtain ⟨r, hr⟩ : ∃ r, M.rightB a b = r := ⟨_, rfl⟩
  rw [hr]
  have h := hr
  unfold M.rightB M.valB at h
  by_cases h1 : 0 ≤ a
  · by_cases h2 : a ≤ 1125899906842624
    · by_cases h3 : 0 ≤ b
      · by_cases h4 : b ≤ 1125899906842624
        · have e : r = true := by rw [← h]; simp [h1, h2, h3, h4]
          subst e
          clear h hr
          go_enter Tryd.func9, Tryd.ntmps9
          go_wp2_with fail
          go_ret
          exact ⟨rfl, HB.out⟩
        · have e : r = false := by rw [← h]; simp [h1, h2, h3, h4]
          subst e
          have d4 : decide (b ≤ 1125899906842624) = false := by simpa using h4
          clear h hr h4
          go_enter Tryd.func9, Tryd.ntmps9
          go_wp2_with fail
          go_ret
          exact ⟨rfl, HB.out⟩
      · have e : r = false := by rw [← h]; simp [h1, h2, h3]
        subst e
        have d3 : decide (0 ≤ b) = false := by simpa using h3
        clear h hr h3
        go_enter Tryd.func9, Tryd.ntmps9
        go_wp2_with fail
        go_ret
        exact ⟨rfl, HB.out⟩
    · have e : r = false := by rw [← h]; simp [h1, h2]
      subst e
      have d2 : decide (a ≤ 1125899906842624) = false := by simpa using h2
      clear h hr h2
      go_enter Tryd.func9, Tryd.ntmps9
      go_wp2_with fail
      go_ret
      exact ⟨rfl, HB.out⟩
  · have e : r = false := by rw [← h]; simp [h1]
    subst e
    have d1 : decide (0 ≤ a) = false := by simpa using h1
    clear h hr h1
    go_enter Tryd.func9, Tryd.ntmps9
    go_wp2_with fail
    go_ret
    exact ⟨rfl, HB.out⟩
end Go.Proofs.YtlmnmiomfhgcdaaDoor
