/-
  Walk over solderlaw15.LayoutParts.
-/
import Derived.Test.YtbmgfdnmjilfdaaIWorks
import Derived.Test.YtbmgfdnmjilfdaaIArg
namespace Go.Proofs.Ytbmgfdnmjilfdaa
open Go.RowKit

/-- Where an extent and a slot are, and that it is where it is to be. -/
theorem ext15_place (E S L : Nat) (h : M.lokB E S L = true) (n : Int) : ∃ x e : Int, (∀ w, Calls Try.prog 6 #[Cf E S L, .int .i64 n] w fun r w' => r = .returned (.tuple #[.int .i64 x, .int .i64 e]) ∧ Below w.heap.size w w') ∧
    (∀ w, Calls Try.prog 13 #[.int .i64 x, .int .i64 e, Cf E S L, .int .i64 3, .int .i64 n] w fun r w' => r = .returned (.bool true) ∧ Below w.heap.size w w') := by
  by_cases hn : n < 0 ∨ (E : Int) ≤ n
  · exact ⟨0, 3, fun w => extent15_out E S L n h hn w, fun w => place15_yes E S L 3 n (-1) 0 3 w (fun x => first15_noext E S L h n hn x) (Or.inl ⟨rfl, rfl, rfl⟩)⟩
  · obtain ⟨i, rfl⟩ : ∃ i : Nat, n = i := ⟨n.toNat, by omega⟩
    have hi : i < E := by omega
    exact ⟨_, 0, fun w => extent15_ok E S L i h hi w, fun w => place15_yes E S L 3 i _ _ 0 w (fun x => first15_ext E S L h i hi x) (Or.inr ⟨by omega, rfl, rfl⟩)⟩
theorem slot15_place (E S L : Nat) (h : M.lokB E S L = true) (n : Int) : ∃ x e : Int, (∀ w, Calls Try.prog 7 #[Cf E S L, .int .i64 n] w fun r w' => r = .returned (.tuple #[.int .i64 x, .int .i64 e]) ∧ Below w.heap.size w w') ∧
    (∀ w, Calls Try.prog 13 #[.int .i64 x, .int .i64 e, Cf E S L, .int .i64 4, .int .i64 n] w fun r w' => r = .returned (.bool true) ∧ Below w.heap.size w w') := by
  by_cases hn : n < 0 ∨ (S : Int) ≤ n
  · exact ⟨0, 3, fun w => slot15_out E S L n h hn w, fun w => place15_yes E S L 4 n (-1) 0 3 w (fun x => first15_noslot E S L h n hn x) (Or.inl ⟨rfl, rfl, rfl⟩)⟩
  · obtain ⟨i, rfl⟩ : ∃ i : Nat, n = i := ⟨n.toNat, by omega⟩
    have hi : i < S := by omega
    exact ⟨_, 0, fun w => slot15_ok E S L i h hi w, fun w => place15_yes E S L 4 i _ _ 0 w (fun x => first15_slot E S L h i hi x) (Or.inr ⟨by omega, rfl, rfl⟩)⟩
/-- A call that hands back a row of its own. -/
theorem Held15s {P : Program} {f : Nat} {args : Array Value} {x W : World} {N : Nat} {S : World → Prop} (hS : Hid (∀ y, Below W.heap.size W y → S y)) (hb : Below W.heap.size W x)
    (h : Calls P f args x fun e y => (∃ A cap, e = .returned (.slice A N cap)) ∧ Below x.heap.size x y) : Calls P f args x fun e y => ∃ A cap, e = .returned (.slice A N cap) ∧ Below W.heap.size W y ∧ S y :=
  h.mono fun _ y ⟨⟨A, cap, he⟩, h1⟩ => have h2 : Below W.heap.size W y := hb.trans (h1.mono hb.size); ⟨A, cap, he, h2, hS.out y h2⟩

set_option maxHeartbeats 4000000 in
set_option maxRecDepth 100000 in
theorem layoutParts_in (E S L : Nat) (h : M.lokB E S L = true) (i : Nat) (hi : i < E) (w : World) :
    Calls Try.prog 3 #[Cf E S L, .int .i64 (i : Nat)] w fun e w' => e = .returned (.bool true) ∧ Below w.heap.size w w' := by
  obtain ⟨x, e, hC1, hP1⟩ := ext15_place E S L h i
  obtain ⟨s, f, hC2, hP2⟩ := slot15_place E S L h i
  have C1 := Lib.hid hC1
  have P1 := Lib.hid hP1
  have C2 := Lib.hid hC2
  have P2 := Lib.hid hP2
  have C4 := Lib.hid (fun x => check15_any E S L x)
  rw [M.lerr_ok h] at C4
  have C5 := Lib.hid (fun x => rcheck15_ok E S L h x)
  have C6 := Lib.hid (fun x => sectors15_ok E S L h x)
  have C7 : Hid (∀ x, Calls Try.prog 12 #[Cf E S L] x fun e y => (∃ A cap, e = .returned (.slice A (M.ln E S L) cap)) ∧ Below x.heap.size x y) := fun x => (parts15_ok E S L h x).mono (fun e y ⟨g, cap, he, _, hb⟩ => ⟨⟨_, cap, he⟩, hb⟩)
  have C8 := Lib.hid (fun x => super15_ok E S L h x)
  have F8 := Lib.hid (fun x => first15_super E S L h x)
  have C9 := Lib.hid (fun x => journal15_ok E S L h x)
  have F9 := Lib.hid (fun x => first15_journal E S L h x)
  have D1 := Lib.hid (fun x => log15_ok E S L h x)
  have G1 := Lib.hid (fun x => first15_log E S L h x)
  obtain ⟨N, hN⟩ : ∃ x, x = M.ln E S L := ⟨_, rfl⟩
  obtain ⟨l, hl⟩ : ∃ x, x = M.ll E S := ⟨_, rfl⟩
  rw [← hN] at C6 C7
  rw [← hl] at D1 G1
  have z6 : (N != N) = false := by simp
  have z7 : (l != l) = false := by simp
  have C3 := Lib.hid (fun x => table15_ok E S L i h hi x)
  have F3 := Lib.hid (fun x => first15_table E S L h i hi x)
  obtain ⟨t, ht⟩ : ∃ t, t = 2 + i / 2 := ⟨_, rfl⟩
  obtain ⟨j, hj⟩ : ∃ t, t = i / 2 := ⟨_, rfl⟩
  obtain ⟨k, hk⟩ : ∃ k, k = i % 2 := ⟨_, rfl⟩
  have q1 : (i : Int).tdiv 2 = (j : Int) := by rw [Int.tdiv_eq_ediv_of_nonneg (by omega)]; omega
  have hv := M.lok_nat h
  have q2 : IntKind.i64.wrap (j : Int) = (j : Int) := by rw [IntKind.wrap_i64]; omega
  have q3 : (i : Int).tmod 2 = (k : Int) := by rw [Int.tmod_eq_emod_of_nonneg (by omega)]; omega
  have q4 : IntKind.i64.wrap (k : Int) = (k : Int) := by rw [IntKind.wrap_i64]; omega
  rw [← ht, ← hk] at C3
  rw [← ht, ← hj] at F3
  have z1 : decide ((i : Int) < 0) = false := by simp
  have z2 : decide (E ≤ i) = false := by simp; omega
  have z3 : decide ((E : Int) ≤ (i : Int)) = false := by simp; omega
  have z4 : (k == k) = true := by simp
  have z5 : (t == t) = true := by simp
  clear hC1 hP1 hC2 hP2 hN hl ht hj hk hv hi h
  have HB := Lib.hid (ib1 w (.cells #[.int .i64 E, .int .i64 S, .int .i64 L] 23))
  have HS := Lib.hid (three_cells15 w E S L 23)
  go_enter Try.func3, Try.ntmps3
  go_wp2_with fail
  obtain ⟨W, hW⟩ : ∃ W, W = w.alloc (.cells #[.int .i64 E, .int .i64 S, .int .i64 L] 23) := ⟨_, rfl⟩
  rw [← hW] at HS HB
  rw [← hW]
  clear hW
  have hb0 : Below W.heap.size W W := Below.refl _ _
  refine (Held15 HS hb0 (works15_any _)).mono ?_
  rintro e w1 ⟨rfl, hb1, c0, c1, c2⟩
  clear hb0
  go_wp2_with fail
  refine (Held15 HS hb1 (C1.out _)).mono ?_
  rintro e w2 ⟨rfl, hb2, d0, d1, d2⟩
  clear hb1 c0 c1 c2
  go_wp2_with fail
  refine (Held15 HS hb2 (C2.out _)).mono ?_
  rintro e w3 ⟨rfl, hb3, e0, e1, e2⟩
  clear hb2 d0 d1 d2
  go_wp2_with fail
  refine (Held15 HS hb3 (C3.out _)).mono ?_
  rintro e w4 ⟨rfl, hb4, hS4⟩
  clear hb3 e0 e1 e2
  go_wp2_with fail
  go_region_held3 (fun y => y.cell? ⟨w.heap.size, 0, none⟩ = some (.int .i64 E) ∧ y.cell? ⟨w.heap.size, 1, none⟩ = some (.int .i64 S) ∧ y.cell? ⟨w.heap.size, 2, none⟩ = some (.int .i64 L)) (first | assumption)
    (first
      | (go_at_call 9; refine (Held15 HS (by first | assumption | exact Below.drew (by assumption)) (C4.out _)).mono ?_; rintro e w5 ⟨rfl, hb5, hS5⟩)
      | (go_at_call 10; refine (Held15 HS (by first | assumption | exact Below.drew (by assumption)) (C5.out _)).mono ?_; rintro e w5 ⟨rfl, hb5, hS5⟩)
      | (go_at_call 11; refine (Held15 HS (by first | assumption | exact Below.drew (by assumption)) (C6.out _)).mono ?_; rintro e w5 ⟨rfl, hb5, hS5⟩)
      | (go_at_call 12; refine (Held15s HS (by first | assumption | exact Below.drew (by assumption)) (C7.out _)).mono ?_; rintro e w5 ⟨A5, cap5, rfl, hb5, hS5⟩)
      | (go_at_call 13; with_reducible refine (Held15 HS (by first | assumption | exact Below.drew (by assumption)) (P1.out _)).mono ?_; rintro e w5 ⟨rfl, hb5, hS5⟩)
      | (go_at_call 13; with_reducible refine (Held15 HS (by first | assumption | exact Below.drew (by assumption)) (P2.out _)).mono ?_; rintro e w5 ⟨rfl, hb5, hS5⟩))
  have hb5a : Below W.heap.size W w5 := by assumption
  have hS5a := HS.out _ hb5a
  obtain ⟨e0, e1, e2⟩ := hS5a
  go_wp2_with fail
  refine (Held15 HS hb5a (C5.out _)).mono ?_
  rintro e w6 ⟨rfl, hb6, hS6⟩
  go_wp2_with fail
  go_region_held3 (fun y => y.cell? ⟨w.heap.size, 0, none⟩ = some (.int .i64 E) ∧ y.cell? ⟨w.heap.size, 1, none⟩ = some (.int .i64 S) ∧ y.cell? ⟨w.heap.size, 2, none⟩ = some (.int .i64 L)) (first | assumption)
    (first
      | (go_at_call 14; refine (Held15 HS (by first | assumption | exact Below.drew (by assumption)) (C8.out _)).mono ?_; rintro e w7 ⟨rfl, hb7, hS7⟩)
      | (go_at_call 15; refine (Held15 HS (by first | assumption | exact Below.drew (by assumption)) (C9.out _)).mono ?_; rintro e w7 ⟨rfl, hb7, hS7⟩)
      | (go_at_call 16; refine (Held15 HS (by first | assumption | exact Below.drew (by assumption)) (D1.out _)).mono ?_; rintro e w7 ⟨rfl, hb7, hS7⟩)
      | (go_at_call 17; with_reducible refine (Held15 HS (by first | assumption | exact Below.drew (by assumption)) (F8.out _)).mono ?_; rintro e w7 ⟨rfl, hb7, hS7⟩)
      | (go_at_call 17; with_reducible refine (Held15 HS (by first | assumption | exact Below.drew (by assumption)) (F9.out _)).mono ?_; rintro e w7 ⟨rfl, hb7, hS7⟩)
      | (go_at_call 17; with_reducible refine (Held15 HS (by first | assumption | exact Below.drew (by assumption)) (G1.out _)).mono ?_; rintro e w7 ⟨rfl, hb7, hS7⟩))
  have hb7a : Below W.heap.size W w7 := by assumption
  obtain ⟨e3, e4, e5⟩ := HS.out _ hb7a
  go_wp2_with fail
  refine (Held15 HS hb7a (F3.out _)).mono ?_
  rintro e w8 ⟨rfl, hb8, hS8⟩
  have hB := Lib.hid (HB.out.trans (hb8.mono HB.out.size))
  go_wp2_with fail
  go_ret
  exact ⟨rfl, hB.out⟩

set_option maxHeartbeats 4000000 in
set_option maxRecDepth 100000 in
theorem layoutParts_out (E S L : Nat) (h : M.lokB E S L = true) (n : Int) (hn : (decide (n < 0) = true) ∨ (decide (n < 0) = false ∧ decide ((E : Int) ≤ n) = true)) (w : World) :
    Calls Try.prog 3 #[Cf E S L, .int .i64 n] w fun e w' => e = .returned (.bool true) ∧ Below w.heap.size w w' := by
  obtain ⟨x, e, hC1, hP1⟩ := ext15_place E S L h n
  obtain ⟨s, f, hC2, hP2⟩ := slot15_place E S L h n
  have C1 := Lib.hid hC1
  have P1 := Lib.hid hP1
  have C2 := Lib.hid hC2
  have P2 := Lib.hid hP2
  have C4 := Lib.hid (fun x => check15_any E S L x)
  rw [M.lerr_ok h] at C4
  have C5 := Lib.hid (fun x => rcheck15_ok E S L h x)
  have C6 := Lib.hid (fun x => sectors15_ok E S L h x)
  have C7 : Hid (∀ x, Calls Try.prog 12 #[Cf E S L] x fun e y => (∃ A cap, e = .returned (.slice A (M.ln E S L) cap)) ∧ Below x.heap.size x y) := fun x => (parts15_ok E S L h x).mono (fun e y ⟨g, cap, he, _, hb⟩ => ⟨⟨_, cap, he⟩, hb⟩)
  have C8 := Lib.hid (fun x => super15_ok E S L h x)
  have F8 := Lib.hid (fun x => first15_super E S L h x)
  have C9 := Lib.hid (fun x => journal15_ok E S L h x)
  have F9 := Lib.hid (fun x => first15_journal E S L h x)
  have D1 := Lib.hid (fun x => log15_ok E S L h x)
  have G1 := Lib.hid (fun x => first15_log E S L h x)
  obtain ⟨N, hN⟩ : ∃ x, x = M.ln E S L := ⟨_, rfl⟩
  obtain ⟨l, hl⟩ : ∃ x, x = M.ll E S := ⟨_, rfl⟩
  rw [← hN] at C6 C7
  rw [← hl] at D1 G1
  have z6 : (N != N) = false := by simp
  have z7 : (l != l) = false := by simp
  have C3 := Lib.hid (fun x => table15_out E S L n h (by rcases hn with d | ⟨_, d⟩ <;> simp only [decide_eq_true_eq] at d <;> omega) x)
  clear hC1 hP1 hC2 hP2 hN hl h
  have HB := Lib.hid (ib1 w (.cells #[.int .i64 E, .int .i64 S, .int .i64 L] 23))
  have HS := Lib.hid (three_cells15 w E S L 23)
  go_enter Try.func3, Try.ntmps3
  go_wp2_with fail
  obtain ⟨W, hW⟩ : ∃ W, W = w.alloc (.cells #[.int .i64 E, .int .i64 S, .int .i64 L] 23) := ⟨_, rfl⟩
  rw [← hW] at HS HB
  rw [← hW]
  clear hW
  have hb0 : Below W.heap.size W W := Below.refl _ _
  refine (Held15 HS hb0 (works15_any _)).mono ?_
  rintro e w1 ⟨rfl, hb1, c0, c1, c2⟩
  clear hb0
  go_wp2_with fail
  refine (Held15 HS hb1 (C1.out _)).mono ?_
  rintro e w2 ⟨rfl, hb2, d0, d1, d2⟩
  clear hb1 c0 c1 c2
  go_wp2_with fail
  refine (Held15 HS hb2 (C2.out _)).mono ?_
  rintro e w3 ⟨rfl, hb3, e0, e1, e2⟩
  clear hb2 d0 d1 d2
  go_wp2_with fail
  refine (Held15 HS hb3 (C3.out _)).mono ?_
  rintro e w4 ⟨rfl, hb4, hS4⟩
  clear hb3 e0 e1 e2
  go_wp2_with fail
  go_region_held3 (fun y => y.cell? ⟨w.heap.size, 0, none⟩ = some (.int .i64 E) ∧ y.cell? ⟨w.heap.size, 1, none⟩ = some (.int .i64 S) ∧ y.cell? ⟨w.heap.size, 2, none⟩ = some (.int .i64 L)) (first | assumption)
    (first
      | (go_at_call 9; refine (Held15 HS (by first | assumption | exact Below.drew (by assumption)) (C4.out _)).mono ?_; rintro e w5 ⟨rfl, hb5, hS5⟩)
      | (go_at_call 10; refine (Held15 HS (by first | assumption | exact Below.drew (by assumption)) (C5.out _)).mono ?_; rintro e w5 ⟨rfl, hb5, hS5⟩)
      | (go_at_call 11; refine (Held15 HS (by first | assumption | exact Below.drew (by assumption)) (C6.out _)).mono ?_; rintro e w5 ⟨rfl, hb5, hS5⟩)
      | (go_at_call 12; refine (Held15s HS (by first | assumption | exact Below.drew (by assumption)) (C7.out _)).mono ?_; rintro e w5 ⟨A5, cap5, rfl, hb5, hS5⟩)
      | (go_at_call 13; with_reducible refine (Held15 HS (by first | assumption | exact Below.drew (by assumption)) (P1.out _)).mono ?_; rintro e w5 ⟨rfl, hb5, hS5⟩)
      | (go_at_call 13; with_reducible refine (Held15 HS (by first | assumption | exact Below.drew (by assumption)) (P2.out _)).mono ?_; rintro e w5 ⟨rfl, hb5, hS5⟩))
  have hb5a : Below W.heap.size W w5 := by assumption
  have hS5a := HS.out _ hb5a
  obtain ⟨e0, e1, e2⟩ := hS5a
  go_wp2_with fail
  refine (Held15 HS hb5a (C5.out _)).mono ?_
  rintro e w6 ⟨rfl, hb6, hS6⟩
  go_wp2_with fail
  go_region_held3 (fun y => y.cell? ⟨w.heap.size, 0, none⟩ = some (.int .i64 E) ∧ y.cell? ⟨w.heap.size, 1, none⟩ = some (.int .i64 S) ∧ y.cell? ⟨w.heap.size, 2, none⟩ = some (.int .i64 L)) (first | assumption)
    (first
      | (go_at_call 14; refine (Held15 HS (by first | assumption | exact Below.drew (by assumption)) (C8.out _)).mono ?_; rintro e w7 ⟨rfl, hb7, hS7⟩)
      | (go_at_call 15; refine (Held15 HS (by first | assumption | exact Below.drew (by assumption)) (C9.out _)).mono ?_; rintro e w7 ⟨rfl, hb7, hS7⟩)
      | (go_at_call 16; refine (Held15 HS (by first | assumption | exact Below.drew (by assumption)) (D1.out _)).mono ?_; rintro e w7 ⟨rfl, hb7, hS7⟩)
      | (go_at_call 17; with_reducible refine (Held15 HS (by first | assumption | exact Below.drew (by assumption)) (F8.out _)).mono ?_; rintro e w7 ⟨rfl, hb7, hS7⟩)
      | (go_at_call 17; with_reducible refine (Held15 HS (by first | assumption | exact Below.drew (by assumption)) (F9.out _)).mono ?_; rintro e w7 ⟨rfl, hb7, hS7⟩)
      | (go_at_call 17; with_reducible refine (Held15 HS (by first | assumption | exact Below.drew (by assumption)) (G1.out _)).mono ?_; rintro e w7 ⟨rfl, hb7, hS7⟩))
  have hb7a : Below W.heap.size W w7 := by assumption
  obtain ⟨e3, e4, e5⟩ := HS.out _ hb7a
  have hB := Lib.hid (HB.out.trans (hb7a.mono HB.out.size))
  rcases hn with d | ⟨d, d2⟩
  · go_wp2_with fail
    go_ret
    exact ⟨rfl, hB.out⟩
  · go_wp2_with fail
    go_ret
    exact ⟨rfl, hB.out⟩

set_option maxHeartbeats 4000000 in
set_option maxRecDepth 100000 in
theorem layoutParts_no (a b c : Int) (h : M.lokB a b c = false) (n : Int) (w : World) :
    Calls Try.prog 3 #[Cf a b c, .int .i64 n] w fun e w' => e = .returned (.bool true) ∧ Below w.heap.size w w' := by
  have C1 := Lib.hid (fun x => extent15_no a b c n h x)
  have P1 := Lib.hid (fun x => place15_yes a b c 3 n (-1) 0 3 x (fun x => first15_no a b c 3 n h x) (Or.inl ⟨rfl, rfl, rfl⟩))
  have C2 := Lib.hid (fun x => slot15_no a b c n h x)
  have P2 := Lib.hid (fun x => place15_yes a b c 4 n (-1) 0 3 x (fun x => first15_no a b c 4 n h x) (Or.inl ⟨rfl, rfl, rfl⟩))
  have C3 := Lib.hid (fun x => table15_no a b c n h x)
  have C4 := Lib.hid (fun x => check15_any a b c x)
  rw [M.lerr_no h] at C4
  have C5 := Lib.hid (fun x => rcheck15_no a b c h x)
  have C6 := Lib.hid (fun x => sectors15_no a b c h x)
  have C7 := Lib.hid (fun x => parts15_no a b c h x)
  have C8 := Lib.hid (fun x => super15_no a b c h x)
  have C9 := Lib.hid (fun x => journal15_no a b c h x)
  have D1 := Lib.hid (fun x => log15_no a b c h x)
  clear h
  have HB := Lib.hid (ib1 w (.cells #[.int .i64 a, .int .i64 b, .int .i64 c] 23))
  have HS := Lib.hid (three_cells15 w a b c 23)
  go_enter Try.func3, Try.ntmps3
  go_wp2_with fail
  obtain ⟨W, hW⟩ : ∃ W, W = w.alloc (.cells #[.int .i64 a, .int .i64 b, .int .i64 c] 23) := ⟨_, rfl⟩
  rw [← hW] at HS HB
  rw [← hW]
  clear hW
  have hb0 : Below W.heap.size W W := Below.refl _ _
  refine (Held15 HS hb0 (works15_any _)).mono ?_
  rintro e w1 ⟨rfl, hb1, c0, c1, c2⟩
  clear hb0
  go_wp2_with fail
  refine (Held15 HS hb1 (C1.out _)).mono ?_
  rintro e w2 ⟨rfl, hb2, d0, d1, d2⟩
  clear hb1 c0 c1 c2
  go_wp2_with fail
  refine (Held15 HS hb2 (C2.out _)).mono ?_
  rintro e w3 ⟨rfl, hb3, e0, e1, e2⟩
  clear hb2 d0 d1 d2
  go_wp2_with fail
  refine (Held15 HS hb3 (C3.out _)).mono ?_
  rintro e w4 ⟨rfl, hb4, hS4⟩
  clear hb3 e0 e1 e2
  go_wp2_with fail
  go_region_held3 (fun y => y.cell? ⟨w.heap.size, 0, none⟩ = some (.int .i64 a) ∧ y.cell? ⟨w.heap.size, 1, none⟩ = some (.int .i64 b) ∧ y.cell? ⟨w.heap.size, 2, none⟩ = some (.int .i64 c)) (first | assumption)
    (first
      | (go_at_call 9; refine (Held15 HS (by first | assumption | exact Below.drew (by assumption)) (C4.out _)).mono ?_; rintro e w5 ⟨rfl, hb5, hS5⟩)
      | (go_at_call 10; refine (Held15 HS (by first | assumption | exact Below.drew (by assumption)) (C5.out _)).mono ?_; rintro e w5 ⟨rfl, hb5, hS5⟩)
      | (go_at_call 11; refine (Held15 HS (by first | assumption | exact Below.drew (by assumption)) (C6.out _)).mono ?_; rintro e w5 ⟨rfl, hb5, hS5⟩)
      | (go_at_call 12; refine (Held15 HS (by first | assumption | exact Below.drew (by assumption)) (C7.out _)).mono ?_; rintro e w5 ⟨rfl, hb5, hS5⟩)
      | (go_at_call 13; with_reducible refine (Held15 HS (by first | assumption | exact Below.drew (by assumption)) (P1.out _)).mono ?_; rintro e w5 ⟨rfl, hb5, hS5⟩)
      | (go_at_call 13; with_reducible refine (Held15 HS (by first | assumption | exact Below.drew (by assumption)) (P2.out _)).mono ?_; rintro e w5 ⟨rfl, hb5, hS5⟩))
  have hb5a : Below W.heap.size W w5 := by assumption
  have hS5a := HS.out _ hb5a
  obtain ⟨e0, e1, e2⟩ := hS5a
  go_wp2_with fail
  refine (Held15 HS hb5a (C5.out _)).mono ?_
  rintro e w6 ⟨rfl, hb6, hS6⟩
  obtain ⟨e3, e4, e5⟩ := hS6
  go_wp2_with fail
  refine (Held15 HS hb6 (C8.out _)).mono ?_
  rintro e w7 ⟨rfl, hb7, f3, f4, f5⟩
  go_wp2_with fail
  refine (Held15 HS hb7 (C9.out _)).mono ?_
  rintro e w8 ⟨rfl, hb8, g3, g4, g5⟩
  go_wp2_with fail
  refine (Held15 HS hb8 (D1.out _)).mono ?_
  rintro e w9 ⟨rfl, hb9, k3, k4, k5⟩
  have hB := Lib.hid (HB.out.trans (hb9.mono HB.out.size))
  go_wp2_with fail
  go_ret
  exact ⟨rfl, hB.out⟩

theorem layoutParts_walk (a b c n : Int) (_n0 : -9223372036854775808 ≤ n) (_n9 : n ≤ 9223372036854775807) (w : World) :
    Calls Try.prog 3 #[Cf a b c, .int .i64 n] w fun e w' => e = .returned (.bool true) ∧ Below w.heap.size w w' := by
  cases h : M.lokB a b c
  · exact layoutParts_no a b c h n w
  · have hv := (M.lok_iff a b c).1 h
    obtain ⟨E, rfl⟩ : ∃ E : Nat, a = E := ⟨a.toNat, by omega⟩
    obtain ⟨S, rfl⟩ : ∃ E : Nat, b = E := ⟨b.toNat, by omega⟩
    obtain ⟨L, rfl⟩ : ∃ E : Nat, c = E := ⟨c.toNat, by omega⟩
    by_cases h1 : n < 0
    · exact layoutParts_out E S L h n (Or.inl (by simpa using h1)) w
    · by_cases h2 : (E : Int) ≤ n
      · exact layoutParts_out E S L h n (Or.inr ⟨by simpa using h1, by simpa using h2⟩) w
      · obtain ⟨i, rfl⟩ : ∃ i : Nat, n = i := ⟨n.toNat, by omega⟩
        exact layoutParts_in E S L h i (by omega) w
end Go.Proofs.Ytbmgfdnmjilfdaa
