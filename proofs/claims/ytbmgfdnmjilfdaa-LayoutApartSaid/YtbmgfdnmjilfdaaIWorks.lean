/-
  Walk over solderlaw15.works; where each thing of a volume begins.
-/
import Derived.Test.YtbmgfdnmjilfdaaIGet
import Derived.Test.YtbmgfdnmjilfdaaIRef
namespace Go.Proofs.Ytbmgfdnmjilfdaa
open Go.RowKit

/-- A call that leaves the old blocks alone, in a region where more is held. -/
theorem Held15 {P : Program} {f : Nat} {args : Array Value} {x W : World} {v : Value} {S : World → Prop} (hS : Hid (∀ y, Below W.heap.size W y → S y)) (hb : Below W.heap.size W x)
    (h : Calls P f args x fun e y => e = .returned v ∧ Below x.heap.size x y) : Calls P f args x fun e y => e = .returned v ∧ Below W.heap.size W y ∧ S y :=
  h.mono fun _ y ⟨he, h1⟩ => have h2 : Below W.heap.size W y := hb.trans (h1.mono hb.size); ⟨he, h2, hS.out y h2⟩
theorem cell_of15 {W x : World} {p : Addr} {u : Value} (hb : Below W.heap.size W x) (h : W.cell? p = some u) : x.cell? p = some u :=
  (hb.cell (World.block_lt_of_cell? W _ h)).trans h
/-- The cells of a volume's numbers. -/
theorem three_cells15 (w : World) (a b c : Int) (t : TypeId) : ∀ y, Below (w.alloc (.cells #[.int .i64 a, .int .i64 b, .int .i64 c] t)).heap.size (w.alloc (.cells #[.int .i64 a, .int .i64 b, .int .i64 c] t)) y →
    y.cell? ⟨w.heap.size, 0, none⟩ = some (.int .i64 a) ∧ y.cell? ⟨w.heap.size, 1, none⟩ = some (.int .i64 b) ∧ y.cell? ⟨w.heap.size, 2, none⟩ = some (.int .i64 c) := by
  intro y hb
  refine ⟨cell_of15 hb ?_, cell_of15 hb ?_, cell_of15 hb ?_⟩ <;> simp [go_sem]

set_option maxHeartbeats 2000000 in
theorem works15_any (w : World) : Calls Try.prog 5 #[] w fun e w' => e = .returned (.bool true) ∧ Below w.heap.size w w' := by
  have C1 : Hid (∀ x, Calls Try.prog 8 #[Cf 3 1 24, .int .i64 2] x fun e y => e = .returned (.tuple #[.int .i64 3, .int .i64 0, .int .i64 0]) ∧ Below x.heap.size x y) := fun x => table15_ok 3 1 24 2 (by decide) (by decide) x
  have C2 : Hid (∀ x, Calls Try.prog 11 #[Cf 3 1 24] x fun e y => e = .returned (.int .i64 39) ∧ Below x.heap.size x y) := fun x => sectors15_ok 3 1 24 (by decide) x
  have C3 : Hid (∀ x, Calls Try.prog 16 #[Cf 3 1 24] x fun e y => e = .returned (.int .i64 15) ∧ Below x.heap.size x y) := fun x => log15_ok 3 1 24 (by decide) x
  have C4 : Hid (∀ x, Calls Try.prog 9 #[Cf 3 1 24] x fun e y => e = .returned (.int .i64 0) ∧ Below x.heap.size x y) := fun x => check15_any 3 1 24 x
  have HB := Lib.hid (ib1 w (.cells #[.int .i64 3, .int .i64 1, .int .i64 24] 23))
  have HS := Lib.hid (three_cells15 w 3 1 24 23)
  go_enter Try.func5, Try.ntmps5
  go_wp2_with fail
  obtain ⟨W, hW⟩ : ∃ W, W = w.alloc (.cells #[.int .i64 3, .int .i64 1, .int .i64 24] 23) := ⟨_, rfl⟩
  rw [← hW] at HS HB
  rw [← hW]
  clear hW
  have hb0 : Below W.heap.size W W := Below.refl _ _
  refine (Held15 HS hb0 (C1.out _)).mono ?_
  rintro e w1 ⟨rfl, hb1, c0, c1, c2⟩
  clear hb0
  go_wp2_with fail
  refine (Held15 HS hb1 (C2.out _)).mono ?_
  rintro e w2 ⟨rfl, hb2, d0, d1, d2⟩
  clear hb1 c0 c1 c2
  go_wp2_with fail
  refine (Held15 HS hb2 (C3.out _)).mono ?_
  rintro e w3 ⟨rfl, hb3, e0, e1, e2⟩
  clear hb2 d0 d1 d2
  go_wp2_with fail
  refine (Held15 HS hb3 (C4.out _)).mono ?_
  rintro e w4 ⟨rfl, hb4, f0, f1, f2⟩
  clear hb3 e0 e1 e2
  have hB := Lib.hid (HB.out.trans (hb4.mono HB.out.size))
  go_wp2_with fail
  go_ret
  exact ⟨rfl, hB.out⟩

theorem M.isP_iff (E S : Nat) (p n : Int) (i : Nat) : M.isP E S p n i ↔
    (i < 2 ∧ p = i ∧ n = 0) ∨ (2 ≤ i ∧ i < M.lx E ∧ p = 2 ∧ n + 2 = i) ∨ (2 ≤ i ∧ M.lx E ≤ i ∧ i < M.ls E ∧ p = 3 ∧ n = ((i - M.lx E) / 2 : Nat)) ∨
    (2 ≤ i ∧ M.lx E ≤ i ∧ M.ls E ≤ i ∧ i < M.ll E S ∧ p = 4 ∧ n = ((i - M.ls E) / 5 : Nat)) ∨ (2 ≤ i ∧ M.lx E ≤ i ∧ M.ls E ≤ i ∧ M.ll E S ≤ i ∧ p = 5 ∧ n = 0) := by
  unfold M.isP M.pt
  by_cases h1 : i < 2
  · rw [if_pos h1]
    simp only
    omega
  · rw [if_neg h1]
    by_cases h2 : i < M.lx E
    · rw [if_pos h2]
      simp only
      omega
    · rw [if_neg h2]
      by_cases h3 : i < M.ls E
      · rw [if_pos h3]
        simp only
        omega
      · rw [if_neg h3]
        by_cases h4 : i < M.ll E S
        · rw [if_pos h4]
          simp only
          omega
        · rw [if_neg h4]
          simp only
          omega

section
variable (E S L : Nat) (h : M.lokB E S L = true)
theorem M.lok_nat {E S L : Nat} (h : M.lokB E S L = true) : 1 ≤ E ∧ E ≤ 24 ∧ 1 ≤ S ∧ S ≤ 8 ∧ 24 ≤ L ∧ L ≤ 200 := by
  have := (M.lok_iff _ _ _).1 h
  omega
include h
/-- Where a thing begins: the first sector of it. -/
theorem first15_is (p n : Int) (r : Nat) (hr : r < M.ln E S L) (hat : M.isP E S p n r) (hno : ∀ j, j < r → ¬ M.isP E S p n j) (w : World) :
    Calls Try.prog 17 #[Cf E S L, .int .i64 p, .int .i64 n] w fun e w' => e = .returned (.int .i64 (r : Nat)) ∧ Below w.heap.size w w' := by
  have := first15_any E S L p n r h (Nat.le_of_lt hr) hno (fun _ => hat) w
  rw [if_pos hr] at this
  exact this
theorem first15_none (p n : Int) (hno : ∀ j, j < M.ln E S L → ¬ M.isP E S p n j) (w : World) :
    Calls Try.prog 17 #[Cf E S L, .int .i64 p, .int .i64 n] w fun e w' => e = .returned (.int .i64 (-1)) ∧ Below w.heap.size w w' := by
  have := first15_any E S L p n (M.ln E S L) h (Nat.le_refl _) hno (fun e => absurd e (Nat.lt_irrefl _)) w
  rw [if_neg (Nat.lt_irrefl _)] at this
  exact this
theorem first15_super (w : World) : Calls Try.prog 17 #[Cf E S L, .int .i64 0, .int .i64 0] w fun e w' => e = .returned (.int .i64 0) ∧ Below w.heap.size w w' :=
  first15_is E S L h 0 0 0 (by unfold M.ln M.ll M.ls M.lx; omega) ((M.isP_iff _ _ _ _ _).2 (Or.inl ⟨by omega, rfl, rfl⟩)) (fun j hj => by omega) w
theorem first15_journal (w : World) : Calls Try.prog 17 #[Cf E S L, .int .i64 1, .int .i64 0] w fun e w' => e = .returned (.int .i64 1) ∧ Below w.heap.size w w' :=
  first15_is E S L h 1 0 1 (by unfold M.ln M.ll M.ls M.lx; omega) ((M.isP_iff _ _ _ _ _).2 (Or.inl ⟨by omega, rfl, rfl⟩)) (fun j hj hx => by
    rw [M.isP_iff] at hx
    omega) w
theorem first15_log (w : World) : Calls Try.prog 17 #[Cf E S L, .int .i64 5, .int .i64 0] w fun e w' => e = .returned (.int .i64 (M.ll E S : Nat)) ∧ Below w.heap.size w w' := by
  have hv := M.lok_nat h
  refine first15_is E S L h 5 0 (M.ll E S) (by unfold M.ln; omega) ((M.isP_iff _ _ _ _ _).2 ?_) (fun j hj hx => ?_) w
  · unfold M.ll M.ls M.lx
    omega
  · rw [M.isP_iff] at hx
    omega
theorem first15_table (i : Nat) (hi : i < E) (w : World) : Calls Try.prog 17 #[Cf E S L, .int .i64 2, .int .i64 (i / 2 : Nat)] w fun e w' => e = .returned (.int .i64 (2 + i / 2 : Nat)) ∧ Below w.heap.size w w' := by
  refine first15_is E S L h 2 (i / 2 : Nat) (2 + i / 2) (by unfold M.ln M.ll M.ls M.lx; omega) ((M.isP_iff _ _ _ _ _).2 ?_) (fun j hj hx => ?_) w
  · unfold M.lx
    omega
  · rw [M.isP_iff] at hx
    omega
theorem first15_ext (i : Nat) (hi : i < E) (w : World) : Calls Try.prog 17 #[Cf E S L, .int .i64 3, .int .i64 (i : Nat)] w fun e w' => e = .returned (.int .i64 (M.lx E + 2 * i : Nat)) ∧ Below w.heap.size w w' := by
  refine first15_is E S L h 3 (i : Nat) (M.lx E + 2 * i) (by unfold M.ln M.ll M.ls; omega) ((M.isP_iff _ _ _ _ _).2 ?_) (fun j hj hx => ?_) w
  · unfold M.ls M.lx
    omega
  · rw [M.isP_iff] at hx
    omega
theorem first15_slot (i : Nat) (hi : i < S) (w : World) : Calls Try.prog 17 #[Cf E S L, .int .i64 4, .int .i64 (i : Nat)] w fun e w' => e = .returned (.int .i64 (M.ls E + 5 * i : Nat)) ∧ Below w.heap.size w w' := by
  refine first15_is E S L h 4 (i : Nat) (M.ls E + 5 * i) (by unfold M.ln M.ll; omega) ((M.isP_iff _ _ _ _ _).2 ?_) (fun j hj hx => ?_) w
  · unfold M.ll M.ls M.lx
    omega
  · rw [M.isP_iff] at hx
    omega
theorem first15_noext (n : Int) (hn : n < 0 ∨ (E : Int) ≤ n) (w : World) : Calls Try.prog 17 #[Cf E S L, .int .i64 3, .int .i64 n] w fun e w' => e = .returned (.int .i64 (-1)) ∧ Below w.heap.size w w' := by
  refine first15_none E S L h 3 n (fun j hj hx => ?_) w
  rw [M.isP_iff] at hx
  unfold M.ls at hx
  omega
theorem first15_noslot (n : Int) (hn : n < 0 ∨ (S : Int) ≤ n) (w : World) : Calls Try.prog 17 #[Cf E S L, .int .i64 4, .int .i64 n] w fun e w' => e = .returned (.int .i64 (-1)) ∧ Below w.heap.size w w' := by
  refine first15_none E S L h 4 n (fun j hj hx => ?_) w
  rw [M.isP_iff] at hx
  unfold M.ll at hx
  omega
end
end Go.Proofs.Ytbmgfdnmjilfdaa
