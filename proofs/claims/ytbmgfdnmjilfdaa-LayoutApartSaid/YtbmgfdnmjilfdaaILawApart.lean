/-
  Walk over solderlaw15.LayoutApart.
-/
import Derived.Test.YtbmgfdnmjilfdaaIMark
namespace Go.Proofs.Ytbmgfdnmjilfdaa
open Go.RowKit

/-- What is marked behind k extents, and behind k slots. -/
def M.s1 (E S L k : Nat) : Nat → Bool := fun j => decide (j < 2 ∨ (M.ll E S ≤ j ∧ j < M.ln E S L) ∨ (2 ≤ j ∧ j < 2 + (k + 1) / 2) ∨ (M.lx E ≤ j ∧ j < M.lx E + 2 * k))
def M.s2 (E S L k : Nat) : Nat → Bool := fun j => decide (j < M.ls E + 5 * k ∨ (M.ll E S ≤ j ∧ j < M.ln E S L))
def M.s0 (k : Nat) : Nat → Bool := fun j => decide (j < k)
theorem M.or_dec (p : Nat → Prop) [DecidablePred p] (q : Nat → Prop) [DecidablePred q] (a m : Nat) (h : ∀ j, (p j ∨ (a ≤ j ∧ j < a + m)) ↔ q j) : M.orR (fun j => decide (p j)) a m = fun j => decide (q j) := by
  funext j
  unfold M.orR
  rw [← Bool.decide_or, decide_eq_decide]
  exact h j
theorem M.s0_a : M.orR (M.s0 0) 0 1 = M.s0 1 := M.or_dec _ _ _ _ (fun j => by omega)
theorem M.s0_b : M.orR (M.s0 1) 1 1 = M.s0 2 := M.or_dec _ _ _ _ (fun j => by omega)
theorem M.s1_zero (E S L : Nat) : M.orR (M.s0 2) (M.ll E S) L = M.s1 E S L 0 := M.or_dec _ _ _ _ (fun j => by unfold M.ln; omega)
theorem M.s1_even (E S L i : Nat) (h : i % 2 = 0) : M.orR (M.orR (M.s1 E S L i) (M.lx E + 2 * i) 2) (2 + i / 2) 1 = M.s1 E S L (i + 1) := by
  rw [show M.orR (M.s1 E S L i) (M.lx E + 2 * i) 2 = fun j => decide ((j < 2 ∨ (M.ll E S ≤ j ∧ j < M.ln E S L) ∨ (2 ≤ j ∧ j < 2 + (i + 1) / 2) ∨ (M.lx E ≤ j ∧ j < M.lx E + 2 * (i + 1)))) from M.or_dec _ _ _ _ (fun j => by omega)]
  exact M.or_dec _ _ _ _ (fun j => by omega)
theorem M.s1_odd (E S L i : Nat) (h : i % 2 = 1) : M.orR (M.s1 E S L i) (M.lx E + 2 * i) 2 = M.s1 E S L (i + 1) := M.or_dec _ _ _ _ (fun j => by omega)
theorem M.s1_all (E S L : Nat) : M.s1 E S L E = M.s2 E S L 0 := by
  funext j
  unfold M.s1 M.s2
  rw [decide_eq_decide]
  unfold M.ls M.lx
  omega
theorem M.s2_next (E S L i : Nat) : M.orR (M.s2 E S L i) (M.ls E + 5 * i) 5 = M.s2 E S L (i + 1) := M.or_dec _ _ _ _ (fun j => by omega)
theorem M.s2_all (E S L j : Nat) (h : j < M.ln E S L) : M.s2 E S L S j = true := by
  unfold M.s2
  rw [decide_eq_true_eq]
  unfold M.ll
  omega
theorem M.s0_cnt (N : Nat) : madeCells #[Value.int .i64 0] N = M.cnt N (M.s0 0) := by
  apply Array.ext
  · simp [madeCells, M.cnt]
  · intro i h1 h2
    simp [madeCells, M.cnt, M.s0, Nat.mod_one]
theorem info15i : (Try.prog.info? 3).map (fun i => (i.zero, i.size, i.bytes)) = some (some (.int .i64 0), 1, 8) := by kernel_rfl

set_option maxHeartbeats 4000000 in
set_option maxRecDepth 100000 in
theorem layoutApart_yes (E S L : Nat) (h : M.lokB E S L = true) (w : World) :
    Calls Try.prog 4 #[Cf E S L] w fun e w' => e = .returned (.bool true) ∧ Below w.heap.size w w' := by
  have hv := M.lok_nat h
  have HV := Lib.hid hv
  have C4 := Lib.hid (fun x => check15_any E S L x)
  rw [M.lerr_ok h] at C4
  have C6 := Lib.hid (fun x => sectors15_ok E S L h x)
  have C8 := Lib.hid (fun x => super15_ok E S L h x)
  have C9 := Lib.hid (fun x => journal15_ok E S L h x)
  have D1 := Lib.hid (fun x => log15_ok E S L h x)
  have CX := Lib.hid (fun i hi x => extent15_ok E S L i h hi x)
  have CT := Lib.hid (fun i hi x => table15_ok E S L i h hi x)
  have CS := Lib.hid (fun i hi x => slot15_ok E S L i h hi x)
  obtain ⟨N, hN⟩ : ∃ x, x = M.ln E S L := ⟨_, rfl⟩
  obtain ⟨l, hl⟩ : ∃ x, x = M.ll E S := ⟨_, rfl⟩
  rw [← hN] at C6
  rw [← hl] at D1
  have HN : Hid (N ≤ 400 ∧ 2 ≤ N ∧ l + L = N ∧ 2 ≤ l) := by
    show _ ∧ _
    rw [hN, hl]
    unfold M.ln M.ll M.ls M.lx
    omega
  have HNL := Lib.hid (And.intro hN hl)
  clear hN hl h hv
  obtain ⟨hN4, hN2, _, _⟩ := HN.out
  have hmk : ∀ W : World, (Instr.makeSlice 37 (.int .i64 (N : Nat)) (.int .i64 (N : Nat))).run Try.prog W = .ok (.slice (some ⟨W.heap.size, 0, none⟩) N N) (W.alloc (.cells (madeCells #[.int .i64 0] N) 3)) :=
    fun W => run_make_row' 37 3 (.int .i64 0) 8 Try.underlying37 info15i rfl .i64 .i64 N (by omega) (by omega) W
  rw [M.s0_cnt] at hmk
  have hz : decide ((N : Int) < 0) = false := by simp
  have HB := Lib.hid (ib1 w (.cells #[.int .i64 E, .int .i64 S, .int .i64 L] 23))
  have HS := Lib.hid (three_cells15 w E S L 23)
  have HX : Hid (Box (w.alloc (.cells #[.int .i64 E, .int .i64 S, .int .i64 L] 23)) w.heap.size 23 #[.int .i64 E, .int .i64 S, .int .i64 L]) := Box.new _ _ _
  clear hN2
  go_enter Try.func4, Try.ntmps4
  go_wp2_with fail
  obtain ⟨W, hW⟩ : ∃ W, W = w.alloc (.cells #[.int .i64 E, .int .i64 S, .int .i64 L] 23) := ⟨_, rfl⟩
  rw [← hW] at HS HB HX
  rw [← hW]
  clear hW
  have hb0 : Below W.heap.size W W := Below.refl _ _
  refine (Held15 HS hb0 (works15_any _)).mono ?_
  rintro e w1 ⟨rfl, hb1, c0, c1, c2⟩
  clear hb0
  go_wp2_with fail
  refine (Held15 HS hb1 (C4.out _)).mono ?_
  rintro e w2 ⟨rfl, hb2, d0, d1, d2⟩
  clear hb1 c0 c1 c2
  go_wp2_with fail
  refine (Held15 HS hb2 (C6.out _)).mono ?_
  rintro e w3 ⟨rfl, hb3, e0, e1, e2⟩
  clear hb2 d0 d1 d2
  have HB3 := Lib.hid (HB.out.trans (hb3.mono HB.out.size))
  have HX3 := Lib.hid (HX.out.below hb3 HX.out.lt)
  have hsz : w.heap.size < w3.heap.size := HX3.out.lt
  have HQ : Hid (Q15 w w.heap.size (w3.heap.size + 1) w3.heap.size E S L N (M.s0 0) ((w3.alloc (.cells (M.cnt N (M.s0 0)) 3)).alloc (.cells #[.slice (some ⟨w3.heap.size, 0, none⟩) N N] 37))) := by
    have k1 := ib1 w3 (.cells (M.cnt N (M.s0 0)) 3)
    have k2 := ib1 (w3.alloc (.cells (M.cnt N (M.s0 0)) 3)) (.cells #[.slice (some ⟨w3.heap.size, 0, none⟩) N N] 37)
    have kr := Box.new w3 3 (M.cnt N (M.s0 0))
    have kb := Box.new (w3.alloc (.cells (M.cnt N (M.s0 0)) 3)) 37 #[.slice (some ⟨w3.heap.size, 0, none⟩) N N]
    rw [World.size_alloc] at kb
    have kc := HX3.out.below k1 HX3.out.lt
    exact ⟨(HB3.out.alloc HB3.out.size _).alloc (by rw [World.size_alloc]; have := HB3.out.size; omega) _, kc.below k2 kc.lt, kb, kr.below k2 kr.lt, by omega, by omega, by omega⟩
  clear hb3 hsz
  go_wp2_with fail
  obtain ⟨W3, hW3⟩ : ∃ W, W = (w3.alloc (.cells (M.cnt N (M.s0 0)) 3)).alloc (.cells #[.slice (some ⟨w3.heap.size, 0, none⟩) N N] 37) := ⟨_, rfl⟩
  rw [← hW3] at HQ
  rw [← hW3]
  obtain ⟨s, hs⟩ : ∃ s, s = w3.heap.size + 1 := ⟨_, rfl⟩
  obtain ⟨g, hg⟩ : ∃ s, s = w3.heap.size := ⟨_, rfl⟩
  rw [← hs, ← hg] at HQ
  rw [← hs]
  clear hW3 hs hg hmk e0 e1 e2 HB3 HX3 HS HX
  have HM0 : Hid (∀ x, Q15 w w.heap.size s g E S L N (M.s0 0) x → Calls Try.prog 18 #[.int .i64 0, .int .i64 1, .pointer (some ⟨s, 0, none⟩)] x fun e y => e = .returned (.bool true) ∧ Q15 w w.heap.size s g E S L N (M.s0 1) y) := fun x hQ => by
    have hn := HN.out
    have := mark15_any 0 1 x hQ hn.1 (by omega) (fun j h1 h2 => decide_eq_false (by omega))
    rw [M.s0_a] at this
    exact this
  have HM1 : Hid (∀ x, Q15 w w.heap.size s g E S L N (M.s0 1) x → Calls Try.prog 18 #[.int .i64 1, .int .i64 1, .pointer (some ⟨s, 0, none⟩)] x fun e y => e = .returned (.bool true) ∧ Q15 w w.heap.size s g E S L N (M.s0 2) y) := fun x hQ => by
    have hn := HN.out
    have := mark15_any 1 1 x hQ hn.1 (by omega) (fun j h1 h2 => decide_eq_false (by omega))
    rw [M.s0_b] at this
    exact this
  have HM2 : Hid (∀ x, Q15 w w.heap.size s g E S L N (M.s0 2) x → Calls Try.prog 18 #[.int .i64 (l : Nat), .int .i64 (L : Nat), .pointer (some ⟨s, 0, none⟩)] x fun e y => e = .returned (.bool true) ∧ Q15 w w.heap.size s g E S L N (M.s1 E S L 0) y) := fun x hQ => by
    have hn := HN.out
    have := mark15_any l L x hQ hn.1 (by omega) (fun j h1 h2 => decide_eq_false (by omega))
    rw [HNL.out.2, M.s1_zero] at this
    rw [HNL.out.2]
    exact this
  have hQ0 := HQ.out
  have hS0 := hQ0.cells
  go_region_held3 (fun y => y.cell? ⟨w.heap.size, 0, none⟩ = some (.int .i64 E) ∧ y.cell? ⟨w.heap.size, 1, none⟩ = some (.int .i64 S) ∧ y.cell? ⟨w.heap.size, 2, none⟩ = some (.int .i64 L)) (first | assumption)
    (first
      | (go_at_call 14; refine (Q15.call (by first | assumption | exact Q15.drew (by assumption)) (C8.out _)).mono ?_; rintro e w5 ⟨rfl, hQ5⟩; have hS5 := hQ5.cells)
      | (go_at_call 15; refine (Q15.call (by first | assumption | exact Q15.drew (by assumption)) (C9.out _)).mono ?_; rintro e w5 ⟨rfl, hQ5⟩; have hS5 := hQ5.cells)
      | (go_at_call 16; refine (Q15.call (by first | assumption | exact Q15.drew (by assumption)) (D1.out _)).mono ?_; rintro e w5 ⟨rfl, hQ5⟩; have hS5 := hQ5.cells)
      | (go_at_call 18; with_reducible refine (HM0.out _ (by first | assumption | exact Q15.drew (by assumption))).mono ?_; rintro e w5 ⟨rfl, hQ5⟩; have hS5 := hQ5.cells)
      | (go_at_call 18; with_reducible refine (HM1.out _ (by first | assumption | exact Q15.drew (by assumption))).mono ?_; rintro e w5 ⟨rfl, hQ5⟩; have hS5 := hQ5.cells)
      | (go_at_call 18; with_reducible refine (HM2.out _ (by first | assumption | exact Q15.drew (by assumption))).mono ?_; rintro e w5 ⟨rfl, hQ5⟩; have hS5 := hQ5.cells))
  have hQ1 : Q15 w w.heap.size s g E S L N (M.s1 E S L 0) w5 := by assumption
  have HQ1 := Lib.hid hQ1
  clear HQ HM0 HM1 HM2 C8 C9 D1 C6 C4
  clear hQ1
  go_wp2_with fail
  go_loopw [6, 7] (fun ok j wr => ∃ i : Nat, i ≤ E ∧ ok = .bool true ∧ j = .int .i64 (i : Nat) ∧ Hid (Q15 w w.heap.size s g E S L N (M.s1 E S L i) wr)) (fun ok j _ => E - (intOf j).toNat)
  case atStart => exact ⟨0, Nat.zero_le _, rfl, rfl, HQ1.out⟩
  case round =>
    clear HQ1
    obtain ⟨i, hk, rfl, rfl, HQ⟩ := hrel
    obtain ⟨c0, c1, c2⟩ := HQ.out.cells
    have hv := HV.out
    by_cases hlt : i < E
    · have hd9 : decide (i < E) = true := by simpa using hlt
      have hlt' : (i : Int) < (E : Int) := by omega
      have hi1 : (i : Int) ≤ 400 := by omega
      have CX1 := Lib.hid (fun x => CX.out i hlt x)
      obtain ⟨X, hX⟩ : ∃ X, X = M.lx E + 2 * i := ⟨_, rfl⟩
      obtain ⟨t, ht⟩ : ∃ t, t = 2 + i / 2 := ⟨_, rfl⟩
      rw [← hX] at CX1
      have HMX : Hid (∀ x, Q15 w w.heap.size s g E S L N (M.s1 E S L i) x → Calls Try.prog 18 #[.int .i64 (X : Nat), .int .i64 2, .pointer (some ⟨s, 0, none⟩)] x fun e y => e = .returned (.bool true) ∧ Q15 w w.heap.size s g E S L N (M.orR (M.s1 E S L i) X 2) y) := fun x hQ =>
        mark15_any X 2 x hQ HN.out.1 (by have := HNL.out.1; unfold M.ln M.ll M.ls at this; omega) (fun j h1 h2 => decide_eq_false (by unfold M.ll M.ls; unfold M.lx at hX ⊢; omega))
      have HMT : Hid (i % 2 = 0 → ∀ x, Q15 w w.heap.size s g E S L N (M.orR (M.s1 E S L i) X 2) x → Calls Try.prog 18 #[.int .i64 (t : Nat), .int .i64 1, .pointer (some ⟨s, 0, none⟩)] x fun e y => e = .returned (.bool true) ∧ Q15 w w.heap.size s g E S L N (M.orR (M.orR (M.s1 E S L i) X 2) t 1) y) := fun hev x hQ =>
        mark15_any t 1 x hQ HN.out.1 (by have := HNL.out.1; unfold M.ln M.ll M.ls M.lx at this; omega) (fun j h1 h2 => by
          have a1 : decide (X ≤ j ∧ j < X + 2) = false := decide_eq_false (by unfold M.lx at hX; omega)
          have a2 : M.s1 E S L i j = false := decide_eq_false (by unfold M.ll M.ls M.lx; omega)
          unfold M.orR
          rw [a1, a2]
          rfl)
      by_cases hpar : i % 2 = 1
      · clear HMT
        have hi2 : i % 2 = 1 := hpar
        have CT1 : Hid (∀ x, Calls Try.prog 8 #[Cf E S L, .int .i64 (i : Nat)] x fun e y => e = .returned (.tuple #[.int .i64 (t : Nat), .int .i64 1, .int .i64 0]) ∧ Below x.heap.size x y) := fun x => by
          have := CT.out i hlt x
          rw [hi2, ← ht] at this
          exact this
        have q3 : (i : Int).tmod 2 = 1 := by rw [Int.tmod_eq_emod_of_nonneg (by omega)]; omega
        have HE : Hid (M.s1 E S L (i + 1) = M.orR (M.s1 E S L i) X 2) := by show _ = _; rw [hX]; exact (M.s1_odd E S L i hi2).symm
        clear hv hlt hk hpar hi2 hX ht
        go_wp2_with fail
        refine (HQ.out.call (CX1.out _)).mono ?_
        rintro e y1 ⟨rfl, hQ1⟩
        obtain ⟨d0, d1, d2⟩ := hQ1.cells
        go_wp2_with fail
        refine (hQ1.call (CT1.out _)).mono ?_
        rintro e y2 ⟨rfl, hQ2⟩
        go_wp2_with fail
        refine (HMX.out _ hQ2).mono ?_
        rintro e y3 ⟨rfl, hQ3⟩
        go_wp2_with fail
        have HQ5 : Hid (Q15 w w.heap.size s g E S L N (M.s1 E S L (i + 1)) y3) := by rw [HE.out]; exact hQ3
        clear hQ1 hQ2 hQ3
        go_roundw
        case rel => exact ⟨i + 1, by omega, rfl, by go_num, HQ5.out⟩
        case measure => simp [intOf]; omega
      · have hpar : i % 2 = 0 := by omega
        have HMT := Lib.hid (HMT.out hpar)
        have hi2 : i % 2 = 0 := hpar
        have CT1 : Hid (∀ x, Calls Try.prog 8 #[Cf E S L, .int .i64 (i : Nat)] x fun e y => e = .returned (.tuple #[.int .i64 (t : Nat), .int .i64 0, .int .i64 0]) ∧ Below x.heap.size x y) := fun x => by
          have := CT.out i hlt x
          rw [hi2, ← ht] at this
          exact this
        have q3 : (i : Int).tmod 2 = 0 := by rw [Int.tmod_eq_emod_of_nonneg (by omega)]; omega
        have HE : Hid (M.s1 E S L (i + 1) = M.orR (M.orR (M.s1 E S L i) X 2) t 1) := by show _ = _; rw [hX, ht]; exact (M.s1_even E S L i hi2).symm
        clear hv hlt hk hpar hi2 hX ht
        go_wp2_with fail
        refine (HQ.out.call (CX1.out _)).mono ?_
        rintro e y1 ⟨rfl, hQ1⟩
        obtain ⟨d0, d1, d2⟩ := hQ1.cells
        go_wp2_with fail
        refine (hQ1.call (CT1.out _)).mono ?_
        rintro e y2 ⟨rfl, hQ2⟩
        go_wp2_with fail
        refine (HMX.out _ hQ2).mono ?_
        rintro e y3 ⟨rfl, hQ3⟩
        go_wp2_with fail
        refine (HMT.out _ hQ3).mono ?_
        rintro e y4 ⟨rfl, hQ4⟩
        have HQ5 : Hid (Q15 w w.heap.size s g E S L N (M.s1 E S L (i + 1)) y4) := by rw [HE.out]; exact hQ4
        clear hQ1 hQ2 hQ3 hQ4
        go_wp2_with fail
        go_roundw
        case rel => exact ⟨i + 1, by omega, rfl, by go_num, HQ5.out⟩
        case measure => simp [intOf]; omega
    · have hiE : E = i := by omega
      subst hiE
      have hd9 : decide (E < E) = false := by simp
      have HQ2 : Hid (Q15 w w.heap.size s g E S L N (M.s2 E S L 0) wr) := by rw [← M.s1_all]; exact HQ.out
      clear hlt hk hv
      go_wp2_with fail
      clear HQ c0 c1 c2 hd9
      go_loopw [6, 13] (fun ok j wr => ∃ i : Nat, i ≤ S ∧ ok = .bool true ∧ j = .int .i64 (i : Nat) ∧ Hid (Q15 w w.heap.size s g E S L N (M.s2 E S L i) wr)) (fun ok j _ => S - (intOf j).toNat)
      case atStart => exact ⟨0, Nat.zero_le _, rfl, rfl, HQ2.out⟩
      case round =>
        clear HQ2
        obtain ⟨i, hk, rfl, rfl, HQ⟩ := hrel
        obtain ⟨c0, c1, c2⟩ := HQ.out.cells
        have hv := HV.out
        by_cases hlt : i < S
        · have hd9 : decide (i < S) = true := by simpa using hlt
          have hlt' : (i : Int) < (S : Int) := by omega
          have hi1 : (i : Int) ≤ 400 := by omega
          have CS1 := Lib.hid (fun x => CS.out i hlt x)
          obtain ⟨X, hX⟩ : ∃ X, X = M.ls E + 5 * i := ⟨_, rfl⟩
          rw [← hX] at CS1
          have HMX : Hid (∀ x, Q15 w w.heap.size s g E S L N (M.s2 E S L i) x → Calls Try.prog 18 #[.int .i64 (X : Nat), .int .i64 5, .pointer (some ⟨s, 0, none⟩)] x fun e y => e = .returned (.bool true) ∧ Q15 w w.heap.size s g E S L N (M.s2 E S L (i + 1)) y) := fun x hQ => by
            have := mark15_any X 5 x hQ HN.out.1 (by have := HNL.out.1; unfold M.ln M.ll at this; omega) (fun j h1 h2 => decide_eq_false (by unfold M.ll; omega))
            rw [hX, M.s2_next] at this
            rw [hX]
            exact this
          clear hv hlt hk hX
          go_wp2_with fail
          refine (HQ.out.call (CS1.out _)).mono ?_
          rintro e y1 ⟨rfl, hQ1⟩
          go_wp2_with fail
          refine (HMX.out _ hQ1).mono ?_
          rintro e y2 ⟨rfl, hQ2⟩
          have HQ5 := Lib.hid hQ2
          clear hQ1 hQ2
          go_wp2_with fail
          go_roundw
          case rel => exact ⟨i + 1, by omega, rfl, by go_num, HQ5.out⟩
          case measure => simp [intOf]; omega
        · have hiE : S = i := by omega
          subst hiE
          have hd9 : decide (S < S) = false := by simp
          clear hlt hk hv
          go_wp2_with fail
          clear c0 c1 c2 hd9
          have HQ3 := HQ
          clear HQ
          go_loopw [6, 16] (fun ok j wr => ∃ i : Nat, i ≤ N ∧ ok = .bool true ∧ j = .int .i64 (i : Nat) ∧ Hid (Q15 w w.heap.size s g E S L N (M.s2 E S L S) wr)) (fun ok j _ => N - (intOf j).toNat)
          case atStart => exact ⟨0, Nat.zero_le _, rfl, rfl, HQ3.out⟩
          case round =>
            clear HQ3
            obtain ⟨i, hk, rfl, rfl, HQ⟩ := hrel
            have c0 := HQ.out.seen
            have hN := HN.out.1
            have hb0 : (N : Int) ≤ 400 := by omega
            by_cases hlt : i < N
            · have hd9 : decide (i < N) = true := by simpa using hlt
              have hlt' : (i : Int) < (N : Int) := by omega
              have hi0 : (0 : Int) ≤ (i : Int) := by omega
              have c1 := (HQ.out.row.cell i).trans (M.cnt_at N _ i hlt)
              rw [M.s2_all E S L i (by rw [← HNL.out.1]; exact hlt)] at c1
              simp only [if_true] at c1
              clear hlt hk hN
              go_wp2_with fail
              go_roundw
              case rel => exact ⟨i + 1, by omega, rfl, by go_num, HQ.out⟩
              case measure => simp [intOf]; omega
            · have hiE : N = i := by omega
              subst hiE
              have hd9 : decide (N < N) = false := by simp
              have hd8 : decide ((N : Int) ≤ 1000) = true := by simp; omega
              clear hlt hk
              go_wp2_with fail
              go_ret
              exact ⟨rfl, HQ.out.below⟩

set_option maxHeartbeats 1000000 in
theorem layoutApart_no (a b c : Int) (h : M.lokB a b c = false) (w : World) :
    Calls Try.prog 4 #[Cf a b c] w fun e w' => e = .returned (.bool true) ∧ Below w.heap.size w w' := by
  have C4 := Lib.hid (fun x => check15_any a b c x)
  rw [M.lerr_no h] at C4
  have C6 := Lib.hid (fun x => sectors15_no a b c h x)
  clear h
  have HB := Lib.hid (ib1 w (.cells #[.int .i64 a, .int .i64 b, .int .i64 c] 23))
  have HS := Lib.hid (three_cells15 w a b c 23)
  go_enter Try.func4, Try.ntmps4
  go_wp2_with fail
  obtain ⟨W, hW⟩ : ∃ W, W = w.alloc (.cells #[.int .i64 a, .int .i64 b, .int .i64 c] 23) := ⟨_, rfl⟩
  rw [← hW] at HS HB
  rw [← hW]
  clear hW
  have hb0 : Below W.heap.size W W := Below.refl _ _
  refine (Held15 HS hb0 (works15_any _)).mono ?_
  rintro e w1 ⟨rfl, hb1, c0, c1, c2⟩
  clear hb0
  go_wp2_with fail
  refine (Held15 HS hb1 (C4.out _)).mono ?_
  rintro e w2 ⟨rfl, hb2, d0, d1, d2⟩
  clear hb1 c0 c1 c2
  go_wp2_with fail
  refine (Held15 HS hb2 (C6.out _)).mono ?_
  rintro e w3 ⟨rfl, hb3, e0, e1, e2⟩
  clear hb2 d0 d1 d2
  have hB := Lib.hid (HB.out.trans (hb3.mono HB.out.size))
  go_wp2_with fail
  go_ret
  exact ⟨rfl, hB.out⟩

theorem layoutApart_walk (a b c : Int) (w : World) :
    Calls Try.prog 4 #[Cf a b c] w fun e w' => e = .returned (.bool true) ∧ Below w.heap.size w w' := by
  cases h : M.lokB a b c
  · exact layoutApart_no a b c h w
  · have hv := (M.lok_iff a b c).1 h
    obtain ⟨E, rfl⟩ : ∃ E : Nat, a = E := ⟨a.toNat, by omega⟩
    obtain ⟨S, rfl⟩ : ∃ E : Nat, b = E := ⟨b.toNat, by omega⟩
    obtain ⟨L, rfl⟩ : ∃ E : Nat, c = E := ⟨c.toNat, by omega⟩
    exact layoutApart_yes E S L h w
end Go.Proofs.Ytbmgfdnmjilfdaa
