/-
  logrec.Get and solderref11.Get of any bytes; walks over solderlaw09.Sectors and solderlaw11.Great.
-/
import Derived.Test.YtnjlkjphkimapaaPRGet
namespace Go.Proofs.Ytnjlkjphkimapaa
open Go.RowKit Go.Deep

theorem get11_any (s : ByteArray) (w : World) : Calls Try.prog 12 #[.string s] w fun e w' => Got11 s w e w' := by
  by_cases h0 : s.size = 0
  · rw [M.of_size0 h0]
    exact get11_nil w
  by_cases h1 : s.size % 64 = 0
  · by_cases h2 : s.extract 0 1 = ⟨#[82]⟩
    · by_cases h3 : 1 ≤ M.hnum s 7 8 ∧ M.hnum s 7 8 ≤ 16
      · by_cases h4 : M.hnum s 7 8 = M.gN s
        · have hz := (M.whole_facts s h0 h1).2.2.2
          exact get11_main s w (M.gN s) (by omega) hz h2 h4
        · exact get11_less s w h0 h1 h2 h3 h4
      · exact get11_many s w h0 h1 h2 h3
    · exact get11_mark s w h0 h1 h2
  · exact get11_part s w h0 h1
theorem rget11_any (s : ByteArray) (w : World) (h9 : s.size ≤ 100000) : Calls Try.prog 13 #[.string s] w fun e w' => Got11 s w e w' := by
  by_cases h0 : s.size = 0
  · rw [M.of_size0 h0]
    exact rget11_nil w
  by_cases h1 : s.size % 64 = 0
  · by_cases h : s.extract 0 1 ≠ ⟨#[82]⟩ ∨ M.hnum s 7 8 ≠ (M.gN s : Int) ∨ M.gN s < 1 ∨ 16 < M.gN s
    · exact rget11_form s w h0 h1 h9 h
    · have hz := (M.whole_facts s h0 h1).2.2.2
      have h2 : s.extract 0 1 = ⟨#[82]⟩ := Classical.byContradiction fun x => h (Or.inl x)
      have h3 : M.hnum s 7 8 = (M.gN s : Int) := Classical.byContradiction fun x => h (Or.inr (Or.inl x))
      exact rget11_main s w (M.gN s) ⟨by omega, by omega⟩ hz h2 h3
  · exact rget11_part s w h0 h1

theorem SecF.congr {y : World} {A : Option Addr} {n : Nat} {a b : Nat → Int} {t u : Nat → ByteArray} (h : SecF y A n a t) (h1 : ∀ i, i < n → a i = b i) (h2 : ∀ i, i < n → t i = u i) : SecF y A n b u := fun i hi => by
  have := h i hi
  rw [h1 i hi, h2 i hi] at this
  exact this

set_option maxRecDepth 100000 in
set_option maxHeartbeats 1000000 in
theorem sectors11_any (A1 A2 : Option Addr) (n c1 c2 : Nat) (a : Nat → Int) (t : Nat → ByteArray) (w : World) (h1 : SecF w A1 n a t) (h2 : SecF w A2 n a t) (hl : n ≤ 1000) :
    Calls Try.prog 16 #[.slice A1 n c1, .slice A2 n c2] w fun e w' => e = .returned (.bool true) ∧ Below w.heap.size w w' := by
  have H1 := Lib.hid (fun y (hb : Below w.heap.size w y) i (hi : i < n) => (h1.below (Nat.le_refl _) hb).at_ hi)
  have H2 := Lib.hid (fun y (hb : Below w.heap.size w y) i (hi : i < n) => (h2.below (Nat.le_refl _) hb).at_ hi)
  have hl' : (n : Int) ≤ 1000 := by omega
  have hnn : ((n : Int) == (n : Int)) = true := by simp
  clear h1 h2
  go_enter Try.func16, Try.ntmps16
  go_wp2_with fail
  go_loopw [5] (fun j wr => ∃ k : Nat, k ≤ n ∧ j = .int .i64 k ∧ Below w.heap.size w wr) (fun j _ => n - (intOf j).toNat)
  case atStart => exact ⟨0, Nat.zero_le _, rfl, Below.refl _ _⟩
  case round =>
    obtain ⟨k, hk, rfl, hb⟩ := hrel
    by_cases hlt : k < n
    · have hk0 : (0 : Int) ≤ (k : Int) := by omega
      have hlt' : (k : Int) < (n : Int) := by omega
      obtain ⟨g1, rfl, x0, x1⟩ := H1.out _ hb k hlt
      obtain ⟨g2, rfl, y0, y1⟩ := H2.out _ hb k hlt
      obtain ⟨z, hz⟩ : ∃ z, z = a k := ⟨_, rfl⟩
      obtain ⟨s, hs⟩ : ∃ s, s = t k := ⟨_, rfl⟩
      rw [← hz] at x0 y0
      rw [← hs] at x1 y1
      have e0 : (z == z) = true := by simp
      have e1 : (s.toList == s.toList) = true := str_eq_self s
      have HB := Lib.hid hb
      clear hz hs hb
      go_wp2_with fail
      go_quiet (fail)
      go_wp2_with fail
      go_roundw
      case rel => exact ⟨k + 1, by omega, by go_num, below_drewN HB.out _⟩
      case measure => simp [intOf]; omega
    · have e : k = n := by omega
      subst e
      have HB := Lib.hid hb
      clear hlt hb
      go_wp2_with fail
      go_ret
      exact ⟨rfl, HB.out⟩

set_option maxRecDepth 100000 in
theorem great11_any (A : Option Addr) (len cap : Nat) (a : Nat → Int) (t : Nat → ByteArray) (w : World) (h : SecF w A len a t) (hlen : len ≤ maxLen) :
    Calls Try.prog 7 #[.slice A len cap] w fun e w' => (e = .returned (.bool true) ∧ w' = w) ∨ (e = .returned (.bool false) ∧ w' = w ∧ Hid (len ≤ 40 ∧ ∀ i, i < len → (t i).size ≤ 500)) := by
  have HF := Lib.hid (fun i (hi : i < len) => h.at_ hi)
  have hl63 : (len : Int) ≤ 9223372036854775807 := by unfold maxLen at hlen; omega
  clear h hlen
  go_enter Try.func7, Try.ntmps7
  go_wp2_with fail
  go_loopw [3] (fun j wr => ∃ k : Nat, k ≤ len ∧ k ≤ 40 ∧ j = .int .i64 k ∧ wr = w ∧ Hid (∀ i, i < k → (t i).size ≤ 500)) (fun j _ => len - (intOf j).toNat)
  case atStart => exact ⟨0, Nat.zero_le _, Nat.zero_le _, rfl, rfl, fun i hi => absurd hi (by omega)⟩
  case round =>
    obtain ⟨k, hk, hk1, rfl, rfl, HA⟩ := hrel
    by_cases hlt : k < len
    · have hk0 : (0 : Int) ≤ (k : Int) := by omega
      have hlt' : (k : Int) < (len : Int) := by omega
      by_cases h1 : k < 40
      · have h1' : ¬ (40 : Int) ≤ (k : Int) := by omega
        obtain ⟨ad, rfl, _, x1⟩ := HF.out k hlt
        obtain ⟨s, hs⟩ : ∃ s, s = t k := ⟨_, rfl⟩
        rw [← hs] at x1
        by_cases h5 : s.size ≤ 500
        · have h5' : ¬ (500 : Int) < (s.size : Int) := by omega
          have HN : Hid (∀ i, i < k + 1 → (t i).size ≤ 500) := fun i hi => by
            by_cases e : i = k
            · rw [e, ← hs]; exact h5
            · exact HA.out i (by omega)
          clear hs
          go_wp2_with fail
          go_roundw
          case rel => exact ⟨k + 1, by omega, by omega, by go_num, (by first | rfl | trivial), HN⟩
          case measure => simp [intOf]; omega
        · have h5' : (500 : Int) < (s.size : Int) := by omega
          clear hs
          go_wp2_with fail
          go_ret
          first | exact Or.inl ⟨rfl, rfl⟩ | exact Or.inl rfl
      · have h1' : (40 : Int) ≤ (k : Int) := by omega
        go_wp2_with fail
        go_ret
        first | exact Or.inl ⟨rfl, rfl⟩ | exact Or.inl rfl
    · have e : k = len := by omega
      subst e
      clear hlt
      have HE : Hid (k ≤ 40 ∧ ∀ i, i < k → (t i).size ≤ 500) := ⟨hk1, HA.out⟩
      go_wp2_with fail
      go_ret
      first | exact Or.inr ⟨rfl, rfl, HE⟩ | exact Or.inr ⟨rfl, rfl⟩
end Go.Proofs.Ytnjlkjphkimapaa
