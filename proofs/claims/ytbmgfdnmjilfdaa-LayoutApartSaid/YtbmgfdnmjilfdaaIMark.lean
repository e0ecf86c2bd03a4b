/-
  Walk over solderlaw15.LayoutApart's own function, which marks sectors; what it is called over.
-/
import Derived.Test.YtbmgfdnmjilfdaaIWorks
import Derived.Test.YtbmgfdnmjilfdaaIArg
import Derived.Test.YtbmgfdnmjilfdaaKept
namespace Go.Proofs.Ytbmgfdnmjilfdaa
open Go.RowKit

/-- Which sectors are marked, as the row of their counts. -/
def M.cnt (N : Nat) (f : Nat → Bool) : Array Value := ((List.range N).map (fun j => Value.int .i64 (if f j = true then 1 else 0))).toArray
theorem M.cnt_at (N : Nat) (f : Nat → Bool) (j : Nat) (h : j < N) : (M.cnt N f)[j]? = some (.int .i64 (if f j = true then 1 else 0)) := by simp [M.cnt, h]
theorem M.cnt_size (N : Nat) (f : Nat → Bool) : (M.cnt N f).size = N := by simp [M.cnt]
/-- Many more from a place on. -/
def M.orR (f : Nat → Bool) (a m : Nat) : Nat → Bool := fun j => f j || decide (a ≤ j ∧ j < a + m)
theorem M.orR_zero (f : Nat → Bool) (a : Nat) : M.orR f a 0 = f := by
  funext j
  have : decide (a ≤ j ∧ j < a + 0) = false := by rw [decide_eq_false_iff_not]; omega
  unfold M.orR
  rw [this, Bool.or_false]
theorem M.cnt_put (N : Nat) (f : Nat → Bool) (a k : Nat) (h : a + k < N) : (M.cnt N (M.orR f a k)).setIfInBounds (a + k) (.int .i64 1) = M.cnt N (M.orR f a (k + 1)) := by
  apply Array.ext_getElem?
  intro j
  rw [Array.getElem?_setIfInBounds]
  by_cases e : a + k = j
  · subst e
    rw [if_pos rfl, if_pos (by rw [M.cnt_size]; exact h), M.cnt_at _ _ _ h]
    have : M.orR f a (k + 1) (a + k) = true := by unfold M.orR; rw [decide_eq_true (by omega), Bool.or_true]
    rw [this]
    rfl
  · rw [if_neg e]
    by_cases hk : j < N
    · rw [M.cnt_at _ _ _ hk, M.cnt_at _ _ _ hk]
      have : M.orR f a (k + 1) j = M.orR f a k j := by
        unfold M.orR
        rw [show decide (a ≤ j ∧ j < a + (k + 1)) = decide (a ≤ j ∧ j < a + k) from by rw [decide_eq_decide]; omega]
      rw [this]
    · rw [Array.getElem?_eq_none (by rw [M.cnt_size]; omega), Array.getElem?_eq_none (by rw [M.cnt_size]; omega)]

/-- The law's own memory: the volume's numbers, the row of counts and the box that holds it. -/
structure Q15 (w : World) (b s g E S L N : Nat) (f : Nat → Bool) (y : World) : Prop where
  below : Below w.heap.size w y
  cfg : Box y b 23 #[.int .i64 E, .int .i64 S, .int .i64 L]
  box : Box y s 37 #[.slice (some ⟨g, 0, none⟩) N N]
  row : Box y g 3 (M.cnt N f)
  apart : b ≠ g ∧ s ≠ g ∧ w.heap.size ≤ g
section
variable {w : World} {b s g E S L N : Nat} {f : Nat → Bool}
theorem Q15.keep {x y : World} (h : Q15 w b s g E S L N f x) (hb : Below x.heap.size x y) : Q15 w b s g E S L N f y :=
  ⟨h.below.trans (hb.mono h.below.size), h.cfg.below hb h.cfg.lt, h.box.below hb h.box.lt, h.row.below hb h.row.lt, h.apart⟩
theorem Q15.drew {x : World} (h : Q15 w b s g E S L N f x) : Q15 w b s g E S L N f x.drew := ⟨h.below.drew, h.cfg, h.box, h.row, h.apart⟩
theorem Q15.drewN {x : World} (h : Q15 w b s g E S L N f x) (n : Nat) : Q15 w b s g E S L N f (x.drewN n) := by
  induction n with
  | zero => exact h
  | succ n ih => exact ih.drew
theorem Q15.cells {x : World} (h : Q15 w b s g E S L N f x) : x.cell? ⟨b, 0, none⟩ = some (.int .i64 E) ∧ x.cell? ⟨b, 1, none⟩ = some (.int .i64 S) ∧ x.cell? ⟨b, 2, none⟩ = some (.int .i64 L) := ⟨h.cfg.cell 0, h.cfg.cell 1, h.cfg.cell 2⟩
theorem Q15.seen {x : World} (h : Q15 w b s g E S L N f x) : x.cell? ⟨s, 0, none⟩ = some (.slice (some ⟨g, 0, none⟩) N N) := h.box.cell 0
/-- A call that makes memory of its own alone. -/
theorem Q15.call {P : Program} {F : Nat} {args : Array Value} {x : World} {v : Value} (h : Q15 w b s g E S L N f x) (hc : Calls P F args x fun e y => e = .returned v ∧ Below x.heap.size x y) : Calls P F args x fun e y => e = .returned v ∧ Q15 w b s g E S L N f y :=
  hc.mono fun _ _ ⟨he, hb⟩ => ⟨he, h.keep hb⟩
theorem Q15.put {x : World} (h : Q15 w b s g E S L N f x) (j : Nat) (f' : Nat → Bool) (hf : (M.cnt N f).setIfInBounds j (.int .i64 1) = M.cnt N f') : Q15 w b s g E S L N f' (x.setCell ⟨g, j, none⟩ (.int .i64 1)) :=
  ⟨h.below.setCell (p := ⟨g, j, none⟩) h.apart.2.2 _, (Below.heap_setCell _ _ _ _ h.apart.1).trans h.cfg, (Below.heap_setCell _ _ _ _ h.apart.2.1).trans h.box, hf ▸ h.row.set j (.int .i64 1), h.apart⟩

set_option maxHeartbeats 2000000 in
theorem mark15_any (a m : Nat) (x : World) (h : Q15 w b s g E S L N f x) (hN : N ≤ 400) (ham : a + m ≤ N) (hf : ∀ j, a ≤ j → j < a + m → f j = false) :
    Calls Try.prog 18 #[.int .i64 (a : Nat), .int .i64 (m : Nat), .pointer (some ⟨s, 0, none⟩)] x fun e y => e = .returned (.bool true) ∧ Q15 w b s g E S L N (M.orR f a m) y := by
  have HQ := Lib.hid h
  have HF := Lib.hid hf
  have HM := Lib.hid (And.intro hN ham)
  clear h hf hN ham
  go_enter Try.func18, Try.ntmps18
  go_wp2_with fail
  go_loopw [6] (fun i wr => ∃ k : Nat, k ≤ m ∧ i = .int .i64 (k : Nat) ∧ Hid (Q15 w b s g E S L N (M.orR f a k) wr)) (fun i _ => m - (intOf i).toNat)
  case atStart => exact ⟨0, Nat.zero_le _, rfl, by show Q15 _ _ _ _ _ _ _ _ _ _; rw [M.orR_zero]; exact HQ.out⟩
  case round =>
    clear HQ
    obtain ⟨k, hk, rfl, HQ⟩ := hrel
    obtain ⟨hN, ham⟩ := HM.out
    by_cases hlt : k < m
    · have hd9 : decide (k < m) = true := by simpa using hlt
      have hlt' : (k : Int) < (m : Int) := by omega
      obtain ⟨p, hp⟩ : ∃ p, p = a + k := ⟨_, rfl⟩
      have c0 := HQ.out.seen
      have c1 := (HQ.out.row.cell (a + k)).trans (M.cnt_at N _ (a + k) (by omega))
      have hz : M.orR f a k (a + k) = false := by
        unfold M.orR
        rw [HF.out (a + k) (by omega) (by omega), Bool.false_or, decide_eq_false_iff_not]
        omega
      rw [hz] at c1
      simp only [Bool.false_eq_true, if_false] at c1
      have fz := HQ.out.row.frozen (a + k)
      have HX := Lib.hid (HQ.out.put (a + k) (M.orR f a (k + 1)) (M.cnt_put N f a k (by omega)))
      rw [← hp] at c1 fz HX
      have e1 : IntKind.i64.wrap ((a : Int) + (k : Int)) = (p : Int) := by rw [IntKind.wrap_i64]; omega
      have z1 : decide ((p : Int) < 0) = false := by simp
      have z2 : decide (N ≤ p) = false := by simp; omega
      have z3 : decide ((N : Int) ≤ (p : Int)) = false := by simp; omega
      have b0 : (0 : Int) ≤ (p : Int) := by omega
      have b1 : (p : Int) < (N : Int) := by omega
      have hk1 : (k : Int) ≤ 400 := by omega
      clear hN ham hlt hp hz
      go_wp2_with fail
      go_roundw
      case rel => exact ⟨k + 1, by omega, by go_num, HX.out⟩
      case measure => simp [intOf]; omega
    · obtain rfl : k = m := by omega
      have hd9 : decide (k < k) = false := by simp
      clear hlt hk hN ham
      go_wp2_with fail
      go_ret
      exact ⟨rfl, HQ.out⟩
end
end Go.Proofs.Ytbmgfdnmjilfdaa
