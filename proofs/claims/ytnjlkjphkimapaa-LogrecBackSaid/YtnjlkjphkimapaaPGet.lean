/-
  Walks over logrec.Get.
-/
import Derived.Test.YtnjlkjphkimapaaPRSz
import Derived.Test.YtnjlkjphkimapaaPPut
import Derived.Deep.RegionHeld3
import Derived.Laws.MakeOwn
namespace Go.Proofs.Ytnjlkjphkimapaa
open Go.RowKit Go.Deep

theorem infoSec : (Try.prog.info? 41).map (fun i => (i.zero, i.size, i.bytes)) = some (some (.agg #[.int .i64 0, .string ⟨#[]⟩]), 2, 24) := by kernel_rfl
def M.made (n : Nat) : Array Value := madeCells #[Value.int .i64 0, .string ⟨#[]⟩] (n * 2)
theorem M.made_size (n : Nat) : (M.made n).size = n * 2 := size_madeCells _ _
theorem make_secs (n : Nat) (hn : n ≤ 16) (W : World) : (Instr.makeSlice 22 (.int .i64 (n : Int)) (.int .i64 (n : Int))).run Try.prog W = .ok (.slice (some ⟨W.heap.size, 0, none⟩) n n) (W.alloc (.cells (M.made n) 41)) := by
  obtain ⟨i, hi, hzz⟩ := Option.map_eq_some_iff.1 infoSec
  simp only [Prod.mk.injEq] at hzz
  obtain ⟨hz, hs, hb⟩ := hzz
  have hr := run_make (P := Try.prog) W 22 41 i _ Try.underlying22 hi hz .i64 .i64 n n (by omega) (Int.le_refl _) (by rw [hb]; omega) (by omega)
  simp only [Int.toNat_natCast, hs] at hr
  exact hr

/-- A slice of sectors, nil or in a block of y. -/
def SecV (y : World) (v : Value) (n : Nat) (a : Nat → Int) (t : Nat → ByteArray) : Prop := ∃ (A : Option Addr) (c : Nat), v = .slice A n c ∧ n ≤ c ∧ c ≤ maxLen ∧ SecF y A n a t
theorem SecV.nil (y : World) (a : Nat → Int) (t : Nat → ByteArray) : SecV y (.slice none 0 0) 0 a t := ⟨none, 0, rfl, Nat.le_refl _, Nat.zero_le _, SecF.nil _ _ _ _⟩
theorem SecV.below {y z : World} {v : Value} {n : Nat} {a : Nat → Int} {t : Nat → ByteArray} (h : SecV y v n a t) (hb : Below y.heap.size y z) : SecV z v n a t := by
  obtain ⟨A, c, h1, h2, h3, h4⟩ := h
  exact ⟨A, c, h1, h2, h3, h4.below (Nat.le_refl _) hb⟩

/-- Block g has n sectors, of which the first k are these. -/
structure Row11 (y : World) (g n k : Nat) (a : Nat → Int) (t : Nat → ByteArray) (cs : Array Value) : Prop where
  box : Box y g 41 cs
  size : cs.size = n * 2
  at_ : ∀ i, i < k → cs[i * 2]? = some (.int .i64 (a i)) ∧ cs[i * 2 + 1]? = some (.string (t i))
section
variable {y z : World} {g n k : Nat} {a : Nat → Int} {t : Nat → ByteArray} {cs : Array Value}
theorem Row11.new (y : World) (n : Nat) (a : Nat → Int) (t : Nat → ByteArray) : Row11 (y.alloc (.cells (M.made n) 41)) y.heap.size n 0 a t (M.made n) :=
  ⟨Box.new _ _ _, M.made_size n, fun i hi => absurd hi (by omega)⟩
theorem Row11.kept {b : Nat} (h : Row11 y g n k a t cs) (hg : y.grownBy z (some b)) (hne : g ≠ b) : Row11 z g n k a t cs := ⟨Box.kept h.box hg hne, h.size, h.at_⟩
theorem Row11.below (h : Row11 y g n k a t cs) (hb : Below y.heap.size y z) : Row11 z g n k a t cs := ⟨Box.below h.box hb (Box.lt h.box), h.size, h.at_⟩
theorem Row11.cells (h : Row11 y g n k a t cs) (j : Nat) (hj : j < n * 2) : ∃ u, y.cell? ⟨g, j, none⟩ = some u ∧ y.frozen? ⟨g, j, none⟩ = false := by
  refine ⟨cs[j]'(by rw [h.size]; exact hj), ?_, Box.frozen h.box j⟩
  rw [Box.cell h.box, Array.getElem?_eq_getElem]
theorem Row11.set (h : Row11 y g n k a t cs) (hk : k < n) : Row11 ((y.setCell ⟨g, k * 2, none⟩ (.int .i64 (a k))).setCell ⟨g, k * 2 + 1, none⟩ (.string (t k))) g n (k + 1) a t ((cs.setIfInBounds (k * 2) (.int .i64 (a k))).setIfInBounds (k * 2 + 1) (.string (t k))) := by
  refine ⟨Box.set (Box.set h.box _ _) _ _, by simp [h.size], fun i hi => ?_⟩
  by_cases e : i = k
  · subst e
    have hz := h.size
    constructor
    · rw [Array.getElem?_setIfInBounds_ne (by omega), Array.getElem?_setIfInBounds_self_of_lt (by omega)]
    · rw [Array.getElem?_setIfInBounds_self_of_lt (by rw [Array.size_setIfInBounds]; omega)]
  · have := h.at_ i (by omega)
    rw [Array.getElem?_setIfInBounds_ne (by omega), Array.getElem?_setIfInBounds_ne (by omega), Array.getElem?_setIfInBounds_ne (by omega), Array.getElem?_setIfInBounds_ne (by omega)]
    exact this
theorem Row11.secs (h : Row11 y g n k a t cs) (hk : k = n) (ha : ∀ i, i < n → a i ≤ 9223372036854775807) : SecF y (some ⟨g, 0, none⟩) n a t := by
  intro i hi
  obtain ⟨h1, h2⟩ := h.at_ i (by omega)
  have hlt := Box.lt h.box
  refine ⟨_, rfl, hlt, ?_, ?_, ha i hi⟩
  · rw [blk_add, Box.cell h.box]; exact h1
  · rw [blk_add]
    show y.cell? ⟨g, i * 2 + 1, none⟩ = _
    rw [Box.cell h.box]; exact h2
end

/-- What Get answers, and where its sectors lie. -/
def Got11 (s : ByteArray) (w : World) (e : Ending) (w' : World) : Prop := ∃ v, e = .returned (.tuple #[.int .i64 (M.getQ s), v, .int .i64 (M.getE s)]) ∧ SecV w' v (M.getN s) (M.gA s) (M.gT s) ∧ Below w.heap.size w w'
theorem Got11.no {s : ByteArray} {w w' : World} {e : Ending} {E : Int} (hE : M.getE s = E) (h0 : E ≠ 0) (he : e = .returned (.tuple #[.int .i64 0, .slice none 0 0, .int .i64 E])) (hb : Below w.heap.size w w') : Got11 s w e w' := by
  have h0' : ¬ M.getE s = 0 := by rw [hE]; exact h0
  refine ⟨_, ?_, by rw [M.getN, if_neg h0']; exact SecV.nil _ _ _, hb⟩
  rw [he, M.getQ, if_neg h0', hE]

theorem M.getE_size {s : ByteArray} (h : s.size = 0 ∨ s.size % 64 ≠ 0) : M.getE s = 12 := by unfold M.getE; rw [if_pos h]
theorem get11_nil (w : World) : Calls Try.prog 12 #[.string ⟨#[]⟩] w fun e w' => Got11 ⟨#[]⟩ w e w' := by
  have hE : M.getE ⟨#[]⟩ = 12 := M.getE_size (Or.inl rfl)
  have H := Lib.hid hE
  clear hE
  go_enter Try.func12, Try.ntmps12
  go_wp2_with fail
  go_returns
  exact Got11.no H.out (by decide) rfl (Below.refl _ _)
theorem get11_part (s : ByteArray) (w : World) (h0 : s.size ≠ 0) (h1 : s.size % 64 ≠ 0) : Calls Try.prog 12 #[.string s] w fun e w' => Got11 s w e w' := by
  have hE : M.getE s = 12 := M.getE_size (Or.inr h1)
  have H := Lib.hid hE
  have he : (s.toList == ([] : List UInt8)) = false := by
    rw [← (show (⟨#[]⟩ : ByteArray).toList = [] by rw [ByteArray.toList_eq])]
    exact ne_of_toList (fun e => h0 (by rw [e]; rfl))
  obtain ⟨r, hr⟩ : ∃ r : Int, r = (s.size : Int).tmod 64 := ⟨_, rfl⟩
  have hr0 : (r == 0) = false := by rw [beq_eq_false_iff_ne, hr, Int.tmod_eq_emod_of_nonneg (by omega)]; omega
  have hr' := hr.symm
  clear hE h0 h1 hr
  go_enter Try.func12, Try.ntmps12
  go_wp2_with fail
  go_returns
  exact Got11.no H.out (by decide) rfl (Below.refl _ _)
theorem M.whole_facts (s : ByteArray) (h0 : s.size ≠ 0) (h1 : s.size % 64 = 0) : ((s.toList == ([] : List UInt8)) = false) ∧ ((s.size : Int).tmod 64 = 0) ∧ 64 ≤ s.size ∧ s.size = 64 * (M.gN s + 1) := by
  refine ⟨?_, ?_, by omega, by unfold M.gN; omega⟩
  · rw [← (show (⟨#[]⟩ : ByteArray).toList = [] by rw [ByteArray.toList_eq])]
    exact ne_of_toList (fun e => h0 (by rw [e]; rfl))
  · rw [Int.tmod_eq_emod_of_nonneg (by omega)]; omega
theorem M.getE_form {s : ByteArray} (h0 : s.size ≠ 0) (h1 : s.size % 64 = 0) (h : s.extract 0 1 ≠ ⟨#[82]⟩ ∨ M.hnum s 7 8 ≠ (M.gN s : Int) ∨ M.gN s < 1 ∨ 16 < M.gN s) : M.getE s = 4 := by
  unfold M.getE; rw [if_neg (by omega), if_pos h]

set_option maxHeartbeats 1000000 in
theorem get11_mark (s : ByteArray) (w : World) (h0 : s.size ≠ 0) (h1 : s.size % 64 = 0) (h2 : s.extract 0 1 ≠ ⟨#[82]⟩) : Calls Try.prog 12 #[.string s] w fun e w' => Got11 s w e w' := by
  have H := Lib.hid (M.getE_form h0 h1 (Or.inl h2))
  obtain ⟨he, hr, h64, _⟩ := M.whole_facts s h0 h1
  have C := Lib.hid (newB s w w (Below.refl _ _))
  have C1 : Hid (∀ y b, RdB w y b s 0 → _) := fun y b h => begin_no s w y b h (by omega) h2
  clear h0 h1 h2 h64
  go_enter Try.func12, Try.ntmps12
  go_wp2_with fail
  refine C.out.mono ?_
  rintro e w1 ⟨b, rfl, h1⟩
  have H1 := Lib.hid h1
  clear h1
  go_wp2_with fail
  refine (C1.out _ _ H1.out).mono ?_
  rintro e w2 ⟨rfl, h2⟩
  have H2 := Lib.hid h2
  clear h2
  go_wp2_with fail
  go_returns
  exact Got11.no H.out (by decide) rfl H2.out
set_option maxHeartbeats 1000000 in
theorem get11_many (s : ByteArray) (w : World) (h0 : s.size ≠ 0) (h1 : s.size % 64 = 0) (h2 : s.extract 0 1 = ⟨#[82]⟩) (h3 : ¬ (1 ≤ M.hnum s 7 8 ∧ M.hnum s 7 8 ≤ 16)) : Calls Try.prog 12 #[.string s] w fun e w' => Got11 s w e w' := by
  have H := Lib.hid (M.getE_form h0 h1 (Or.inr (by omega)))
  obtain ⟨he, hr, h64, _⟩ := M.whole_facts s h0 h1
  have C := Lib.hid (newB s w w (Below.refl _ _))
  have C1 : Hid (∀ y b, RdB w y b s 0 → _) := fun y b h => begin_yes s w y b h (by omega) h2
  rw [decide_eq_false h3] at C1
  obtain ⟨m, hm⟩ : ∃ m, m = M.hnum s 7 8 := ⟨_, rfl⟩
  obtain ⟨Q, hQ⟩ : ∃ Q, Q = M.gQ s := ⟨_, rfl⟩
  rw [← hm, ← hQ] at C1
  clear h0 h1 h2 h3 h64 hm hQ
  go_enter Try.func12, Try.ntmps12
  go_wp2_with fail
  refine C.out.mono ?_
  rintro e w1 ⟨b, rfl, h1⟩
  have H1 := Lib.hid h1
  clear h1
  go_wp2_with fail
  refine (C1.out _ _ H1.out).mono ?_
  rintro e w2 ⟨rfl, h2⟩
  have H2 := Lib.hid h2.below
  clear h2
  go_wp2_with fail
  go_returns
  exact Got11.no H.out (by decide) rfl H2.out
set_option maxHeartbeats 1000000 in
theorem get11_less (s : ByteArray) (w : World) (h0 : s.size ≠ 0) (h1 : s.size % 64 = 0) (h2 : s.extract 0 1 = ⟨#[82]⟩) (h3 : 1 ≤ M.hnum s 7 8 ∧ M.hnum s 7 8 ≤ 16) (h4 : M.hnum s 7 8 ≠ M.gN s) : Calls Try.prog 12 #[.string s] w fun e w' => Got11 s w e w' := by
  have H := Lib.hid (M.getE_form h0 h1 (Or.inr (Or.inl h4)))
  obtain ⟨he, hr, h64, hz⟩ := M.whole_facts s h0 h1
  have C := Lib.hid (newB s w w (Below.refl _ _))
  have C1 : Hid (∀ y b, RdB w y b s 0 → _) := fun y b h => begin_yes s w y b h (by omega) h2
  rw [decide_eq_true h3] at C1
  obtain ⟨m, hm⟩ : ∃ m, m = M.hnum s 7 8 := ⟨_, rfl⟩
  obtain ⟨Q, hQ⟩ : ∃ Q, Q = M.gQ s := ⟨_, rfl⟩
  rw [← hm, ← hQ] at C1
  rw [← hm] at h3 h4
  have hne : ((1 + m) * 64 == (s.size : Int)) = false := by rw [beq_eq_false_iff_ne]; omega
  obtain ⟨m1, m2⟩ := h3
  clear h0 h1 h2 h64 hm hQ h4 hz
  go_enter Try.func12, Try.ntmps12
  go_wp2_with fail
  refine C.out.mono ?_
  rintro e w1 ⟨b, rfl, h1⟩
  have H1 := Lib.hid h1
  clear h1
  go_wp2_with fail
  refine (C1.out _ _ H1.out).mono ?_
  rintro e w2 ⟨rfl, h2⟩
  have H2 := Lib.hid h2.below
  clear h2
  go_wp2_with fail
  go_returns
  exact Got11.no H.out (by decide) rfl H2.out
end Go.Proofs.Ytnjlkjphkimapaa
