/-
  Plain mathematics for layer 1 (count): numbers in digits. No program in this text.
-/
import Derived.Lib.ParseIntBTie
import Derived.Lib.ParseIntBCases
import Derived.Lib.ItoaNum
import Derived.Lib.Strings
import GoSem.Op.String
namespace Go.Proofs.YtlmnmiomfhgcdaaDoor.M
open Go.Lib

def digB (c : UInt8) : Bool := decide (48 ≤ c.toNat) && decide (c.toNat ≤ 57)
/-- Digits alone, one at least, none of them a nought ahead of another. -/
def natB (l : List UInt8) : Bool := l.all digB && (l == [48] || (!l.isEmpty && !(l.head? == some 48)))
theorem all_take_succ (l : List UInt8) (i : Nat) (h : i < l.length) (h1 : (l.take i).all digB = true) (h2 : digB l[i] = true) : (l.take (i + 1)).all digB = true := by
  rw [List.take_succ_eq_append_getElem h, List.all_append, h1]; simpa using h2
theorem all_no (l : List UInt8) (i : Nat) (h : i < l.length) (h2 : digB l[i] = false) : natB l = false := by
  have : l.all digB = false := by
    rw [List.all_eq_false]
    exact ⟨l[i], List.getElem_mem h, by rw [h2]; simp⟩
  rw [natB, this]; rfl
theorem nat_zero {l : List UInt8} (h : l = [48]) : natB l = true := by subst h; decide
theorem nat_nil {l : List UInt8} (h : l = []) : natB l = false := by subst h; decide
theorem nat_rest {l : List UInt8} (ha : l.all digB = true) (h0 : ¬ l = [48]) (h1 : 0 < l.length) : natB l = !(l[0].toNat == 48) := by
  match l, h1 with
  | c :: r, _ =>
    have hc : ((c :: r) == [48]) = false := by simpa using h0
    rw [natB, ha, hc]
    simp only [Bool.true_and, Bool.false_or, List.isEmpty_cons, Bool.not_false, List.head?_cons, List.getElem_cons_zero]
    congr 1
    rw [Bool.eq_iff_iff]
    simp only [beq_iff_eq, Option.some.injEq]
    exact ⟨fun h => by rw [h]; rfl, fun h => UInt8.toNat_inj.1 h⟩
theorem nat_all {l : List UInt8} (h : natB l = true) : l.all digB = true := by
  rw [natB, Bool.and_eq_true] at h; exact h.1
theorem nat_ne {l : List UInt8} (h : natB l = true) : l ≠ [] := by
  intro e; subst e; revert h; decide

/-- The number that digits say. -/
def numf (a : Nat) (l : List UInt8) : Nat := l.foldl (fun a c => a * 10 + (c.toNat - 48)) a
def numv (l : List UInt8) : Nat := numf 0 l
theorem numf_ge : ∀ (l : List UInt8) (a : Nat), a ≤ numf a l
  | [], a => Nat.le_refl _
  | c :: r, a => by
    have := numf_ge r (a * 10 + (c.toNat - 48))
    show a ≤ numf (a * 10 + (c.toNat - 48)) r
    omega
theorem dig_iff (c : UInt8) : digB c = true ↔ 48 ≤ c.toNat ∧ c.toNat ≤ 57 := by simp [digB]

theorem parse_dig : ∀ (l : List UInt8) (a : Nat), l.all digB = true → a ≤ 18446744073709551615 → parseUintM (2 ^ 64 - 1) a l = if numf a l ≤ 18446744073709551615 then .ok (numf a l) else .range
  | [], a, _, ha => by
    show NumEnd.ok a = _
    rw [if_pos (show numf a [] ≤ _ from ha)]; rfl
  | c :: r, a, h, ha => by
    rw [List.all_cons, Bool.and_eq_true] at h
    have hc := (dig_iff c).1 h.1
    have hg := numf_ge r (a * 10 + (c.toNat - 48))
    have e : numf a (c :: r) = numf (a * 10 + (c.toNat - 48)) r := rfl
    rw [parseUintM, if_pos hc, e]
    by_cases h1 : 1844674407370955162 ≤ a
    · rw [if_pos h1, if_neg (by omega)]
    · rw [if_neg h1]
      by_cases h2 : 2 ^ 64 - 1 < a * 10 + (c.toNat - 48)
      · rw [if_pos h2, if_neg (by omega)]
      · rw [if_neg h2]
        exact parse_dig r _ h.2 (by omega)

theorem parse_pos (l : List UInt8) (h : natB l = true) : parseIntB 64 l = if numv l < 9223372036854775808 then .ok (numv l : Int) else .range := by
  have ha := nat_all h
  match l, nat_ne h with
  | c :: r, _ =>
    have hc := (dig_iff c).1 (by rw [List.all_cons, Bool.and_eq_true] at ha; exact ha.1)
    rw [parseIntB_plain 64 c r (by omega) (by omega), parseUintB, if_neg (by simp), parse_dig _ 0 ha (by omega)]
    show signlessC _ (if numv (c :: r) ≤ _ then .ok (numv (c :: r)) else .range) = _
    by_cases h1 : numv (c :: r) ≤ 18446744073709551615
    · rw [if_pos h1]
      show (if 2 ^ (64 - 1) ≤ numv (c :: r) then NumEnd.range else .ok _) = _
      by_cases h2 : 2 ^ (64 - 1) ≤ numv (c :: r)
      · rw [if_pos h2, if_neg (by omega)]
      · rw [if_neg h2, if_pos (by omega)]
    · rw [if_neg h1, if_neg (by omega)]; rfl
theorem parse_neg (r : List UInt8) (h : natB r = true) : parseIntB 64 (45 :: r) = if numv r ≤ 9223372036854775808 then .ok (-(numv r : Int)) else .range := by
  have ha := nat_all h
  rw [parseIntB_minus, parseUintB, if_neg (nat_ne h), parse_dig _ 0 ha (by omega)]
  show signedC _ (if numv r ≤ _ then .ok (numv r) else .range) = _
  by_cases h1 : numv r ≤ 18446744073709551615
  · rw [if_pos h1]
    show (if 2 ^ (64 - 1) < numv r then NumEnd.range else .ok _) = _
    by_cases h2 : 2 ^ (64 - 1) < numv r
    · rw [if_pos h2, if_neg (by omega)]
    · rw [if_neg h2, if_pos (by omega)]
  · rw [if_neg h1, if_neg (by omega)]; rfl

/-- What a text says: the number, and how it went (0: OK, 3: ErrRange, 4: ErrForm). -/
def readP (l : List UInt8) : Int × Int :=
  if l = [45, 48] ∨ natB (trimPrefix l [45]) = false then (0, 4)
  else if l.head? = some 45 then (if numv (trimPrefix l [45]) ≤ 9223372036854775808 then (-(numv (trimPrefix l [45]) : Int), 0) else (0, 3))
  else (if numv (trimPrefix l [45]) < 9223372036854775808 then ((numv (trimPrefix l [45]) : Int), 0) else (0, 3))
theorem trim_neg (r : List UInt8) : trimPrefix (45 :: r) [45] = r := by simp [trimPrefix, hasPrefix, List.isPrefixOf]
theorem trim_pos {l : List UInt8} (h : ¬ l.head? = some 45) : trimPrefix l [45] = l := by
  cases l with
  | nil => rfl
  | cons c r =>
    have hc : ¬ c = 45 := by simpa using h
    have : ((45 : UInt8) == c) = false := by simpa using fun e => hc e.symm
    simp [trimPrefix, hasPrefix, List.isPrefixOf, this]
theorem read_minus0 {l : List UInt8} (h : l = [45, 48]) : readP l = (0, 4) := by rw [readP, if_pos (.inl h)]
theorem read_form {l : List UInt8} (h : natB (trimPrefix l [45]) = false) : readP l = (0, 4) := by rw [readP, if_pos (.inr h)]
theorem read_num {l : List UInt8} (h0 : ¬ l = [45, 48]) (h : natB (trimPrefix l [45]) = true) :
    (∃ v, parseIntB 64 l = .ok v ∧ readP l = (v, 0)) ∨ (parseIntB 64 l = .range ∧ readP l = (0, 3)) := by
  rw [readP, if_neg (by rw [h]; simp [h0])]
  by_cases hn : l.head? = some 45
  · rw [if_pos hn]
    match l, hn with
    | c :: r, hn =>
      have hc : c = 45 := by simpa using hn
      subst hc
      rw [trim_neg] at h ⊢
      rw [parse_neg r h]
      by_cases hv : numv r ≤ 9223372036854775808
      · rw [if_pos hv, if_pos hv]; exact .inl ⟨_, rfl, rfl⟩
      · rw [if_neg hv, if_neg hv]; exact .inr ⟨rfl, rfl⟩
  · rw [if_neg hn]
    rw [trim_pos hn] at h ⊢
    rw [parse_pos l h]
    by_cases hv : numv l < 9223372036854775808
    · rw [if_pos hv, if_pos hv]; exact .inl ⟨_, rfl, rfl⟩
    · rw [if_neg hv, if_neg hv]; exact .inr ⟨rfl, rfl⟩

/-! ### What is written is read, and what is read is written -/
theorem numf_snoc (l : List UInt8) (c : UInt8) (a : Nat) : numf a (l ++ [c]) = numf a l * 10 + (c.toNat - 48) := by simp [numf]
theorem numv_snoc (l : List UInt8) (c : UInt8) : numv (l ++ [c]) = numv l * 10 + (c.toNat - 48) := numf_snoc l c 0
theorem dig_of (d : Nat) (h : d < 10) : (UInt8.ofNat (48 + d)).toNat = 48 + d := by rw [UInt8.toNat_ofNat']; omega
theorem dig_digB (d : Nat) (h : d < 10) : digB (UInt8.ofNat (48 + d)) = true := by rw [dig_iff, dig_of d h]; omega
theorem head_app {a b : List UInt8} (h : a ≠ []) : (a ++ b).head? = a.head? := by cases a with | nil => exact absurd rfl h | cons c r => rfl
theorem dec_ne (u : Nat) : decDigits u ≠ [] := by
  rw [decDigits]; split <;> simp
theorem dec_all (u : Nat) : (decDigits u).all digB = true := by
  induction u using Nat.strongRecOn with
  | _ u ih =>
    rw [decDigits]
    split
    · rename_i h; rw [List.all_cons, dig_digB u h]; rfl
    · rename_i h
      rw [List.all_append, ih (u / 10) (by omega), List.all_cons, dig_digB (u % 10) (Nat.mod_lt _ (by omega))]
      rfl
theorem dec_num (u : Nat) : numv (decDigits u) = u := by
  induction u using Nat.strongRecOn with
  | _ u ih =>
    rw [decDigits]
    split
    · rename_i h; show 0 * 10 + ((UInt8.ofNat (48 + u)).toNat - 48) = u; rw [dig_of u h]; omega
    · rename_i h
      rw [numv_snoc, ih (u / 10) (by omega), dig_of (u % 10) (Nat.mod_lt _ (by omega))]
      omega
theorem dec_head (u : Nat) : 1 ≤ u → ¬ (decDigits u).head? = some 48 := by
  induction u using Nat.strongRecOn with
  | _ u ih =>
    intro h1
    rw [decDigits]
    split
    · rename_i h
      simp only [List.head?_cons, Option.some.injEq]
      intro e
      have := congrArg UInt8.toNat e
      rw [dig_of u h] at this
      have e2 : (48 : UInt8).toNat = 48 := rfl
      omega
    · rename_i h
      rw [head_app (dec_ne _)]
      exact ih (u / 10) (by omega) (by omega)
theorem dec_zero : decDigits 0 = [48] := by rw [decDigits_one (by omega)]; rfl
theorem dec_nat (u : Nat) : natB (decDigits u) = true := by
  by_cases h : u = 0
  · subst h; rw [dec_zero]; decide
  · have h1 := dec_head u (by omega)
    rw [natB, dec_all u]
    have h2 : (decDigits u).isEmpty = false := by simpa using dec_ne u
    have h3 : ((decDigits u).head? == some 48) = false := by simpa using h1
    rw [h2, h3]
    simp
theorem nat_head {l : List UInt8} (h : natB l = true) (h0 : ¬ l = [48]) : ¬ l.head? = some 48 := by
  rw [natB, Bool.and_eq_true] at h
  have h1 : (l == [48]) = false := by simpa using h0
  have h2 := h.2
  rw [h1] at h2
  simp at h2
  exact h2.2
theorem numf_mono : ∀ (l : List UInt8) (a : Nat), 1 ≤ a → 1 ≤ numf a l
  | l, a, h => Nat.le_trans h (numf_ge l a)
theorem nat_pos {l : List UInt8} (h : natB l = true) (h0 : ¬ l = [48]) : 1 ≤ numv l := by
  have hh := nat_head h h0
  have ha := nat_all h
  match l, nat_ne h with
  | c :: r, _ =>
    have hc := (dig_iff c).1 (by rw [List.all_cons, Bool.and_eq_true] at ha; exact ha.1)
    have hne : c.toNat ≠ 48 := fun e => hh (by simp; exact UInt8.toNat_inj.1 e)
    exact numf_mono r (0 * 10 + (c.toNat - 48)) (by omega)
theorem digit_back (c : UInt8) (h : digB c = true) : UInt8.ofNat (48 + (c.toNat - 48)) = c := by
  have := (dig_iff c).1 h
  rw [show 48 + (c.toNat - 48) = c.toNat by omega, UInt8.ofNat_toNat]
theorem dec_back : ∀ (n : Nat) (l : List UInt8), l.length = n → natB l = true → decDigits (numv l) = l
  | 0, l, hl, h => absurd (List.length_eq_zero_iff.1 hl) (nat_ne h)
  | n + 1, l, hl, h => by
    have hne := nat_ne h
    have e := List.dropLast_concat_getLast hne
    have ha := nat_all h
    obtain ⟨c, hc⟩ : ∃ c, c = l.getLast hne := ⟨_, rfl⟩
    rw [← hc] at e
    obtain ⟨r, hr⟩ : ∃ r, r = l.dropLast := ⟨_, rfl⟩
    rw [← hr] at e
    have hrl : r.length = n := by rw [hr, List.length_dropLast]; omega
    rw [← e] at ha h ⊢
    rw [List.all_append, Bool.and_eq_true] at ha
    have hcd : digB c = true := by simpa using ha.2
    have hci := (dig_iff c).1 hcd
    by_cases hr0 : r = []
    · subst hr0
      show decDigits (0 * 10 + (c.toNat - 48)) = [c]
      rw [decDigits_one (by omega), show 48 + (0 * 10 + (c.toNat - 48)) = 48 + (c.toNat - 48) by omega, digit_back c hcd]
    · have hl48 : ¬ r ++ [c] = [48] := by
        intro x
        have := congrArg List.length x
        simp at this
        exact hr0 this
      have hh := nat_head h hl48
      rw [head_app hr0] at hh
      have hrn : natB r = true := by
        rw [natB, ha.1]
        have h2 : r.isEmpty = false := by simpa using hr0
        have h3 : (r.head? == some 48) = false := by simpa using hh
        rw [h2, h3]
        simp
      have hr48 : ¬ r = [48] := fun x => hh (by rw [x]; rfl)
      have hp := nat_pos hrn hr48
      rw [numv_snoc, decDigits, dif_neg (by omega), show (numv r * 10 + (c.toNat - 48)) / 10 = numv r by omega, show (numv r * 10 + (c.toNat - 48)) % 10 = c.toNat - 48 by omega, dec_back n r hrl hrn, digit_back c hcd]
theorem nat_back {l : List UInt8} (h : natB l = true) : decDigits (numv l) = l := dec_back _ l rfl h

theorem nat_not_minus {l : List UInt8} (h : natB l = true) : ¬ l.head? = some 45 := by
  have ha := nat_all h
  match l, nat_ne h with
  | c :: r, _ =>
    have hc := (dig_iff c).1 (by rw [List.all_cons, Bool.and_eq_true] at ha; exact ha.1)
    simp only [List.head?_cons, Option.some.injEq]
    intro e
    rw [e] at hc
    revert hc
    decide
/-- Read of Text is the number. -/
theorem read_text (n : Int) (h0 : -9223372036854775808 ≤ n) (h1 : n ≤ 9223372036854775807) : readP (itoa n) = (n, 0) := by
  unfold itoa
  by_cases hn : n < 0
  · rw [if_pos hn, readP, trim_neg, dec_nat, dec_num, if_neg, if_pos (by rfl), if_pos (by omega), show (-((n.natAbs : Nat) : Int)) = n by omega]
    rintro (h | h)
    · injection h with _ h
      exact dec_head n.natAbs (by omega) (by rw [h]; rfl)
    · cases h
  · have hm := nat_not_minus (dec_nat n.toNat)
    rw [if_neg hn, readP, trim_pos hm, dec_nat, dec_num, if_neg, if_neg hm, if_pos (by omega), show ((n.toNat : Nat) : Int) = n by omega]
    rintro (h | h)
    · exact hm (by rw [h]; rfl)
    · cases h
/-- What is read is an int, and Text of it is the text. -/
theorem text_read {l : List UInt8} {k : Int} (h : readP l = (k, 0)) : itoa k = l ∧ -9223372036854775808 ≤ k ∧ k ≤ 9223372036854775807 := by
  unfold readP at h
  split at h
  · injection h with _ h; cases h
  · rename_i hf
    have hf1 : ¬ l = [45, 48] := fun e => hf (.inl e)
    have hf2 : natB (trimPrefix l [45]) = true := by
      cases hb : natB (trimPrefix l [45]) with
      | true => rfl
      | false => exact absurd (.inr hb) hf
    split at h
    · rename_i hh
      match l, hh with
      | c :: r, hh =>
        have hc : c = 45 := by simpa using hh
        subst hc
        rw [trim_neg] at h hf2
        split at h
        · rename_i hle
          injection h with hk _
          have hr48 : ¬ r = [48] := fun e => hf1 (by rw [e])
          have hp := nat_pos hf2 hr48
          subst hk
          refine ⟨?_, by omega, by omega⟩
          rw [itoa, if_pos (by omega), show (-(numv r : Int)).natAbs = numv r by omega, nat_back hf2]
        · injection h with _ h; cases h
    · rename_i hh
      rw [trim_pos hh] at h hf2
      split at h
      · injection h with hk _
        subst hk
        refine ⟨?_, by omega, by omega⟩
        rw [itoa, if_neg (by omega), show ((numv l : Int)).toNat = numv l by omega, nat_back hf2]
      · injection h with _ h; cases h
theorem read_ends (l : List UInt8) : (∃ k, readP l = (k, 0)) ∨ readP l = (0, 3) ∨ readP l = (0, 4) := by
  unfold readP
  split
  · exact .inr (.inr rfl)
  · split <;> split
    · exact .inl ⟨_, rfl⟩
    · exact .inr (.inl rfl)
    · exact .inl ⟨_, rfl⟩
    · exact .inr (.inl rfl)

/-! ### Digits held against digits -/
theorem numf_lt_of : ∀ (x y : List UInt8) (a b : Nat), x.all digB = true → y.all digB = true → x.length = y.length → a < b → numf a x < numf b y
  | [], [], a, b, _, _, _, h => h
  | [], _ :: _, _, _, _, _, hl, _ => by simp at hl
  | _ :: _, [], _, _, _, _, hl, _ => by simp at hl
  | c :: x, d :: y, a, b, hx, hy, hl, h => by
    rw [List.all_cons, Bool.and_eq_true] at hx hy
    have hc := (dig_iff c).1 hx.1
    exact numf_lt_of x y (a * 10 + (c.toNat - 48)) (b * 10 + (d.toNat - 48)) hx.2 hy.2 (by simpa using hl) (by omega)
theorem less_iff : ∀ (x y : List UInt8) (a : Nat), x.all digB = true → y.all digB = true → x.length = y.length → (Op.bytesLess x y = true ↔ numf a x < numf a y) ∧ (x = y ↔ numf a x = numf a y)
  | [], [], a, _, _, _ => ⟨by simp [Op.bytesLess], by simp⟩
  | [], _ :: _, _, _, _, hl => by simp at hl
  | _ :: _, [], _, _, _, hl => by simp at hl
  | c :: x, d :: y, a, hx, hy, hl => by
    rw [List.all_cons, Bool.and_eq_true] at hx hy
    have hc := (dig_iff c).1 hx.1
    have hd := (dig_iff d).1 hy.1
    have hl' : x.length = y.length := by simpa using hl
    have e1 : numf a (c :: x) = numf (a * 10 + (c.toNat - 48)) x := rfl
    have e2 : numf a (d :: y) = numf (a * 10 + (d.toNat - 48)) y := rfl
    rw [e1, e2]
    rcases Nat.lt_trichotomy c.toNat d.toNat with h | h | h
    · have hn := numf_lt_of x y (a * 10 + (c.toNat - 48)) (a * 10 + (d.toNat - 48)) hx.2 hy.2 hl' (by omega)
      have hcd : c < d := UInt8.lt_iff_toNat_lt.2 h
      refine ⟨⟨fun _ => hn, fun _ => by simp [Op.bytesLess, hcd]⟩, ⟨fun e => ?_, fun e => by omega⟩⟩
      injection e with e _
      rw [e] at h; omega
    · have hcd : c = d := UInt8.toNat_inj.1 h
      subst hcd
      have ih := less_iff x y (a * 10 + (c.toNat - 48)) hx.2 hy.2 hl'
      have hirr : ¬ c < c := by rw [UInt8.lt_iff_toNat_lt]; omega
      refine ⟨?_, ?_⟩
      · rw [← ih.1]; simp [Op.bytesLess, hirr]
      · rw [← ih.2]; simp
    · have hn := numf_lt_of y x (a * 10 + (d.toNat - 48)) (a * 10 + (c.toNat - 48)) hy.2 hx.2 hl'.symm (by omega)
      have hcd : ¬ c < d := by rw [UInt8.lt_iff_toNat_lt]; omega
      have hne : ¬ c = d := fun e => by rw [e] at h; omega
      refine ⟨⟨fun e => ?_, fun e => by omega⟩, ⟨fun e => ?_, fun e => by omega⟩⟩
      · simp [Op.bytesLess, hcd, hne] at e
      · injection e with e _; exact absurd e hne
/-- 'x > y', of digits of one length. -/
def gtB (x y : List UInt8) : Bool := !(Op.bytesLess x y || x == y)
theorem gtB_iff (x y : List UInt8) (hx : x.all digB = true) (hy : y.all digB = true) (hl : x.length = y.length) : gtB x y = decide (numv y < numv x) := by
  have h := less_iff x y 0 hx hy hl
  have h1 : (Op.bytesLess x y = true) = (numv x < numv y) := propext h.1
  have h2 : (x = y) = (numv x = numv y) := propext h.2
  rw [Bool.eq_iff_iff]
  simp only [gtB, Bool.not_eq_true', Bool.or_eq_false_iff, beq_eq_false_iff_ne, decide_eq_true_eq]
  rw [← Bool.not_eq_true, h1, Ne, h2]
  omega
theorem numf_bounds : ∀ (l : List UInt8) (a : Nat), l.all digB = true → a * 10 ^ l.length ≤ numf a l ∧ numf a l < (a + 1) * 10 ^ l.length
  | [], a, _ => by simp [numf]
  | c :: r, a, h => by
    rw [List.all_cons, Bool.and_eq_true] at h
    have hc := (dig_iff c).1 h.1
    have ih := numf_bounds r (a * 10 + (c.toNat - 48)) h.2
    have e : numf a (c :: r) = numf (a * 10 + (c.toNat - 48)) r := rfl
    rw [e, List.length_cons, Nat.pow_succ]
    have hp : 0 < 10 ^ r.length := Nat.pow_pos (by decide)
    constructor
    · refine Nat.le_trans ?_ ih.1
      rw [show a * (10 ^ r.length * 10) = (a * 10) * 10 ^ r.length by rw [Nat.mul_comm (10 ^ r.length) 10, Nat.mul_assoc]]
      exact Nat.mul_le_mul_right _ (by omega)
    · refine Nat.lt_of_lt_of_le ih.2 ?_
      rw [show (a + 1) * (10 ^ r.length * 10) = ((a + 1) * 10) * 10 ^ r.length by rw [Nat.mul_comm (10 ^ r.length) 10, Nat.mul_assoc]]
      exact Nat.mul_le_mul_right _ (by omega)
theorem num_short (l : List UInt8) (h : natB l = true) (hl : l.length < 19) : numv l < 1000000000000000000 := by
  have h1 := (numf_bounds l 0 (nat_all h)).2
  have h2 : 10 ^ l.length ≤ 10 ^ 18 := Nat.pow_le_pow_right (by decide) (by omega)
  have e : (10 : Nat) ^ 18 = 1000000000000000000 := by decide
  show numf 0 l < _
  omega
theorem num_long (l : List UInt8) (h : natB l = true) (hl : 19 < l.length) : 10000000000000000000 ≤ numv l := by
  have ha := nat_all h
  have hh := nat_head h (fun e => by rw [e] at hl; simp at hl)
  match l, nat_ne h with
  | c :: r, _ =>
    rw [List.all_cons, Bool.and_eq_true] at ha
    have hc := (dig_iff c).1 ha.1
    have hne : c.toNat ≠ 48 := fun e => hh (by simp; exact UInt8.toNat_inj.1 e)
    have h1 := (numf_bounds r (0 * 10 + (c.toNat - 48)) ha.2).1
    have h2 : 10 ^ 19 ≤ 10 ^ r.length := Nat.pow_le_pow_right (by decide) (by simp at hl; omega)
    have h3 : 1 * 10 ^ r.length ≤ (0 * 10 + (c.toNat - 48)) * 10 ^ r.length := Nat.mul_le_mul_right _ (by omega)
    have e : (10 : Nat) ^ 19 = 10000000000000000000 := by decide
    show _ ≤ numf (0 * 10 + (c.toNat - 48)) r
    omega
def mostP : List UInt8 := [57, 50, 50, 51, 51, 55, 50, 48, 51, 54, 56, 53, 52, 55, 55, 53, 56, 48, 55]
def mostN : List UInt8 := [57, 50, 50, 51, 51, 55, 50, 48, 51, 54, 56, 53, 52, 55, 55, 53, 56, 48, 56]
theorem mostP_num : numv mostP = 9223372036854775807 := by decide
theorem mostN_num : numv mostN = 9223372036854775808 := by decide
theorem gt_pos (l : List UInt8) (h : natB l = true) (hl : l.length = 19) : gtB l mostP = decide (9223372036854775807 < numv l) := by
  rw [gtB_iff l mostP (nat_all h) (by decide) (by rw [hl]; rfl), mostP_num]
theorem gt_neg (l : List UInt8) (h : natB l = true) (hl : l.length = 19) : gtB l mostN = decide (9223372036854775808 < numv l) := by
  rw [gtB_iff l mostN (nat_all h) (by decide) (by rw [hl]; rfl), mostN_num]
theorem num_take_succ (l : List UInt8) (i : Nat) (h : i < l.length) : numv (l.take (i + 1)) = numv (l.take i) * 10 + (l[i].toNat - 48) := by
  rw [List.take_succ_eq_append_getElem h, numv_snoc]
theorem num_take_le (l : List UInt8) (i : Nat) : numv (l.take i) ≤ numv l := by
  have e : numv l = numf (numv (l.take i)) (l.drop i) := by
    show numf 0 l = numf (numf 0 (l.take i)) (l.drop i)
    unfold numf
    rw [← List.foldl_append, List.take_append_drop]
  rw [e]
  exact numf_ge _ _
theorem all_at (l : List UInt8) (h : l.all digB = true) (i : Nat) (hi : i < l.length) : 48 ≤ l[i].toNat ∧ l[i].toNat ≤ 57 :=
  (dig_iff _).1 (List.all_eq_true.1 h _ (List.getElem_mem hi))
end Go.Proofs.YtlmnmiomfhgcdaaDoor.M
