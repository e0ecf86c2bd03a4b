/-
  Plain mathematics for layer 1 (count): numbers in digits. No program in this text.
-/
import Derived.Lib.ParseIntBTie
import Derived.Lib.ParseIntBCases
import Derived.Lib.ItoaNum
import Derived.Lib.Strings
namespace Go.Proofs.YtanaggahdadejaaDoor.M
open Go.Lib

def digB (c : UInt8) : Bool := decide (48 ≤ c.toNat) && decide (c.toNat ≤ 57)
/-- Digits alone, one at least, none of them a nought ahead of another. -/
def natB (l : List UInt8) : Bool := l.all digB && (l == [48] || (!l.isEmpty && !(l.head? == some 48)))
theorem all_take_succ (l : List UInt8) (i : Nat) (h : i < l.length) (h1 : (l.take i).all digB = true) (h2 : digB l[i] = true) : (l.take (i + 1)).all digB = true := by
  rw [List.take_succ_eq_append_getElem h, List.all_append, h1]; simpa using h2
theorem all_no (l : List UInt8) (i : Nat) (h : i < l.length) (h2 : digB l[i] = false) : natB l = false := by
  have : l.all digB = false := by
    rw [List.all_eq_false]
    exact ⟨l[i], List.getElem_mem h, by rw [h2]; simp⟩
  rw [natB, this]; rfl
theorem nat_zero {l : List UInt8} (h : l = [48]) : natB l = true := by subst h; decide
theorem nat_nil {l : List UInt8} (h : l = []) : natB l = false := by subst h; decide
theorem nat_rest {l : List UInt8} (ha : l.all digB = true) (h0 : ¬ l = [48]) (h1 : 0 < l.length) : natB l = !(l[0].toNat == 48) := by
  match l, h1 with
  | c :: r, _ =>
    have hc : ((c :: r) == [48]) = false := by simpa using h0
    rw [natB, ha, hc]
    simp only [Bool.true_and, Bool.false_or, List.isEmpty_cons, Bool.not_false, List.head?_cons, List.getElem_cons_zero]
    congr 1
    rw [Bool.eq_iff_iff]
    simp only [beq_iff_eq, Option.some.injEq]
    exact ⟨fun h => by rw [h]; rfl, fun h => UInt8.toNat_inj.1 h⟩
theorem nat_all {l : List UInt8} (h : natB l = true) : l.all digB = true := by
  rw [natB, Bool.and_eq_true] at h; exact h.1
theorem nat_ne {l : List UInt8} (h : natB l = true) : l ≠ [] := by
  intro e; subst e; revert h; decide

/-- The number that digits say. -/
def numf (a : Nat) (l : List UInt8) : Nat := l.foldl (fun a c => a * 10 + (c.toNat - 48)) a
def numv (l : List UInt8) : Nat := numf 0 l
theorem numf_ge : ∀ (l : List UInt8) (a : Nat), a ≤ numf a l
  | [], a => Nat.le_refl _
  | c :: r, a => by
    have := numf_ge r (a * 10 + (c.toNat - 48))
    show a ≤ numf (a * 10 + (c.toNat - 48)) r
    omega
theorem dig_iff (c : UInt8) : digB c = true ↔ 48 ≤ c.toNat ∧ c.toNat ≤ 57 := by simp [digB]

theorem parse_dig : ∀ (l : List UInt8) (a : Nat), l.all digB = true → a ≤ 18446744073709551615 → parseUintM (2 ^ 64 - 1) a l = if numf a l ≤ 18446744073709551615 then .ok (numf a l) else .range
  | [], a, _, ha => by
    show NumEnd.ok a = _
    rw [if_pos (show numf a [] ≤ _ from ha)]; rfl
  | c :: r, a, h, ha => by
    rw [List.all_cons, Bool.and_eq_true] at h
    have hc := (dig_iff c).1 h.1
    have hg := numf_ge r (a * 10 + (c.toNat - 48))
    have e : numf a (c :: r) = numf (a * 10 + (c.toNat - 48)) r := rfl
    rw [parseUintM, if_pos hc, e]
    by_cases h1 : 1844674407370955162 ≤ a
    · rw [if_pos h1, if_neg (by omega)]
    · rw [if_neg h1]
      by_cases h2 : 2 ^ 64 - 1 < a * 10 + (c.toNat - 48)
      · rw [if_pos h2, if_neg (by omega)]
      · rw [if_neg h2]
        exact parse_dig r _ h.2 (by omega)

theorem parse_pos (l : List UInt8) (h : natB l = true) : parseIntB 64 l = if numv l < 9223372036854775808 then .ok (numv l : Int) else .range := by
  have ha := nat_all h
  match l, nat_ne h with
  | c :: r, _ =>
    have hc := (dig_iff c).1 (by rw [List.all_cons, Bool.and_eq_true] at ha; exact ha.1)
    rw [parseIntB_plain 64 c r (by omega) (by omega), parseUintB, if_neg (by simp), parse_dig _ 0 ha (by omega)]
    show signlessC _ (if numv (c :: r) ≤ _ then .ok (numv (c :: r)) else .range) = _
    by_cases h1 : numv (c :: r) ≤ 18446744073709551615
    · rw [if_pos h1]
      show (if 2 ^ (64 - 1) ≤ numv (c :: r) then NumEnd.range else .ok _) = _
      by_cases h2 : 2 ^ (64 - 1) ≤ numv (c :: r)
      · rw [if_pos h2, if_neg (by omega)]
      · rw [if_neg h2, if_pos (by omega)]
    · rw [if_neg h1, if_neg (by omega)]; rfl
theorem parse_neg (r : List UInt8) (h : natB r = true) : parseIntB 64 (45 :: r) = if numv r ≤ 9223372036854775808 then .ok (-(numv r : Int)) else .range := by
  have ha := nat_all h
  rw [parseIntB_minus, parseUintB, if_neg (nat_ne h), parse_dig _ 0 ha (by omega)]
  show signedC _ (if numv r ≤ _ then .ok (numv r) else .range) = _
  by_cases h1 : numv r ≤ 18446744073709551615
  · rw [if_pos h1]
    show (if 2 ^ (64 - 1) < numv r then NumEnd.range else .ok _) = _
    by_cases h2 : 2 ^ (64 - 1) < numv r
    · rw [if_pos h2, if_neg (by omega)]
    · rw [if_neg h2, if_pos (by omega)]
  · rw [if_neg h1, if_neg (by omega)]; rfl

/-- What a text says: the number, and how it went (0: OK, 3: ErrRange, 4: ErrForm). -/
def readP (l : List UInt8) : Int × Int :=
  if l = [45, 48] ∨ natB (trimPrefix l [45]) = false then (0, 4)
  else if l.head? = some 45 then (if numv (trimPrefix l [45]) ≤ 9223372036854775808 then (-(numv (trimPrefix l [45]) : Int), 0) else (0, 3))
  else (if numv (trimPrefix l [45]) < 9223372036854775808 then ((numv (trimPrefix l [45]) : Int), 0) else (0, 3))
theorem trim_neg (r : List UInt8) : trimPrefix (45 :: r) [45] = r := by simp [trimPrefix, hasPrefix, List.isPrefixOf]
theorem trim_pos {l : List UInt8} (h : ¬ l.head? = some 45) : trimPrefix l [45] = l := by
  cases l with
  | nil => rfl
  | cons c r =>
    have hc : ¬ c = 45 := by simpa using h
    have : ((45 : UInt8) == c) = false := by simpa using fun e => hc e.symm
    simp [trimPrefix, hasPrefix, List.isPrefixOf, this]
theorem read_minus0 {l : List UInt8} (h : l = [45, 48]) : readP l = (0, 4) := by rw [readP, if_pos (.inl h)]
theorem read_form {l : List UInt8} (h : natB (trimPrefix l [45]) = false) : readP l = (0, 4) := by rw [readP, if_pos (.inr h)]
theorem read_num {l : List UInt8} (h0 : ¬ l = [45, 48]) (h : natB (trimPrefix l [45]) = true) :
    (∃ v, parseIntB 64 l = .ok v ∧ readP l = (v, 0)) ∨ (parseIntB 64 l = .range ∧ readP l = (0, 3)) := by
  rw [readP, if_neg (by rw [h]; simp [h0])]
  by_cases hn : l.head? = some 45
  · rw [if_pos hn]
    match l, hn with
    | c :: r, hn =>
      have hc : c = 45 := by simpa using hn
      subst hc
      rw [trim_neg] at h ⊢
      rw [parse_neg r h]
      by_cases hv : numv r ≤ 9223372036854775808
      · rw [if_pos hv, if_pos hv]; exact .inl ⟨_, rfl, rfl⟩
      · rw [if_neg hv, if_neg hv]; exact .inr ⟨rfl, rfl⟩
  · rw [if_neg hn]
    rw [trim_pos hn] at h ⊢
    rw [parse_pos l h]
    by_cases hv : numv l < 9223372036854775808
    · rw [if_pos hv, if_pos hv]; exact .inl ⟨_, rfl, rfl⟩
    · rw [if_neg hv, if_neg hv]; exact .inr ⟨rfl, rfl⟩
end Go.Proofs.YtanaggahdadejaaDoor.M
