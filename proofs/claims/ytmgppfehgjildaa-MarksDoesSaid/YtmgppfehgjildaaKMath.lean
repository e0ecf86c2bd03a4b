/-
  Sets of numbers as bits of bytes: the mathematics of layer 7. No function of the program in this text.
-/
namespace Go.Proofs.Ytmgppfehgjildaa.M

/-- Held from 0 to 1000. -/
def most (n : Int) : Nat := if n < 0 then 0 else if 1000 < n then 1000 else n.toNat
theorem most_le (n : Int) : most n ≤ 1000 := by unfold most; split <;> (try split) <;> omega

/-- The number of n bits, the lowest one first. -/
def ofB (g : Nat → Bool) : Nat → Nat
  | 0 => 0
  | n + 1 => (if g 0 then 1 else 0) + 2 * ofB (fun k => g (k + 1)) n
theorem ofB_lt : ∀ (n : Nat) (g : Nat → Bool), ofB g n < 2 ^ n
  | 0, _ => by simp [ofB]
  | n + 1, g => by
    have := ofB_lt n (fun k => g (k + 1))
    unfold ofB
    rw [Nat.pow_succ]
    split <;> omega
theorem ofB_bit : ∀ (n : Nat) (g : Nat → Bool) (k : Nat), (ofB g n).testBit k = (decide (k < n) && g k)
  | 0, g, k => by simp [ofB]
  | n + 1, g, 0 => by
    unfold ofB
    rw [Nat.testBit_zero]
    by_cases h : g 0
    · rw [if_pos h]; simp [h]
    · rw [if_neg h]; simp [h]
  | n + 1, g, k + 1 => by
    have ih := ofB_bit n (fun k => g (k + 1)) k
    unfold ofB
    rw [Nat.testBit_succ]
    have e : ((if g 0 then 1 else 0) + 2 * ofB (fun k => g (k + 1)) n) / 2 = ofB (fun k => g (k + 1)) n := by split <;> omega
    rw [e, ih]
    simp

/-- The j-th byte of the set f. -/
def byte (f : Nat → Bool) (j : Nat) : Nat := ofB (fun k => f (8 * j + k)) 8
theorem byte_lt (f : Nat → Bool) (j : Nat) : byte f j < 256 := ofB_lt 8 _
theorem byte_bit (f : Nat → Bool) (j k : Nat) : (byte f j).testBit k = (decide (k < 8) && f (8 * j + k)) := ofB_bit 8 _ k
theorem pow_bit (a k : Nat) : (2 ^ a).testBit k = decide (a = k) := Nat.testBit_two_pow
/-- The set f, but for the number i. -/
def put (f : Nat → Bool) (i : Nat) (v : Bool) : Nat → Bool := fun k => if k = i then v else f k
theorem put_same (f : Nat → Bool) (i : Nat) (v : Bool) : put f i v i = v := if_pos rfl
theorem put_other (f : Nat → Bool) {i k : Nat} (v : Bool) (h : k ≠ i) : put f i v k = f k := if_neg h
theorem put_id (f : Nat → Bool) (i : Nat) (v : Bool) (h : f i = v) : put f i v = f := by
  funext k
  unfold put
  split
  · subst_vars; rfl
  · rfl
theorem byte_other (f : Nat → Bool) (i : Nat) (v : Bool) (j : Nat) (h : j ≠ i / 8) : byte (put f i v) j = byte f j := by
  apply Nat.eq_of_testBit_eq
  intro k
  rw [byte_bit, byte_bit]
  by_cases hk : k < 8
  · rw [put_other f v (by omega)]
  · simp [hk]
theorem byte_in (f : Nat → Bool) (i : Nat) : byte f (i / 8) ||| 2 ^ (i % 8) = byte (put f i true) (i / 8) := by
  apply Nat.eq_of_testBit_eq
  intro k
  rw [Nat.testBit_or, byte_bit, byte_bit, pow_bit]
  by_cases hk : k < 8
  · by_cases e : i % 8 = k
    · rw [show 8 * (i / 8) + k = i by omega, put_same]; simp [hk, e]
    · rw [put_other f true (by omega)]; simp [e]
  · have : ¬ i % 8 = k := by omega
    simp [hk, this]
theorem byte_out (f : Nat → Bool) (i : Nat) : byte f (i / 8) &&& (255 ^^^ 2 ^ (i % 8)) = byte (put f i false) (i / 8) := by
  apply Nat.eq_of_testBit_eq
  intro k
  have h255 : Nat.testBit 255 k = decide (k < 8) := by
    rw [show 255 = 2 ^ 8 - 1 by rfl]; exact Nat.testBit_two_pow_sub_one 8 k
  rw [Nat.testBit_and, Nat.testBit_xor, byte_bit, byte_bit, pow_bit, h255]
  by_cases hk : k < 8
  · by_cases e : i % 8 = k
    · rw [show 8 * (i / 8) + k = i by omega, put_same]; simp [hk, e]
    · rw [put_other f false (by omega)]; simp [hk, e]
  · simp [hk]
theorem byte_has (f : Nat → Bool) (i : Nat) : byte f (i / 8) &&& 2 ^ (i % 8) = if f i then 2 ^ (i % 8) else 0 := by
  apply Nat.eq_of_testBit_eq
  intro k
  rw [Nat.testBit_and, byte_bit, pow_bit]
  by_cases e : i % 8 = k
  · have hk : k < 8 := by omega
    rw [show 8 * (i / 8) + k = i by omega]
    by_cases h : f i
    · rw [if_pos h, pow_bit]; simp [hk, e, h]
    · rw [if_neg h]; simp [h]
  · by_cases h : f i
    · rw [if_pos h, pow_bit]; simp [e]
    · rw [if_neg h]; simp [e]

/-- No number from m on. -/
def Below (m : Nat) (f : Nat → Bool) : Prop := ∀ i, m ≤ i → f i = false
theorem Below.put {m : Nat} {f : Nat → Bool} (h : Below m f) {i : Nat} (hi : i < m) (v : Bool) : Below m (put f i v) := fun k hk => by
  rw [put_other f v (by omega)]; exact h k hk
theorem Below.none (m : Nat) : Below m (fun _ => false) := fun _ _ => rfl
/-- Two sets below m that have the same numbers are one. -/
theorem Below.ext {m : Nat} {f g : Nat → Bool} (h : Below m f) (k : Below m g) (e : ∀ i, i < m → f i = g i) : f = g := by
  funext i
  by_cases hi : i < m
  · exact e i hi
  · rw [h i (by omega), k i (by omega)]

/-- How many bytes there are. -/
def wide (m : Nat) : Nat := (m + 7) / 8
/-- The bytes of a set. -/
def bytes (m : Nat) (f : Nat → Bool) : List UInt8 := (List.range (wide m)).map (fun j => UInt8.ofNat (byte f j))
theorem bytes_len (m : Nat) (f : Nat → Bool) : (bytes m f).length = wide m := by simp [bytes]
theorem bytes_at (m : Nat) (f : Nat → Bool) (j : Nat) (h : j < (bytes m f).length) : ((bytes m f)[j]'h).toNat = byte f j := by
  have := byte_lt f j
  simp [bytes]
  omega
/-- The bit i of bytes. -/
def bitAt (s : List UInt8) (i : Nat) : Bool := (s[i / 8]?.getD 0).toNat.testBit (i % 8)
theorem bytes_bit (m : Nat) (f : Nat → Bool) (hf : Below m f) (i : Nat) : bitAt (bytes m f) i = f i := by
  unfold bitAt
  by_cases h : i / 8 < (bytes m f).length
  · rw [List.getElem?_eq_getElem h, Option.getD_some, bytes_at, byte_bit]
    rw [show 8 * (i / 8) + i % 8 = i by omega]
    have : i % 8 < 8 := by omega
    simp [this]
  · rw [List.getElem?_eq_none (by omega)]
    rw [bytes_len] at h
    unfold wide at h
    rw [hf i (by omega)]
    simp
theorem bit_and (b k : Nat) : (b &&& 2 ^ k == 0) = !b.testBit k := by
  have e : b &&& 2 ^ k = if b.testBit k then 2 ^ k else 0 := by
    apply Nat.eq_of_testBit_eq
    intro j
    rw [Nat.testBit_and, pow_bit]
    by_cases e : k = j
    · subst e
      by_cases h : b.testBit k
      · rw [if_pos h, pow_bit]; simp [h]
      · rw [if_neg h]; simp [h]
    · by_cases h : b.testBit k
      · rw [if_pos h, pow_bit]; simp [e]
      · rw [if_neg h]; simp [e]
  rw [e]
  by_cases h : b.testBit k
  · rw [if_pos h, h]
    have : 0 < 2 ^ k := Nat.two_pow_pos k
    simp
  · rw [if_neg h]; simp [h]
/-- The numbers below k of the bits of s. -/
def upto (s : List UInt8) (k : Nat) : Nat → Bool := fun i => decide (i < k) && bitAt s i
theorem upto_zero (s : List UInt8) : upto s 0 = fun _ => false := by funext i; simp [upto]
theorem upto_in (s : List UInt8) (k : Nat) (h : bitAt s k = true) : upto s (k + 1) = put (upto s k) k true := by
  funext i
  unfold upto put
  by_cases e : i = k
  · subst e; simp [h]
  · rw [if_neg e]
    have : decide (i < k + 1) = decide (i < k) := by simp; omega
    rw [this]
theorem upto_out (s : List UInt8) (k : Nat) (h : bitAt s k = false) : upto s (k + 1) = upto s k := by
  funext i
  unfold upto
  by_cases e : i = k
  · subst e; simp [h]
  · have : decide (i < k + 1) = decide (i < k) := by simp; omega
    rw [this]
theorem upto_at (s : List UInt8) (k : Nat) : upto s k k = false := by simp [upto]
theorem upto_below (s : List UInt8) {k m : Nat} (h : k ≤ m) : Below m (upto s k) := fun i hi => by
  have : ¬ i < k := by omega
  simp [upto, this]

/-- The numbers of a set, rising. -/
def nums (m : Nat) (f : Nat → Bool) : List Nat := (List.range m).filter f
theorem nums_zero (f : Nat → Bool) : nums 0 f = [] := rfl
theorem nums_in (m : Nat) (f : Nat → Bool) (h : f m = true) : nums (m + 1) f = nums m f ++ [m] := by
  unfold nums
  rw [List.range_succ, List.filter_append]
  simp [h]
theorem nums_out (m : Nat) (f : Nat → Bool) (h : f m = false) : nums (m + 1) f = nums m f := by
  unfold nums
  rw [List.range_succ, List.filter_append]
  simp [h]
theorem nums_len (m : Nat) (f : Nat → Bool) : (nums m f).length ≤ m := by
  have := List.length_filter_le f (List.range m)
  simpa [nums] using this
theorem nums_mem {m : Nat} {f : Nat → Bool} {i : Nat} : i ∈ nums m f ↔ i < m ∧ f i = true := by simp [nums]
theorem nums_none (m : Nat) : nums m (fun _ => false) = [] := by simp [nums]
theorem nums_rise {m : Nat} {f : Nat → Bool} {i j : Nat} (hj : j < (nums m f).length) (h : i < j) : (nums m f)[i]'(by omega) < (nums m f)[j]'hj := by
  have hp : List.Pairwise (· < ·) (nums m f) := List.Pairwise.filter f List.pairwise_lt_range
  exact List.pairwise_iff_getElem.1 hp i j (by omega) hj h
/-- A longer list goes on. -/
theorem nums_more (f : Nat → Bool) : ∀ (d m : Nat), ∃ t, nums (m + d) f = nums m f ++ t
  | 0, m => ⟨[], by simp⟩
  | d + 1, m => by
    obtain ⟨t, ht⟩ := nums_more f d m
    rw [← Nat.add_assoc]
    by_cases h : f (m + d) = true
    · exact ⟨t ++ [m + d], by rw [nums_in _ _ h, ht, List.append_assoc]⟩
    · exact ⟨t, by rw [nums_out _ _ (by simpa using h), ht]⟩
theorem nums_take {f : Nat → Bool} {k m q : Nat} (hk : k ≤ m) (hq : q ≤ (nums k f).length) : (nums m f).take q = (nums k f).take q := by
  obtain ⟨t, ht⟩ := nums_more f (m - k) k
  rw [show k + (m - k) = m by omega] at ht
  rw [ht, List.take_append_of_le_length hq]

/-- The first i below m that p holds of. -/
theorem find_some {m : Nat} {p : Nat → Bool} {i : Nat} (hi : i < m) (h : p i = true) (hn : ∀ k, k < i → p k = false) : (List.range m).find? p = some i := by
  rw [List.find?_eq_some_iff_append]
  refine ⟨h, List.range i, (List.range (m - i - 1)).map (fun k => i + 1 + k), ?_, fun a ha => ?_⟩
  · apply List.ext_getElem
    · simp; omega
    · intro n h1 h2
      rw [List.getElem_range]
      by_cases e : n < i
      · rw [List.getElem_append_left (by simpa using e), List.getElem_range]
      · rw [List.getElem_append_right (by simpa using e)]
        simp only [List.length_range]
        by_cases e' : n = i
        · subst e'; simp
        · rw [List.getElem_cons]
          rw [dif_neg (by omega)]
          simp
          omega
  · have : a < i := by simpa using ha
    simp [hn a this]
theorem find_none {m : Nat} {p : Nat → Bool} (hn : ∀ k, k < m → p k = false) : (List.range m).find? p = none := by
  rw [List.find?_eq_none]
  intro k hk
  rw [hn k (by simpa using hk)]
  simp
/-- The first number from one on, round. -/
def next (m : Nat) (f : Nat → Bool) (a : Int) : Option Nat := ((List.range m).find? (fun i => f i && decide (a ≤ (i : Int)))).or ((List.range m).find? f)
theorem next_some {m : Nat} {f : Nat → Bool} {a : Int} {i : Nat} (hi : i < m) (h : f i = true) (ha : a ≤ (i : Int)) (hn : ∀ k, k < i → f k = true → (k : Int) < a) : next m f a = some i := by
  unfold next
  rw [find_some hi (by simp [h, ha])]
  · rfl
  · intro k hk
    by_cases e : f k = true
    · have := hn k hk e
      simp; intro _; omega
    · simp [e]
theorem next_round {m : Nat} {f : Nat → Bool} {a : Int} {i : Nat} (hn : ∀ k, k < m → f k = true → (k : Int) < a) (hi : i < m) (h : f i = true) (hk : ∀ k, k < i → f k = false) : next m f a = some i := by
  unfold next
  rw [find_none, find_some hi h hk]
  · rfl
  · intro k hk
    by_cases e : f k = true
    · have := hn k hk e
      simp; intro _; omega
    · simp [e]
theorem next_none {m : Nat} {f : Nat → Bool} {a : Int} (hn : ∀ k, k < m → f k = false) : next m f a = none := by
  unfold next
  rw [find_none, find_none hn]
  · rfl
  · intro k hk
    simp [hn k hk]
/-- The least number that is none of them. -/
def free (m : Nat) (f : Nat → Bool) : Option Nat := (List.range m).find? (fun i => !f i)
theorem free_some {m : Nat} {f : Nat → Bool} {i : Nat} (hi : i < m) (h : f i = false) (hn : ∀ k, k < i → f k = true) : free m f = some i :=
  find_some hi (by simp [h]) (fun k hk => by simp [hn k hk])
theorem free_none {m : Nat} {f : Nat → Bool} (hn : ∀ k, k < m → f k = true) : free m f = none := find_none (fun k hk => by simp [hn k hk])
/-- As the calls answer it. -/
def num (o : Option Nat) : Int := (o.getD 0 : Nat)
end Go.Proofs.Ytmgppfehgjildaa.M
