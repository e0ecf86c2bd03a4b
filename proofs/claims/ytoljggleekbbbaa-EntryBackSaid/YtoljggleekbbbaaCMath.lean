/-
  Plain mathematics for layer 3 (cyclic): the division of bytes, bit by bit; that it is linear and turns no two numbers into one. No program in this text.
-/
import Derived.Laws.RangeAny
namespace Go.Proofs.Ytoljggleekbbbaa.M

/-- One bit of the division. -/
def step (n : Nat) : Nat := if n % 2 = 1 then (n / 2) ^^^ 3988292384 else n / 2
/-- So many bits of it. -/
def steps : Nat → Nat → Nat
  | 0, n => n
  | k + 1, n => step (steps k n)
/-- A byte more. -/
def absorb (n : Nat) (c : UInt8) : Nat := steps 8 (n ^^^ c.toNat)
/-- Bytes more. -/
def run (n : Nat) (l : List UInt8) : Nat := l.foldl absorb n
/-- The sum of bytes. -/
def of (l : List UInt8) : Nat := run 4294967295 l ^^^ 4294967295
/-- The number that bytes are, the lowest ahead. -/
def le : List UInt8 → Nat
  | [] => 0
  | c :: l => c.toNat ^^^ (le l <<< 8)
/-- A number's four bytes, the lowest ahead. -/
def tl (c : Nat) : List UInt8 := [UInt8.ofNat (c % 256), UInt8.ofNat (c / 256 % 256), UInt8.ofNat (c / 65536 % 256), UInt8.ofNat (c / 16777216 % 256)]

theorem xor_lt {a b : Nat} (ha : a < 4294967296) (hb : b < 4294967296) : a ^^^ b < 4294967296 := Nat.xor_lt_two_pow (n := 32) ha hb
theorem step_lt {n : Nat} (h : n < 4294967296) : step n < 4294967296 := by
  unfold step
  split
  · exact xor_lt (by omega) (by omega)
  · omega
theorem steps_lt {n : Nat} (h : n < 4294967296) : ∀ k, steps k n < 4294967296
  | 0 => h
  | k + 1 => step_lt (steps_lt h k)
theorem absorb_lt {n : Nat} (h : n < 4294967296) (c : UInt8) : absorb n c < 4294967296 :=
  steps_lt (xor_lt h (by have := c.toNat_lt; omega)) 8
theorem run_lt {n : Nat} (h : n < 4294967296) (l : List UInt8) : run n l < 4294967296 := by
  induction l generalizing n with
  | nil => exact h
  | cons c l ih => exact ih (absorb_lt h c)
theorem of_lt (l : List UInt8) : of l < 4294967296 := xor_lt (run_lt (by omega) l) (by omega)

theorem half_xor (a b : Nat) : (a ^^^ b) / 2 = a / 2 ^^^ b / 2 := by
  have := Nat.shiftRight_xor_distrib (a := a) (b := b) (i := 1)
  simpa [Nat.shiftRight_eq_div_pow] using this
theorem odd_xor (a b : Nat) : (a ^^^ b) % 2 = (a + b) % 2 := by
  have h := Nat.xor_mod_two_pow (a := a) (b := b) (n := 1)
  simp only [Nat.pow_one] at h
  have ha : a % 2 = 0 ∨ a % 2 = 1 := by omega
  have hb : b % 2 = 0 ∨ b % 2 = 1 := by omega
  rcases ha with ha | ha <;> rcases hb with hb | hb <;> rw [h, ha, hb] <;> simp <;> omega
theorem xor_left (a b c : Nat) : a ^^^ (b ^^^ c) = b ^^^ (a ^^^ c) := by rw [← Nat.xor_assoc, Nat.xor_comm a b, Nat.xor_assoc]
theorem step_xor (a b : Nat) : step (a ^^^ b) = step a ^^^ step b := by
  unfold step
  rw [half_xor, odd_xor]
  have ha : a % 2 = 0 ∨ a % 2 = 1 := by omega
  have hb : b % 2 = 0 ∨ b % 2 = 1 := by omega
  rcases ha with ha | ha <;> rcases hb with hb | hb
  · rw [if_neg (by omega), if_neg (by omega), if_neg (by omega)]
  · rw [if_pos (by omega), if_neg (by omega), if_pos (by omega), Nat.xor_assoc]
  · rw [if_pos (by omega), if_pos (by omega), if_neg (by omega)]
    rw [Nat.xor_assoc, Nat.xor_assoc, Nat.xor_comm (b / 2)]
  · rw [if_neg (by omega), if_pos (by omega), if_pos (by omega)]
    have e : (a / 2 ^^^ 3988292384) ^^^ (b / 2 ^^^ 3988292384) = (a / 2 ^^^ b / 2) ^^^ (3988292384 ^^^ 3988292384) := by
      rw [Nat.xor_assoc, Nat.xor_assoc, xor_left 3988292384]
    rw [e]
    simp
theorem steps_xor (a b : Nat) : ∀ k, steps k (a ^^^ b) = steps k a ^^^ steps k b
  | 0 => rfl
  | k + 1 => by rw [steps, steps_xor a b k, step_xor]; rfl
theorem steps_add (n j : Nat) : ∀ k, steps (k + j) n = steps k (steps j n)
  | 0 => by simp [steps]
  | k + 1 => by rw [Nat.succ_add, steps, steps_add n j k]; rfl
theorem step_shl (n k : Nat) : step (n <<< (k + 1)) = n <<< k := by
  unfold step
  rw [Nat.shiftLeft_succ]
  rw [if_neg (by omega)]
  omega
theorem steps_shl (n j : Nat) : ∀ k, steps k (n <<< (k + j)) = n <<< j
  | 0 => by simp [steps]
  | k + 1 => by
    have e : k + 1 + j = k + (j + 1) := by omega
    rw [steps, e, steps_shl n (j + 1) k, step_shl]
theorem run_le (l : List UInt8) (n : Nat) : run n l = steps (8 * l.length) (n ^^^ le l) := by
  induction l generalizing n with
  | nil => simp [run, le, steps]
  | cons c l ih =>
    have e : run n (c :: l) = run (absorb n c) l := rfl
    rw [e, ih]
    have e2 : 8 * (c :: l).length = 8 * l.length + 8 := by simp; omega
    rw [e2, steps_add]
    congr 1
    have e3 : steps 8 (le l <<< 8) = le l := by have := steps_shl (le l) 0 8; simpa using this
    have e4 : n ^^^ le (c :: l) = (n ^^^ c.toNat) ^^^ (le l <<< 8) := by rw [le, Nat.xor_assoc]
    rw [e4, steps_xor, e3]
    rfl
theorem run_app (n : Nat) (a b : List UInt8) : run n (a ++ b) = run (run n a) b := by simp [run]
theorem run_snoc (n : Nat) (a : List UInt8) (c : UInt8) : run n (a ++ [c]) = absorb (run n a) c := by simp [run]

theorem low_high (c : Nat) : c % 256 ^^^ ((c / 256) <<< 8) = c := by
  apply Nat.eq_of_testBit_eq
  intro i
  have h1 : c % 256 = c % 2 ^ 8 := rfl
  have h2 : c / 256 = c >>> 8 := (Nat.shiftRight_eq_div_pow c 8).symm
  rw [h1, h2, Nat.testBit_xor, Nat.testBit_mod_two_pow, Nat.testBit_shiftLeft, Nat.testBit_shiftRight]
  by_cases h : i < 8
  · have h' : ¬ (8 ≤ i) := by omega
    simp [h, h']
  · have e : 8 + (i - 8) = i := by omega
    simp [h, e]; omega
theorem le_tl (c : Nat) (h : c < 4294967296) : le (tl c) = c := by
  have e3 : c / 16777216 % 256 = c / 16777216 := Nat.mod_eq_of_lt (by omega)
  have d2 : c / 65536 = c / 256 / 256 := by omega
  have d3 : c / 16777216 = c / 256 / 256 / 256 := by omega
  simp only [tl, le, UInt8.toNat_ofNat', Nat.reducePow, Nat.mod_mod, Nat.zero_shiftLeft, Nat.xor_zero]
  rw [e3, d3]
  have k2 := low_high (c / 256 / 256)
  have k1 := low_high (c / 256)
  have k0 := low_high c
  rw [d2, k2, k1, k0]
theorem tl_len (c : Nat) : (tl c).length = 4 := rfl

theorem xor_turn (a : Nat) : (a ^^^ 4294967295) ^^^ 4294967295 = a := by
  rw [Nat.xor_assoc]
  simp
theorem of_tail (l : List UInt8) : of (l ++ tl (of l)) = 558161692 := by
  rw [of, run_app, run_le, le_tl _ (of_lt l)]
  have e : run 4294967295 l ^^^ of l = 4294967295 := by
    rw [of, ← Nat.xor_assoc]
    simp
  rw [e, tl_len]
  decide +kernel

theorem step_zero {n : Nat} (h : n < 4294967296) (hs : step n = 0) : n = 0 := by
  unfold step at hs
  split at hs
  · have : n / 2 = 3988292384 := by
      have e := congrArg (fun x => x ^^^ 3988292384) hs
      simpa [Nat.xor_assoc] using e
    omega
  · omega
theorem steps_zero {n : Nat} (h : n < 4294967296) : ∀ k, steps k n = 0 → n = 0
  | 0, e => e
  | k + 1, e => steps_zero h k (step_zero (steps_lt h k) e)
theorem eq_of_xor {a b : Nat} (h : a ^^^ b = 0) : a = b := by
  have e := congrArg (fun x => x ^^^ b) h
  simpa [Nat.xor_assoc] using e
theorem steps_inj {a b : Nat} (ha : a < 4294967296) (hb : b < 4294967296) (k : Nat) (h : steps k a = steps k b) : a = b := by
  apply eq_of_xor
  apply steps_zero (xor_lt ha hb) k
  rw [steps_xor, h]
  simp
theorem absorb_inj {a b : Nat} (ha : a < 4294967296) (hb : b < 4294967296) (c : UInt8) (h : absorb a c = absorb b c) : a = b := by
  have hc : c.toNat < 4294967296 := by have := c.toNat_lt; omega
  have e := steps_inj (xor_lt ha hc) (xor_lt hb hc) 8 h
  have e2 := congrArg (fun x => x ^^^ c.toNat) e
  simpa [Nat.xor_assoc] using e2
theorem run_inj (l : List UInt8) : ∀ {a b : Nat}, a < 4294967296 → b < 4294967296 → run a l = run b l → a = b := by
  induction l with
  | nil => intro a b _ _ h; exact h
  | cons c l ih => intro a b ha hb h; exact absorb_inj ha hb c (ih (absorb_lt ha c) (absorb_lt hb c) h)

theorem le_lt (l : List UInt8) : le l < 2 ^ (8 * l.length) := by
  induction l with
  | nil => simp [le]
  | cons c l ih =>
    have e : 8 * (c :: l).length = 8 * l.length + 8 := by simp; omega
    rw [e, le]
    apply Nat.xor_lt_two_pow
    · have := c.toNat_lt
      have h2 : 2 ^ 8 ≤ 2 ^ (8 * l.length + 8) := Nat.pow_le_pow_right (by omega) (by omega)
      omega
    · rw [Nat.shiftLeft_eq, Nat.pow_add]
      exact Nat.mul_lt_mul_of_pos_right ih (by omega)
theorem le_mod (c : UInt8) (l : List UInt8) : le (c :: l) % 256 = c.toNat := by
  have := c.toNat_lt
  have h := Nat.xor_mod_two_pow (a := c.toNat) (b := le l <<< 8) (n := 8)
  have e : (le l <<< 8) % 2 ^ 8 = 0 := by rw [Nat.shiftLeft_eq]; omega
  rw [e] at h
  rw [le]
  simp at h
  omega
theorem le_div (c : UInt8) (l : List UInt8) : le (c :: l) / 256 = le l := by
  have := c.toNat_lt
  have h := Nat.shiftRight_xor_distrib (a := c.toNat) (b := le l <<< 8) (i := 8)
  rw [← le, Nat.shiftLeft_shiftRight, Nat.shiftRight_eq_div_pow, Nat.shiftRight_eq_div_pow] at h
  have e : c.toNat / 2 ^ 8 = 0 := by omega
  rw [e] at h
  simpa using h
theorem le_inj : ∀ (a b : List UInt8), a.length = b.length → le a = le b → a = b
  | [], [], _, _ => rfl
  | [], _ :: _, h, _ => by simp at h
  | _ :: _, [], h, _ => by simp at h
  | c :: a, d :: b, h, e => by
    have e1 : c.toNat = d.toNat := by rw [← le_mod c a, ← le_mod d b, e]
    have e2 : le a = le b := by rw [← le_div c a, ← le_div d b, e]
    rw [UInt8.toNat_inj.mp e1, le_inj a b (by simpa using h) e2]
theorem run_short {n : Nat} (hn : n < 4294967296) (a b : List UInt8) (hl : a.length = b.length) (h4 : a.length ≤ 4) (h : run n a = run n b) : a = b := by
  rw [run_le, run_le, ← hl] at h
  have hp : 2 ^ (8 * a.length) ≤ 4294967296 := by
    have : 2 ^ (8 * a.length) ≤ 2 ^ 32 := Nat.pow_le_pow_right (by omega) (by omega)
    simpa using this
  have ha := le_lt a
  have hb := le_lt b
  rw [← hl] at hb
  have e := steps_inj (xor_lt hn (by omega)) (xor_lt hn (by omega)) _ h
  have e2 := congrArg (fun x => n ^^^ x) e
  have e3 : le a = le b := by
    simp only [← Nat.xor_assoc, Nat.xor_self, Nat.zero_xor] at e2
    exact e2
  exact le_inj a b hl e3
/-- Bytes that are other ones only within four in a row have another sum. -/
theorem of_near (p a b q : List UInt8) (hl : a.length = b.length) (h4 : a.length ≤ 4) (h : of (p ++ a ++ q) = of (p ++ b ++ q)) : p ++ a ++ q = p ++ b ++ q := by
  have e : run 4294967295 (p ++ a ++ q) = run 4294967295 (p ++ b ++ q) := by
    have e2 := congrArg (fun x => x ^^^ 4294967295) h
    unfold of at e2
    simpa only [xor_turn] using e2
  rw [run_app, run_app, run_app, run_app] at e
  have hp : run 4294967295 p < 4294967296 := run_lt (by omega) p
  have e3 := run_inj q (run_lt hp a) (run_lt hp b) e
  rw [run_short hp a b hl h4 e3]
end Go.Proofs.Ytoljggleekbbbaa.M
