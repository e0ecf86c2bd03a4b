/-
  Plain mathematics for layer 11 (logrec): transactions, their records, what a record says. No program in this text.
-/
import Derived.Test.YtnjlkjphkimapaaSMath
import Derived.Test.YtnjlkjphkimapaaGPad
import Derived.Test.YtnjlkjphkimapaaFPutF
import Derived.Test.YtnjlkjphkimapaaRow
import Derived.Test.YtnjlkjphkimapaaFRdK
namespace Go.Proofs.Ytnjlkjphkimapaa.M

section
variable (a b : Nat → Int) (t u : Nat → ByteArray)
/-- Has one ahead the same place? -/
def twice (i : Nat) : Bool := (List.range i).any fun k => a k == a i
theorem twice_iff (i : Nat) : twice a i = true ↔ ∃ k, k < i ∧ a k = a i := by simp [twice]
/-- What is wrong with one. -/
def secE (i : Nat) : Int := if a i < 0 ∨ 1000 ≤ a i then 3 else if (t i).size ≠ 64 then 12 else if twice a i = true then 9 else 0
/-- What is wrong with the first so many. -/
def firstE : Nat → Int
  | 0 => 0
  | k + 1 => if firstE k ≠ 0 then firstE k else secE a t k
theorem firstE_next (k : Nat) (h : firstE a t k = 0) : firstE a t (k + 1) = secE a t k := by rw [firstE, if_neg (by simp [h])]
theorem firstE_more (k j : Nat) (h : firstE a t k ≠ 0) : firstE a t (k + j) = firstE a t k := by
  induction j with
  | zero => rfl
  | succ j ih => rw [← Nat.add_assoc, firstE, if_pos (by rw [ih]; exact h), ih]
theorem firstE_stop {k n : Nat} (hk : k < n) (h : firstE a t k = 0) (hs : secE a t k ≠ 0) : firstE a t n = secE a t k := by
  obtain ⟨j, rfl⟩ : ∃ j, n = (k + 1) + j := ⟨n - (k + 1), by omega⟩
  rw [firstE_more _ _ _ _ (by rw [firstE_next _ _ _ h]; exact hs), firstE_next _ _ _ h]
theorem firstE_all {n : Nat} (h : firstE a t n = 0) : ∀ i, i < n → secE a t i = 0 := by
  induction n with
  | zero => intro i hi; omega
  | succ n ih =>
    intro i hi
    have h0 : firstE a t n = 0 := by
      by_cases e : firstE a t n = 0
      · exact e
      · rw [firstE, if_pos e] at h; exact h
    by_cases e : i = n
    · rw [e, ← firstE_next _ _ _ h0, h]
    · exact ih h0 i (by omega)
theorem secE_ok {i : Nat} (h : secE a t i = 0) : (0 ≤ a i ∧ a i < 1000) ∧ (t i).size = 64 ∧ twice a i = false := by
  unfold secE at h
  split at h
  · omega
  · split at h
    · omega
    · split at h
      · omega
      · rename_i h1 h2 h3
        exact ⟨by omega, by omega, by simpa using h3⟩
/-- What is wrong with n of them. -/
def chk (n : Nat) : Int := if n = 0 then 8 else if 16 < n then 6 else firstE a t n
theorem chk_ok {n : Nat} (h : chk a t n = 0) : (1 ≤ n ∧ n ≤ 16) ∧ ∀ i, i < n → (0 ≤ a i ∧ a i < 1000) ∧ (t i).size = 64 := by
  unfold chk at h
  split at h
  · omega
  · split at h
    · omega
    · exact ⟨by omega, fun i hi => let x := secE_ok a t (firstE_all a t h i hi); ⟨x.1, x.2.1⟩⟩
/-- All ahead of the tail, with so many places. -/
def head (q n : Nat) : Nat → ByteArray
  | 0 => (⟨#[82]⟩ : ByteArray) ++ bytes q 6 ++ bytes n 1
  | k + 1 => head q n k ++ bytes (a k).toNat 2
/-- So many texts. -/
def alls : Nat → ByteArray
  | 0 => ⟨#[]⟩
  | k + 1 => alls k ++ t k
theorem R_size : (⟨#[82]⟩ : ByteArray).size = 1 := rfl
theorem head_size (q n k : Nat) : (head a q n k).size = 8 + 2 * k := by
  induction k with
  | zero => simp only [head, ByteArray.size_append, bytes_size, R_size]
  | succ k ih => rw [head, ByteArray.size_append, ih, bytes_size]; omega
theorem alls_size (n : Nat) (h : ∀ i, i < n → (t i).size = 64) : (alls t n).size = 64 * n := by
  induction n with
  | zero => rfl
  | succ n ih => rw [alls, ByteArray.size_append, ih (fun i hi => h i (by omega)), h n (by omega)]; omega
theorem alls_le (n : Nat) (h : ∀ i, i < n → (t i).size ≤ 500) : (alls t n).size ≤ 500 * n := by
  induction n with
  | zero => exact Nat.zero_le _
  | succ n ih => have := ih (fun i hi => h i (by omega)); have := h n (by omega); rw [alls, ByteArray.size_append]; omega
/-- A record. -/
def rec (q n : Nat) : ByteArray := pad (head a q n n ++ tail (head a q n n ++ alls t n)) ++ alls t n
theorem rsum_size (q n : Nat) (A : ByteArray) : (head a q n n ++ tail (head a q n n ++ A)).size = 12 + 2 * n := by rw [ByteArray.size_append, tail_size, head_size]; omega
theorem rec_eq (q n : Nat) (hn : n ≤ 16) : rec a t q n = head a q n n ++ tail (head a q n n ++ alls t n) ++ zeros (52 - 2 * n) ++ alls t n := by
  have e : lack (12 + 2 * n) = 52 - 2 * n := by unfold lack; omega
  rw [rec, pad, rsum_size, e]
theorem rec_size (q n : Nat) (hn : n ≤ 16) (h : ∀ i, i < n → (t i).size = 64) : (rec a t q n).size = 64 * (n + 1) := by
  rw [rec_eq a t q n hn, ByteArray.size_append, ByteArray.size_append, rsum_size, alls_size t n h, zeros_size]; omega
def rE (q : Int) (n : Nat) : Int := if q < 0 ∨ 281474976710656 ≤ q then 3 else chk a t n
def rS (q : Int) (n : Nat) : ByteArray := if rE a t q n = 0 then rec a t q.toNat n else ⟨#[]⟩
theorem rE_ok {q : Int} {n : Nat} (h : rE a t q n = 0) : (0 ≤ q ∧ q < 281474976710656) ∧ (1 ≤ n ∧ n ≤ 16) ∧ ∀ i, i < n → (0 ≤ a i ∧ a i < 1000) ∧ (t i).size = 64 := by
  unfold rE at h
  split at h
  · omega
  · exact ⟨by omega, chk_ok a t h⟩
theorem rS_yes {q : Int} {n : Nat} (h : rE a t q n = 0) : rS a t q n = rec a t q.toNat n := by rw [rS, if_pos h]
theorem rS_no {q : Int} {n : Nat} (h : rE a t q n ≠ 0) : rS a t q n = ⟨#[]⟩ := by rw [rS, if_neg h]
theorem rS_size {q : Int} {n : Nat} (h : rE a t q n = 0) : (rS a t q n).size = 64 * (n + 1) := by
  obtain ⟨_, h2, h3⟩ := rE_ok a t h
  rw [rS_yes a t h, rec_size a t _ n h2.2 (fun i hi => (h3 i hi).2)]
variable {a b t u}
theorem head_congr {n : Nat} (q m : Nat) (h : ∀ i, i < n → a i = b i) : head a q m n = head b q m n := by
  induction n with
  | zero => rfl
  | succ n ih => rw [head, head, ih (fun i hi => h i (by omega)), h n (by omega)]
theorem alls_congr {n : Nat} (h : ∀ i, i < n → t i = u i) : alls t n = alls u n := by
  induction n with
  | zero => rfl
  | succ n ih => rw [alls, alls, ih (fun i hi => h i (by omega)), h n (by omega)]
theorem twice_congr {i : Nat} (h : ∀ k, k ≤ i → a k = b k) : twice a i = twice b i := by
  rw [Bool.eq_iff_iff, twice_iff, twice_iff]
  constructor
  · rintro ⟨k, hk, e⟩; exact ⟨k, hk, by rw [← h k (by omega), ← h i (by omega)]; exact e⟩
  · rintro ⟨k, hk, e⟩; exact ⟨k, hk, by rw [h k (by omega), h i (by omega)]; exact e⟩
theorem firstE_congr {n : Nat} (h : ∀ i, i < n → a i = b i) (h' : ∀ i, i < n → t i = u i) : firstE a t n = firstE b u n := by
  induction n with
  | zero => rfl
  | succ n ih =>
    have e : secE a t n = secE b u n := by rw [secE, secE, h n (by omega), h' n (by omega), twice_congr (fun k hk => h k (by omega))]
    rw [firstE, firstE, ih (fun i hi => h i (by omega)) (fun i hi => h' i (by omega)), e]
theorem rE_congr {n : Nat} (q : Int) (h : ∀ i, i < n → a i = b i) (h' : ∀ i, i < n → t i = u i) : rE a t q n = rE b u q n := by
  rw [rE, rE, chk, chk, firstE_congr h h']
theorem rec_congr {n : Nat} (q : Nat) (h : ∀ i, i < n → a i = b i) (h' : ∀ i, i < n → t i = u i) : rec a t q n = rec b u q n := by
  rw [rec, rec, head_congr q n h, alls_congr h']
theorem rS_congr {n : Nat} (q : Int) (h : ∀ i, i < n → a i = b i) (h' : ∀ i, i < n → t i = u i) : rS a t q n = rS b u q n := by
  rw [rS, rS, rE_congr q h h', rec_congr _ h h']
theorem head_split (q n : Nat) {i k : Nat} (h : i < k) : ∃ r, head a q n k = head a q n i ++ bytes (a i).toNat 2 ++ r := by
  induction k with
  | zero => omega
  | succ k ih =>
    by_cases e : i = k
    · exact ⟨⟨#[]⟩, by rw [app_nil, head, e]⟩
    · obtain ⟨r, hr⟩ := ih (by omega)
      exact ⟨r ++ bytes (a k).toNat 2, by rw [head, hr, ByteArray.append_assoc]⟩
theorem alls_split {i k : Nat} (h : i < k) : ∃ r, alls t k = alls t i ++ t i ++ r := by
  induction k with
  | zero => omega
  | succ k ih =>
    by_cases e : i = k
    · exact ⟨⟨#[]⟩, by rw [app_nil, alls, e]⟩
    · obtain ⟨r, hr⟩ := ih (by omega)
      exact ⟨r ++ t k, by rw [alls, hr, ByteArray.append_assoc]⟩
theorem head_start (q n k : Nat) : ∃ r, head a q n k = (⟨#[82]⟩ : ByteArray) ++ bytes q 6 ++ bytes n 1 ++ r := by
  induction k with
  | zero => exact ⟨⟨#[]⟩, by rw [app_nil, head]⟩
  | succ k ih =>
    obtain ⟨r, hr⟩ := ih
    exact ⟨r ++ bytes (a k).toNat 2, by rw [head, hr, ByteArray.append_assoc]⟩
end

/-- What a record says: the places, the texts, how many, the number. -/
def gA (s : ByteArray) (i : Nat) : Int := hnum s (8 + 2 * i) (10 + 2 * i)
def gT (s : ByteArray) (i : Nat) : ByteArray := s.extract (64 + 64 * i) (128 + 64 * i)
def gN (s : ByteArray) : Nat := s.size / 64 - 1
def gQ (s : ByteArray) : Int := hnum s 1 7
def getE (s : ByteArray) : Int :=
  if s.size = 0 ∨ s.size % 64 ≠ 0 then 12
  else if s.extract 0 1 ≠ ⟨#[82]⟩ ∨ hnum s 7 8 ≠ (gN s : Int) ∨ gN s < 1 ∨ 16 < gN s then 4
  else if s.extract (8 + 2 * gN s) (12 + 2 * gN s) ≠ tail (s.extract 0 (8 + 2 * gN s) ++ s.extract 64 s.size) then 5
  else if rE (gA s) (gT s) (gQ s) (gN s) ≠ 0 ∨ rS (gA s) (gT s) (gQ s) (gN s) ≠ s then 4 else 0
def getN (s : ByteArray) : Nat := if getE s = 0 then gN s else 0
def getQ (s : ByteArray) : Int := if getE s = 0 then gQ s else 0
/-- Does a sector begin as a record's first one does, and how many does it tell? -/
def begins (s : ByteArray) : Prop := s.extract 0 1 = ⟨#[82]⟩ ∧ 1 ≤ hnum s 7 8 ∧ hnum s 7 8 ≤ 16
instance (s : ByteArray) : Decidable (begins s) := by unfold begins; infer_instance
def szE (s : ByteArray) (q : Int) : Int := if s.size ≠ 64 then 12 else if begins s ∧ gQ s = q then 0 else 8
def szN (s : ByteArray) (q : Int) : Int := if szE s q = 0 then 1 + hnum s 7 8 else 0

theorem hnum_be11 (s p m q : ByteArray) (i j n z : Nat) (e : s = p ++ m ++ q) (hi : i = p.size) (hj : j = p.size + m.size) (hm : m = bytes n z) (hn : n < 256 ^ z) : hnum s i j = n := by
  rw [hnum, ex_mid s p m q i j e hi hj, hm, bytes]
  show ((num (be n z) : Nat) : Int) = n
  rw [num_be z n hn]
section
variable {a : Nat → Int} {t : Nat → ByteArray} {q n : Nat}
/-- What stands where in a record. -/
theorem rec_parts (hq : q < 281474976710656) (hn : n ≤ 16) (h : ∀ i, i < n → (0 ≤ a i ∧ a i < 1000) ∧ (t i).size = 64) :
    (rec a t q n).extract 0 1 = ⟨#[82]⟩ ∧ hnum (rec a t q n) 1 7 = q ∧ hnum (rec a t q n) 7 8 = n ∧ (∀ i, i < n → gA (rec a t q n) i = a i) ∧ (∀ i, i < n → gT (rec a t q n) i = t i)
    ∧ (rec a t q n).extract 0 (8 + 2 * n) = head a q n n ∧ (rec a t q n).extract (8 + 2 * n) (12 + 2 * n) = tail (head a q n n ++ alls t n) ∧ (rec a t q n).extract 64 (rec a t q n).size = alls t n
    ∧ (rec a t q n).extract (12 + 2 * n) 64 = zeros (52 - 2 * n) := by
  have hs := rec_size a t q n hn (fun i hi => (h i hi).2)
  have E := rec_eq a t q n hn
  obtain ⟨S, hS⟩ : ∃ S, S = rec a t q n := ⟨_, rfl⟩
  obtain ⟨T, hT⟩ : ∃ T, T = tail (head a q n n ++ alls t n) := ⟨_, rfl⟩
  have hTs : T.size = 4 := by rw [hT, tail_size]
  have hh := head_size a q n n
  have hz := zeros_size (52 - 2 * n)
  have hal := alls_size t n (fun i hi => (h i hi).2)
  rw [← hS] at hs E ⊢
  rw [← hT] at E ⊢
  obtain ⟨r, hr⟩ := head_start (a := a) q n n
  have E1 : S = (⟨#[82]⟩ : ByteArray) ++ bytes q 6 ++ bytes n 1 ++ (r ++ T ++ zeros (52 - 2 * n) ++ alls t n) := by rw [E, hr]; simp only [ByteArray.append_assoc]
  refine ⟨?_, ?_, ?_, fun i hi => ?_, fun i hi => ?_, ?_, ?_, ?_, ?_⟩
  · exact ex_mid S ⟨#[]⟩ ⟨#[82]⟩ (bytes q 6 ++ bytes n 1 ++ (r ++ T ++ zeros (52 - 2 * n) ++ alls t n)) 0 1 (by rw [E1, nil_app]; simp only [ByteArray.append_assoc]) rfl rfl
  · exact hnum_be11 S ⟨#[82]⟩ (bytes q 6) (bytes n 1 ++ (r ++ T ++ zeros (52 - 2 * n) ++ alls t n)) 1 7 q 6 (by rw [E1]; simp only [ByteArray.append_assoc]) rfl (by rw [bytes_size, R_size]) rfl (by omega)
  · exact hnum_be11 S (⟨#[82]⟩ ++ bytes q 6) (bytes n 1) (r ++ T ++ zeros (52 - 2 * n) ++ alls t n) 7 8 n 1 E1 (by rw [ByteArray.size_append, bytes_size, R_size]) (by rw [ByteArray.size_append, bytes_size, bytes_size, R_size]) rfl (by omega)
  · obtain ⟨r2, hr2⟩ := head_split (a := a) q n hi
    have hai := (h i hi).1
    have := hnum_be11 S (head a q n i) (bytes (a i).toNat 2) (r2 ++ T ++ zeros (52 - 2 * n) ++ alls t n) (8 + 2 * i) (10 + 2 * i) (a i).toNat 2 (by rw [E, hr2]; simp only [ByteArray.append_assoc]) (by rw [head_size]) (by rw [head_size, bytes_size]; omega) rfl (by omega)
    rw [gA, this]
    omega
  · obtain ⟨r2, hr2⟩ := alls_split (t := t) hi
    have hai := alls_size t i (fun k hk => (h k (by omega)).2)
    exact ex_mid S (head a q n n ++ T ++ zeros (52 - 2 * n) ++ alls t i) (t i) r2 _ _ (by rw [E, hr2]; simp only [ByteArray.append_assoc]) (by simp only [ByteArray.size_append, hh, hTs, hz, hai]; omega) (by simp only [ByteArray.size_append, hh, hTs, hz, hai, (h i hi).2]; omega)
  · exact ex_mid S ⟨#[]⟩ (head a q n n) (T ++ zeros (52 - 2 * n) ++ alls t n) _ _ (by rw [E, nil_app]; simp only [ByteArray.append_assoc]) rfl (by rw [hh]; show _ = 0 + _; omega)
  · exact ex_mid S (head a q n n) T (zeros (52 - 2 * n) ++ alls t n) _ _ (by rw [E]; simp only [ByteArray.append_assoc]) (by rw [hh]) (by rw [hh, hTs]; omega)
  · exact ex_mid S (head a q n n ++ T ++ zeros (52 - 2 * n)) (alls t n) ⟨#[]⟩ _ _ (by rw [app_nil]; exact E) (by simp only [ByteArray.size_append, hh, hTs, hz]; omega) (by simp only [ByteArray.size_append, hh, hTs, hz, hs, hal]; omega)
  · exact ex_mid S (head a q n n ++ T) (zeros (52 - 2 * n)) (alls t n) _ _ E (by simp only [ByteArray.size_append, hh, hTs]; omega) (by simp only [ByteArray.size_append, hh, hTs, hz]; omega)
theorem get_rec (Q : Int) (h : rE a t Q n = 0) : getE (rec a t Q.toNat n) = 0 ∧ gN (rec a t Q.toNat n) = n ∧ gQ (rec a t Q.toNat n) = Q ∧ (∀ i, i < n → gA (rec a t Q.toNat n) i = a i) ∧ (∀ i, i < n → gT (rec a t Q.toNat n) i = t i) := by
  obtain ⟨h1, h2, h3⟩ := rE_ok a t h
  have hs := rec_size a t Q.toNat n h2.2 (fun i hi => (h3 i hi).2)
  obtain ⟨p1, p2, p3, p4, p5, p6, p7, p8, _⟩ := rec_parts (a := a) (t := t) (q := Q.toNat) (n := n) (by omega) h2.2 h3
  have hrs := rS_yes a t h
  obtain ⟨S, hS⟩ : ∃ S, S = rec a t Q.toNat n := ⟨_, rfl⟩
  rw [← hS] at hs p1 p2 p3 p4 p5 p6 p7 p8 hrs ⊢
  have eN : gN S = n := by rw [gN, hs]; omega
  have eQ : gQ S = Q := by rw [gQ, p2]; omega
  refine ⟨?_, eN, eQ, p4, p5⟩
  unfold getE
  rw [eN, eQ, if_neg (by omega), if_neg (by rw [p1, p3]; simp; omega), if_neg (by rw [p7, p6, p8]; simp), rE_congr Q p4 p5, rS_congr Q p4 p5, if_neg (by rw [h, hrs]; simp)]
theorem get_ok {s : ByteArray} (h : getE s = 0) : rE (gA s) (gT s) (gQ s) (gN s) = 0 ∧ s = rec (gA s) (gT s) (gQ s).toNat (gN s) := by
  unfold getE at h
  repeat' split at h
  all_goals (first | (exact absurd h (by decide)) | skip)
  rename_i h1 h2 h3 h4
  have e1 : rE (gA s) (gT s) (gQ s) (gN s) = 0 := Classical.byContradiction fun hx => h4 (Or.inl hx)
  have e2 : rS (gA s) (gT s) (gQ s) (gN s) = s := Classical.byContradiction fun hx => h4 (Or.inr hx)
  rw [rS_yes _ _ e1] at e2
  exact ⟨e1, e2.symm⟩
/-- The first sector tells how many there are. -/
theorem size_rec (Q : Int) (h : rE a t Q n = 0) : szE ((rec a t Q.toNat n).extract 0 64) Q = 0 ∧ szN ((rec a t Q.toNat n).extract 0 64) Q = n + 1 := by
  obtain ⟨h1, h2, h3⟩ := rE_ok a t h
  have hs := rec_size a t Q.toNat n h2.2 (fun i hi => (h3 i hi).2)
  obtain ⟨p1, p2, p3, _⟩ := rec_parts (a := a) (t := t) (q := Q.toNat) (n := n) (by omega) h2.2 h3
  obtain ⟨S, hS⟩ : ∃ S, S = rec a t Q.toNat n := ⟨_, rfl⟩
  rw [← hS] at hs p1 p2 p3 ⊢
  have x : ∀ i j, j ≤ 64 → (S.extract 0 64).extract i j = S.extract i j := fun i j hj => by
    rw [ByteArray.extract_extract]
    congr 1 <;> omega
  have e1 : hnum (S.extract 0 64) 1 7 = Q := by rw [hnum, x 1 7 (by omega)]; rw [hnum] at p2; rw [p2]; omega
  have e2 : hnum (S.extract 0 64) 7 8 = n := by rw [hnum, x 7 8 (by omega)]; exact p3
  have hz : szE (S.extract 0 64) Q = 0 := by
    unfold szE
    rw [if_neg (by rw [ByteArray.size_extract]; omega), if_pos ⟨⟨by rw [x 0 1 (by omega)]; exact p1, by rw [e2]; omega, by rw [e2]; omega⟩, e1⟩]
  refine ⟨hz, ?_⟩
  rw [szN, if_pos hz, e2]
  omega
end
end Go.Proofs.Ytnjlkjphkimapaa.M
