/-
  Plain mathematics for layer 2 (field): a number's bytes, highest ahead; the number that bytes are; what a reader's state comes to. No program in this text.
-/
import Derived.Laws.RangeAny
namespace Go.Proofs.Ytoljggleekbbbaa.M

/-- n's bytes, size of them, the highest ahead. -/
def be : Nat → Nat → List UInt8
  | _, 0 => []
  | n, s + 1 => be (n / 256) s ++ [UInt8.ofNat (n % 256)]
/-- The number that bytes are. -/
def num (l : List UInt8) : Nat := l.foldl (fun a c => 256 * a + c.toNat) 0

theorem num_snoc (l : List UInt8) (c : UInt8) : num (l ++ [c]) = 256 * num l + c.toNat := by simp [num]
theorem num_nil : num [] = 0 := rfl
theorem be_len : ∀ (s n : Nat), (be n s).length = s
  | 0, _ => rfl
  | s + 1, n => by simp [be, be_len s]
theorem num_be : ∀ (s n : Nat), n < 256 ^ s → num (be n s) = n
  | 0, n, h => by simp at h; subst h; rfl
  | s + 1, n, h => by
    rw [be, num_snoc, num_be s (n / 256) (by rw [Nat.pow_succ] at h; omega)]
    simp
    omega
theorem num_lt : ∀ (k : Nat) (l : List UInt8), l.length = k → num l < 256 ^ k
  | 0, l, h => by rw [List.eq_nil_of_length_eq_zero h]; simp [num]
  | k + 1, l, h => by
    have hne : l ≠ [] := by intro e; subst e; simp at h
    obtain ⟨d, c, rfl⟩ : ∃ d c, l = d ++ [c] := ⟨l.dropLast, l.getLast hne, (List.dropLast_concat_getLast hne).symm⟩
    rw [num_snoc, Nat.pow_succ]
    have := num_lt k d (by simpa using h)
    have := c.toNat_lt
    omega
theorem be_step (n s : Nat) (t : List UInt8) : be n (s + 1) ++ t = be (n / 256) s ++ (UInt8.ofNat (n % 256) :: t) := by simp [be]

theorem shl_or (a c : Nat) (h : c < 256) : (a * 256) ||| c = 256 * a + c := by
  have := Nat.shiftLeft_add_eq_or_of_lt (i := 8) (b := c) (by simpa using h) a
  rw [Nat.shiftLeft_eq] at this
  have e : a * 2 ^ 8 = a * 256 := rfl
  rw [e] at this
  omega

/-- Whether a number has so many bytes. -/
def fitsB (n size : Int) : Bool := decide (1 ≤ size ∧ size ≤ 7 ∧ 0 ≤ n ∧ n < 256 ^ size.toNat)
def sizeB (size : Int) : Bool := decide (1 ≤ size ∧ size ≤ 7)

/-- A reader's state: how many bytes are read, and what it has failed with. -/
structure St where
  k : Nat
  e : Int
def St.ok (s : ByteArray) (t : St) : Prop := t.k ≤ s.size
/-- What Bytes answers. -/
def outB (s : ByteArray) (t : St) (n : Int) : ByteArray :=
  if t.e = 0 ∧ 0 ≤ n ∧ n ≤ (s.size : Int) - t.k then s.extract t.k (t.k + n.toNat) else ⟨#[]⟩
/-- What becomes of the state at Bytes. -/
def stB (s : ByteArray) (t : St) (n : Int) : St :=
  if t.e ≠ 0 then t else if n < 0 then ⟨t.k, 3⟩ else if (s.size : Int) - t.k < n then ⟨t.k, 1⟩ else ⟨t.k + n.toNat, 0⟩
/-- What Num answers. -/
def outN (s : ByteArray) (t : St) (n : Int) : Int := if 1 ≤ n ∧ n ≤ 7 then (num (outB s t n).data.toList : Int) else 0
/-- What becomes of the state at Num. -/
def stN (s : ByteArray) (t : St) (n : Int) : St := if 1 ≤ n ∧ n ≤ 7 then stB s t n else if t.e ≠ 0 then t else ⟨t.k, 3⟩
def left (s : ByteArray) (t : St) : Int := (s.size : Int) - t.k
def endE (s : ByteArray) (t : St) : Int := if t.e ≠ 0 then t.e else if t.k < s.size then 2 else 0

theorem stB_ok {s : ByteArray} {t : St} (h : t.ok s) (n : Int) : (stB s t n).ok s := by
  unfold St.ok at h ⊢
  unfold stB
  repeat' split
  all_goals (first | exact h | (show _ + _ ≤ _; omega))
theorem stN_ok {s : ByteArray} {t : St} (h : t.ok s) (n : Int) : (stN s t n).ok s := by
  unfold stN
  split
  · exact stB_ok h n
  · split <;> exact h

theorem ext_ext (s : ByteArray) (k n : Nat) (_h : k + n ≤ s.size) : (s.extract k s.size).extract 0 n = s.extract k (k + n) := by
  rw [ByteArray.extract_extract]
  simp only [Nat.add_zero]
  congr 1
  omega
theorem ext_rest (s : ByteArray) (k n : Nat) (_h : k + n ≤ s.size) : (s.extract k s.size).extract n (s.extract k s.size).size = s.extract (k + n) s.size := by
  rw [ByteArray.extract_extract, ByteArray.size_extract]
  congr 1
  omega
theorem ext_size (s : ByteArray) (k : Nat) (_h : k ≤ s.size) : (s.extract k s.size).size = s.size - k := by
  rw [ByteArray.size_extract]
  omega
theorem ext_all (s : ByteArray) : s.extract 0 s.size = s := by
  apply ByteArray.ext
  simp
end Go.Proofs.Ytoljggleekbbbaa.M
namespace Go.Proofs.Ytoljggleekbbbaa
theorem M.out_mid (S p m q : ByteArray) (n : Int) (e : S = p ++ m ++ q) (k : Nat) (hk : k = p.size) (hn : n = (m.size : Int)) : M.outB S ⟨k, 0⟩ n = m ∧ M.stB S ⟨k, 0⟩ n = ⟨k + m.size, 0⟩ := by
  subst hk hn e
  have hz : (p ++ m ++ q).size = p.size + m.size + q.size := by simp [ByteArray.size_append]
  constructor
  · rw [M.outB, if_pos ⟨rfl, by omega, by simp only [hz]; omega⟩]
    apply ByteArray.ext
    simp only [ByteArray.data_extract, ByteArray.data_append, Int.toNat_natCast]
    apply Array.ext'
    have h1 : p.size = p.data.toList.length := rfl
    have h2 : m.size = m.data.toList.length := rfl
    rw [Array.toList_extract, List.extract_eq_take_drop, Nat.add_sub_cancel_left, Array.toList_append, Array.toList_append, List.append_assoc, h1, h2, List.drop_left, List.take_left]
  · rw [M.stB, if_neg (by simp), if_neg (by omega), if_neg (by simp only [hz]; omega)]
    simp only [Int.toNat_natCast]
theorem M.num_mid (S p m q : ByteArray) (n : Int) (a z : Nat) (e : S = p ++ m ++ q) (k : Nat) (hk : k = p.size) (hm : m = ⟨(M.be a z).toArray⟩) (hn : n = (z : Int)) (h1 : 1 ≤ z) (h7 : z ≤ 7) (ha : a < 256 ^ z) : M.outN S ⟨k, 0⟩ n = a ∧ M.stN S ⟨k, 0⟩ n = ⟨k + z, 0⟩ := by
  have hs : m.size = z := by rw [hm]; show (M.be a z).toArray.size = z; simp [M.be_len]
  obtain ⟨o1, o2⟩ := M.out_mid S p m q n e k hk (by rw [hs]; exact hn)
  subst hn
  constructor
  · rw [M.outN, if_pos (by omega), o1, hm]
    rw [M.num_be z a ha]
  · rw [M.stN, if_pos (by omega), o2, hs]
end Go.Proofs.Ytoljggleekbbbaa
