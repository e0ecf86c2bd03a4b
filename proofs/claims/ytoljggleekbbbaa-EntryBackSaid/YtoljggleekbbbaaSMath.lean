/-
  Plain mathematics for layer 4 (seal): bytes of a kind with their tail behind; what stands in any bytes; that each of both turns the other one back. No program in this text.
-/
import Derived.Test.YtoljggleekbbbaaFMath
import Derived.Test.YtoljggleekbbbaaCMath
namespace Go.Proofs.Ytoljggleekbbbaa.M

theorem ba_ext {a b : ByteArray} (h : a.data.toList = b.data.toList) : a = b := ByteArray.ext (Array.ext' h)
theorem app_list (a b : ByteArray) : (a ++ b).data.toList = a.data.toList ++ b.data.toList := by rw [ByteArray.data_append, Array.toList_append]
theorem ex_list (s : ByteArray) (i j : Nat) : (s.extract i j).data.toList = (s.data.toList.drop i).take (j - i) := by
  rw [ByteArray.data_extract, Array.toList_extract, List.extract_eq_take_drop]
theorem size_list (s : ByteArray) : s.data.toList.length = s.size := rfl
theorem mk_size (l : List UInt8) : (⟨l.toArray⟩ : ByteArray).size = l.length := by show l.toArray.size = _; simp
theorem ex_mid (s p m q : ByteArray) (i j : Nat) (e : s = p ++ m ++ q) (hi : i = p.size) (hj : j = p.size + m.size) : s.extract i j = m := by
  apply ba_ext
  rw [ex_list, e, app_list, app_list, hi, hj, Nat.add_sub_cancel_left, List.append_assoc, ← size_list p, List.drop_left, ← size_list m, List.take_left]
theorem ex_cut (s : ByteArray) (i j k : Nat) (h1 : i ≤ j) (h2 : j ≤ k) : s.extract i j ++ s.extract j k = s.extract i k := by
  apply ba_ext
  rw [app_list, ex_list, ex_list, ex_list]
  have e : k - i = (j - i) + (k - j) := by omega
  have e2 : i + (j - i) = j := by omega
  rw [e, List.take_add, List.drop_drop, e2]
theorem nil_app (x : ByteArray) : (⟨#[]⟩ : ByteArray) ++ x = x := ba_ext (by rw [app_list]; rfl)
theorem app_nil (x : ByteArray) : x ++ (⟨#[]⟩ : ByteArray) = x := ba_ext (by rw [app_list]; simp)
theorem of_size0 {x : ByteArray} (h : x.size = 0) : x = ⟨#[]⟩ := ByteArray.ext (Array.eq_empty_of_size_eq_zero h)
theorem be_num : ∀ (k : Nat) (l : List UInt8), l.length = k → be (num l) k = l
  | 0, l, h => by rw [List.eq_nil_of_length_eq_zero h]; rfl
  | k + 1, l, h => by
    have hne : l ≠ [] := by intro e; subst e; simp at h
    obtain ⟨d, c, rfl⟩ : ∃ d c, l = d ++ [c] := ⟨l.dropLast, l.getLast hne, (List.dropLast_concat_getLast hne).symm⟩
    have := c.toNat_lt
    rw [num_snoc, be]
    have e1 : (256 * num d + c.toNat) / 256 = num d := by omega
    have e2 : (256 * num d + c.toNat) % 256 = c.toNat := by omega
    rw [e1, e2, be_num k d (by simpa using h)]
    simp

/-- The sum of bytes as bytes. -/
def tail (h : ByteArray) : ByteArray := ⟨(tl (of h.data.toList)).toArray⟩
theorem tail_size (h : ByteArray) : (tail h).size = 4 := by rw [tail, mk_size, tl_len]
def bytes (n z : Nat) : ByteArray := ⟨(be n z).toArray⟩
theorem bytes_size (n z : Nat) : (bytes n z).size = z := by rw [bytes, mk_size, be_len]
/-- The kind, how many bytes the body has, the body. -/
def front (k : Nat) (b : ByteArray) : ByteArray := bytes k 1 ++ bytes b.size 2 ++ b
theorem front_size (k : Nat) (b : ByteArray) : (front k b).size = 3 + b.size := by rw [front, ByteArray.size_append, ByteArray.size_append, bytes_size, bytes_size]
/-- All of it. -/
def whole (k : Nat) (b : ByteArray) : ByteArray := front k b ++ tail (front k b)
theorem whole_size (k : Nat) (b : ByteArray) : (whole k b).size = 7 + b.size := by rw [whole, ByteArray.size_append, front_size, tail_size]; omega
theorem whole_of (k : Nat) (b : ByteArray) : of (whole k b).data.toList = 558161692 := by
  rw [whole, app_list]
  exact of_tail _

/-- What Put answers. -/
def putB (k : Int) (b : ByteArray) : ByteArray := if k < 0 ∨ 255 < k then ⟨#[]⟩ else if 600 < b.size then ⟨#[]⟩ else whole k.toNat b
def putE (k : Int) (b : ByteArray) : Int := if k < 0 ∨ 255 < k then 7 else if 600 < b.size then 11 else 0

/-- What is got: the kind, the body, what stands behind, what is wrong. -/
structure Got where
  k : Nat
  b : ByteArray
  r : ByteArray
  e : Int
def no (e : Int) : Got := ⟨0, ⟨#[]⟩, ⟨#[]⟩, e⟩
/-- How long a body is told. -/
def told (s : ByteArray) : Nat := num (s.extract 1 3).data.toList
/-- What First answers. -/
def first (s : ByteArray) : Got :=
  if s.size < 7 then no 1 else if 600 < told s then no 11 else if s.size < 7 + told s then no 1
  else if s.extract (3 + told s) (7 + told s) = tail (s.extract 0 (3 + told s)) then ⟨num (s.extract 0 1).data.toList, s.extract 3 (3 + told s), s.extract (7 + told s) s.size, 0⟩
  else no 5
/-- What Get answers. -/
def get (s : ByteArray) : Got := if (first s).e ≠ 0 then no (first s).e else if (first s).r.size ≠ 0 then no 2 else ⟨(first s).k, (first s).b, ⟨#[]⟩, 0⟩

theorem first_whole (k : Nat) (b r : ByteArray) (hk : k < 256) (hb : b.size ≤ 600) : first (whole k b ++ r) = ⟨k, b, r, 0⟩ := by
  obtain ⟨s, hs⟩ : ∃ s, s = whole k b ++ r := ⟨_, rfl⟩
  rw [← hs]
  have hz : s.size = 7 + b.size + r.size := by rw [hs, ByteArray.size_append, whole_size]
  have x1 : s.extract 0 1 = bytes k 1 := ex_mid s ⟨#[]⟩ (bytes k 1) (bytes b.size 2 ++ b ++ tail (front k b) ++ r) 0 1 (by rw [hs, whole, front, nil_app]; simp only [ByteArray.append_assoc]) rfl (by rw [bytes_size]; rfl)
  have x2 : s.extract 1 3 = bytes b.size 2 := ex_mid s (bytes k 1) (bytes b.size 2) (b ++ tail (front k b) ++ r) 1 3 (by rw [hs, whole, front]; simp only [ByteArray.append_assoc]) (by rw [bytes_size]) (by rw [bytes_size, bytes_size])
  have t : told s = b.size := by rw [told, x2, bytes]; exact num_be 2 b.size (by omega)
  have x3 : s.extract 3 (3 + b.size) = b := ex_mid s (bytes k 1 ++ bytes b.size 2) b (tail (front k b) ++ r) 3 (3 + b.size) (by rw [hs, whole, front]; simp only [ByteArray.append_assoc]) (by rw [ByteArray.size_append, bytes_size, bytes_size]) (by rw [ByteArray.size_append, bytes_size, bytes_size])
  have x4 : s.extract 0 (3 + b.size) = front k b := ex_mid s ⟨#[]⟩ (front k b) (tail (front k b) ++ r) 0 _ (by rw [hs, whole, nil_app]; simp only [ByteArray.append_assoc]) rfl (by rw [front_size]; show _ = 0 + _; omega)
  have x5 : s.extract (3 + b.size) (7 + b.size) = tail (front k b) := ex_mid s (front k b) (tail (front k b)) r _ _ (by rw [hs, whole]) (by rw [front_size]) (by rw [front_size, tail_size]; omega)
  have x6 : s.extract (7 + b.size) s.size = r := ex_mid s (whole k b) r ⟨#[]⟩ _ _ (by rw [hs, app_nil]) (by rw [whole_size]) (by rw [whole_size, hz])
  unfold first
  rw [t, x4, x5, x3, x6, x1, if_neg (by omega), if_neg (by omega), if_neg (by omega), if_pos rfl, bytes]
  show Got.mk (num (be k 1)) _ _ _ = _
  rw [num_be 1 k (by omega)]
theorem first_back (s : ByteArray) (h : (first s).e = 0) : (first s).k < 256 ∧ (first s).b.size ≤ 600 ∧ s = whole (first s).k (first s).b ++ (first s).r := by
  unfold first at h ⊢
  split at h
  · cases h
  · split at h
    · cases h
    · split at h
      · cases h
      · split at h
        · rename_i h1 h2 h3 h4
          rw [if_neg h1, if_neg h2, if_neg h3, if_pos h4]
          obtain ⟨n, hn⟩ : ∃ n, n = told s := ⟨_, rfl⟩
          have z1 : (s.extract 0 1).size = 1 := by rw [ByteArray.size_extract]; omega
          have z2 : (s.extract 1 3).size = 2 := by rw [ByteArray.size_extract]; omega
          have z3 : (s.extract 3 (3 + n)).size = n := by rw [ByteArray.size_extract]; omega
          rw [← hn] at h2 h3 h4 ⊢
          refine ⟨num_lt 1 _ z1, by show (s.extract 3 (3 + n)).size ≤ 600; omega, ?_⟩
          show s = whole (num (s.extract 0 1).data.toList) (s.extract 3 (3 + n)) ++ s.extract (7 + n) s.size
          have e1 : bytes (num (s.extract 0 1).data.toList) 1 = s.extract 0 1 := ba_ext (by rw [bytes]; exact be_num 1 _ z1)
          have e2 : bytes n 2 = s.extract 1 3 := ba_ext (by rw [bytes, hn, told]; exact be_num 2 _ z2)
          have e3 : front (num (s.extract 0 1).data.toList) (s.extract 3 (3 + n)) = s.extract 0 (3 + n) := by
            rw [front, z3, e1, e2, ex_cut s 0 1 3 (by omega) (by omega), ex_cut s 0 3 (3 + n) (by omega) (by omega)]
          rw [whole, e3, ← h4, ex_cut s 0 (3 + n) (7 + n) (by omega) (by omega), ex_cut s 0 (7 + n) s.size (by omega) (by omega), ext_all]
        · cases h

theorem get_whole (k : Nat) (b : ByteArray) (hk : k < 256) (hb : b.size ≤ 600) : get (whole k b) = ⟨k, b, ⟨#[]⟩, 0⟩ := by
  have h := first_whole k b ⟨#[]⟩ hk hb
  rw [app_nil] at h
  unfold get
  rw [h]
  rfl
theorem get_more (k : Nat) (b r : ByteArray) (hk : k < 256) (hb : b.size ≤ 600) (hr : r.size ≠ 0) : get (whole k b ++ r) = no 2 := by
  unfold get
  rw [first_whole k b r hk hb]
  show (if (0 : Int) ≠ 0 then _ else if r.size ≠ 0 then no 2 else _) = _
  rw [if_neg (by simp), if_pos hr]
theorem get_back (s : ByteArray) (h : (get s).e = 0) : (get s).k < 256 ∧ (get s).b.size ≤ 600 ∧ s = whole (get s).k (get s).b := by
  unfold get at h ⊢
  split at h
  · rename_i h1
    exact absurd h h1
  · split at h
    · cases h
    · rename_i h1 h2
      rw [if_neg h1, if_neg h2]
      obtain ⟨a, b, c⟩ := first_back s (by simpa using h1)
      refine ⟨a, b, ?_⟩
      rw [of_size0 (by simpa using h2 : (first s).r.size = 0), app_nil] at c
      exact c
theorem get_no (s : ByteArray) (h : (get s).e ≠ 0) : (get s).k = 0 ∧ (get s).b = ⟨#[]⟩ := by
  unfold get at h ⊢
  split at h
  · rename_i h1; rw [if_pos h1]; exact ⟨rfl, rfl⟩
  · split at h
    · rename_i h1 h2; rw [if_neg h1, if_pos h2]; exact ⟨rfl, rfl⟩
    · exact absurd rfl h
theorem get_less (k : Nat) (b : ByteArray) (hk : k < 256) (hb : b.size ≤ 600) (j : Nat) (hj : j < (whole k b).size) : (get ((whole k b).extract 0 j)).e ≠ 0 := by
  intro h
  obtain ⟨h1, h2, h3⟩ := get_back _ h
  have hc := ex_cut (whole k b) 0 j (whole k b).size (by omega) (by omega)
  rw [ext_all] at hc
  have f1 := first_whole k b ⟨#[]⟩ hk hb
  rw [app_nil, ← hc, h3, first_whole _ _ _ h1 h2] at f1
  have e := congrArg (fun g => g.r.size) f1
  have e : ((whole k b).extract j (whole k b).size).size = 0 := e
  rw [ByteArray.size_extract] at e
  omega
theorem putE_ok (k : Int) (b : ByteArray) (h : putE k b = 0) : ∃ n : Nat, k = n ∧ n < 256 ∧ b.size ≤ 600 ∧ putB k b = whole n b := by
  unfold putE at h
  split at h
  · cases h
  · split at h
    · cases h
    · rename_i h1 h2
      refine ⟨k.toNat, by omega, by omega, by omega, ?_⟩
      rw [putB, if_neg h1, if_neg h2]
theorem putE_no (k : Int) (b : ByteArray) (h : putE k b ≠ 0) : putB k b = ⟨#[]⟩ := by
  unfold putE at h
  unfold putB
  split at h
  · rename_i h1; rw [if_pos h1]
  · split at h
    · rename_i h1 h2; rw [if_neg h1, if_pos h2]
    · exact absurd rfl h
theorem put_whole (k : Nat) (b : ByteArray) (hk : k < 256) (hb : b.size ≤ 600) : putE k b = 0 ∧ putB k b = whole k b := by
  constructor
  · rw [putE, if_neg (by omega), if_neg (by omega)]
  · rw [putB, if_neg (by omega), if_neg (by omega), Int.toNat_natCast]
end Go.Proofs.Ytoljggleekbbbaa.M
