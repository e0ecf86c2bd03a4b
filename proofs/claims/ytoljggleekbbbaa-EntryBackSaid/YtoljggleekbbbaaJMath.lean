/-
  Plain mathematics for layer 10 (loghead): a head as a sector, the head that a sector says, which of two counts. No program in this text.
-/
import Derived.Test.YtoljggleekbbbaaSMath
import Derived.Test.YtoljggleekbbbaaGPad
import Derived.Test.YtoljggleekbbbaaFPutF
import Derived.Test.YtoljggleekbbbaaRow
import Derived.Test.YtoljggleekbbbaaFRdK
namespace Go.Proofs.Ytoljggleekbbbaa.M

/-- Where a log begins. -/
structure Hd where
  g : Int
  q : Int
  a : Int
def hmay (h : Hd) : Bool := fitsB h.g 6 && (fitsB h.q 6 && (decide (0 ≤ h.a) && decide (h.a ≤ 200)))
theorem fits6 (n : Int) : fitsB n 6 = true ↔ 0 ≤ n ∧ n < 281474976710656 := by
  unfold fitsB
  simp only [decide_eq_true_eq]
  have e : (256 : Int) ^ (6 : Int).toNat = 281474976710656 := by decide
  rw [e]
  omega
theorem fits2 (n : Int) : fitsB n 2 = true ↔ 0 ≤ n ∧ n < 65536 := by
  unfold fitsB
  simp only [decide_eq_true_eq]
  have e : (256 : Int) ^ (2 : Int).toNat = 65536 := by decide
  rw [e]
  omega
theorem hmay_iff (h : Hd) : hmay h = true ↔ (0 ≤ h.g ∧ h.g < 281474976710656) ∧ (0 ≤ h.q ∧ h.q < 281474976710656) ∧ 0 ≤ h.a ∧ h.a ≤ 200 := by
  unfold hmay
  rw [Bool.and_eq_true, Bool.and_eq_true, Bool.and_eq_true, fits6, fits6, decide_eq_true_eq, decide_eq_true_eq]
/-- All ahead of the sum. -/
def hfront (h : Hd) : ByteArray := (((⟨#[76]⟩ : ByteArray) ++ bytes h.g.toNat 6) ++ bytes h.q.toNat 6) ++ bytes h.a.toNat 2
theorem L_size : (⟨#[76]⟩ : ByteArray).size = 1 := rfl
theorem hfront_size (h : Hd) : (hfront h).size = 15 := by simp only [hfront, ByteArray.size_append, bytes_size, L_size]
/-- A head as a sector. -/
def hwhole (h : Hd) : ByteArray := pad (hfront h ++ tail (hfront h))
theorem hsum_size (h : Hd) : (hfront h ++ tail (hfront h)).size = 19 := by rw [ByteArray.size_append, hfront_size, tail_size]
theorem hwhole_size (h : Hd) : (hwhole h).size = 64 := by rw [hwhole, pad_size, hsum_size]; decide
theorem hwhole_eq (h : Hd) : hwhole h = (hfront h ++ tail (hfront h)) ++ zeros 45 := by rw [hwhole, pad, hsum_size]; rfl
theorem putS_yes {s : ByteArray} {n z : Int} (h : fitsB n z = true) : putS s n z = s ++ bytes n.toNat z.toNat := by rw [putS, if_pos h]; rfl
theorem hputs (h : Hd) (hm : hmay h = true) : putS (putS (putS (⟨#[76]⟩ : ByteArray) h.g 6) h.q 6) h.a 2 = hfront h := by
  obtain ⟨h1, h2, h3⟩ := (hmay_iff h).1 hm
  rw [putS_yes ((fits6 h.g).2 h1), putS_yes ((fits6 h.q).2 h2), putS_yes ((fits2 h.a).2 (by omega))]
  rfl

def hread (s : ByteArray) : Hd := ⟨hnum s 1 7, hnum s 7 13, hnum s 13 15⟩
def h0 : Hd := ⟨0, 0, 0⟩
/-- The head that a sector says, and what is wrong. -/
def hget (s : ByteArray) : Hd × Int :=
  if s.size ≠ 64 then (h0, 12) else if s.extract 0 1 ≠ ⟨#[76]⟩ then (h0, 4) else if s.extract 15 19 ≠ tail (s.extract 0 15) then (h0, 5)
  else if hmay (hread s) = true ∧ hwhole (hread s) = s then (hread s, 0) else (h0, 4)

theorem hnum_be (s p m q : ByteArray) (i j n z : Nat) (e : s = p ++ m ++ q) (hi : i = p.size) (hj : j = p.size + m.size) (hm : m = bytes n z) (hn : n < 256 ^ z) : hnum s i j = n := by
  rw [hnum, ex_mid s p m q i j e hi hj, hm, bytes]
  show ((num (be n z) : Nat) : Int) = n
  rw [num_be z n hn]
theorem hread_whole (h : Hd) (hm : hmay h = true) : hread (hwhole h) = h := by
  obtain ⟨h1, h2, h3⟩ := (hmay_iff h).1 hm
  obtain ⟨g, q, a⟩ := h
  simp only at h1 h2 h3
  have E := hwhole_eq ⟨g, q, a⟩
  rw [hfront] at E
  simp only at E
  obtain ⟨T, hT⟩ : ∃ T, T = tail (((⟨#[76]⟩ : ByteArray) ++ bytes g.toNat 6 ++ bytes q.toNat 6) ++ bytes a.toNat 2) := ⟨_, rfl⟩
  rw [← hT] at E
  have x1 := hnum_be (hwhole ⟨g, q, a⟩) ⟨#[76]⟩ (bytes g.toNat 6) (bytes q.toNat 6 ++ bytes a.toNat 2 ++ T ++ zeros 45) 1 7 g.toNat 6 (by rw [E]; simp only [ByteArray.append_assoc]) rfl (by rw [bytes_size, L_size]) rfl (by omega)
  have x2 := hnum_be (hwhole ⟨g, q, a⟩) (⟨#[76]⟩ ++ bytes g.toNat 6) (bytes q.toNat 6) (bytes a.toNat 2 ++ T ++ zeros 45) 7 13 q.toNat 6 (by rw [E]; simp only [ByteArray.append_assoc]) (by rw [ByteArray.size_append, bytes_size, L_size]) (by rw [ByteArray.size_append, bytes_size, bytes_size, L_size]) rfl (by omega)
  have x3 := hnum_be (hwhole ⟨g, q, a⟩) (⟨#[76]⟩ ++ bytes g.toNat 6 ++ bytes q.toNat 6) (bytes a.toNat 2) (T ++ zeros 45) 13 15 a.toNat 2 (by rw [E]; simp only [ByteArray.append_assoc]) (by rw [ByteArray.size_append, ByteArray.size_append, bytes_size, bytes_size, L_size]) (by rw [ByteArray.size_append, ByteArray.size_append, bytes_size, bytes_size, bytes_size, L_size]) rfl (by omega)
  have y1 : ((g.toNat : Nat) : Int) = g := Int.toNat_of_nonneg h1.1
  have y2 : ((q.toNat : Nat) : Int) = q := Int.toNat_of_nonneg h2.1
  have y3 : ((a.toNat : Nat) : Int) = a := Int.toNat_of_nonneg h3.1
  rw [hread, x1, x2, x3, y1, y2, y3]
theorem hget_whole (h : Hd) (hm : hmay h = true) : hget (hwhole h) = (h, 0) := by
  have E := hwhole_eq h
  have E1 : hwhole h = ⟨#[]⟩ ++ ⟨#[76]⟩ ++ (bytes h.g.toNat 6 ++ bytes h.q.toNat 6 ++ bytes h.a.toNat 2 ++ tail (hfront h) ++ zeros 45) := by
    obtain ⟨T, hT⟩ : ∃ T, T = tail (hfront h) := ⟨_, rfl⟩
    rw [E, ← hT, nil_app, hfront]
    simp only [ByteArray.append_assoc]
  have x1 : (hwhole h).extract 0 1 = ⟨#[76]⟩ := ex_mid (hwhole h) ⟨#[]⟩ ⟨#[76]⟩ _ 0 1 E1 rfl rfl
  have x2 : (hwhole h).extract 15 19 = tail (hfront h) := ex_mid (hwhole h) (hfront h) (tail (hfront h)) (zeros 45) 15 19 E (by rw [hfront_size]) (by rw [hfront_size, tail_size])
  have x3 : (hwhole h).extract 0 15 = hfront h := ex_mid (hwhole h) ⟨#[]⟩ (hfront h) (tail (hfront h) ++ zeros 45) 0 15 (by rw [E, nil_app, ByteArray.append_assoc]) rfl (by rw [hfront_size]; rfl)
  unfold hget
  rw [if_neg (by rw [hwhole_size]; simp), if_neg (by rw [x1]; simp), if_neg (by rw [x2, x3]; simp), if_pos ⟨by rw [hread_whole h hm]; exact hm, by rw [hread_whole h hm]⟩, hread_whole h hm]
theorem hget_ok (s : ByteArray) (h : (hget s).2 = 0) : hmay (hget s).1 = true ∧ hwhole (hget s).1 = s := by
  unfold hget at h ⊢
  repeat' split at h
  all_goals (first | (exact absurd h (by decide)) | skip)
  rename_i h1 h2 h3 h4
  rw [if_neg h1, if_neg h2, if_neg h3, if_pos h4]
  exact h4
theorem hget_no (s : ByteArray) (h : (hget s).2 ≠ 0) : (hget s).1 = h0 := by
  unfold hget at h ⊢
  repeat' split at h
  all_goals (first | (exact absurd rfl h) | skip)
  all_goals rename_i h1
  · rw [if_pos h1]
  · rename_i h2; rw [if_neg h2, if_pos h1]
  · rename_i h2 h3; rw [if_neg h2, if_neg h3, if_pos h1]
  · rename_i h2 h3 h4; rw [if_neg h2, if_neg h3, if_neg h4, if_neg h1]
/-- Which of two counts. -/
def hnewer (a b : ByteArray) : Hd × Int :=
  if (hget a).2 ≠ 0 ∧ (hget b).2 ≠ 0 then (h0, 8) else if (hget a).2 ≠ 0 ∨ ((hget b).2 = 0 ∧ (hget a).1.g < (hget b).1.g) then ((hget b).1, 0) else ((hget a).1, 0)
end Go.Proofs.Ytoljggleekbbbaa.M
namespace Go.Proofs.Ytoljggleekbbbaa
theorem Near.take {k : Nat} {l b : List UInt8} (h : Near k l b) (n : Nat) : Near k (l.take n) (b.take n) := by
  refine ⟨by rw [List.length_take, List.length_take, h.1], fun j hj => ?_⟩
  by_cases hn : j < n
  · rw [List.getElem?_take_of_lt hn, List.getElem?_take_of_lt hn]
    exact h.2 j hj
  · rw [List.getElem?_eq_none (by rw [List.length_take]; omega), List.getElem?_eq_none (by rw [List.length_take]; omega)]
/-- A sector that is a head's but for some bytes within four in a row, and is a head's, is the same. -/
theorem M.hturned (h : M.Hd) (j : Nat) (l : List UInt8) (bs : ByteArray) (hbs : bs = ⟨l.toArray⟩) (hN : Near j (M.hwhole h).data.toList l) (hg : (M.hget bs).2 = 0) : bs = M.hwhole h := by
  obtain ⟨_, h2⟩ := M.hget_ok bs hg
  obtain ⟨h', hh⟩ : ∃ x, x = (M.hget bs).1 := ⟨_, rfl⟩
  rw [← hh] at h2
  have el : l = (M.hwhole h').data.toList := by rw [h2, hbs]
  have cut : ∀ x : M.Hd, (M.hwhole x).data.toList.take 19 = (M.hfront x ++ M.tail (M.hfront x)).data.toList := fun x => by
    have e : 19 = (M.hfront x ++ M.tail (M.hfront x)).data.toList.length := (M.hsum_size x).symm
    rw [M.hwhole_eq, M.app_list]
    conv => lhs; rw [e]
    rw [List.take_left]
  have sum : ∀ x : M.Hd, M.of (M.hfront x ++ M.tail (M.hfront x)).data.toList = 558161692 := fun x => by
    rw [M.app_list]
    exact M.of_tail _
  have hn := hN.take 19
  rw [el, cut, cut] at hn
  have e := hn.of (by rw [sum, sum])
  rw [← h2, M.hwhole, M.hwhole, M.ba_ext e]
end Go.Proofs.Ytoljggleekbbbaa
