/-
  Plain mathematics for layer 17 (entry): two entries as a sector, and what a sector says. No program in this text.
-/
import Derived.Test.YtoljggleekbbbaaJMath
import Derived.Test.YtoljggleekbbbaaVPutB
namespace Go.Proofs.Ytoljggleekbbbaa.M

/-- Two extents' entries. -/
structure E2 where
  a : Int
  b : Int
  s : Int
  c : Int
  d : Int
  u : Int
/-- Whether an entry may be. -/
def emay1 (a b s : Int) : Bool := rightB a b && (decide (-1 ≤ s) && decide (s < 8))
theorem emay1_iff (a b s : Int) : emay1 a b s = true ↔ (0 ≤ a ∧ a ≤ 1125899906842624) ∧ (0 ≤ b ∧ b ≤ 1125899906842624) ∧ -1 ≤ s ∧ s < 8 := by
  unfold emay1 rightB valB
  simp only [Bool.and_eq_true, decide_eq_true_eq, and_assoc]
def emay (x : E2) : Bool := emay1 x.a x.b x.s && emay1 x.c x.d x.u
theorem emay_iff (x : E2) : emay x = true ↔ ((0 ≤ x.a ∧ x.a ≤ 1125899906842624) ∧ (0 ≤ x.b ∧ x.b ≤ 1125899906842624) ∧ -1 ≤ x.s ∧ x.s < 8) ∧ (0 ≤ x.c ∧ x.c ≤ 1125899906842624) ∧ (0 ≤ x.d ∧ x.d ≤ 1125899906842624) ∧ -1 ≤ x.u ∧ x.u < 8 := by
  unfold emay
  rw [Bool.and_eq_true, emay1_iff, emay1_iff]
theorem fits1_17 (n : Int) : fitsB n 1 = true ↔ 0 ≤ n ∧ n < 256 := by
  unfold fitsB
  simp only [decide_eq_true_eq]
  have e : (256 : Int) ^ (1 : Int).toNat = 256 := by decide
  rw [e]
  omega
theorem fits7_17 (n : Int) : fitsB n 7 = true ↔ 0 ≤ n ∧ n < 72057594037927936 := by
  unfold fitsB
  simp only [decide_eq_true_eq]
  have e : (256 : Int) ^ (7 : Int).toNat = 72057594037927936 := by decide
  rw [e]
  omega
/-- All ahead of the sum, from the first number on. -/
def ef0 : ByteArray := ⟨#[69]⟩
def ef1 (x : E2) : ByteArray := ef0 ++ bytes x.a.toNat 7
def ef2 (x : E2) : ByteArray := ef1 x ++ bytes x.b.toNat 7
def ef3 (x : E2) : ByteArray := ef2 x ++ bytes (x.s + 1).toNat 1
def ef4 (x : E2) : ByteArray := ef3 x ++ bytes x.c.toNat 7
def ef5 (x : E2) : ByteArray := ef4 x ++ bytes x.d.toNat 7
def efront (x : E2) : ByteArray := ef5 x ++ bytes (x.u + 1).toNat 1
theorem ef0_size : ef0.size = 1 := rfl
theorem ef1_size (x : E2) : (ef1 x).size = 8 := by rw [ef1, ByteArray.size_append, bytes_size, ef0_size]
theorem ef2_size (x : E2) : (ef2 x).size = 15 := by rw [ef2, ByteArray.size_append, bytes_size, ef1_size]
theorem ef3_size (x : E2) : (ef3 x).size = 16 := by rw [ef3, ByteArray.size_append, bytes_size, ef2_size]
theorem ef4_size (x : E2) : (ef4 x).size = 23 := by rw [ef4, ByteArray.size_append, bytes_size, ef3_size]
theorem ef5_size (x : E2) : (ef5 x).size = 30 := by rw [ef5, ByteArray.size_append, bytes_size, ef4_size]
theorem efront_size (x : E2) : (efront x).size = 31 := by rw [efront, ByteArray.size_append, bytes_size, ef5_size]
/-- As a sector. -/
def ewhole (x : E2) : ByteArray := pad (efront x ++ tail (efront x))
theorem esum_size (x : E2) : (efront x ++ tail (efront x)).size = 35 := by rw [ByteArray.size_append, efront_size, tail_size]
theorem ewhole_size (x : E2) : (ewhole x).size = 64 := by rw [ewhole, pad_size, esum_size]; decide
theorem ewhole_eq (x : E2) : ewhole x = (efront x ++ tail (efront x)) ++ zeros 29 := by rw [ewhole, pad, esum_size]; rfl
theorem eputs (x : E2) (hm : emay x = true) : vput ef0 x.a x.b = ef2 x ∧ putS (ef2 x) (x.s + 1) 1 = ef3 x ∧ vput (ef3 x) x.c x.d = ef5 x ∧ putS (ef5 x) (x.u + 1) 1 = efront x := by
  obtain ⟨⟨h1, h2, h3, h3'⟩, h4, h5, h6, h6'⟩ := (emay_iff x).1 hm
  refine ⟨?_, ?_, ?_, ?_⟩
  · rw [vput, putS_yes ((fits7_17 _).2 (by omega)), putS_yes ((fits7_17 _).2 (by omega))]; rfl
  · rw [putS_yes ((fits1_17 _).2 (by omega))]; rfl
  · rw [vput, putS_yes ((fits7_17 _).2 (by omega)), putS_yes ((fits7_17 _).2 (by omega))]; rfl
  · rw [putS_yes ((fits1_17 _).2 (by omega))]; rfl

def eread (t : ByteArray) : E2 := ⟨hnum t 1 8, hnum t 8 15, hnum t 15 16 - 1, hnum t 16 23, hnum t 23 30, hnum t 30 31 - 1⟩
def e0 : E2 := ⟨0, 0, 0, 0, 0, 0⟩
/-- What a sector says, and what is wrong. -/
def eget (t : ByteArray) : E2 × Int :=
  if t.size ≠ 64 then (e0, 12) else if t.extract 0 1 ≠ ef0 then (e0, 4) else if t.extract 31 35 ≠ tail (t.extract 0 31) then (e0, 5)
  else if emay (eread t) = true ∧ ewhole (eread t) = t then (eread t, 0) else (e0, 4)

/-- The pieces of the whole, each with what stands ahead of it and behind it. -/
theorem eparts (x : E2) : ∃ r1 r2 r3 r4 r5 r6 : ByteArray, ewhole x = ef0 ++ bytes x.a.toNat 7 ++ r1 ∧ ewhole x = ef1 x ++ bytes x.b.toNat 7 ++ r2 ∧ ewhole x = ef2 x ++ bytes (x.s + 1).toNat 1 ++ r3 ∧ ewhole x = ef3 x ++ bytes x.c.toNat 7 ++ r4 ∧ ewhole x = ef4 x ++ bytes x.d.toNat 7 ++ r5 ∧ ewhole x = ef5 x ++ bytes (x.u + 1).toNat 1 ++ r6 := by
  have h6 : ewhole x = ef5 x ++ bytes (x.u + 1).toNat 1 ++ (tail (efront x) ++ zeros 29) := by rw [ewhole_eq, efront, ByteArray.append_assoc]
  have h5 : ewhole x = ef4 x ++ bytes x.d.toNat 7 ++ (bytes (x.u + 1).toNat 1 ++ (tail (efront x) ++ zeros 29)) := by rw [h6, ef5, ByteArray.append_assoc]
  have h4 : ewhole x = ef3 x ++ bytes x.c.toNat 7 ++ (bytes x.d.toNat 7 ++ (bytes (x.u + 1).toNat 1 ++ (tail (efront x) ++ zeros 29))) := by rw [h5, ef4, ByteArray.append_assoc]
  have h3 : ewhole x = ef2 x ++ bytes (x.s + 1).toNat 1 ++ (bytes x.c.toNat 7 ++ (bytes x.d.toNat 7 ++ (bytes (x.u + 1).toNat 1 ++ (tail (efront x) ++ zeros 29)))) := by rw [h4, ef3, ByteArray.append_assoc]
  have h2 : ewhole x = ef1 x ++ bytes x.b.toNat 7 ++ (bytes (x.s + 1).toNat 1 ++ (bytes x.c.toNat 7 ++ (bytes x.d.toNat 7 ++ (bytes (x.u + 1).toNat 1 ++ (tail (efront x) ++ zeros 29))))) := by rw [h3, ef2, ByteArray.append_assoc]
  have h1 : ewhole x = ef0 ++ bytes x.a.toNat 7 ++ (bytes x.b.toNat 7 ++ (bytes (x.s + 1).toNat 1 ++ (bytes x.c.toNat 7 ++ (bytes x.d.toNat 7 ++ (bytes (x.u + 1).toNat 1 ++ (tail (efront x) ++ zeros 29)))))) := by rw [h2, ef1, ByteArray.append_assoc]
  exact ⟨_, _, _, _, _, _, h1, h2, h3, h4, h5, h6⟩
theorem eread_whole (x : E2) (hm : emay x = true) : eread (ewhole x) = x := by
  obtain ⟨⟨h1, h2, h3, h3'⟩, h4, h5, h6, h6'⟩ := (emay_iff x).1 hm
  obtain ⟨r1, r2, r3, r4, r5, r6, e1, e2, e3, e4, e5, e6⟩ := eparts x
  have x1 := hnum_be _ _ _ _ 1 8 x.a.toNat 7 e1 (by rw [ef0_size]) (by rw [bytes_size, ef0_size]) rfl (by omega)
  have x2 := hnum_be _ _ _ _ 8 15 x.b.toNat 7 e2 (by rw [ef1_size]) (by rw [bytes_size, ef1_size]) rfl (by omega)
  have x3 := hnum_be _ _ _ _ 15 16 (x.s + 1).toNat 1 e3 (by rw [ef2_size]) (by rw [bytes_size, ef2_size]) rfl (by omega)
  have x4 := hnum_be _ _ _ _ 16 23 x.c.toNat 7 e4 (by rw [ef3_size]) (by rw [bytes_size, ef3_size]) rfl (by omega)
  have x5 := hnum_be _ _ _ _ 23 30 x.d.toNat 7 e5 (by rw [ef4_size]) (by rw [bytes_size, ef4_size]) rfl (by omega)
  have x6 := hnum_be _ _ _ _ 30 31 (x.u + 1).toNat 1 e6 (by rw [ef5_size]) (by rw [bytes_size, ef5_size]) rfl (by omega)
  obtain ⟨a, b, s, c, d, u⟩ := x
  simp only at h1 h2 h3 h3' h4 h5 h6 h6'
  rw [eread, x1, x2, x3, x4, x5, x6]
  simp only [E2.mk.injEq]
  refine ⟨?_, ?_, ?_, ?_, ?_, ?_⟩ <;> omega
theorem eget_whole (x : E2) (hm : emay x = true) : eget (ewhole x) = (x, 0) := by
  have E := ewhole_eq x
  obtain ⟨r1, r2, r3, r4, r5, r6, e1, e2, e3, e4, e5, e6⟩ := eparts x
  have x1 : (ewhole x).extract 0 1 = ef0 := ex_mid (ewhole x) ⟨#[]⟩ ef0 (bytes x.a.toNat 7 ++ r1) 0 1 (by rw [nil_app, e1, ByteArray.append_assoc]) rfl rfl
  have x2 : (ewhole x).extract 31 35 = tail (efront x) := ex_mid (ewhole x) (efront x) (tail (efront x)) (zeros 29) 31 35 E (by rw [efront_size]) (by rw [efront_size, tail_size])
  have x3 : (ewhole x).extract 0 31 = efront x := ex_mid (ewhole x) ⟨#[]⟩ (efront x) (tail (efront x) ++ zeros 29) 0 31 (by rw [E, nil_app, ByteArray.append_assoc]) rfl (by rw [efront_size]; rfl)
  have hr := eread_whole x hm
  unfold eget
  rw [if_neg (by rw [ewhole_size]; simp), if_neg (by rw [x1]; simp), if_neg (by rw [x2, x3]; simp), if_pos ⟨by rw [hr]; exact hm, by rw [hr]⟩, hr]
theorem eget_ok (t : ByteArray) (h : (eget t).2 = 0) : emay (eget t).1 = true ∧ ewhole (eget t).1 = t := by
  unfold eget at h ⊢
  repeat' split at h
  all_goals (first | (exact absurd h (by decide)) | skip)
  rename_i h1 h2 h3 h4
  rw [if_neg h1, if_neg h2, if_neg h3, if_pos h4]
  exact h4
theorem eget_no (t : ByteArray) (h : (eget t).2 ≠ 0) : (eget t).1 = e0 := by
  unfold eget at h ⊢
  repeat' split at h
  all_goals (first | (exact absurd rfl h) | skip)
  all_goals rename_i h1
  · rw [if_pos h1]
  · rename_i h2; rw [if_neg h2, if_pos h1]
  · rename_i h2 h3; rw [if_neg h2, if_neg h3, if_pos h1]
  · rename_i h2 h3 h4; rw [if_neg h2, if_neg h3, if_neg h4, if_neg h1]
end Go.Proofs.Ytoljggleekbbbaa.M
namespace Go.Proofs.Ytoljggleekbbbaa
/-- A sector that is two entries' but for some bytes within four in a row, and is two entries', is the same. -/
theorem M.eturned (h : M.E2) (j : Nat) (l : List UInt8) (bs : ByteArray) (hbs : bs = ⟨l.toArray⟩) (hN : Near j (M.ewhole h).data.toList l) (hg : (M.eget bs).2 = 0) : bs = M.ewhole h := by
  obtain ⟨_, h2⟩ := M.eget_ok bs hg
  obtain ⟨h', hh⟩ : ∃ x, x = (M.eget bs).1 := ⟨_, rfl⟩
  rw [← hh] at h2
  have el : l = (M.ewhole h').data.toList := by rw [h2, hbs]
  have cut : ∀ x : M.E2, (M.ewhole x).data.toList.take 35 = (M.efront x ++ M.tail (M.efront x)).data.toList := fun x => by
    have e : 35 = (M.efront x ++ M.tail (M.efront x)).data.toList.length := (M.esum_size x).symm
    rw [M.ewhole_eq, M.app_list]
    conv => lhs; rw [e]
    rw [List.take_left]
  have sum : ∀ x : M.E2, M.of (M.efront x ++ M.tail (M.efront x)).data.toList = 558161692 := fun x => by
    rw [M.app_list]
    exact M.of_tail _
  have hn := hN.take 35
  rw [el, cut, cut] at hn
  have e := hn.of (by rw [sum, sum])
  rw [← h2, M.ewhole, M.ewhole, M.ba_ext e]
end Go.Proofs.Ytoljggleekbbbaa
