/-
  Plain mathematics for layer 17 (entry): two entries as a sector, and what a sector says. No program in this text. Walks over entry.Check and solderref17.Check. Walks over entry.Put and solderref17.Put. Two entries, held against the same two.
-/
import Derived.Test.YtlihgaejkadonaaGreatDoorMP
import Derived.Test.YtlihgaejkadonaaGreatDoorVA
import Derived.LoopN
import Derived.ChangeKeysEq
namespace Go.Proofs.YtlihgaejkadonaaGreatDoor.M

/-- Two extents' entries. -/
structure E2 where
  a : Int
  b : Int
  s : Int
  c : Int
  d : Int
  u : Int
/-- Whether an entry may be. -/
def emay1 (a b s : Int) : Bool := rightB a b && (decide (-1 ≤ s) && decide (s < 8))
theorem emay1_iff (a b s : Int) : emay1 a b s = true ↔ (0 ≤ a ∧ a ≤ 1125899906842624) ∧ (0 ≤ b ∧ b ≤ 1125899906842624) ∧ -1 ≤ s ∧ s < 8 := by
  unfold emay1 rightB valB
  simp only [Bool.and_eq_true, decide_eq_true_eq, and_assoc]
def emay (x : E2) : Bool := emay1 x.a x.b x.s && emay1 x.c x.d x.u
theorem emay_iff (x : E2) : emay x = true ↔ ((0 ≤ x.a ∧ x.a ≤ 1125899906842624) ∧ (0 ≤ x.b ∧ x.b ≤ 1125899906842624) ∧ -1 ≤ x.s ∧ x.s < 8) ∧ (0 ≤ x.c ∧ x.c ≤ 1125899906842624) ∧ (0 ≤ x.d ∧ x.d ≤ 1125899906842624) ∧ -1 ≤ x.u ∧ x.u < 8 := by
  unfold emay
  rw [Bool.and_eq_true, emay1_iff, emay1_iff]
theorem fits1_17 (n : Int) : fitsB n 1 = true ↔ 0 ≤ n ∧ n < 256 := by
  unfold fitsB
  simp only [decide_eq_true_eq]
  have e : (256 : Int) ^ (1 : Int).toNat = 256 := by decide
  rw [e]
  omega
theorem fits7_17 (n : Int) : fitsB n 7 = true ↔ 0 ≤ n ∧ n < 72057594037927936 := by
  unfold fitsB
  simp only [decide_eq_true_eq]
  have e : (256 : Int) ^ (7 : Int).toNat = 72057594037927936 := by decide
  rw [e]
  omega
/-- All ahead of the sum, from the first number on. -/
def ef0 : ByteArray := ⟨#[69]⟩
def ef1 (x : E2) : ByteArray := ef0 ++ bytes x.a.toNat 7
def ef2 (x : E2) : ByteArray := ef1 x ++ bytes x.b.toNat 7
def ef3 (x : E2) : ByteArray := ef2 x ++ bytes (x.s + 1).toNat 1
def ef4 (x : E2) : ByteArray := ef3 x ++ bytes x.c.toNat 7
def ef5 (x : E2) : ByteArray := ef4 x ++ bytes x.d.toNat 7
def efront (x : E2) : ByteArray := ef5 x ++ bytes (x.u + 1).toNat 1
theorem ef0_size : ef0.size = 1 := rfl
theorem ef1_size (x : E2) : (ef1 x).size = 8 := by rw [ef1, ByteArray.size_append, bytes_size, ef0_size]
theorem ef2_size (x : E2) : (ef2 x).size = 15 := by rw [ef2, ByteArray.size_append, bytes_size, ef1_size]
theorem ef3_size (x : E2) : (ef3 x).size = 16 := by rw [ef3, ByteArray.size_append, bytes_size, ef2_size]
theorem ef4_size (x : E2) : (ef4 x).size = 23 := by rw [ef4, ByteArray.size_append, bytes_size, ef3_size]
theorem ef5_size (x : E2) : (ef5 x).size = 30 := by rw [ef5, ByteArray.size_append, bytes_size, ef4_size]
theorem efront_size (x : E2) : (efront x).size = 31 := by rw [efront, ByteArray.size_append, bytes_size, ef5_size]
/-- As a sector. -/
def ewhole (x : E2) : ByteArray := pad (efront x ++ tail (efront x))
theorem esum_size (x : E2) : (efront x ++ tail (efront x)).size = 35 := by rw [ByteArray.size_append, efront_size, tail_size]
theorem ewhole_size (x : E2) : (ewhole x).size = 64 := by rw [ewhole, pad_size, esum_size]; decide
theorem ewhole_eq (x : E2) : ewhole x = (efront x ++ tail (efront x)) ++ zeros 29 := by rw [ewhole, pad, esum_size]; rfl
theorem eputs (x : E2) (hm : emay x = true) : vput ef0 x.a x.b = ef2 x ∧ putS (ef2 x) (x.s + 1) 1 = ef3 x ∧ vput (ef3 x) x.c x.d = ef5 x ∧ putS (ef5 x) (x.u + 1) 1 = efront x := by
  obtain ⟨⟨h1, h2, h3, h3'⟩, h4, h5, h6, h6'⟩ := (emay_iff x).1 hm
  refine ⟨?_, ?_, ?_, ?_⟩
  · rw [vput, putS_yes ((fits7_17 _).2 (by omega)), putS_yes ((fits7_17 _).2 (by omega))]; rfl
  · rw [putS_yes ((fits1_17 _).2 (by omega))]; rfl
  · rw [vput, putS_yes ((fits7_17 _).2 (by omega)), putS_yes ((fits7_17 _).2 (by omega))]; rfl
  · rw [putS_yes ((fits1_17 _).2 (by omega))]; rfl

def eread (t : ByteArray) : E2 := ⟨hnum t 1 8, hnum t 8 15, hnum t 15 16 - 1, hnum t 16 23, hnum t 23 30, hnum t 30 31 - 1⟩
def e0 : E2 := ⟨0, 0, 0, 0, 0, 0⟩
/-- What a sector says, and what is wrong. -/
def eget (t : ByteArray) : E2 × Int :=
  if t.size ≠ 64 then (e0, 12) else if t.extract 0 1 ≠ ef0 then (e0, 4) else if t.extract 31 35 ≠ tail (t.extract 0 31) then (e0, 5)
  else if emay (eread t) = true ∧ ewhole (eread t) = t then (eread t, 0) else (e0, 4)

/-- The pieces of the whole, each with what stands ahead of it and behind it. -/
theorem eparts (x : E2) : ∃ r1 r2 r3 r4 r5 r6 : ByteArray, ewhole x = ef0 ++ bytes x.a.toNat 7 ++ r1 ∧ ewhole x = ef1 x ++ bytes x.b.toNat 7 ++ r2 ∧ ewhole x = ef2 x ++ bytes (x.s + 1).toNat 1 ++ r3 ∧ ewhole x = ef3 x ++ bytes x.c.toNat 7 ++ r4 ∧ ewhole x = ef4 x ++ bytes x.d.toNat 7 ++ r5 ∧ ewhole x = ef5 x ++ bytes (x.u + 1).toNat 1 ++ r6 := by
  have h6 : ewhole x = ef5 x ++ bytes (x.u + 1).toNat 1 ++ (tail (efront x) ++ zeros 29) := by rw [ewhole_eq, efront, ByteArray.append_assoc]
  have h5 : ewhole x = ef4 x ++ bytes x.d.toNat 7 ++ (bytes (x.u + 1).toNat 1 ++ (tail (efront x) ++ zeros 29)) := by rw [h6, ef5, ByteArray.append_assoc]
  have h4 : ewhole x = ef3 x ++ bytes x.c.toNat 7 ++ (bytes x.d.toNat 7 ++ (bytes (x.u + 1).toNat 1 ++ (tail (efront x) ++ zeros 29))) := by rw [h5, ef4, ByteArray.append_assoc]
  have h3 : ewhole x = ef2 x ++ bytes (x.s + 1).toNat 1 ++ (bytes x.c.toNat 7 ++ (bytes x.d.toNat 7 ++ (bytes (x.u + 1).toNat 1 ++ (tail (efront x) ++ zeros 29)))) := by rw [h4, ef3, ByteArray.append_assoc]
  have h2 : ewhole x = ef1 x ++ bytes x.b.toNat 7 ++ (bytes (x.s + 1).toNat 1 ++ (bytes x.c.toNat 7 ++ (bytes x.d.toNat 7 ++ (bytes (x.u + 1).toNat 1 ++ (tail (efront x) ++ zeros 29))))) := by rw [h3, ef2, ByteArray.append_assoc]
  have h1 : ewhole x = ef0 ++ bytes x.a.toNat 7 ++ (bytes x.b.toNat 7 ++ (bytes (x.s + 1).toNat 1 ++ (bytes x.c.toNat 7 ++ (bytes x.d.toNat 7 ++ (bytes (x.u + 1).toNat 1 ++ (tail (efront x) ++ zeros 29)))))) := by rw [h2, ef1, ByteArray.append_assoc]
  exact ⟨_, _, _, _, _, _, h1, h2, h3, h4, h5, h6⟩
theorem eread_whole (x : E2) (hm : emay x = true) : eread (ewhole x) = x := by
  obtain ⟨⟨h1, h2, h3, h3'⟩, h4, h5, h6, h6'⟩ := (emay_iff x).1 hm
  obtain ⟨r1, r2, r3, r4, r5, r6, e1, e2, e3, e4, e5, e6⟩ := eparts x
  have x1 := hnum_be _ _ _ _ 1 8 x.a.toNat 7 e1 (by rw [ef0_size]) (by rw [bytes_size, ef0_size]) rfl (by omega)
  have x2 := hnum_be _ _ _ _ 8 15 x.b.toNat 7 e2 (by rw [ef1_size]) (by rw [bytes_size, ef1_size]) rfl (by omega)
  have x3 := hnum_be _ _ _ _ 15 16 (x.s + 1).toNat 1 e3 (by rw [ef2_size]) (by rw [bytes_size, ef2_size]) rfl (by omega)
  have x4 := hnum_be _ _ _ _ 16 23 x.c.toNat 7 e4 (by rw [ef3_size]) (by rw [bytes_size, ef3_size]) rfl (by omega)
  have x5 := hnum_be _ _ _ _ 23 30 x.d.toNat 7 e5 (by rw [ef4_size]) (by rw [bytes_size, ef4_size]) rfl (by omega)
  have x6 := hnum_be _ _ _ _ 30 31 (x.u + 1).toNat 1 e6 (by rw [ef5_size]) (by rw [bytes_size, ef5_size]) rfl (by omega)
  obtain ⟨a, b, s, c, d, u⟩ := x
  simp only at h1 h2 h3 h3' h4 h5 h6 h6'
  rw [eread, x1, x2, x3, x4, x5, x6]
  simp only [E2.mk.injEq]
  refine ⟨?_, ?_, ?_, ?_, ?_, ?_⟩ <;> omega
theorem eget_whole (x : E2) (hm : emay x = true) : eget (ewhole x) = (x, 0) := by
  have E := ewhole_eq x
  obtain ⟨r1, r2, r3, r4, r5, r6, e1, e2, e3, e4, e5, e6⟩ := eparts x
  have x1 : (ewhole x).extract 0 1 = ef0 := ex_mid (ewhole x) ⟨#[]⟩ ef0 (bytes x.a.toNat 7 ++ r1) 0 1 (by rw [nil_app, e1, ByteArray.append_assoc]) rfl rfl
  have x2 : (ewhole x).extract 31 35 = tail (efront x) := ex_mid (ewhole x) (efront x) (tail (efront x)) (zeros 29) 31 35 E (by rw [efront_size]) (by rw [efront_size, tail_size])
  have x3 : (ewhole x).extract 0 31 = efront x := ex_mid (ewhole x) ⟨#[]⟩ (efront x) (tail (efront x) ++ zeros 29) 0 31 (by rw [E, nil_app, ByteArray.append_assoc]) rfl (by rw [efront_size]; rfl)
  have hr := eread_whole x hm
  unfold eget
  rw [if_neg (by rw [ewhole_size]; simp), if_neg (by rw [x1]; simp), if_neg (by rw [x2, x3]; simp), if_pos ⟨by rw [hr]; exact hm, by rw [hr]⟩, hr]
theorem eget_ok (t : ByteArray) (h : (eget t).2 = 0) : emay (eget t).1 = true ∧ ewhole (eget t).1 = t := by
  unfold eget at h ⊢
  repeat' split at h
  all_goals (first | (exact absurd h (by decide)) | skip)
  rename_i h1 h2 h3 h4
  rw [if_neg h1, if_neg h2, if_neg h3, if_pos h4]
  exact h4
theorem eget_no (t : ByteArray) (h : (eget t).2 ≠ 0) : (eget t).1 = e0 := by
  unfold eget at h ⊢
  repeat' split at h
  all_goals (first | (exact absurd rfl h) | skip)
  all_goals rename_i h1
  · rw [if_pos h1]
  · rename_i h2; rw [if_neg h2, if_pos h1]
  · rename_i h2 h3; rw [if_neg h2, if_neg h3, if_pos h1]
  · rename_i h2 h3 h4; rw [if_neg h2, if_neg h3, if_neg h4, if_neg h1]
end Go.Proofs.YtlihgaejkadonaaGreatDoor.M
namespace Go.Proofs.YtlihgaejkadonaaGreatDoor
/-- A sector that is two entries' but for some bytes within four in a row, and is two entries', is the same. -/
theorem M.eturned (h : M.E2) (j : Nat) (l : List UInt8) (bs : ByteArray) (hbs : bs = ⟨l.toArray⟩) (hN : Near j (M.ewhole h).data.toList l) (hg : (M.eget bs).2 = 0) : bs = M.ewhole h := by
  obtain ⟨_, h2⟩ := M.eget_ok bs hg
  obtain ⟨h', hh⟩ : ∃ x, x = (M.eget bs).1 := ⟨_, rfl⟩
  rw [← hh] at h2
  have el : l = (M.ewhole h').data.toList := by rw [h2, hbs]
  have cut : ∀ x : M.E2, (M.ewhole x).data.toList.take 35 = (M.efront x ++ M.tail (M.efront x)).data.toList := fun x => by
    have e : 35 = (M.efront x ++ M.tail (M.efront x)).data.toList.length := (M.esum_size x).symm
    rw [M.ewhole_eq, M.app_list]
    conv => lhs; rw [e]
    rw [List.take_left]
  have sum : ∀ x : M.E2, M.of (M.efront x ++ M.tail (M.efront x)).data.toList = 558161692 := fun x => by
    rw [M.app_list]
    exact M.of_tail _
  have hn := hN.take 35
  rw [el, cut, cut] at hn
  have e := hn.of (by rw [sum, sum])
  rw [← h2, M.ewhole, M.ewhole, M.ba_ext e]
end Go.Proofs.YtlihgaejkadonaaGreatDoor
namespace Go.Proofs.YtlihgaejkadonaaGreatDoor
open Go.RowKit

/-- An entry, by value. -/
abbrev Ev (a b s : Int) : Value := .agg #[.int .i64 a, .int .i64 b, .int .i64 s]
abbrev Ec (a b s : Int) : Obj := .cells #[.int .i64 a, .int .i64 b, .int .i64 s] 41
theorem nb1 (w : World) (o1 : Obj) : Below w.heap.size w (w.alloc o1) := (Below.refl w.heap.size w).alloc (Nat.le_refl _) o1
def M.eerr (a b s : Int) : Int := if M.emay1 a b s = true then 0 else 3
theorem M.eerr_ok {a b s : Int} (h : M.emay1 a b s = true) : M.eerr a b s = 0 := if_pos h
theorem M.eerr_no {a b s : Int} (h : ¬ M.emay1 a b s = true) : M.eerr a b s = 3 := if_neg h
theorem M.eerr_right {a b s : Int} (h : M.rightB a b = false) : M.eerr a b s = 3 := M.eerr_no (by unfold M.emay1; rw [h]; simp)
theorem M.eerr_slot {a b s : Int} (h : M.rightB a b = true) : M.eerr a b s = if -1 ≤ s ∧ s < 8 then 0 else 3 := by
  unfold M.eerr M.emay1
  rw [h]
  simp

set_option maxHeartbeats 1000000 in
theorem echeck_any (a b s : Int) (w : World) : Calls Tryz.prog 30 #[Ev a b s] w fun en w' => en = .returned (.int .i64 (M.eerr a b s)) ∧ Below w.heap.size w w' := by
  have C0 := Lib.hid (fun x => right_any a b x)
  have HB := Lib.hid (nb1 w (Ec a b s))
  have HX : Hid (Box (w.alloc (Ec a b s)) w.heap.size 41 #[.int .i64 a, .int .i64 b, .int .i64 s]) := Box.new _ _ _
  cases h : M.rightB a b
  · rw [M.eerr_right h]
    rw [h] at C0
    clear h
    go_enter Tryz.func30, Tryz.ntmps30
    go_wp2_with fail
    refine (C0.out _).mono ?_
    rintro en w1 ⟨rfl, hb1⟩
    have HB1 := Lib.hid (HB.out.trans (hb1.mono HB.out.size))
    clear hb1
    go_wp2_with fail
    go_ret
    exact ⟨rfl, HB1.out⟩
  · rw [M.eerr_slot h]
    rw [h] at C0
    clear h
    have hc : (s < -1) ∨ (-1 ≤ s ∧ 8 ≤ s) ∨ (-1 ≤ s ∧ s < 8) := by omega
    obtain ⟨E, hE⟩ : ∃ E : Int, E = if -1 ≤ s ∧ s < 8 then 0 else 3 := ⟨_, rfl⟩
    rw [← hE]
    have HE := Lib.hid hE
    clear hE
    rcases hc with h1 | ⟨h1, h2⟩ | ⟨h1, h2⟩
    all_goals
      go_enter Tryz.func30, Tryz.ntmps30
      go_wp2_with fail
      refine (C0.out _).mono ?_
      rintro en w1 ⟨rfl, hb1⟩
      have HX1 := Lib.hid (HX.out.below hb1 HX.out.lt)
      have HB1 := Lib.hid (HB.out.trans (hb1.mono HB.out.size))
      clear hb1
      have c2 := (HX1.out.cell 2).trans (rfl : _ = some (Value.int .i64 s))
      clear HX1
      go_wp2_with fail
      go_ret
      refine ⟨?_, HB1.out⟩
      rw [HE.out]
      first | (rw [if_pos (by omega)]; rfl) | (rw [if_neg (by omega)]; rfl)

set_option maxHeartbeats 1000000 in
theorem recheck_any (a b s : Int) (w : World) : Calls Tryz.prog 13 #[Ev a b s] w fun en w' => en = .returned (.int .i64 (M.eerr a b s)) ∧ Below w.heap.size w w' := by
  have C0 := Lib.hid (fun x => rright_any a b x)
  have HB := Lib.hid (nb1 w (Ec a b s))
  have HX : Hid (Box (w.alloc (Ec a b s)) w.heap.size 41 #[.int .i64 a, .int .i64 b, .int .i64 s]) := Box.new _ _ _
  cases h : M.rightB a b
  · rw [M.eerr_right h]
    rw [h] at C0
    clear h
    go_enter Tryz.func13, Tryz.ntmps13
    go_wp2_with fail
    refine (C0.out _).mono ?_
    rintro en w1 ⟨rfl, hb1⟩
    have HB1 := Lib.hid (HB.out.trans (hb1.mono HB.out.size))
    clear hb1
    go_wp2_with fail
    go_ret
    exact ⟨rfl, HB1.out⟩
  · rw [M.eerr_slot h]
    rw [h] at C0
    clear h
    have hc : (s < -1) ∨ (-1 ≤ s ∧ 8 ≤ s) ∨ (-1 ≤ s ∧ s < 8) := by omega
    obtain ⟨E, hE⟩ : ∃ E : Int, E = if -1 ≤ s ∧ s < 8 then 0 else 3 := ⟨_, rfl⟩
    rw [← hE]
    have HE := Lib.hid hE
    clear hE
    rcases hc with h1 | ⟨h1, h2⟩ | ⟨h1, h2⟩
    all_goals
      go_enter Tryz.func13, Tryz.ntmps13
      go_wp2_with fail
      refine (C0.out _).mono ?_
      rintro en w1 ⟨rfl, hb1⟩
      have HX1 := Lib.hid (HX.out.below hb1 HX.out.lt)
      have HB1 := Lib.hid (HB.out.trans (hb1.mono HB.out.size))
      clear hb1
      have c2 := (HX1.out.cell 2).trans (rfl : _ = some (Value.int .i64 s))
      clear HX1
      go_wp2_with fail
      go_ret
      refine ⟨?_, HB1.out⟩
      rw [HE.out]
      first | (rw [if_pos (by omega)]; rfl) | (rw [if_neg (by omega)]; rfl)

end Go.Proofs.YtlihgaejkadonaaGreatDoor
namespace Go.Proofs.YtlihgaejkadonaaGreatDoor
open Go.RowKit

/-- Two entries, by value. -/
abbrev Ev2 (a b s c d u : Int) : Value := .agg #[.int .i64 a, .int .i64 b, .int .i64 s, .int .i64 c, .int .i64 d, .int .i64 u]
abbrev Ec2 (a b s c d u : Int) : Obj := .cells #[.int .i64 a, .int .i64 b, .int .i64 s, .int .i64 c, .int .i64 d, .int .i64 u] 68
/-- What Put answers. -/
def M.eput (x : M.E2) : Value := if M.emay x = true then .tuple #[.string (M.ewhole x), .int .i64 0] else .tuple #[.string ⟨#[]⟩, .int .i64 3]
theorem M.eput_ok {x : M.E2} (h : M.emay x = true) : M.eput x = .tuple #[.string (M.ewhole x), .int .i64 0] := if_pos h
theorem M.eput_no {x : M.E2} (h : ¬ M.emay x = true) : M.eput x = .tuple #[.string ⟨#[]⟩, .int .i64 3] := if_neg h
/-- Six numbers in a box. -/
def B6 (y : World) (k : Nat) (a b s c d u : Int) : Prop := Box y k 68 #[.int .i64 a, .int .i64 b, .int .i64 s, .int .i64 c, .int .i64 d, .int .i64 u]
section
variable {y z : World} {k B : Nat} {a b s c d u : Int}
theorem B6.cells (h : B6 y k a b s c d u) : y.cell? ⟨k, 0, none⟩ = some (.int .i64 a) ∧ y.cell? ⟨k, 1, none⟩ = some (.int .i64 b) ∧ y.cell? ⟨k, 2, none⟩ = some (.int .i64 s) ∧ y.cell? ⟨k, 3, none⟩ = some (.int .i64 c) ∧ y.cell? ⟨k, 4, none⟩ = some (.int .i64 d) ∧ y.cell? ⟨k, 5, none⟩ = some (.int .i64 u) :=
  ⟨Box.cell h 0, Box.cell h 1, Box.cell h 2, Box.cell h 3, Box.cell h 4, Box.cell h 5⟩
theorem B6.frozen (h : B6 y k a b s c d u) : y.frozen? ⟨k, 0, none⟩ = false ∧ y.frozen? ⟨k, 1, none⟩ = false ∧ y.frozen? ⟨k, 2, none⟩ = false ∧ y.frozen? ⟨k, 3, none⟩ = false ∧ y.frozen? ⟨k, 4, none⟩ = false ∧ y.frozen? ⟨k, 5, none⟩ = false :=
  ⟨Box.frozen h 0, Box.frozen h 1, Box.frozen h 2, Box.frozen h 3, Box.frozen h 4, Box.frozen h 5⟩
theorem B6.lt (h : B6 y k a b s c d u) : k < y.heap.size := Box.lt h
theorem B6.below (h : B6 y k a b s c d u) (hb : Below B y z) (hB : k < B) : B6 z k a b s c d u := Box.below h hb hB
end
theorem B6.new (y : World) (a b s c d u : Int) : B6 (y.alloc (Ec2 a b s c d u)) y.heap.size a b s c d u := Box.new _ _ _
/-- Three numbers in a box. -/
def B3e (y : World) (k : Nat) (a b s : Int) : Prop := Box y k 41 #[.int .i64 a, .int .i64 b, .int .i64 s]
theorem B3e.cells {y : World} {k : Nat} {a b s : Int} (h : B3e y k a b s) : y.cell? ⟨k, 0, none⟩ = some (.int .i64 a) ∧ y.cell? ⟨k, 1, none⟩ = some (.int .i64 b) ∧ y.cell? ⟨k, 2, none⟩ = some (.int .i64 s) :=
  ⟨Box.cell h 0, Box.cell h 1, Box.cell h 2⟩
theorem B3e.lt {y : World} {k : Nat} {a b s : Int} (h : B3e y k a b s) : k < y.heap.size := Box.lt h
theorem B3e.below {y z : World} {k B : Nat} {a b s : Int} (h : B3e y k a b s) (hb : Below B y z) (hB : k < B) : B3e z k a b s := Box.below h hb hB
theorem B3e.new (y : World) (a b s : Int) : B3e (y.alloc (Ec a b s)) y.heap.size a b s := Box.new _ _ _

/-- Either entry of the two. -/
theorem index17_0 (a b s c d u : Int) (W : World) : (Instr.index 68 (Ev2 a b s c d u) (.int .i64 0)).run Tryz.prog W = .ok (Ev a b s) W := by kernel_rfl
theorem index17_1 (a b s c d u : Int) (W : World) : (Instr.index 68 (Ev2 a b s c d u) (.int .i64 1)).run Tryz.prog W = .ok (Ev c d u) W := by kernel_rfl

/-- The texts that Put comes by. -/
theorem M.efirst17 (x : M.E2) (h : M.emay1 x.a x.b x.s = true) : ∃ s1 s2 : ByteArray, M.vput ⟨#[69]⟩ x.a x.b = s1 ∧ M.putS s1 (x.s + 1) 1 = s2 ∧ s1.size ≤ 100 ∧ s2.size ≤ 100 ∧ s2 = M.ef3 x := by
  obtain ⟨h1, h2, h3, h4⟩ := (M.emay1_iff _ _ _).1 h
  have e1 : M.vput ⟨#[69]⟩ x.a x.b = M.ef2 x := by rw [M.vput, M.putS_yes ((M.fits7_17 _).2 (by omega)), M.putS_yes ((M.fits7_17 _).2 (by omega))]; rfl
  have e2 : M.putS (M.ef2 x) (x.s + 1) 1 = M.ef3 x := by rw [M.putS_yes ((M.fits1_17 _).2 (by omega))]; rfl
  exact ⟨M.ef2 x, M.ef3 x, e1, e2, by rw [M.ef2_size]; decide, by rw [M.ef3_size]; decide, rfl⟩
theorem M.esecond17 (x : M.E2) (hm : M.emay x = true) : ∃ s3 : ByteArray, M.vput (M.ef3 x) x.c x.d = s3 ∧ M.putS s3 (x.u + 1) 1 = M.efront x ∧ s3.size ≤ 100 := by
  obtain ⟨h1, h2, h3, h4⟩ := M.eputs x hm
  exact ⟨_, h3, h4, by rw [M.ef5_size]; decide⟩
theorem M.emay_no1 {x : M.E2} (h : ¬ M.emay1 x.a x.b x.s = true) : ¬ M.emay x = true := fun e => h (by unfold M.emay at e; rw [Bool.and_eq_true] at e; exact e.1)
theorem M.emay_no2 {x : M.E2} (h : ¬ M.emay1 x.c x.d x.u = true) : ¬ M.emay x = true := fun e => h (by unfold M.emay at e; rw [Bool.and_eq_true] at e; exact e.2)
theorem M.emay_yes {x : M.E2} (h : M.emay1 x.a x.b x.s = true) (h' : M.emay1 x.c x.d x.u = true) : M.emay x = true := by unfold M.emay; rw [h, h']; rfl

set_option maxHeartbeats 4000000 in
theorem eput_any (a b s c d u : Int) (w : World) :
    Calls Tryz.prog 27 #[Ev2 a b s c d u] w fun en w' => en = .returned (M.eput ⟨a, b, s, c, d, u⟩) ∧ Below w.heap.size w w' := by
  have C0 := Lib.hid (fun x => echeck_any a b s x)
  have D0 := Lib.hid (fun x => echeck_any c d u x)
  have x0 := fun W => index17_0 a b s c d u W
  have x1 := fun W => index17_1 a b s c d u W
  obtain ⟨R, hR⟩ : ∃ R, R = M.eput ⟨a, b, s, c, d, u⟩ := ⟨_, rfl⟩
  rw [← hR]
  have HR := Lib.hid hR
  clear hR
  by_cases h1 : M.emay1 a b s = true
  · rw [M.eerr_ok h1] at C0
    have hmi := (M.emay1_iff _ _ _).1 h1
    obtain ⟨s1, s2, e1, e2, z1, z2, z9⟩ := M.efirst17 ⟨a, b, s, c, d, u⟩ h1
    simp only at e1 e2
    have C1 := Lib.hid (fun x => vput_any ⟨#[69]⟩ a b x (by decide) (by omega) (by omega))
    have C2 := Lib.hid (fun x => put_any s1 (s + 1) 1 x (by omega) (by omega) (by decide) (by decide))
    rw [e1] at C1
    rw [e2] at C2
    have HZ2 : Hid (s2 = M.ef3 ⟨a, b, s, c, d, u⟩ ∧ s2.size ≤ 100) := ⟨z9, z2⟩
    obtain ⟨t1, hws, ht1⟩ : ∃ x, IntKind.i64.wrap (s + 1) = x ∧ x = s + 1 := ⟨_, by rw [IntKind.wrap_i64]; omega, rfl⟩
    rw [← ht1] at C2
    clear e1 e2 z1 z2 z9 hmi ht1
    go_enter Tryz.func27, Tryz.ntmps27
    go_wp2_with fail
    refine wp_loop_rounds 3 ?_
    rw [rounds_succ]
    go_wp2_with fail
    have HX1 := Lib.hid (B3e.new (w.alloc (Ec2 a b s c d u)) a b s)
    have HA1 : Hid (Below w.heap.size w ((w.alloc (Ec2 a b s c d u)).alloc (Ec a b s))) := by show Below _ _ _; exact Below.alloc (nb1 w (Ec2 a b s c d u)) (Below.size (nb1 w (Ec2 a b s c d u))) _
    obtain ⟨g1, hg1⟩ : ∃ g, g = (w.alloc (Ec2 a b s c d u)).heap.size := ⟨_, rfl⟩
    rw [← hg1] at HX1
    try rw [World.size_alloc] at hg1
    rw [← hg1]
    clear hg1
    refine (C0.out _).mono ?_
    rintro en v1 ⟨rfl, hb⟩
    have HX := Lib.hid (HX1.out.below hb HX1.out.lt)
    have HB1 := Lib.hid (HA1.out.trans (hb.mono HA1.out.size))
    clear hb HX1 HA1
    have HS1 : Hid (∀ y, Below v1.heap.size v1 y → y.cell? ⟨g1, 0, none⟩ = some (.int .i64 a) ∧ y.cell? ⟨g1, 1, none⟩ = some (.int .i64 b) ∧ y.cell? ⟨g1, 2, none⟩ = some (.int .i64 s)) := fun y hb => (HX.out.below hb HX.out.lt).cells
    clear HX
    have hb0 : Below v1.heap.size v1 v1 := Below.refl _ _
    have hS0 := HS1.out v1 hb0
    go_wp2_with fail
    go_region_held3 (fun y => y.cell? ⟨g1, 0, none⟩ = some (.int .i64 a) ∧ y.cell? ⟨g1, 1, none⟩ = some (.int .i64 b) ∧ y.cell? ⟨g1, 2, none⟩ = some (.int .i64 s)) (first | assumption)
      (first
        | (go_at_call 62; with_reducible refine (Held.call HS1 (by first | assumption | exact Below.drew (by assumption)) (C1.out _)).mono ?_; rintro en w12 ⟨rfl, hb2, hS2⟩)
        | (go_at_call 61; with_reducible refine (Held.call HS1 (by first | assumption | exact Below.drew (by assumption)) (C2.out _)).mono ?_; rintro en w13 ⟨rfl, hb3, hS3⟩))
    have HC1 := Lib.hid (HB1.out.trans (hb3.mono HB1.out.size))
    clear hb0 hS0 hb2 hb3 hS2 hS3 HB1 HS1
    go_wp2_with fail
    rw [rounds_succ]
    cases h2 : M.emay1 c d u
    · have HN := Lib.hid (HR.out.trans (M.eput_no (M.emay_no2 (x := ⟨a, b, s, c, d, u⟩) (by show ¬ M.emay1 c d u = true; rw [h2]; decide))))
      rw [M.eerr_no (by rw [h2]; decide)] at D0
      clear h1 h2 HZ2
      go_wp2_with fail
      have HX2 := Lib.hid (B3e.new (w13) c d u)
      have HA2 : Hid (Below w.heap.size w ((w13).alloc (Ec c d u))) := by show Below _ _ _; exact Below.alloc HC1.out (Below.size HC1.out) _
      obtain ⟨g2, hg2⟩ : ∃ g, g = (w13).heap.size := ⟨_, rfl⟩
      rw [← hg2] at HX2
      try rw [World.size_alloc] at hg2
      rw [← hg2]
      clear hg2
      refine (D0.out _).mono ?_
      rintro en v2 ⟨rfl, hb⟩
      have HX := Lib.hid (HX2.out.below hb HX2.out.lt)
      have HB2 := Lib.hid (HA2.out.trans (hb.mono HA2.out.size))
      clear hb HX2 HA2
      go_wp2_with fail
      go_ret2
      exact ⟨(congrArg Ending.returned HN.out).symm, HB2.out⟩
    · have hm := M.emay_yes (x := ⟨a, b, s, c, d, u⟩) h1 h2
      have HN := Lib.hid (HR.out.trans (M.eput_ok hm))
      rw [M.eerr_ok h2] at D0
      have hmi := (M.emay1_iff _ _ _).1 h2
      obtain ⟨s3, e3, e4, z3⟩ := M.esecond17 _ hm
      simp only at e3 e4
      rw [← HZ2.out.1] at e3
      have z2 := HZ2.out.2
      have C3 := Lib.hid (fun x => vput_any s2 c d x (by omega) (by omega) (by omega))
      have C4 := Lib.hid (fun x => put_any s3 (u + 1) 1 x (by omega) (by omega) (by decide) (by decide))
      have y3 := M.efront_size ⟨a, b, s, c, d, u⟩
      have y4 := M.esum_size ⟨a, b, s, c, d, u⟩
      have C5 := Lib.hid (fun x => tail10 (M.efront ⟨a, b, s, c, d, u⟩) x (by omega))
      have C6 := Lib.hid (fun x => pad_any (M.efront ⟨a, b, s, c, d, u⟩ ++ M.tail (M.efront ⟨a, b, s, c, d, u⟩)) (by omega) x)
      rw [e3] at C3
      rw [e4] at C4
      have y5 := M.tail_size (M.efront ⟨a, b, s, c, d, u⟩)
      have HW : Hid (M.ewhole ⟨a, b, s, c, d, u⟩ = M.pad (M.efront ⟨a, b, s, c, d, u⟩ ++ M.tail (M.efront ⟨a, b, s, c, d, u⟩))) := rfl
      obtain ⟨s4, hs4⟩ : ∃ x, x = M.efront ⟨a, b, s, c, d, u⟩ := ⟨_, rfl⟩
      rw [← hs4] at C4 C5 C6 HW y3 y5
      obtain ⟨s5, hs5⟩ : ∃ x, x = M.tail s4 := ⟨_, rfl⟩
      rw [← hs5] at C5 C6 HW y5
      obtain ⟨s6, hs6⟩ : ∃ x, x = M.pad (s4 ++ s5) := ⟨_, rfl⟩
      rw [← hs6] at C6 HW
      rw [HW.out] at HN
      obtain ⟨t2, hwu, ht2⟩ : ∃ x, IntKind.i64.wrap (u + 1) = x ∧ x = u + 1 := ⟨_, by rw [IntKind.wrap_i64]; omega, rfl⟩
      rw [← ht2] at C4
      clear e3 e4 hs4 hs5 hs6 y4 z2 z3 hm hmi ht2 h1 h2 HZ2
      go_wp2_with fail
      have HX2 := Lib.hid (B3e.new (w13) c d u)
      have HA2 : Hid (Below w.heap.size w ((w13).alloc (Ec c d u))) := by show Below _ _ _; exact Below.alloc HC1.out (Below.size HC1.out) _
      obtain ⟨g2, hg2⟩ : ∃ g, g = (w13).heap.size := ⟨_, rfl⟩
      rw [← hg2] at HX2
      try rw [World.size_alloc] at hg2
      rw [← hg2]
      clear hg2
      refine (D0.out _).mono ?_
      rintro en v2 ⟨rfl, hb⟩
      have HX := Lib.hid (HX2.out.below hb HX2.out.lt)
      have HB2 := Lib.hid (HA2.out.trans (hb.mono HA2.out.size))
      clear hb HX2 HA2
      have HS2 : Hid (∀ y, Below v2.heap.size v2 y → y.cell? ⟨g2, 0, none⟩ = some (.int .i64 c) ∧ y.cell? ⟨g2, 1, none⟩ = some (.int .i64 d) ∧ y.cell? ⟨g2, 2, none⟩ = some (.int .i64 u)) := fun y hb => (HX.out.below hb HX.out.lt).cells
      clear HX
      have hb0 : Below v2.heap.size v2 v2 := Below.refl _ _
      have hS0 := HS2.out v2 hb0
      go_wp2_with fail
      go_region_held3 (fun y => y.cell? ⟨g2, 0, none⟩ = some (.int .i64 c) ∧ y.cell? ⟨g2, 1, none⟩ = some (.int .i64 d) ∧ y.cell? ⟨g2, 2, none⟩ = some (.int .i64 u)) (first | assumption)
        (first
          | (go_at_call 62; with_reducible refine (Held.call HS2 (by first | assumption | exact Below.drew (by assumption)) (C3.out _)).mono ?_; rintro en w22 ⟨rfl, hb2, hS2⟩)
          | (go_at_call 61; with_reducible refine (Held.call HS2 (by first | assumption | exact Below.drew (by assumption)) (C4.out _)).mono ?_; rintro en w23 ⟨rfl, hb3, hS3⟩))
      have HC2 := Lib.hid (HB2.out.trans (hb3.mono HB2.out.size))
      clear hb0 hS0 hb2 hb3 hS2 hS3 HB2 HS2
      go_wp2_with fail
      rw [rounds_succ]
      go_wp2_with fail
      refine (C5.out _).mono ?_
      rintro en w9 ⟨rfl, hb9⟩
      have HB9 := Lib.hid (HC2.out.trans (hb9.mono HC2.out.size))
      clear hb9
      go_wp2_with fail
      refine (C6.out _).mono ?_
      rintro en w10 ⟨rfl, hb10⟩
      have HB10 := Lib.hid (HB9.out.trans (hb10.mono HB9.out.size))
      clear hb10
      go_wp2_with fail
      go_ret2
      exact ⟨(congrArg Ending.returned HN.out).symm, HB10.out⟩
  · rw [M.eerr_no h1] at C0
    have HN := Lib.hid (HR.out.trans (M.eput_no (M.emay_no1 (x := ⟨a, b, s, c, d, u⟩) h1)))
    clear h1
    go_enter Tryz.func27, Tryz.ntmps27
    go_wp2_with fail
    refine wp_loop_rounds 3 ?_
    rw [rounds_succ]
    go_wp2_with fail
    have HX1 := Lib.hid (B3e.new (w.alloc (Ec2 a b s c d u)) a b s)
    have HA1 : Hid (Below w.heap.size w ((w.alloc (Ec2 a b s c d u)).alloc (Ec a b s))) := by show Below _ _ _; exact Below.alloc (nb1 w (Ec2 a b s c d u)) (Below.size (nb1 w (Ec2 a b s c d u))) _
    obtain ⟨g1, hg1⟩ : ∃ g, g = (w.alloc (Ec2 a b s c d u)).heap.size := ⟨_, rfl⟩
    rw [← hg1] at HX1
    try rw [World.size_alloc] at hg1
    rw [← hg1]
    clear hg1
    refine (C0.out _).mono ?_
    rintro en v1 ⟨rfl, hb⟩
    have HX := Lib.hid (HX1.out.below hb HX1.out.lt)
    have HB1 := Lib.hid (HA1.out.trans (hb.mono HA1.out.size))
    clear hb HX1 HA1
    go_wp2_with fail
    go_ret2
    exact ⟨(congrArg Ending.returned HN.out).symm, HB1.out⟩

end Go.Proofs.YtlihgaejkadonaaGreatDoor
namespace Go.Proofs.YtlihgaejkadonaaGreatDoor
open Go.RowKit

theorem eqEntry17 (d : Nat) (a b s : Int) (W : World) : (Op.equalIn (d + 3) 41 (Ev a b s) (Ev a b s)).run Tryz.prog W = .ok true W := by
  rw [run_equalIn_struct (P := Tryz.prog) W (d + 2) 41 _ _ (by kernel_rfl) (by kernel_rfl)]
  go_simp
set_option maxRecDepth 100000 in
theorem eqEntries17 (a b s c d u : Int) (W : World) : (Op.equalIn 10000 68 (Ev2 a b s c d u) (Ev2 a b s c d u)).run Tryz.prog W = .ok true W := by
  have c3 : Tryz.prog.cellsOf 41 = 3 := by kernel_rfl
  have p0 : ∀ w, (part 41 #[.int .i64 a, .int .i64 b, .int .i64 s, .int .i64 c, .int .i64 d, .int .i64 u] (0 * 3)).run Tryz.prog w = .ok (Ev a b s) w := fun w => by kernel_rfl
  have p1 : ∀ w, (part 41 #[.int .i64 a, .int .i64 b, .int .i64 s, .int .i64 c, .int .i64 d, .int .i64 u] (1 * 3)).run Tryz.prog w = .ok (Ev c d u) w := fun w => by kernel_rfl
  have q0 : ∀ w, (Op.equalIn 9999 41 (Ev a b s) (Ev a b s)).run Tryz.prog w = .ok true w := fun w => eqEntry17 9996 a b s w
  have q1 : ∀ w, (Op.equalIn 9999 41 (Ev c d u) (Ev c d u)).run Tryz.prog w = .ok true w := fun w => eqEntry17 9996 c d u w
  rw [run_equalIn_array (P := Tryz.prog) W 9999 (t := 68) (e := 41) (n := 2) _ _ Tryz.underlying68 rfl, c3, show List.range 2 = [0, 1] from rfl]
  simp only [Op.eqItems, Sem.run_bind, p0, p1, q0, q1, Result.andThen_ok, Bool.not_true, Bool.false_eq_true, if_false, Sem.run_pure]
end Go.Proofs.YtlihgaejkadonaaGreatDoor
