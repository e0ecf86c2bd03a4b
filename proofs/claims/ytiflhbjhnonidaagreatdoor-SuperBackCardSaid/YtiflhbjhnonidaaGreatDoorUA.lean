/-
  What a node may know of itself: plain mathematics. Plain mathematics for layer 16 (super): what a node knows of itself as a sector, and what a sector says. No program in this text. Walks over super.Check and solderref16.Check.
-/
import Derived.Test.YtiflhbjhnonidaaGreatDoorIA
import Derived.Test.YtiflhbjhnonidaaGreatDoorMP
import Derived.Deep.CutRange
namespace Go.Proofs.YtiflhbjhnonidaaGreatDoor.M

/-- What a node knows of itself. -/
structure Su where
  n : Int
  r : Int
  b : Int
  c : Int
  e : Int
  s : Int
  l : Int
def smayN (n : Int) : Bool := decide (0 ≤ n) && decide (n ≤ 1)
def smayB (b : Int) : Bool := decide (0 ≤ b) && decide (b ≤ 16777216)
def smayC (c e : Int) : Bool := decide (0 ≤ c) && decide (c < e)
def smay (x : Su) : Bool := lokB x.e x.s x.l && (smayN x.n && (smayN x.r && (smayB x.b && smayC x.c x.e)))
theorem smay_iff (x : Su) : smay x = true ↔ (1 ≤ x.e ∧ x.e ≤ 24 ∧ 1 ≤ x.s ∧ x.s ≤ 8 ∧ 24 ≤ x.l ∧ x.l ≤ 200) ∧ (0 ≤ x.n ∧ x.n ≤ 1) ∧ (0 ≤ x.r ∧ x.r ≤ 1) ∧ (0 ≤ x.b ∧ x.b ≤ 16777216) ∧ 0 ≤ x.c ∧ x.c < x.e := by
  unfold smay smayN smayB smayC
  simp only [Bool.and_eq_true, decide_eq_true_eq, lok_iff]
end Go.Proofs.YtiflhbjhnonidaaGreatDoor.M
namespace Go.Proofs.YtiflhbjhnonidaaGreatDoor.M

theorem fits1_16 (n : Int) : fitsB n 1 = true ↔ 0 ≤ n ∧ n < 256 := by
  unfold fitsB
  simp only [decide_eq_true_eq]
  have e : (256 : Int) ^ (1 : Int).toNat = 256 := by decide
  rw [e]
  omega
theorem fits4_16 (n : Int) : fitsB n 4 = true ↔ 0 ≤ n ∧ n < 4294967296 := by
  unfold fitsB
  simp only [decide_eq_true_eq]
  have e : (256 : Int) ^ (4 : Int).toNat = 4294967296 := by decide
  rw [e]
  omega
/-- All ahead of the sum, from the first number on. -/
def sf1 (x : Su) : ByteArray := (⟨#[83]⟩ : ByteArray) ++ bytes x.n.toNat 1
def sf2 (x : Su) : ByteArray := sf1 x ++ bytes x.r.toNat 1
def sf3 (x : Su) : ByteArray := sf2 x ++ bytes x.b.toNat 4
def sf4 (x : Su) : ByteArray := sf3 x ++ bytes x.c.toNat 1
def sf5 (x : Su) : ByteArray := sf4 x ++ bytes x.e.toNat 1
def sf6 (x : Su) : ByteArray := sf5 x ++ bytes x.s.toNat 1
def sfront (x : Su) : ByteArray := sf6 x ++ bytes x.l.toNat 2
theorem S_size : (⟨#[83]⟩ : ByteArray).size = 1 := rfl
theorem sf1_size (x : Su) : (sf1 x).size = 2 := by rw [sf1, ByteArray.size_append, bytes_size, S_size]
theorem sf2_size (x : Su) : (sf2 x).size = 3 := by rw [sf2, ByteArray.size_append, bytes_size, sf1_size]
theorem sf3_size (x : Su) : (sf3 x).size = 7 := by rw [sf3, ByteArray.size_append, bytes_size, sf2_size]
theorem sf4_size (x : Su) : (sf4 x).size = 8 := by rw [sf4, ByteArray.size_append, bytes_size, sf3_size]
theorem sf5_size (x : Su) : (sf5 x).size = 9 := by rw [sf5, ByteArray.size_append, bytes_size, sf4_size]
theorem sf6_size (x : Su) : (sf6 x).size = 10 := by rw [sf6, ByteArray.size_append, bytes_size, sf5_size]
theorem sfront_size (x : Su) : (sfront x).size = 12 := by rw [sfront, ByteArray.size_append, bytes_size, sf6_size]
/-- As a sector. -/
def swhole (x : Su) : ByteArray := pad (sfront x ++ tail (sfront x))
theorem ssum_size (x : Su) : (sfront x ++ tail (sfront x)).size = 16 := by rw [ByteArray.size_append, sfront_size, tail_size]
theorem swhole_size (x : Su) : (swhole x).size = 64 := by rw [swhole, pad_size, ssum_size]; decide
theorem swhole_eq (x : Su) : swhole x = (sfront x ++ tail (sfront x)) ++ zeros 48 := by rw [swhole, pad, ssum_size]; rfl
theorem sputs (x : Su) (hm : smay x = true) : putS (⟨#[83]⟩ : ByteArray) x.n 1 = sf1 x ∧ putS (sf1 x) x.r 1 = sf2 x ∧ putS (sf2 x) x.b 4 = sf3 x ∧ putS (sf3 x) x.c 1 = sf4 x ∧ putS (sf4 x) x.e 1 = sf5 x ∧ putS (sf5 x) x.s 1 = sf6 x ∧ putS (sf6 x) x.l 2 = sfront x := by
  obtain ⟨h1, h2, h3, h4, h5⟩ := (smay_iff x).1 hm
  refine ⟨?_, ?_, ?_, ?_, ?_, ?_, ?_⟩
  · rw [putS_yes ((fits1_16 _).2 (by omega))]; rfl
  · rw [putS_yes ((fits1_16 _).2 (by omega))]; rfl
  · rw [putS_yes ((fits4_16 _).2 (by omega))]; rfl
  · rw [putS_yes ((fits1_16 _).2 (by omega))]; rfl
  · rw [putS_yes ((fits1_16 _).2 (by omega))]; rfl
  · rw [putS_yes ((fits1_16 _).2 (by omega))]; rfl
  · rw [putS_yes ((fits2 _).2 (by omega))]; rfl

def sread (t : ByteArray) : Su := ⟨hnum t 1 2, hnum t 2 3, hnum t 3 7, hnum t 7 8, hnum t 8 9, hnum t 9 10, hnum t 10 12⟩
def s0 : Su := ⟨0, 0, 0, 0, 0, 0, 0⟩
/-- What a sector says, and what is wrong. -/
def sget (t : ByteArray) : Su × Int :=
  if t.size ≠ 64 then (s0, 12) else if t.extract 0 1 ≠ ⟨#[83]⟩ then (s0, 4) else if t.extract 12 16 ≠ tail (t.extract 0 12) then (s0, 5)
  else if smay (sread t) = true ∧ swhole (sread t) = t then (sread t, 0) else (s0, 4)

/-- The pieces of the whole, each with what stands ahead of it and behind it. -/
theorem sparts (x : Su) : ∃ r1 r2 r3 r4 r5 r6 r7 : ByteArray, swhole x = ⟨#[83]⟩ ++ bytes x.n.toNat 1 ++ r1 ∧ swhole x = sf1 x ++ bytes x.r.toNat 1 ++ r2 ∧ swhole x = sf2 x ++ bytes x.b.toNat 4 ++ r3 ∧ swhole x = sf3 x ++ bytes x.c.toNat 1 ++ r4 ∧
    swhole x = sf4 x ++ bytes x.e.toNat 1 ++ r5 ∧ swhole x = sf5 x ++ bytes x.s.toNat 1 ++ r6 ∧ swhole x = sf6 x ++ bytes x.l.toNat 2 ++ r7 := by
  have h7 : swhole x = sf6 x ++ bytes x.l.toNat 2 ++ (tail (sfront x) ++ zeros 48) := by rw [swhole_eq, sfront, ByteArray.append_assoc]
  have h6 : swhole x = sf5 x ++ bytes x.s.toNat 1 ++ (bytes x.l.toNat 2 ++ (tail (sfront x) ++ zeros 48)) := by rw [h7, sf6, ByteArray.append_assoc]
  have h5 : swhole x = sf4 x ++ bytes x.e.toNat 1 ++ (bytes x.s.toNat 1 ++ (bytes x.l.toNat 2 ++ (tail (sfront x) ++ zeros 48))) := by rw [h6, sf5, ByteArray.append_assoc]
  have h4 : swhole x = sf3 x ++ bytes x.c.toNat 1 ++ (bytes x.e.toNat 1 ++ (bytes x.s.toNat 1 ++ (bytes x.l.toNat 2 ++ (tail (sfront x) ++ zeros 48)))) := by rw [h5, sf4, ByteArray.append_assoc]
  have h3 : swhole x = sf2 x ++ bytes x.b.toNat 4 ++ (bytes x.c.toNat 1 ++ (bytes x.e.toNat 1 ++ (bytes x.s.toNat 1 ++ (bytes x.l.toNat 2 ++ (tail (sfront x) ++ zeros 48))))) := by rw [h4, sf3, ByteArray.append_assoc]
  have h2 : swhole x = sf1 x ++ bytes x.r.toNat 1 ++ (bytes x.b.toNat 4 ++ (bytes x.c.toNat 1 ++ (bytes x.e.toNat 1 ++ (bytes x.s.toNat 1 ++ (bytes x.l.toNat 2 ++ (tail (sfront x) ++ zeros 48)))))) := by rw [h3, sf2, ByteArray.append_assoc]
  have h1 : swhole x = ⟨#[83]⟩ ++ bytes x.n.toNat 1 ++ (bytes x.r.toNat 1 ++ (bytes x.b.toNat 4 ++ (bytes x.c.toNat 1 ++ (bytes x.e.toNat 1 ++ (bytes x.s.toNat 1 ++ (bytes x.l.toNat 2 ++ (tail (sfront x) ++ zeros 48))))))) := by rw [h2, sf1, ByteArray.append_assoc]
  exact ⟨_, _, _, _, _, _, _, h1, h2, h3, h4, h5, h6, h7⟩
theorem sread_whole (x : Su) (hm : smay x = true) : sread (swhole x) = x := by
  obtain ⟨h1, h2, h3, h4, h5⟩ := (smay_iff x).1 hm
  obtain ⟨r1, r2, r3, r4, r5, r6, r7, e1, e2, e3, e4, e5, e6, e7⟩ := sparts x
  have x1 := hnum_be _ _ _ _ 1 2 x.n.toNat 1 e1 rfl (by rw [bytes_size, S_size]) rfl (by omega)
  have x2 := hnum_be _ _ _ _ 2 3 x.r.toNat 1 e2 (by rw [sf1_size]) (by rw [bytes_size, sf1_size]) rfl (by omega)
  have x3 := hnum_be _ _ _ _ 3 7 x.b.toNat 4 e3 (by rw [sf2_size]) (by rw [bytes_size, sf2_size]) rfl (by omega)
  have x4 := hnum_be _ _ _ _ 7 8 x.c.toNat 1 e4 (by rw [sf3_size]) (by rw [bytes_size, sf3_size]) rfl (by omega)
  have x5 := hnum_be _ _ _ _ 8 9 x.e.toNat 1 e5 (by rw [sf4_size]) (by rw [bytes_size, sf4_size]) rfl (by omega)
  have x6 := hnum_be _ _ _ _ 9 10 x.s.toNat 1 e6 (by rw [sf5_size]) (by rw [bytes_size, sf5_size]) rfl (by omega)
  have x7 := hnum_be _ _ _ _ 10 12 x.l.toNat 2 e7 (by rw [sf6_size]) (by rw [bytes_size, sf6_size]) rfl (by omega)
  obtain ⟨n, r, b, c, e, s, l⟩ := x
  simp only at h1 h2 h3 h4 h5
  rw [sread, x1, x2, x3, x4, x5, x6, x7]
  simp only [Su.mk.injEq]
  refine ⟨?_, ?_, ?_, ?_, ?_, ?_, ?_⟩ <;> omega
theorem sget_whole (x : Su) (hm : smay x = true) : sget (swhole x) = (x, 0) := by
  have E := swhole_eq x
  obtain ⟨r1, r2, r3, r4, r5, r6, r7, e1, e2, e3, e4, e5, e6, e7⟩ := sparts x
  have x1 : (swhole x).extract 0 1 = ⟨#[83]⟩ := ex_mid (swhole x) ⟨#[]⟩ ⟨#[83]⟩ (bytes x.n.toNat 1 ++ r1) 0 1 (by rw [nil_app, e1, ByteArray.append_assoc]) rfl rfl
  have x2 : (swhole x).extract 12 16 = tail (sfront x) := ex_mid (swhole x) (sfront x) (tail (sfront x)) (zeros 48) 12 16 E (by rw [sfront_size]) (by rw [sfront_size, tail_size])
  have x3 : (swhole x).extract 0 12 = sfront x := ex_mid (swhole x) ⟨#[]⟩ (sfront x) (tail (sfront x) ++ zeros 48) 0 12 (by rw [E, nil_app, ByteArray.append_assoc]) rfl (by rw [sfront_size]; rfl)
  have hr := sread_whole x hm
  unfold sget
  rw [if_neg (by rw [swhole_size]; simp), if_neg (by rw [x1]; simp), if_neg (by rw [x2, x3]; simp), if_pos ⟨by rw [hr]; exact hm, by rw [hr]⟩, hr]
/-- Noughts say nothing. -/
theorem sget_zero : sget (zeros 64) = (s0, 4) := by
  have h1 : (zeros 64).extract 0 1 ≠ ⟨#[83]⟩ := by decide
  unfold sget
  rw [if_neg (by simp [zeros_size]), if_pos h1]
theorem sget_err (t : ByteArray) : (sget t).2 = 0 ∨ ((sget t).2 ≠ 0 ∧ (sget t).2 ≤ 12 ∧ 0 ≤ (sget t).2) := by
  unfold sget
  repeat' split
  all_goals first | (left; rfl) | (right; decide)
theorem sget_no (t : ByteArray) (h : (sget t).2 ≠ 0) : (sget t).1 = s0 := by
  unfold sget at h ⊢
  repeat' split at h
  all_goals (first | (exact absurd rfl h) | skip)
  all_goals rename_i h1
  · rw [if_pos h1]
  · rename_i h2; rw [if_neg h2, if_pos h1]
  · rename_i h2 h3; rw [if_neg h2, if_neg h3, if_pos h1]
  · rename_i h2 h3 h4; rw [if_neg h2, if_neg h3, if_neg h4, if_neg h1]
theorem sget_ok (t : ByteArray) (h : (sget t).2 = 0) : smay (sget t).1 = true ∧ swhole (sget t).1 = t := by
  unfold sget at h ⊢
  repeat' split at h
  all_goals (first | (exact absurd h (by decide)) | skip)
  rename_i h1 h2 h3 h4
  rw [if_neg h1, if_neg h2, if_neg h3, if_pos h4]
  exact h4
end Go.Proofs.YtiflhbjhnonidaaGreatDoor.M
namespace Go.Proofs.YtiflhbjhnonidaaGreatDoor
open Go.RowKit

/-- What a node knows of itself, by value. -/
abbrev Sv (n r b c e s l : Int) : Value := .agg #[.int .i64 n, .int .i64 r, .int .i64 b, .int .i64 c, .int .i64 e, .int .i64 s, .int .i64 l]
def M.serr (n r b c e s l : Int) : Int := if M.smay ⟨n, r, b, c, e, s, l⟩ = true then 0 else 3
theorem M.serr_lay {n r b c e s l : Int} (h : M.lokB e s l = false) : M.serr n r b c e s l = 3 := by unfold M.serr M.smay; simp only [h]; rfl
theorem M.serr_of {n r b c e s l : Int} (h : M.lokB e s l = true) : M.serr n r b c e s l = if (M.smayN n && (M.smayN r && (M.smayB b && M.smayC c e))) = true then 0 else 3 := by unfold M.serr M.smay; simp only [h, Bool.true_and]
theorem M.smayN_eq (n : Int) : M.smayN n = ((n == 0) || (n == 1)) := by
  unfold M.smayN
  rw [Bool.eq_iff_iff]
  simp only [Bool.and_eq_true, Bool.or_eq_true, decide_eq_true_eq, beq_iff_eq]
  omega
abbrev Sc16 (n r b c e s l : Int) : Obj := .cells #[.int .i64 n, .int .i64 r, .int .i64 b, .int .i64 c, .int .i64 e, .int .i64 s, .int .i64 l] 25

set_option maxHeartbeats 2000000 in
theorem scheck_any (n r b c e s l : Int) (w : World) : Calls Tryz.prog 9 #[Sv n r b c e s l] w fun en w' => en = .returned (.int .i64 (M.serr n r b c e s l)) ∧ Below w.heap.size w w' := by
  have C0 := Lib.hid (fun x => check15_any e s l x)
  have HB := Lib.hid (ib1 w (Sc16 n r b c e s l))
  have HX : Hid (Box (w.alloc (Sc16 n r b c e s l)) w.heap.size 25 #[.int .i64 n, .int .i64 r, .int .i64 b, .int .i64 c, .int .i64 e, .int .i64 s, .int .i64 l]) := Box.new _ _ _
  cases h : M.lokB e s l
  · rw [M.serr_lay h]
    rw [M.lerr_no h] at C0
    clear h
    go_enter Tryz.func9, Tryz.ntmps9
    go_wp2_with fail
    refine (C0.out _).mono ?_
    rintro en w1 ⟨rfl, hb1⟩
    have HB1 := Lib.hid (HB.out.trans (hb1.mono HB.out.size))
    clear hb1
    go_wp2_with fail
    go_ret
    exact ⟨rfl, HB1.out⟩
  · rw [M.serr_of h]
    have e0 : M.lerr e s l = 0 := by unfold M.lerr; rw [h]; rfl
    rw [e0] at C0
    clear h e0
    obtain ⟨NB, hNB⟩ : ∃ x, x = M.smayN n := ⟨_, rfl⟩
    obtain ⟨RB, hRB⟩ : ∃ x, x = M.smayN r := ⟨_, rfl⟩
    obtain ⟨BB, hBB⟩ : ∃ x, x = M.smayB b := ⟨_, rfl⟩
    obtain ⟨CB, hCB⟩ : ∃ x, x = M.smayC c e := ⟨_, rfl⟩
    rw [← hNB, ← hRB, ← hBB, ← hCB]
    have HN : Hid (∀ b1 b2 : Bool, (n == 0) = b1 → (n == 1) = b2 → NB = (b1 || b2)) := fun b1 b2 e1 e2 => by rw [hNB, M.smayN_eq, e1, e2]
    have HR : Hid (∀ b1 b2 : Bool, (r == 0) = b1 → (r == 1) = b2 → RB = (b1 || b2)) := fun b1 b2 e1 e2 => by rw [hRB, M.smayN_eq, e1, e2]
    have HBB : Hid (∀ b1 b2 : Bool, decide (0 ≤ b) = b1 → decide (b ≤ 16777216) = b2 → BB = (b1 && b2)) := fun b1 b2 e1 e2 => by rw [hBB, M.smayB, e1, e2]
    have HC : Hid (∀ b1 b2 : Bool, decide (0 ≤ c) = b1 → decide (c < e) = b2 → CB = (b1 && b2)) := fun b1 b2 e1 e2 => by rw [hCB, M.smayC, e1, e2]
    clear hNB hRB hBB hCB
    go_enter Tryz.func9, Tryz.ntmps9
    go_wp2_with fail
    refine (C0.out _).mono ?_
    rintro en w1 ⟨rfl, hb1⟩
    have HX1 := Lib.hid (HX.out.below hb1 HX.out.lt)
    have HB1 := Lib.hid (HB.out.trans (hb1.mono HB.out.size))
    clear hb1
    have c0 := (HX1.out.cell 0).trans (rfl : _ = some (Value.int .i64 n))
    have c1 := (HX1.out.cell 1).trans (rfl : _ = some (Value.int .i64 r))
    have c2 := (HX1.out.cell 2).trans (rfl : _ = some (Value.int .i64 b))
    have c3 := (HX1.out.cell 3).trans (rfl : _ = some (Value.int .i64 c))
    have c4 := (HX1.out.cell 4).trans (rfl : _ = some (Value.int .i64 e))
    clear HX1
    go_upto_region 4 with fail
    go_cut [4] from 14 to 21 (fun v wx => v = .bool NB ∧ wx = w1)
    case first =>
      cases e1 : (n == 0)
      · cases e2 : (n == 1)
        all_goals
          have hF := HN.out _ _ e1 e2
          go_wp2_with fail
          go_meet
          exact ⟨by rw [hF]; rfl, rfl⟩
      · have hF := HN.out _ _ e1 rfl
        go_wp2_with fail
        go_meet
        exact ⟨by rw [hF]; rfl, rfl⟩
    obtain ⟨rfl, rfl⟩ := hcut
    go_upto_region 5 with fail
    go_cut [5] from 22 to 29 (fun v wx => v = .bool RB ∧ wx = wc)
    case first =>
      cases e1 : (r == 0)
      · cases e2 : (r == 1)
        all_goals
          have hF := HR.out _ _ e1 e2
          go_wp2_with fail
          go_meet
          exact ⟨by rw [hF]; rfl, rfl⟩
      · have hF := HR.out _ _ e1 rfl
        go_wp2_with fail
        go_meet
        exact ⟨by rw [hF]; rfl, rfl⟩
    obtain ⟨rfl, rfl⟩ := hcut
    go_upto_region 6 with fail
    go_cut [6] from 30 to 37 (fun v wx => v = .bool BB ∧ wx = wc)
    case first =>
      cases e1 : decide (0 ≤ b)
      · have hF := HBB.out _ _ e1 rfl
        go_wp2_with fail
        go_meet
        exact ⟨by rw [hF]; rfl, rfl⟩
      · cases e2 : decide (b ≤ 16777216)
        all_goals
          have hF := HBB.out _ _ e1 e2
          go_wp2_with fail
          go_meet
          exact ⟨by rw [hF]; rfl, rfl⟩
    obtain ⟨rfl, rfl⟩ := hcut
    go_upto_region 7 with fail
    go_cut [7] from 38 to 48 (fun v wx => v = .bool CB ∧ wx = wc)
    case first =>
      cases e1 : decide (0 ≤ c)
      · have hF := HC.out _ _ e1 rfl
        go_wp2_with fail
        go_meet
        exact ⟨by rw [hF]; rfl, rfl⟩
      · cases e2 : decide (c < e)
        all_goals
          have hF := HC.out _ _ e1 e2
          go_wp2_with fail
          go_meet
          exact ⟨by rw [hF]; rfl, rfl⟩
    obtain ⟨rfl, rfl⟩ := hcut
    clear HN HR HBB HC c0 c1 c2 c3 c4
    cases NB
    · go_wp2_with fail
      go_ret
      exact ⟨rfl, HB1.out⟩
    cases RB
    · go_wp2_with fail
      go_ret
      exact ⟨rfl, HB1.out⟩
    cases BB
    · go_wp2_with fail
      go_ret
      exact ⟨rfl, HB1.out⟩
    cases CB
    all_goals
      go_wp2_with fail
      go_ret
      exact ⟨rfl, HB1.out⟩

theorem M.eight_cases (b1 b2 b3 b4 b5 b6 b7 b8 : Bool) : b1 = true ∨ (b1 = false ∧ b2 = true) ∨ (b1 = false ∧ b2 = false ∧ b3 = true) ∨ (b1 = false ∧ b2 = false ∧ b3 = false ∧ b4 = true) ∨ (b1 = false ∧ b2 = false ∧ b3 = false ∧ b4 = false ∧ b5 = true) ∨ (b1 = false ∧ b2 = false ∧ b3 = false ∧ b4 = false ∧ b5 = false ∧ b6 = true) ∨
    (b1 = false ∧ b2 = false ∧ b3 = false ∧ b4 = false ∧ b5 = false ∧ b6 = false ∧ b7 = true) ∨ (b1 = false ∧ b2 = false ∧ b3 = false ∧ b4 = false ∧ b5 = false ∧ b6 = false ∧ b7 = false ∧ b8 = true) ∨ (b1 = false ∧ b2 = false ∧ b3 = false ∧ b4 = false ∧ b5 = false ∧ b6 = false ∧ b7 = false ∧ b8 = false) := by
  cases b1 <;> cases b2 <;> cases b3 <;> cases b4 <;> cases b5 <;> cases b6 <;> cases b7 <;> cases b8 <;> simp
theorem rcheck15_lerr (a b c : Int) (w : World) : Calls Tryz.prog 30 #[Cf a b c] w fun e w' => e = .returned (.int .i64 (M.lerr a b c)) ∧ Below w.heap.size w w' := by
  cases h : M.lokB a b c
  · rw [M.lerr_no h]
    exact rcheck15_no a b c h w
  · have h' := (M.lok_iff a b c).1 h
    obtain ⟨E, rfl⟩ : ∃ E : Nat, a = E := ⟨a.toNat, by omega⟩
    obtain ⟨S, rfl⟩ : ∃ E : Nat, b = E := ⟨b.toNat, by omega⟩
    obtain ⟨L, rfl⟩ : ∃ E : Nat, c = E := ⟨c.toNat, by omega⟩
    rw [M.lerr_ok h]
    exact rcheck15_ok E S L h w

set_option maxHeartbeats 2000000 in
theorem rscheck_any (n r b c e s l : Int) (w : World) : Calls Tryz.prog 10 #[Sv n r b c e s l] w fun en w' => en = .returned (.int .i64 (M.serr n r b c e s l)) ∧ Below w.heap.size w w' := by
  have C0 := Lib.hid (fun x => rcheck15_lerr e s l x)
  have HB := Lib.hid (ib1 w (Sc16 n r b c e s l))
  have HX : Hid (Box (w.alloc (Sc16 n r b c e s l)) w.heap.size 25 #[.int .i64 n, .int .i64 r, .int .i64 b, .int .i64 c, .int .i64 e, .int .i64 s, .int .i64 l]) := Box.new _ _ _
  cases h : M.lokB e s l
  · rw [M.serr_lay h]
    rw [M.lerr_no h] at C0
    clear h
    go_enter Tryz.func10, Tryz.ntmps10
    go_wp2_with fail
    refine (C0.out _).mono ?_
    rintro en w1 ⟨rfl, hb1⟩
    have HB1 := Lib.hid (HB.out.trans (hb1.mono HB.out.size))
    clear hb1
    go_wp2_with fail
    go_ret
    exact ⟨rfl, HB1.out⟩
  · rw [M.serr_of h]
    have e0 : M.lerr e s l = 0 := by unfold M.lerr; rw [h]; rfl
    rw [e0] at C0
    clear h e0
    have HK : Hid (∀ b1 b2 b3 b4 b5 b6 b7 b8 : Bool, decide (n < 0) = b1 → decide (1 < n) = b2 → decide (r < 0) = b3 → decide (1 < r) = b4 → decide (b < 0) = b5 → decide (16777216 < b) = b6 → decide (c < 0) = b7 → decide (e ≤ c) = b8 →
        (if (M.smayN n && (M.smayN r && (M.smayB b && M.smayC c e))) = true then (0 : Int) else 3) = if (b1 || b2 || b3 || b4 || b5 || b6 || b7 || b8) = true then 3 else 0) := by
      rintro b1 b2 b3 b4 b5 b6 b7 b8 rfl rfl rfl rfl rfl rfl rfl rfl
      by_cases hh : (M.smayN n && (M.smayN r && (M.smayB b && M.smayC c e))) = true
      · rw [if_pos hh, if_neg]
        unfold M.smayN M.smayB M.smayC at hh
        simp only [Bool.and_eq_true, decide_eq_true_eq] at hh
        simp only [Bool.or_eq_true, decide_eq_true_eq]
        omega
      · rw [if_neg hh, if_pos]
        unfold M.smayN M.smayB M.smayC at hh
        simp only [Bool.and_eq_true, decide_eq_true_eq] at hh
        simp only [Bool.or_eq_true, decide_eq_true_eq]
        omega
    rcases M.eight_cases (decide (n < 0)) (decide (1 < n)) (decide (r < 0)) (decide (1 < r)) (decide (b < 0)) (decide (16777216 < b)) (decide (c < 0)) (decide (e ≤ c)) with d1 | ⟨d1, d2⟩ | ⟨d1, d2, d3⟩ | ⟨d1, d2, d3, d4⟩ | ⟨d1, d2, d3, d4, d5⟩ | ⟨d1, d2, d3, d4, d5, d6⟩ | ⟨d1, d2, d3, d4, d5, d6, d7⟩ | ⟨d1, d2, d3, d4, d5, d6, d7, d8⟩ | ⟨d1, d2, d3, d4, d5, d6, d7, d8⟩
    all_goals
      have hk := HK.out _ _ _ _ _ _ _ _ (by first | exact d1 | rfl) (by first | exact d2 | rfl) (by first | exact d3 | rfl) (by first | exact d4 | rfl) (by first | exact d5 | rfl) (by first | exact d6 | rfl) (by first | exact d7 | rfl) (by first | exact d8 | rfl)
      simp only [Bool.true_or, Bool.false_or, Bool.or_true, if_true] at hk
      rw [hk]
      clear hk HK
      go_enter Tryz.func10, Tryz.ntmps10
      go_wp2_with fail
      refine (C0.out _).mono ?_
      rintro en w1 ⟨rfl, hb1⟩
      have HX1 := Lib.hid (HX.out.below hb1 HX.out.lt)
      have HB1 := Lib.hid (HB.out.trans (hb1.mono HB.out.size))
      clear hb1
      have c0 := (HX1.out.cell 0).trans (rfl : _ = some (Value.int .i64 n))
      have c1 := (HX1.out.cell 1).trans (rfl : _ = some (Value.int .i64 r))
      have c2 := (HX1.out.cell 2).trans (rfl : _ = some (Value.int .i64 b))
      have c3 := (HX1.out.cell 3).trans (rfl : _ = some (Value.int .i64 c))
      have c4 := (HX1.out.cell 4).trans (rfl : _ = some (Value.int .i64 e))
      clear HX1
      go_wp2_with fail
      go_ret
      exact ⟨rfl, HB1.out⟩
end Go.Proofs.YtiflhbjhnonidaaGreatDoor
