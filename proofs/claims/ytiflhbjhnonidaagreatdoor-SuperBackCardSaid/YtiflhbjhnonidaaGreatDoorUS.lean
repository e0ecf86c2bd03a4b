/-
  The walk over SuperBack. (Written by wip/gen_ulback.py.) The walk over SuperBack's parameters as they come.
-/
import Derived.Test.YtiflhbjhnonidaaGreatDoorUR
import Derived.Test.YtiflhbjhnonidaaGreatDoorUK
import Derived.Deep.RegionHeld3
import Derived.Deep.CutRange
namespace Go.Proofs.YtiflhbjhnonidaaGreatDoor
open Go.RowKit Go.Maps

/-- Seven cells of a box are set. -/
abbrev set7 (z : World) (k : Nat) (n r b c e s l : Int) : World := ((((((z.setCell ⟨k, 0, none⟩ (.int .i64 n)).setCell ⟨k, 1, none⟩ (.int .i64 r)).setCell ⟨k, 2, none⟩ (.int .i64 b)).setCell ⟨k, 3, none⟩ (.int .i64 c)).setCell ⟨k, 4, none⟩ (.int .i64 e)).setCell ⟨k, 5, none⟩ (.int .i64 s)).setCell ⟨k, 6, none⟩ (.int .i64 l)
theorem B7.put7 {z : World} {k : Nat} {a0 a1 a2 a3 a4 a5 a6 : Int} (h : B7 z k a0 a1 a2 a3 a4 a5 a6) (n r b c e s l : Int) : B7 (set7 z k n r b c e s l) k n r b c e s l := by
  have h0 : B7 (z.setCell ⟨k, 0, none⟩ (.int .i64 n)) k n a1 a2 a3 a4 a5 a6 := Box.set h 0 (.int .i64 n)
  have h1 : B7 ((z.setCell ⟨k, 0, none⟩ (.int .i64 n)).setCell ⟨k, 1, none⟩ (.int .i64 r)) k n r a2 a3 a4 a5 a6 := Box.set h0 1 (.int .i64 r)
  have h2 : B7 (((z.setCell ⟨k, 0, none⟩ (.int .i64 n)).setCell ⟨k, 1, none⟩ (.int .i64 r)).setCell ⟨k, 2, none⟩ (.int .i64 b)) k n r b a3 a4 a5 a6 := Box.set h1 2 (.int .i64 b)
  have h3 : B7 ((((z.setCell ⟨k, 0, none⟩ (.int .i64 n)).setCell ⟨k, 1, none⟩ (.int .i64 r)).setCell ⟨k, 2, none⟩ (.int .i64 b)).setCell ⟨k, 3, none⟩ (.int .i64 c)) k n r b c a4 a5 a6 := Box.set h2 3 (.int .i64 c)
  have h4 : B7 (((((z.setCell ⟨k, 0, none⟩ (.int .i64 n)).setCell ⟨k, 1, none⟩ (.int .i64 r)).setCell ⟨k, 2, none⟩ (.int .i64 b)).setCell ⟨k, 3, none⟩ (.int .i64 c)).setCell ⟨k, 4, none⟩ (.int .i64 e)) k n r b c e a5 a6 := Box.set h3 4 (.int .i64 e)
  have h5 : B7 ((((((z.setCell ⟨k, 0, none⟩ (.int .i64 n)).setCell ⟨k, 1, none⟩ (.int .i64 r)).setCell ⟨k, 2, none⟩ (.int .i64 b)).setCell ⟨k, 3, none⟩ (.int .i64 c)).setCell ⟨k, 4, none⟩ (.int .i64 e)).setCell ⟨k, 5, none⟩ (.int .i64 s)) k n r b c e s a6 := Box.set h4 5 (.int .i64 s)
  have h6 : B7 (((((((z.setCell ⟨k, 0, none⟩ (.int .i64 n)).setCell ⟨k, 1, none⟩ (.int .i64 r)).setCell ⟨k, 2, none⟩ (.int .i64 b)).setCell ⟨k, 3, none⟩ (.int .i64 c)).setCell ⟨k, 4, none⟩ (.int .i64 e)).setCell ⟨k, 5, none⟩ (.int .i64 s)).setCell ⟨k, 6, none⟩ (.int .i64 l)) k n r b c e s l := Box.set h5 6 (.int .i64 l)
  exact h6
theorem B7.beside7 {z : World} {j k : Nat} {a0 a1 a2 a3 a4 a5 a6 : Int} (h : B7 z j a0 a1 a2 a3 a4 a5 a6) (hne : j ≠ k) (n r b c e s l : Int) : B7 (set7 z k n r b c e s l) j a0 a1 a2 a3 a4 a5 a6 := by
  (repeat refine Box.kept ?_ (grown_set _ _ _ _) hne)
  exact h
theorem below_set7 {B : Nat} {w z : World} {k : Nat} (h : Below B w z) (hk : B ≤ k) (n r b c e s l : Int) : Below B w (set7 z k n r b c e s l) := by
  (repeat refine Below.setCell ?_ hk _)
  exact h

theorem superBack_far (v0 v1 : Value) (text : ByteArray) (w : World) (hE : Env10 w) (hET : ErrT w) (h : 3000 < text.size) (n r b c e s l n2 r2 b2 c2 e2 s2 l2 : Int) (h0 : v0 = Sv n r b c e s l) (h1 : v1 = Sv n2 r2 b2 c2 e2 s2 l2) : Calls Tryz.prog 5 #[v0, v1, .string text] w fun en z => en = .returned (.bool true) ∧ Below w.heap.size w z := by
  subst h0 h1
  have HB := ib2 w (Sc16 n r b c e s l) (Sc16 n2 r2 b2 c2 e2 s2 l2)
  have C0 := Lib.hid (works16_any ((w.alloc (Sc16 n r b c e s l)).alloc (Sc16 n2 r2 b2 c2 e2 s2 l2)) (hE.below HB) (hET.low HB hET.lt))
  have HB0 := Lib.hid HB
  have h1 : (3000 : Int) < (text.size : Int) := by omega
  clear hE hET h HB
  go_enter Tryz.func5, Tryz.ntmps5
  go_wp2_with fail
  refine C0.out.mono ?_
  rintro en w1 ⟨rfl, hb1⟩
  have HB1 := Lib.hid (HB0.out.trans (hb1.mono HB0.out.size))
  clear hb1
  go_wp2_with fail
  go_ret
  exact ⟨rfl, HB1.out⟩

set_option maxHeartbeats 4000000 in
theorem superBack_no (n r b c e s l n2 r2 b2 c2 e2 s2 l2 : Int) (text : ByteArray) (w : World) (hE : Env10 w) (hET : ErrT w) (h : ¬ 3000 < text.size) (hl : M.lokB e s l = false) : Calls Tryz.prog 5 #[Sv n r b c e s l, Sv n2 r2 b2 c2 e2 s2 l2, .string text] w fun en z => en = .returned (.bool true) ∧ Below w.heap.size w z := by
  have HB := ib2 w (Sc16 n r b c e s l) (Sc16 n2 r2 b2 c2 e2 s2 l2)
  have C0 := Lib.hid (works16_any ((w.alloc (Sc16 n r b c e s l)).alloc (Sc16 n2 r2 b2 c2 e2 s2 l2)) (hE.below HB) (hET.low HB hET.lt))
  have HX : Hid (B7 ((w.alloc (Sc16 n r b c e s l)).alloc (Sc16 n2 r2 b2 c2 e2 s2 l2)) w.heap.size n r b c e s l) := (B7.new w n r b c e s l).below (ib1 _ _) (by simp)
  have C1 := Lib.hid (fun x => begun16_no e s l hl x)
  have C2 := Lib.hid (fun x => check15_any e s l x)
  rw [M.lerr_no hl] at C2
  have HB0 := Lib.hid HB
  have h1 : ¬ (3000 : Int) < (text.size : Int) := by omega
  clear hE hET h HB hl
  go_enter Tryz.func5, Tryz.ntmps5
  go_wp2_with fail
  refine C0.out.mono ?_
  rintro en w1 ⟨rfl, hb1⟩
  have HB1 := Lib.hid (HB0.out.trans (hb1.mono HB0.out.size))
  have H1 := Lib.hid (HX.out.below hb1 HX.out.lt)
  clear hb1
  obtain ⟨c0, c1, c2, c3, c4, c5, c6⟩ := B7.cells H1.out
  have HB2 := Lib.hid (HB1.out.trans ((ib1 w1 (.cells #[.int .i64 e, .int .i64 s, .int .i64 l] 23)).mono HB1.out.size))
  have H2 : Hid (Box (w1.alloc (.cells #[.int .i64 e, .int .i64 s, .int .i64 l] 23)) w1.heap.size 23 #[.int .i64 e, .int .i64 s, .int .i64 l]) := Box.new _ _ _
  go_wp2_with fail
  refine (C1.out _).mono ?_
  rintro en w2 ⟨rfl, hb2⟩
  have HB3 := Lib.hid (HB2.out.trans (hb2.mono HB2.out.size))
  have H3 := Lib.hid (H2.out.below hb2 H2.out.lt)
  clear hb2 c0 c1 c2 c3 c4 c5 c6
  have d0 := (H3.out.cell 0).trans (rfl : _ = some (Value.int .i64 e))
  have d1 := (H3.out.cell 1).trans (rfl : _ = some (Value.int .i64 s))
  have d2 := (H3.out.cell 2).trans (rfl : _ = some (Value.int .i64 l))
  go_wp2_with fail
  refine (C2.out _).mono ?_
  rintro en w3 ⟨rfl, hb3⟩
  have HB4 := Lib.hid (HB3.out.trans (hb3.mono HB3.out.size))
  clear hb3
  go_wp2_with fail
  go_ret
  exact ⟨rfl, HB4.out⟩

set_option maxHeartbeats 16000000 in
theorem superBack_ok (E S L : Nat) (x1 x2 x3 x4 o1 o2 o3 o4 o5 o6 o7 : Int) (text : ByteArray) (w : World) (hE : Env10 w) (hET : ErrT w) (h : ¬ 3000 < text.size) (hl : M.lokB E S L = true) : Calls Tryz.prog 5 #[Sv x1 x2 x3 x4 E S L, Sv o1 o2 o3 o4 o5 o6 o7, .string text] w fun en z => en = .returned (.bool true) ∧ Below w.heap.size w z := by
  have HB := ib2 w (Sc16 x1 x2 x3 x4 E S L) (Sc16 o1 o2 o3 o4 o5 o6 o7)
  have C0 := Lib.hid (works16_any ((w.alloc (Sc16 x1 x2 x3 x4 E S L)).alloc (Sc16 o1 o2 o3 o4 o5 o6 o7)) (hE.below HB) (hET.low HB hET.lt))
  have HX : Hid (B7 ((w.alloc (Sc16 x1 x2 x3 x4 E S L)).alloc (Sc16 o1 o2 o3 o4 o5 o6 o7)) w.heap.size x1 x2 x3 x4 E S L) := (B7.new w x1 x2 x3 x4 E S L).below (ib1 _ _) (by simp)
  have HO : Hid (B7 ((w.alloc (Sc16 x1 x2 x3 x4 E S L)).alloc (Sc16 o1 o2 o3 o4 o5 o6 o7)) (w.heap.size + 1) o1 o2 o3 o4 o5 o6 o7) := by
    have := B7.new (w.alloc (Sc16 x1 x2 x3 x4 E S L)) o1 o2 o3 o4 o5 o6 o7
    rw [World.size_alloc] at this
    exact this
  have HPA : Hid (∀ w1, Below w.heap.size w w1 → Env10 w1 ∧ ErrT w1) := fun w1 hb => ⟨hE.low hb hE.lt, hET.low hb hET.lt⟩
  have CL := Lib.hid (fun x => log15_ok E S L hl x)
  have CS := Lib.hid (fun x => rscheck_any x1 x2 x3 x4 E S L x)
  have CO := Lib.hid (fun x => rscheck_any o1 o2 o3 o4 o5 o6 o7 x)
  have CG := Lib.hid (fun x => rsget16_any text x)
  have HB0 := Lib.hid HB
  have h1 : ¬ (3000 : Int) < (text.size : Int) := by omega
  have HL := Lib.hid hl
  clear hE hET h HB hl
  go_enter Tryz.func5, Tryz.ntmps5
  go_wp2_with fail
  refine C0.out.mono ?_
  rintro en w1 ⟨rfl, hb1⟩
  have HB1 := Lib.hid (HB0.out.trans (hb1.mono HB0.out.size))
  have HX1 := Lib.hid (HX.out.below hb1 HX.out.lt)
  have HO1 := Lib.hid (HO.out.below hb1 HO.out.lt)
  clear hb1 HX HO C0 HB0
  obtain ⟨c0, c1, c2, c3, c4, c5, c6⟩ := B7.cells HX1.out
  have HB2 := Lib.hid (HB1.out.trans ((ib1 w1 (.cells #[.int .i64 E, .int .i64 S, .int .i64 L] 23)).mono HB1.out.size))
  have HX2 := Lib.hid (HX1.out.below (ib1 w1 (.cells #[.int .i64 E, .int .i64 S, .int .i64 L] 23)) HX1.out.lt)
  have HO2 := Lib.hid (HO1.out.below (ib1 w1 (.cells #[.int .i64 E, .int .i64 S, .int .i64 L] 23)) HO1.out.lt)
  have HC2 : Hid (Box (w1.alloc (.cells #[.int .i64 E, .int .i64 S, .int .i64 L] 23)) w1.heap.size 23 #[.int .i64 E, .int .i64 S, .int .i64 L]) := Box.new _ _ _
  go_wp2_with fail
  obtain ⟨w2, hw2⟩ : ∃ x, x = w1.alloc (.cells #[.int .i64 E, .int .i64 S, .int .i64 L] 23) := ⟨_, rfl⟩
  rw [← hw2] at HB2 HX2 HO2 HC2 ⊢
  obtain ⟨cb, hcb⟩ : ∃ x, x = w1.heap.size := ⟨_, rfl⟩
  rw [← hcb] at HC2 ⊢
  clear hw2 hcb HX1 HO1 HB1 c0 c1 c2 c3 c4 c5 c6
  obtain ⟨B0, B1, B2, B3, B4, B5, B6, B7_, B8, B9, t1, ht1, p1, p2, p3, p4, p5, p6, p7, p8, p9, p10, p11, p12, p13, p14, p15, p16, p17, p18, p19, p20, p21⟩ := back16_parts E S L HL.out x1 x2 x3 x4 E S L o1 o2 o3 o4 o5 o6 o7 text w2 (HPA.out w2 HB2.out).1 (HPA.out w2 HB2.out).2
  have P1 := Lib.hid p1
  have P2 := Lib.hid p2
  have P3 := Lib.hid p3
  have P5 := Lib.hid p5
  have P6 := Lib.hid p6
  have P8 := Lib.hid p8
  have P9 := Lib.hid p9
  have P10 := Lib.hid p10
  have P11 := Lib.hid p11
  have P12 := Lib.hid p12
  have P14 := Lib.hid p14
  have P16 := Lib.hid p16
  have P17 := Lib.hid p17
  have P19 := Lib.hid p19
  have P20 := Lib.hid p20
  have P21 := Lib.hid p21
  have Q1 := Lib.hid p4
  have Q2 := Lib.hid p7
  have Q6 := Lib.hid p13
  have Q7 := Lib.hid p15
  have Q8 := Lib.hid p18
  have HT1 := Lib.hid ht1
  clear p1 p2 p3 p4 p5 p6 p7 p8 p9 p10 p11 p12 p13 p14 p15 p16 p17 p18 p19 p20 p21 ht1 HPA HL
  have FX : Hid (∀ y, Below w2.heap.size w2 y → B7 y w.heap.size x1 x2 x3 x4 E S L) := fun y hb => HX2.out.below hb HX2.out.lt
  have FO : Hid (∀ y, Below w2.heap.size w2 y → B7 y (w.heap.size + 1) o1 o2 o3 o4 o5 o6 o7) := fun y hb => HO2.out.below hb HO2.out.lt
  have FC : Hid (∀ y, Below w2.heap.size w2 y → y.cell? ⟨cb, 0, none⟩ = some (.int .i64 E) ∧ y.cell? ⟨cb, 1, none⟩ = some (.int .i64 S) ∧ y.cell? ⟨cb, 2, none⟩ = some (.int .i64 L)) := fun y hb => ⟨(HC2.out.below hb HC2.out.lt).cell 0, (HC2.out.below hb HC2.out.lt).cell 1, (HC2.out.below hb HC2.out.lt).cell 2⟩
  have FB : Hid (∀ y, Below w2.heap.size w2 y → Below w.heap.size w y) := fun y hb => HB2.out.trans (hb.mono HB2.out.size)
  obtain ⟨k0, k1, k2⟩ := FC.out w2 (Below.refl _ _)
  obtain ⟨ES, hES⟩ : ∃ x, x = M.serr x1 x2 x3 x4 E S L := ⟨_, rfl⟩
  obtain ⟨EO, hEO⟩ : ∃ x, x = M.serr o1 o2 o3 o4 o5 o6 o7 := ⟨_, rfl⟩
  obtain ⟨LV, hLV⟩ : ∃ x, x = M.sload t1 := ⟨_, rfl⟩
  obtain ⟨l0, hl0⟩ : ∃ x, x = M.ll E S := ⟨_, rfl⟩
  rw [← hES] at P5 CS
  rw [← hEO] at P8 CO
  rw [← hLV] at P16
  rw [← hl0] at P14 CL
  have hss : (ES == ES) = true := beq_self_eq_true _
  have HCASE : Hid ((EO = 0 ∧ LV = .tuple #[Sv o1 o2 o3 o4 o5 o6 o7, .int .i64 0]) ∨ (EO = 3 ∧ ES = 0 ∧ LV = .tuple #[Sv x1 x2 x3 x4 E S L, .int .i64 0]) ∨ (EO = 3 ∧ ES = 3 ∧ LV = .tuple #[Sv 0 0 0 0 0 0 0, .int .i64 32])) := by
    rw [hES, hEO, hLV, HT1.out]
    by_cases ho : M.smay ⟨o1, o2, o3, o4, o5, o6, o7⟩ = true
    · left
      refine ⟨M.serr_ok ho, ?_⟩
      unfold M.st1
      rw [if_pos ho]
      exact (M.sgot_ok (M.sget_whole _ ho)).2
    · right
      by_cases hx : M.smay ⟨x1, x2, x3, x4, E, S, L⟩ = true
      · left
        refine ⟨M.serr_no ho, M.serr_ok hx, ?_⟩
        unfold M.st1
        rw [if_neg ho, if_pos hx]
        exact (M.sgot_ok (M.sget_whole _ hx)).2
      · right
        refine ⟨M.serr_no ho, M.serr_no hx, ?_⟩
        unfold M.st1
        rw [if_neg ho, if_neg hx]
        exact (M.sgot_no (by show (M.sget (M.zeros 64)).2 ≠ 0; rw [M.sget_zero]; decide)).2
  clear hES hEO hLV hl0 HT1 HX2 HO2 HC2 HB2
  refine P1.out.mono ?_
  rintro en w3 ⟨d, b, rfl, g3⟩
  have G3 := Lib.hid g3
  clear g3 k0 k1 k2
  go_wp2_with fail
  refine (P2.out _ _ _ G3.out).mono ?_
  rintro en w4 ⟨rfl, g4⟩
  have G4 := Lib.hid (P3.out _ _ _ _ g4 (ib1 w4 (Sc16 0 0 0 0 0 0 0)))
  have K4 := Lib.hid (B7.new w4 0 0 0 0 0 0 0)
  clear g4 G3
  obtain ⟨c0, c1, c2, c3, c4, c5, c6⟩ := B7.cells K4.out
  obtain ⟨d0, d1, d2, d3, d4, d5, d6⟩ := B7.cells (FX.out _ (Q1.out _ _ _ G4.out))
  go_wp2_with fail
  refine (P5.out _ _ _ G4.out).mono ?_
  rintro en w5 ⟨rfl, g5⟩
  have G5 := Lib.hid g5
  clear g5 G4 K4 c0 c1 c2 c3 c4 c5 c6 d0 d1 d2 d3 d4 d5 d6
  obtain ⟨d0, d1, d2, d3, d4, d5, d6⟩ := B7.cells (FX.out _ (Q2.out _ _ _ G5.out))
  go_wp2_with fail
  refine (CS.out _).mono ?_
  rintro en w6 ⟨rfl, hb6⟩
  have G6 := Lib.hid (P6.out _ _ _ _ G5.out hb6)
  clear hb6 G5 d0 d1 d2 d3 d4 d5 d6
  obtain ⟨d0, d1, d2, d3, d4, d5, d6⟩ := B7.cells (FO.out _ (Q2.out _ _ _ G6.out))
  go_wp2_with fail
  refine (P8.out _ _ _ G6.out).mono ?_
  rintro en w7 ⟨rfl, g7⟩
  have G7 := Lib.hid g7
  clear g7 G6 d0 d1 d2 d3 d4 d5 d6
  go_wp2_with fail
  refine (P9.out _ _ _ G7.out).mono ?_
  rintro en w8 ⟨rfl, g8⟩
  have G8 := Lib.hid g8
  clear g8 G7
  go_wp2_with fail
  refine (P10.out _ _ _ G8.out).mono ?_
  rintro en w9 ⟨rfl, g9⟩
  have G9 := Lib.hid g9
  clear g9 G8
  go_wp2_with fail
  refine (P11.out _ _ _ G9.out).mono ?_
  rintro en w10 ⟨rfl, g10⟩
  have G10 := Lib.hid g10
  clear g10 G9
  have hS0 := FC.out w10 (Q6.out _ _ G10.out)
  have hS0' := FC.out w10.drew (Q6.out _ _ G10.out).drew
  go_wp2_with fail
  go_region_held3 (fun y => y.cell? ⟨cb, 0, none⟩ = some (.int .i64 E) ∧ y.cell? ⟨cb, 1, none⟩ = some (.int .i64 S) ∧ y.cell? ⟨cb, 2, none⟩ = some (.int .i64 L)) (first | assumption)
    (first
      | (go_at_call 21; refine (CL.out _).mono ?_; rintro en w11 ⟨rfl, hb11⟩; have G11 := Lib.hid (P12.out _ w11 d (by first | exact G10.out | exact P12.out _ _ _ G10.out (Below.refl _ _).drew) hb11); have hS11 := FC.out w11 (Q6.out _ _ G11.out); clear hb11)
      | (go_at_call 20; refine (P14.out _ d (by first | exact G11.out | exact P12.out _ _ _ G11.out (Below.refl _ _).drew)).mono ?_; rintro en w12 ⟨b2, rfl, g12⟩; have G12 := Lib.hid g12; have hS12 := FC.out w12 (Q7.out _ _ G12.out); clear g12))
  clear hS0 hS0' hS11 hS12 G10 G11 P1 P2 P3 P5 P6 P8 P9 P10 P11 P12 P14 CL CS Q1 Q2 Q6 FC
  go_wp2_with fail
  refine (P16.out _ _ G12.out).mono ?_
  rintro en w13 ⟨rfl, g13⟩
  have G13 := Lib.hid g13
  clear g13 G12
  have hcase := HCASE.out
  clear HCASE
  rcases hcase with ⟨e1, e2⟩ | ⟨e1, e2, e3⟩ | ⟨e1, e2, e3⟩
  · subst e1 e2
    have HD14 := Lib.hid (ib1 w13 (Sc16 o1 o2 o3 o4 o5 o6 o7))
    have HD15 := Lib.hid (HD14.out.trans ((ib1 (w13.alloc (Sc16 o1 o2 o3 o4 o5 o6 o7)) (Sc16 o1 o2 o3 o4 o5 o6 o7)).mono (Nat.le_of_lt (by simp))))
    have K15 := Lib.hid ((B7.new w13 o1 o2 o3 o4 o5 o6 o7).below (ib1 (w13.alloc (Sc16 o1 o2 o3 o4 o5 o6 o7)) (Sc16 o1 o2 o3 o4 o5 o6 o7)) (by simp))
    have J15 : Hid (B7 ((w13.alloc (Sc16 o1 o2 o3 o4 o5 o6 o7)).alloc (Sc16 o1 o2 o3 o4 o5 o6 o7)) (w13.heap.size + 1) o1 o2 o3 o4 o5 o6 o7) := by
      have := B7.new (w13.alloc (Sc16 o1 o2 o3 o4 o5 o6 o7)) o1 o2 o3 o4 o5 o6 o7
      rw [World.size_alloc] at this
      exact this
    have FW : Hid (∀ y, Below w13.heap.size w13 y → Below w2.heap.size w2 y) := fun y hb => (Q8.out _ _ G13.out).trans (hb.mono (Q8.out _ _ G13.out).size)
    obtain ⟨c0, c1, c2, c3, c4, c5, c6⟩ := B7.cells (FO.out _ (FW.out _ HD14.out))
    obtain ⟨d0, d1, d2, d3, d4, d5, d6⟩ := B7.cells (FO.out _ (FW.out _ HD15.out))
    go_wp2_with fail
    refine (CO.out _).mono ?_
    rintro en w16 ⟨rfl, hb16⟩
    have HD16 := Lib.hid (HD15.out.trans (hb16.mono HD15.out.size))
    have K16 := Lib.hid (K15.out.below hb16 K15.out.lt)
    have J16 := Lib.hid (J15.out.below hb16 J15.out.lt)
    clear hb16 HD14 HD15 K15 J15 c0 c1 c2 c3 c4 c5 c6 d0 d1 d2 d3 d4 d5 d6 CO
    obtain ⟨c0, c1, c2, c3, c4, c5, c6⟩ := B7.cells K16.out
    obtain ⟨d0, d1, d2, d3, d4, d5, d6⟩ := B7.cells J16.out
    have eq0 : ((o1 : Int) == o1) = true := beq_self_eq_true _
    have eq1 : ((o2 : Int) == o2) = true := beq_self_eq_true _
    have eq2 : ((o3 : Int) == o3) = true := beq_self_eq_true _
    have eq3 : ((o4 : Int) == o4) = true := beq_self_eq_true _
    have eq4 : ((o5 : Int) == o5) = true := beq_self_eq_true _
    have eq5 : ((o6 : Int) == o6) = true := beq_self_eq_true _
    have eq6 : ((o7 : Int) == o7) = true := beq_self_eq_true _
    go_wp2_with fail
    have G16 := Lib.hid (P17.out _ _ _ G13.out HD16.out)
    clear c0 c1 c2 c3 c4 c5 c6 d0 d1 d2 d3 d4 d5 d6
    refine (P19.out _ _ G16.out).mono ?_
    rintro en w17 ⟨rfl, g17⟩
    have G17 := Lib.hid g17
    clear g17 G16 G13
    by_cases ht : text.size = 64
    · obtain ⟨B10, r1, r2⟩ := P21.out ht
      have R1 := Lib.hid r1
      have R2 := Lib.hid r2
      clear r1 r2 P20 P21 P19 P17 Q8 FX FO
      by_cases h0 : (M.sget text).2 = 0
      · obtain ⟨x, hx⟩ : ∃ x, x = (M.sget text).1 := ⟨_, rfl⟩
        obtain ⟨s1, s2⟩ := M.sgot_ok (x := x) (by rw [hx, ← h0])
        rw [s1] at CG
        rw [s2] at R2
        obtain ⟨u1, u2, u3, u4, u5, u6, u7⟩ := x
        simp only at CG R2
        have fe1 : (u1 == u1) = true := beq_self_eq_true _
        have fe2 : (u2 == u2) = true := beq_self_eq_true _
        have fe3 : (u3 == u3) = true := beq_self_eq_true _
        have fe4 : (u4 == u4) = true := beq_self_eq_true _
        have fe5 : (u5 == u5) = true := beq_self_eq_true _
        have fe6 : (u6 == u6) = true := beq_self_eq_true _
        have fe7 : (u7 == u7) = true := beq_self_eq_true _
        clear h0 hx s1 s2
        go_wp2_with fail
        refine (R1.out _ _ G17.out).mono ?_
        rintro en w18 ⟨rfl, g18⟩
        have G18 := Lib.hid g18
        clear g18 G17 R1
        go_wp2_with fail
        refine (R2.out _ _ G18.out).mono ?_
        rintro en w19 ⟨rfl, hb19⟩
        have HB19 := Lib.hid (FB.out _ hb19)
        have K20 := Lib.hid (B7.new w19 u1 u2 u3 u4 u5 u6 u7)
        have HB20 := Lib.hid (HB19.out.trans ((ib1 w19 (Sc16 u1 u2 u3 u4 u5 u6 u7)).mono HB19.out.size))
        clear hb19 G18 R2 HB19
        go_wp2_with fail
        refine (CG.out _).mono ?_
        rintro en w21 ⟨rfl, hb21⟩
        have K21 := Lib.hid (K20.out.below hb21 K20.out.lt)
        have HB21 := Lib.hid (HB20.out.trans (hb21.mono HB20.out.size))
        have K22 := Lib.hid (K21.out.below (ib1 w21 (Sc16 u1 u2 u3 u4 u5 u6 u7)) K21.out.lt)
        have J22 := Lib.hid (B7.new w21 u1 u2 u3 u4 u5 u6 u7)
        have HB22 := Lib.hid (HB21.out.trans ((ib1 w21 (Sc16 u1 u2 u3 u4 u5 u6 u7)).mono HB21.out.size))
        clear hb21 K20 HB20
        obtain ⟨c0, c1, c2, c3, c4, c5, c6⟩ := B7.cells K22.out
        obtain ⟨d0, d1, d2, d3, d4, d5, d6⟩ := B7.cells J22.out
        go_wp2_with fail
        go_ret
        exact ⟨rfl, HB22.out⟩
      · obtain ⟨s1, s2⟩ := M.sgot_no h0
        rw [s1] at CG
        rw [s2] at R2
        obtain ⟨er, her⟩ : ∃ er, er = (M.sget text).2 := ⟨_, rfl⟩
        rw [← her] at CG h0
        have hz0 : (er == 0) = false := by rw [beq_eq_false_iff_ne]; exact h0
        clear s1 s2 her
        go_wp2_with fail
        refine (R1.out _ _ G17.out).mono ?_
        rintro en w18 ⟨rfl, g18⟩
        have G18 := Lib.hid g18
        clear g18 G17 R1
        go_wp2_with fail
        refine (R2.out _ _ G18.out).mono ?_
        rintro en w19 ⟨rfl, hb19⟩
        have HB19 := Lib.hid (FB.out _ hb19)
        have K20 := Lib.hid (B7.new w19 0 0 0 0 0 0 0)
        have HB20 := Lib.hid (HB19.out.trans ((ib1 w19 (Sc16 0 0 0 0 0 0 0)).mono HB19.out.size))
        clear hb19 G18 R2 HB19
        go_wp2_with fail
        refine (CG.out _).mono ?_
        rintro en w21 ⟨rfl, hb21⟩
        have K21 := Lib.hid (K20.out.below hb21 K20.out.lt)
        have HB21 := Lib.hid (HB20.out.trans (hb21.mono HB20.out.size))
        have K22 := Lib.hid (K21.out.below (ib1 w21 (Sc16 0 0 0 0 0 0 0)) K21.out.lt)
        have J22 := Lib.hid (B7.new w21 0 0 0 0 0 0 0)
        have HB22 := Lib.hid (HB21.out.trans ((ib1 w21 (Sc16 0 0 0 0 0 0 0)).mono HB21.out.size))
        clear hb21 K20 HB20
        obtain ⟨c0, c1, c2, c3, c4, c5, c6⟩ := B7.cells K22.out
        obtain ⟨d0, d1, d2, d3, d4, d5, d6⟩ := B7.cells J22.out
        go_wp2_with fail
        go_ret
        exact ⟨rfl, HB22.out⟩
    · have hn : ((text.size : Int) == 64) = false := by rw [beq_eq_false_iff_ne]; omega
      have hn' : ((text.size : Int) != 64) = true := by rw [bne, hn]; rfl
      go_wp2_with fail
      refine (P20.out ht _ _ G17.out).mono ?_
      rintro en w18 ⟨rfl, hb18⟩
      have HB18 := Lib.hid (FB.out _ hb18)
      clear hb18 G17 ht
      go_wp2_with fail
      go_ret
      exact ⟨rfl, HB18.out⟩
  · subst e1 e2 e3
    have HD14 := Lib.hid (ib1 w13 (Sc16 x1 x2 x3 x4 E S L))
    have HD15 := Lib.hid (HD14.out.trans ((ib1 (w13.alloc (Sc16 x1 x2 x3 x4 E S L)) (Sc16 o1 o2 o3 o4 o5 o6 o7)).mono (Nat.le_of_lt (by simp))))
    have K15 := Lib.hid ((B7.new w13 x1 x2 x3 x4 E S L).below (ib1 (w13.alloc (Sc16 x1 x2 x3 x4 E S L)) (Sc16 o1 o2 o3 o4 o5 o6 o7)) (by simp))
    have J15 : Hid (B7 ((w13.alloc (Sc16 x1 x2 x3 x4 E S L)).alloc (Sc16 o1 o2 o3 o4 o5 o6 o7)) (w13.heap.size + 1) o1 o2 o3 o4 o5 o6 o7) := by
      have := B7.new (w13.alloc (Sc16 x1 x2 x3 x4 E S L)) o1 o2 o3 o4 o5 o6 o7
      rw [World.size_alloc] at this
      exact this
    have FW : Hid (∀ y, Below w13.heap.size w13 y → Below w2.heap.size w2 y) := fun y hb => (Q8.out _ _ G13.out).trans (hb.mono (Q8.out _ _ G13.out).size)
    obtain ⟨c0, c1, c2, c3, c4, c5, c6⟩ := B7.cells (FO.out _ (FW.out _ HD14.out))
    obtain ⟨d0, d1, d2, d3, d4, d5, d6⟩ := B7.cells (FO.out _ (FW.out _ HD15.out))
    go_wp2_with fail
    refine (CO.out _).mono ?_
    rintro en w16 ⟨rfl, hb16⟩
    have HD16 := Lib.hid (HD15.out.trans (hb16.mono HD15.out.size))
    have K16 := Lib.hid (K15.out.below hb16 K15.out.lt)
    have J16 := Lib.hid (J15.out.below hb16 J15.out.lt)
    clear hb16 HD14 HD15 K15 J15 c0 c1 c2 c3 c4 c5 c6 d0 d1 d2 d3 d4 d5 d6 CO
    obtain ⟨c0, c1, c2, c3, c4, c5, c6⟩ := B7.cells (FX.out _ (FW.out _ HD16.out))
    obtain ⟨d0, d1, d2, d3, d4, d5, d6⟩ := B7.cells J16.out
    obtain ⟨f0, f1, f2, f3, f4, f5, f6⟩ := B7.frozen J16.out
    have HD17_ := Lib.hid (below_set7 HD16.out (Nat.le_succ w13.heap.size) x1 x2 x3 x4 E S L)
    have K17_ := Lib.hid (K16.out.beside7 (Nat.ne_of_lt (Nat.lt_succ_self w13.heap.size)) x1 x2 x3 x4 E S L)
    have J17_ := Lib.hid (J16.out.put7 x1 x2 x3 x4 E S L)
    have eq0 : ((x1 : Int) == x1) = true := beq_self_eq_true _
    have eq1 : ((x2 : Int) == x2) = true := beq_self_eq_true _
    have eq2 : ((x3 : Int) == x3) = true := beq_self_eq_true _
    have eq3 : ((x4 : Int) == x4) = true := beq_self_eq_true _
    have eq4 : (((E : Int) : Int) == (E : Int)) = true := beq_self_eq_true _
    have eq5 : (((S : Int) : Int) == (S : Int)) = true := beq_self_eq_true _
    have eq6 : (((L : Int) : Int) == (L : Int)) = true := beq_self_eq_true _
    go_upto_region 24 with fail
    obtain ⟨w17_, hw17⟩ : ∃ x, x = (((((((w16.setCell ⟨w13.heap.size + 1, 0, none⟩ (.int .i64 x1)).setCell ⟨w13.heap.size + 1, 1, none⟩ (.int .i64 x2)).setCell ⟨w13.heap.size + 1, 2, none⟩ (.int .i64 x3)).setCell ⟨w13.heap.size + 1, 3, none⟩ (.int .i64 x4)).setCell ⟨w13.heap.size + 1, 4, none⟩ (.int .i64 (E : Int))).setCell ⟨w13.heap.size + 1, 5, none⟩ (.int .i64 (S : Int))).setCell ⟨w13.heap.size + 1, 6, none⟩ (.int .i64 (L : Int))) := ⟨_, rfl⟩
    have HD17 : Hid (Below w13.heap.size w13 w17_) := by show Below _ _ _; rw [hw17]; exact HD17_.out
    have K17 : Hid (B7 w17_ w13.heap.size x1 x2 x3 x4 E S L) := by show B7 _ _ _ _ _ _ _ _ _; rw [hw17]; exact K17_.out
    have J17 : Hid (B7 w17_ (w13.heap.size + 1) x1 x2 x3 x4 E S L) := by show B7 _ _ _ _ _ _ _ _ _; rw [hw17]; exact J17_.out
    rw [← hw17]
    clear hw17 HD17_ K17_ J17_ K16 J16 HD16 f0 f1 f2 f3 f4 f5 f6 c0 c1 c2 c3 c4 c5 c6 d0 d1 d2 d3 d4 d5 d6
    obtain ⟨c0, c1, c2, c3, c4, c5, c6⟩ := B7.cells K17.out
    obtain ⟨d0, d1, d2, d3, d4, d5, d6⟩ := B7.cells J17.out
    go_wp2_with fail
    have G16 := Lib.hid (P17.out _ _ _ G13.out HD17.out)
    clear c0 c1 c2 c3 c4 c5 c6 d0 d1 d2 d3 d4 d5 d6
    refine (P19.out _ _ G16.out).mono ?_
    rintro en w17 ⟨rfl, g17⟩
    have G17 := Lib.hid g17
    clear g17 G16 G13
    by_cases ht : text.size = 64
    · obtain ⟨B10, r1, r2⟩ := P21.out ht
      have R1 := Lib.hid r1
      have R2 := Lib.hid r2
      clear r1 r2 P20 P21 P19 P17 Q8 FX FO
      by_cases h0 : (M.sget text).2 = 0
      · obtain ⟨x, hx⟩ : ∃ x, x = (M.sget text).1 := ⟨_, rfl⟩
        obtain ⟨s1, s2⟩ := M.sgot_ok (x := x) (by rw [hx, ← h0])
        rw [s1] at CG
        rw [s2] at R2
        obtain ⟨u1, u2, u3, u4, u5, u6, u7⟩ := x
        simp only at CG R2
        have fe1 : (u1 == u1) = true := beq_self_eq_true _
        have fe2 : (u2 == u2) = true := beq_self_eq_true _
        have fe3 : (u3 == u3) = true := beq_self_eq_true _
        have fe4 : (u4 == u4) = true := beq_self_eq_true _
        have fe5 : (u5 == u5) = true := beq_self_eq_true _
        have fe6 : (u6 == u6) = true := beq_self_eq_true _
        have fe7 : (u7 == u7) = true := beq_self_eq_true _
        clear h0 hx s1 s2
        go_wp2_with fail
        refine (R1.out _ _ G17.out).mono ?_
        rintro en w18 ⟨rfl, g18⟩
        have G18 := Lib.hid g18
        clear g18 G17 R1
        go_wp2_with fail
        refine (R2.out _ _ G18.out).mono ?_
        rintro en w19 ⟨rfl, hb19⟩
        have HB19 := Lib.hid (FB.out _ hb19)
        have K20 := Lib.hid (B7.new w19 u1 u2 u3 u4 u5 u6 u7)
        have HB20 := Lib.hid (HB19.out.trans ((ib1 w19 (Sc16 u1 u2 u3 u4 u5 u6 u7)).mono HB19.out.size))
        clear hb19 G18 R2 HB19
        go_wp2_with fail
        refine (CG.out _).mono ?_
        rintro en w21 ⟨rfl, hb21⟩
        have K21 := Lib.hid (K20.out.below hb21 K20.out.lt)
        have HB21 := Lib.hid (HB20.out.trans (hb21.mono HB20.out.size))
        have K22 := Lib.hid (K21.out.below (ib1 w21 (Sc16 u1 u2 u3 u4 u5 u6 u7)) K21.out.lt)
        have J22 := Lib.hid (B7.new w21 u1 u2 u3 u4 u5 u6 u7)
        have HB22 := Lib.hid (HB21.out.trans ((ib1 w21 (Sc16 u1 u2 u3 u4 u5 u6 u7)).mono HB21.out.size))
        clear hb21 K20 HB20
        obtain ⟨c0, c1, c2, c3, c4, c5, c6⟩ := B7.cells K22.out
        obtain ⟨d0, d1, d2, d3, d4, d5, d6⟩ := B7.cells J22.out
        go_wp2_with fail
        go_ret
        exact ⟨rfl, HB22.out⟩
      · obtain ⟨s1, s2⟩ := M.sgot_no h0
        rw [s1] at CG
        rw [s2] at R2
        obtain ⟨er, her⟩ : ∃ er, er = (M.sget text).2 := ⟨_, rfl⟩
        rw [← her] at CG h0
        have hz0 : (er == 0) = false := by rw [beq_eq_false_iff_ne]; exact h0
        clear s1 s2 her
        go_wp2_with fail
        refine (R1.out _ _ G17.out).mono ?_
        rintro en w18 ⟨rfl, g18⟩
        have G18 := Lib.hid g18
        clear g18 G17 R1
        go_wp2_with fail
        refine (R2.out _ _ G18.out).mono ?_
        rintro en w19 ⟨rfl, hb19⟩
        have HB19 := Lib.hid (FB.out _ hb19)
        have K20 := Lib.hid (B7.new w19 0 0 0 0 0 0 0)
        have HB20 := Lib.hid (HB19.out.trans ((ib1 w19 (Sc16 0 0 0 0 0 0 0)).mono HB19.out.size))
        clear hb19 G18 R2 HB19
        go_wp2_with fail
        refine (CG.out _).mono ?_
        rintro en w21 ⟨rfl, hb21⟩
        have K21 := Lib.hid (K20.out.below hb21 K20.out.lt)
        have HB21 := Lib.hid (HB20.out.trans (hb21.mono HB20.out.size))
        have K22 := Lib.hid (K21.out.below (ib1 w21 (Sc16 0 0 0 0 0 0 0)) K21.out.lt)
        have J22 := Lib.hid (B7.new w21 0 0 0 0 0 0 0)
        have HB22 := Lib.hid (HB21.out.trans ((ib1 w21 (Sc16 0 0 0 0 0 0 0)).mono HB21.out.size))
        clear hb21 K20 HB20
        obtain ⟨c0, c1, c2, c3, c4, c5, c6⟩ := B7.cells K22.out
        obtain ⟨d0, d1, d2, d3, d4, d5, d6⟩ := B7.cells J22.out
        go_wp2_with fail
        go_ret
        exact ⟨rfl, HB22.out⟩
    · have hn : ((text.size : Int) == 64) = false := by rw [beq_eq_false_iff_ne]; omega
      have hn' : ((text.size : Int) != 64) = true := by rw [bne, hn]; rfl
      go_wp2_with fail
      refine (P20.out ht _ _ G17.out).mono ?_
      rintro en w18 ⟨rfl, hb18⟩
      have HB18 := Lib.hid (FB.out _ hb18)
      clear hb18 G17 ht
      go_wp2_with fail
      go_ret
      exact ⟨rfl, HB18.out⟩
  · subst e1 e2 e3
    have HD14 := Lib.hid (ib1 w13 (Sc16 0 0 0 0 0 0 0))
    have HD15 := Lib.hid (HD14.out.trans ((ib1 (w13.alloc (Sc16 0 0 0 0 0 0 0)) (Sc16 o1 o2 o3 o4 o5 o6 o7)).mono (Nat.le_of_lt (by simp))))
    have K15 := Lib.hid ((B7.new w13 0 0 0 0 0 0 0).below (ib1 (w13.alloc (Sc16 0 0 0 0 0 0 0)) (Sc16 o1 o2 o3 o4 o5 o6 o7)) (by simp))
    have J15 : Hid (B7 ((w13.alloc (Sc16 0 0 0 0 0 0 0)).alloc (Sc16 o1 o2 o3 o4 o5 o6 o7)) (w13.heap.size + 1) o1 o2 o3 o4 o5 o6 o7) := by
      have := B7.new (w13.alloc (Sc16 0 0 0 0 0 0 0)) o1 o2 o3 o4 o5 o6 o7
      rw [World.size_alloc] at this
      exact this
    have FW : Hid (∀ y, Below w13.heap.size w13 y → Below w2.heap.size w2 y) := fun y hb => (Q8.out _ _ G13.out).trans (hb.mono (Q8.out _ _ G13.out).size)
    obtain ⟨c0, c1, c2, c3, c4, c5, c6⟩ := B7.cells (FO.out _ (FW.out _ HD14.out))
    obtain ⟨d0, d1, d2, d3, d4, d5, d6⟩ := B7.cells (FO.out _ (FW.out _ HD15.out))
    go_wp2_with fail
    refine (CO.out _).mono ?_
    rintro en w16 ⟨rfl, hb16⟩
    have HD16 := Lib.hid (HD15.out.trans (hb16.mono HD15.out.size))
    have K16 := Lib.hid (K15.out.below hb16 K15.out.lt)
    have J16 := Lib.hid (J15.out.below hb16 J15.out.lt)
    clear hb16 HD14 HD15 K15 J15 c0 c1 c2 c3 c4 c5 c6 d0 d1 d2 d3 d4 d5 d6 CO
    obtain ⟨c0, c1, c2, c3, c4, c5, c6⟩ := B7.cells (FX.out _ (FW.out _ HD16.out))
    obtain ⟨d0, d1, d2, d3, d4, d5, d6⟩ := B7.cells J16.out
    obtain ⟨f0, f1, f2, f3, f4, f5, f6⟩ := B7.frozen J16.out
    have HD17 := Lib.hid (below_set7 HD16.out (Nat.le_succ w13.heap.size) x1 x2 x3 x4 E S L)
    have K17 := Lib.hid (K16.out.beside7 (Nat.ne_of_lt (Nat.lt_succ_self w13.heap.size)) x1 x2 x3 x4 E S L)
    have J17 := Lib.hid (J16.out.put7 x1 x2 x3 x4 E S L)
    have HF := Lib.hid (FB.out _ (FW.out _ HD17.out))
    go_wp2_with fail
    go_ret
    exact ⟨rfl, HF.out⟩
end Go.Proofs.YtiflhbjhnonidaaGreatDoor
namespace Go.Proofs.YtiflhbjhnonidaaGreatDoor
open Go.ChangeShapes Go.WideShapes Go.ChangeAt Go.RowKit Go.Deep
theorem superBack_walk (a b c d e f g a2 b2 c2 d2 e2 f2 g2 : Int) (t : ByteArray) (W : World) (hE : Env10 W ∧ ErrT W) :
    Calls Tryz.prog 5 #[.agg #[.int .i64 a, .int .i64 b, .int .i64 c, .int .i64 d, .int .i64 e, .int .i64 f, .int .i64 g], .agg #[.int .i64 a2, .int .i64 b2, .int .i64 c2, .int .i64 d2, .int .i64 e2, .int .i64 f2, .int .i64 g2], .string t] W fun en y => en = .returned (.bool true) ∧ Below W.heap.size W y := by
  by_cases h : 3000 < t.size
  · exact superBack_far _ _ t W hE.1 hE.2 h a b c d e f g a2 b2 c2 d2 e2 f2 g2 rfl rfl
  · cases hl : M.lokB e f g
    · exact superBack_no a b c d e f g a2 b2 c2 d2 e2 f2 g2 t W hE.1 hE.2 h hl
    · have h' := (M.lok_iff e f g).1 hl
      obtain ⟨E, rfl⟩ : ∃ E : Nat, e = E := ⟨e.toNat, by omega⟩
      obtain ⟨S, rfl⟩ : ∃ E : Nat, f = E := ⟨f.toNat, by omega⟩
      obtain ⟨L, rfl⟩ : ∃ E : Nat, g = E := ⟨g.toNat, by omega⟩
      exact superBack_ok E S L a b c d a2 b2 c2 d2 e2 f2 g2 t W hE.1 hE.2 h hl
end Go.Proofs.YtiflhbjhnonidaaGreatDoor
