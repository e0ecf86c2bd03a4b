/-
  Walks over super.Put and solderref16.Put. A walk over super.read.
-/
import Derived.Test.YtiflhbjhnonidaaGreatDoorUA
import Derived.Test.YtiflhbjhnonidaaGreatDoorMP
import Derived.Test.YtiflhbjhnonidaaGreatDoorMA
namespace Go.Proofs.YtiflhbjhnonidaaGreatDoor
open Go.RowKit

/-- What Put answers. -/
def M.sput16 (x : M.Su) : Value := if M.smay x = true then .tuple #[.string (M.swhole x), .int .i64 0] else .tuple #[.string ⟨#[]⟩, .int .i64 3]
theorem M.serr_ok {n r b c e s l : Int} (h : M.smay ⟨n, r, b, c, e, s, l⟩ = true) : M.serr n r b c e s l = 0 := if_pos h
theorem M.serr_no {n r b c e s l : Int} (h : ¬ M.smay ⟨n, r, b, c, e, s, l⟩ = true) : M.serr n r b c e s l = 3 := if_neg h
/-- Seven numbers in a box. -/
def B7 (y : World) (b : Nat) (n r bo c e s l : Int) : Prop := Box y b 25 #[.int .i64 n, .int .i64 r, .int .i64 bo, .int .i64 c, .int .i64 e, .int .i64 s, .int .i64 l]
theorem B7.cells {y : World} {k : Nat} {n r b c e s l : Int} (h : B7 y k n r b c e s l) : y.cell? ⟨k, 0, none⟩ = some (.int .i64 n) ∧ y.cell? ⟨k, 1, none⟩ = some (.int .i64 r) ∧ y.cell? ⟨k, 2, none⟩ = some (.int .i64 b) ∧ y.cell? ⟨k, 3, none⟩ = some (.int .i64 c) ∧
    y.cell? ⟨k, 4, none⟩ = some (.int .i64 e) ∧ y.cell? ⟨k, 5, none⟩ = some (.int .i64 s) ∧ y.cell? ⟨k, 6, none⟩ = some (.int .i64 l) :=
  ⟨Box.cell h 0, Box.cell h 1, Box.cell h 2, Box.cell h 3, Box.cell h 4, Box.cell h 5, Box.cell h 6⟩
theorem B7.frozen {y : World} {k : Nat} {n r b c e s l : Int} (h : B7 y k n r b c e s l) : y.frozen? ⟨k, 0, none⟩ = false ∧ y.frozen? ⟨k, 1, none⟩ = false ∧ y.frozen? ⟨k, 2, none⟩ = false ∧ y.frozen? ⟨k, 3, none⟩ = false ∧ y.frozen? ⟨k, 4, none⟩ = false ∧ y.frozen? ⟨k, 5, none⟩ = false ∧ y.frozen? ⟨k, 6, none⟩ = false :=
  ⟨Box.frozen h 0, Box.frozen h 1, Box.frozen h 2, Box.frozen h 3, Box.frozen h 4, Box.frozen h 5, Box.frozen h 6⟩
theorem B7.new (y : World) (n r b c e s l : Int) : B7 (y.alloc (Sc16 n r b c e s l)) y.heap.size n r b c e s l := Box.new _ _ _
theorem B7.lt {y : World} {k : Nat} {n r b c e s l : Int} (h : B7 y k n r b c e s l) : k < y.heap.size := Box.lt h
theorem B7.below {y z : World} {k B : Nat} {n r b c e s l : Int} (h : B7 y k n r b c e s l) (hb : Below B y z) (hB : k < B) : B7 z k n r b c e s l := Box.below h hb hB

/-- The texts that Put comes by. -/
theorem M.sparts16 (x : M.Su) (hm : M.smay x = true) : ∃ s1 s2 s3 s4 s5 s6 : ByteArray, M.putS ⟨#[83]⟩ x.n 1 = s1 ∧ M.putS s1 x.r 1 = s2 ∧ M.putS s2 x.b 4 = s3 ∧ M.putS s3 x.c 1 = s4 ∧ M.putS s4 x.e 1 = s5 ∧ M.putS s5 x.s 1 = s6 ∧ M.putS s6 x.l 2 = M.sfront x ∧
    s1.size ≤ 100 ∧ s2.size ≤ 100 ∧ s3.size ≤ 100 ∧ s4.size ≤ 100 ∧ s5.size ≤ 100 ∧ s6.size ≤ 100 := by
  obtain ⟨h1, h2, h3, h4, h5, h6, h7⟩ := M.sputs x hm
  exact ⟨_, _, _, _, _, _, h1, h2, h3, h4, h5, h6, h7, by rw [M.sf1_size]; decide, by rw [M.sf2_size]; decide, by rw [M.sf3_size]; decide, by rw [M.sf4_size]; decide, by rw [M.sf5_size]; decide, by rw [M.sf6_size]; decide⟩

set_option maxHeartbeats 2000000 in
theorem sput16_any (n r b c e s l : Int) (w : World) :
    Calls Tryz.prog 7 #[Sv n r b c e s l] w fun en w' => en = .returned (M.sput16 ⟨n, r, b, c, e, s, l⟩) ∧ Below w.heap.size w w' := by
  have C0 := Lib.hid (fun x => scheck_any n r b c e s l x)
  have HB := Lib.hid (ib1 w (Sc16 n r b c e s l))
  have HX := Lib.hid (B7.new w n r b c e s l)
  unfold M.sput16
  by_cases hm : M.smay ⟨n, r, b, c, e, s, l⟩ = true
  · rw [if_pos hm]
    rw [M.serr_ok hm] at C0
    obtain ⟨s1, s2, s3, s4, s5, s6, e1, e2, e3, e4, e5, e6, e7, z1, z2, z3, z4, z5, z6⟩ := M.sparts16 _ hm
    simp only at e1 e2 e3 e4 e5 e6 e7
    have hmi := (M.smay_iff _).1 hm
    simp only at hmi
    have C1 := Lib.hid (fun x => put_any ⟨#[83]⟩ n 1 x (by decide) (by omega) (by decide) (by decide))
    have C2 := Lib.hid (fun x => put_any s1 r 1 x (by omega) (by omega) (by decide) (by decide))
    have C3 := Lib.hid (fun x => put_any s2 b 4 x (by omega) (by omega) (by decide) (by decide))
    have C4 := Lib.hid (fun x => put_any s3 c 1 x (by omega) (by omega) (by decide) (by decide))
    have C5 := Lib.hid (fun x => put_any s4 e 1 x (by omega) (by omega) (by decide) (by decide))
    have C6 := Lib.hid (fun x => put_any s5 s 1 x (by omega) (by omega) (by decide) (by decide))
    have C7 := Lib.hid (fun x => put_any s6 l 2 x (by omega) (by omega) (by decide) (by decide))
    have y3 := M.sfront_size ⟨n, r, b, c, e, s, l⟩
    have y4 := M.ssum_size ⟨n, r, b, c, e, s, l⟩
    have C8 := Lib.hid (fun x => tail10 (M.sfront ⟨n, r, b, c, e, s, l⟩) x (by omega))
    have C9 := Lib.hid (fun x => pad_any (M.sfront ⟨n, r, b, c, e, s, l⟩ ++ M.tail (M.sfront ⟨n, r, b, c, e, s, l⟩)) (by omega) x)
    rw [e1] at C1
    rw [e2] at C2
    rw [e3] at C3
    rw [e4] at C4
    rw [e5] at C5
    rw [e6] at C6
    rw [e7] at C7
    have y5 := M.tail_size (M.sfront ⟨n, r, b, c, e, s, l⟩)
    have HW : Hid (M.swhole ⟨n, r, b, c, e, s, l⟩ = M.pad (M.sfront ⟨n, r, b, c, e, s, l⟩ ++ M.tail (M.sfront ⟨n, r, b, c, e, s, l⟩))) := rfl
    obtain ⟨s7, hs7⟩ : ∃ x, x = M.sfront ⟨n, r, b, c, e, s, l⟩ := ⟨_, rfl⟩
    rw [← hs7] at C7 C8 C9 HW y3 y5
    obtain ⟨s8, hs8⟩ : ∃ x, x = M.tail s7 := ⟨_, rfl⟩
    rw [← hs8] at C8 C9 HW y5
    obtain ⟨s9, hs9⟩ : ∃ x, x = M.pad (s7 ++ s8) := ⟨_, rfl⟩
    rw [← hs9] at C9 HW
    rw [HW.out]
    clear e1 e2 e3 e4 e5 e6 e7 hs7 hs8 hs9 y4 z1 z2 z3 z4 z5 z6 hm hmi
    go_enter Tryz.func7, Tryz.ntmps7
    go_wp2_with fail
    refine (C0.out _).mono ?_
    rintro en w1 ⟨rfl, hb1⟩
    have H1 := Lib.hid (HX.out.below hb1 HX.out.lt)
    have HB1 := Lib.hid (HB.out.trans (hb1.mono HB.out.size))
    clear hb1
    obtain ⟨c0, c1, c2, c3, c4, c5, c6⟩ := H1.out.cells
    go_wp2_with fail
    refine (C1.out _).mono ?_
    rintro en w2 ⟨rfl, hb2⟩
    have H2 := Lib.hid (H1.out.below hb2 H1.out.lt)
    have HB2 := Lib.hid (HB1.out.trans (hb2.mono HB1.out.size))
    clear hb2 c0 c1 c2 c3 c4 c5 c6
    obtain ⟨c0, c1, c2, c3, c4, c5, c6⟩ := H2.out.cells
    go_wp2_with fail
    refine (C2.out _).mono ?_
    rintro en w3 ⟨rfl, hb3⟩
    have H3 := Lib.hid (H2.out.below hb3 H2.out.lt)
    have HB3 := Lib.hid (HB2.out.trans (hb3.mono HB2.out.size))
    clear hb3 c0 c1 c2 c3 c4 c5 c6
    obtain ⟨c0, c1, c2, c3, c4, c5, c6⟩ := H3.out.cells
    go_wp2_with fail
    refine (C3.out _).mono ?_
    rintro en w4 ⟨rfl, hb4⟩
    have H4 := Lib.hid (H3.out.below hb4 H3.out.lt)
    have HB4 := Lib.hid (HB3.out.trans (hb4.mono HB3.out.size))
    clear hb4 c0 c1 c2 c3 c4 c5 c6
    obtain ⟨c0, c1, c2, c3, c4, c5, c6⟩ := H4.out.cells
    go_wp2_with fail
    refine (C4.out _).mono ?_
    rintro en w5 ⟨rfl, hb5⟩
    have H5 := Lib.hid (H4.out.below hb5 H4.out.lt)
    have HB5 := Lib.hid (HB4.out.trans (hb5.mono HB4.out.size))
    clear hb5 c0 c1 c2 c3 c4 c5 c6
    obtain ⟨c0, c1, c2, c3, c4, c5, c6⟩ := H5.out.cells
    go_wp2_with fail
    refine (C5.out _).mono ?_
    rintro en w6 ⟨rfl, hb6⟩
    have H6 := Lib.hid (H5.out.below hb6 H5.out.lt)
    have HB6 := Lib.hid (HB5.out.trans (hb6.mono HB5.out.size))
    clear hb6 c0 c1 c2 c3 c4 c5 c6
    obtain ⟨c0, c1, c2, c3, c4, c5, c6⟩ := H6.out.cells
    go_wp2_with fail
    refine (C6.out _).mono ?_
    rintro en w7 ⟨rfl, hb7⟩
    have H7 := Lib.hid (H6.out.below hb7 H6.out.lt)
    have HB7 := Lib.hid (HB6.out.trans (hb7.mono HB6.out.size))
    clear hb7 c0 c1 c2 c3 c4 c5 c6
    obtain ⟨c0, c1, c2, c3, c4, c5, c6⟩ := H7.out.cells
    go_wp2_with fail
    refine (C7.out _).mono ?_
    rintro en w8 ⟨rfl, hb8⟩
    have HB8 := Lib.hid (HB7.out.trans (hb8.mono HB7.out.size))
    clear hb8 c0 c1 c2 c3 c4 c5 c6
    go_wp2_with fail
    refine (C8.out _).mono ?_
    rintro en w9 ⟨rfl, hb9⟩
    have HB9 := Lib.hid (HB8.out.trans (hb9.mono HB8.out.size))
    clear hb9
    go_wp2_with fail
    refine (C9.out _).mono ?_
    rintro en w10 ⟨rfl, hb10⟩
    have HB10 := Lib.hid (HB9.out.trans (hb10.mono HB9.out.size))
    clear hb10
    go_wp2_with fail
    go_ret2
    exact ⟨rfl, HB10.out⟩
  · rw [if_neg hm]
    rw [M.serr_no hm] at C0
    clear hm
    go_enter Tryz.func7, Tryz.ntmps7
    go_wp2_with fail
    refine (C0.out _).mono ?_
    rintro en w1 ⟨rfl, hb1⟩
    have HB1 := Lib.hid (HB.out.trans (hb1.mono HB.out.size))
    clear hb1
    go_wp2_with fail
    go_ret2
    exact ⟨rfl, HB1.out⟩

set_option maxHeartbeats 2000000 in
theorem rsput16_any (n r b c e s l : Int) (w : World) :
    Calls Tryz.prog 8 #[Sv n r b c e s l] w fun en w' => en = .returned (M.sput16 ⟨n, r, b, c, e, s, l⟩) ∧ Below w.heap.size w w' := by
  have C0 := Lib.hid (fun x => rscheck_any n r b c e s l x)
  have HB := Lib.hid (ib1 w (Sc16 n r b c e s l))
  have HX := Lib.hid (B7.new w n r b c e s l)
  unfold M.sput16
  by_cases hm : M.smay ⟨n, r, b, c, e, s, l⟩ = true
  · rw [if_pos hm]
    rw [M.serr_ok hm] at C0
    obtain ⟨s1, s2, s3, s4, s5, s6, e1, e2, e3, e4, e5, e6, e7, z1, z2, z3, z4, z5, z6⟩ := M.sparts16 _ hm
    simp only at e1 e2 e3 e4 e5 e6 e7
    have hmi := (M.smay_iff _).1 hm
    simp only at hmi
    have C1 := Lib.hid (fun x => rput_any ⟨#[83]⟩ n 1 x (by decide) (by omega))
    have C2 := Lib.hid (fun x => rput_any s1 r 1 x (by omega) (by omega))
    have C3 := Lib.hid (fun x => rput_any s2 b 4 x (by omega) (by omega))
    have C4 := Lib.hid (fun x => rput_any s3 c 1 x (by omega) (by omega))
    have C5 := Lib.hid (fun x => rput_any s4 e 1 x (by omega) (by omega))
    have C6 := Lib.hid (fun x => rput_any s5 s 1 x (by omega) (by omega))
    have C7 := Lib.hid (fun x => rput_any s6 l 2 x (by omega) (by omega))
    have y3 := M.sfront_size ⟨n, r, b, c, e, s, l⟩
    have y4 := M.ssum_size ⟨n, r, b, c, e, s, l⟩
    have C8 := Lib.hid (fun x => rtail10 (M.sfront ⟨n, r, b, c, e, s, l⟩) x (by omega))
    have C9 := Lib.hid (fun x => rpad_any (M.sfront ⟨n, r, b, c, e, s, l⟩ ++ M.tail (M.sfront ⟨n, r, b, c, e, s, l⟩)) (by omega) x)
    rw [e1] at C1
    rw [e2] at C2
    rw [e3] at C3
    rw [e4] at C4
    rw [e5] at C5
    rw [e6] at C6
    rw [e7] at C7
    have y5 := M.tail_size (M.sfront ⟨n, r, b, c, e, s, l⟩)
    have HW : Hid (M.swhole ⟨n, r, b, c, e, s, l⟩ = M.pad (M.sfront ⟨n, r, b, c, e, s, l⟩ ++ M.tail (M.sfront ⟨n, r, b, c, e, s, l⟩))) := rfl
    obtain ⟨s7, hs7⟩ : ∃ x, x = M.sfront ⟨n, r, b, c, e, s, l⟩ := ⟨_, rfl⟩
    rw [← hs7] at C7 C8 C9 HW y3 y5
    obtain ⟨s8, hs8⟩ : ∃ x, x = M.tail s7 := ⟨_, rfl⟩
    rw [← hs8] at C8 C9 HW y5
    obtain ⟨s9, hs9⟩ : ∃ x, x = M.pad (s7 ++ s8) := ⟨_, rfl⟩
    rw [← hs9] at C9 HW
    rw [HW.out]
    clear e1 e2 e3 e4 e5 e6 e7 hs7 hs8 hs9 y4 z1 z2 z3 z4 z5 z6 hm hmi
    go_enter Tryz.func8, Tryz.ntmps8
    go_wp2_with fail
    refine (C0.out _).mono ?_
    rintro en w1 ⟨rfl, hb1⟩
    have H1 := Lib.hid (HX.out.below hb1 HX.out.lt)
    have HB1 := Lib.hid (HB.out.trans (hb1.mono HB.out.size))
    clear hb1
    have HS : Hid (∀ y, Below w1.heap.size w1 y → B7 y w.heap.size n r b c e s l) := fun y hb => H1.out.below hb H1.out.lt
    have HS1 : Hid (∀ y, Below w1.heap.size w1 y → y.cell? ⟨w.heap.size, 0, none⟩ = some (.int .i64 n) ∧ y.cell? ⟨w.heap.size, 1, none⟩ = some (.int .i64 r) ∧ y.cell? ⟨w.heap.size, 2, none⟩ = some (.int .i64 b)) := fun y hb => ⟨(HS.out y hb).cells.1, (HS.out y hb).cells.2.1, (HS.out y hb).cells.2.2.1⟩
    have hb0 : Below w1.heap.size w1 w1 := Below.refl _ _
    have hS0 := HS1.out w1 hb0
    go_wp2_with fail
    go_region_held3 (fun y => y.cell? ⟨w.heap.size, 0, none⟩ = some (.int .i64 n) ∧ y.cell? ⟨w.heap.size, 1, none⟩ = some (.int .i64 r) ∧ y.cell? ⟨w.heap.size, 2, none⟩ = some (.int .i64 b)) (first | assumption)
      (first
        | (go_at_call 27; with_reducible refine (Held.call HS1 (by first | assumption | exact Below.drew (by assumption)) (C1.out _)).mono ?_; rintro en w2 ⟨rfl, hb2, hS2⟩)
        | (go_at_call 27; with_reducible refine (Held.call HS1 (by first | assumption | exact Below.drew (by assumption)) (C2.out _)).mono ?_; rintro en w3 ⟨rfl, hb3, hS3⟩)
        | (go_at_call 27; with_reducible refine (Held.call HS1 (by first | assumption | exact Below.drew (by assumption)) (C3.out _)).mono ?_; rintro en w4 ⟨rfl, hb4, hS4⟩))
    have HS2 : Hid (∀ y, Below w1.heap.size w1 y → y.cell? ⟨w.heap.size, 3, none⟩ = some (.int .i64 c) ∧ y.cell? ⟨w.heap.size, 4, none⟩ = some (.int .i64 e) ∧ y.cell? ⟨w.heap.size, 5, none⟩ = some (.int .i64 s) ∧ y.cell? ⟨w.heap.size, 6, none⟩ = some (.int .i64 l)) := fun y hb => ⟨(HS.out y hb).cells.2.2.2.1, (HS.out y hb).cells.2.2.2.2.1, (HS.out y hb).cells.2.2.2.2.2.1, (HS.out y hb).cells.2.2.2.2.2.2⟩
    have hb4' := Below.drew hb4
    clear hb0 hS0 hS2 hS3 hS4 hb2 hb3 HS1 C1 C2 C3
    have hq4 := HS2.out _ hb4
    have hq4' := HS2.out _ hb4'
    go_wp2_with fail
    go_region_held3 (fun y => y.cell? ⟨w.heap.size, 3, none⟩ = some (.int .i64 c) ∧ y.cell? ⟨w.heap.size, 4, none⟩ = some (.int .i64 e) ∧ y.cell? ⟨w.heap.size, 5, none⟩ = some (.int .i64 s) ∧ y.cell? ⟨w.heap.size, 6, none⟩ = some (.int .i64 l)) (first | assumption)
      (first
        | (go_at_call 27; with_reducible refine (Held.call HS2 (by first | assumption | exact Below.drew (by assumption)) (C4.out _)).mono ?_; rintro en w5 ⟨rfl, hb5, hS5⟩)
        | (go_at_call 27; with_reducible refine (Held.call HS2 (by first | assumption | exact Below.drew (by assumption)) (C5.out _)).mono ?_; rintro en w6 ⟨rfl, hb6, hS6⟩)
        | (go_at_call 27; with_reducible refine (Held.call HS2 (by first | assumption | exact Below.drew (by assumption)) (C6.out _)).mono ?_; rintro en w7 ⟨rfl, hb7, hS7⟩)
        | (go_at_call 27; with_reducible refine (Held.call HS2 (by first | assumption | exact Below.drew (by assumption)) (C7.out _)).mono ?_; rintro en w8 ⟨rfl, hb8, hS8⟩))
    have HB8 := Lib.hid (HB1.out.trans (hb8.mono HB1.out.size))
    clear hb4 hb4' hq4 hq4' hb5 hb6 hb7 hb8 hS5 hS6 hS7 hS8
    go_wp2_with fail
    refine (C8.out _).mono ?_
    rintro en w9 ⟨rfl, hb9⟩
    have HB9 : Hid (Below w.heap.size w w9) := by show Below _ _ _; first | exact HB8.out.trans (hb9.mono HB8.out.size) | exact HB8.out.drew.trans (hb9.mono HB8.out.size)
    clear hb9
    go_wp2_with fail
    refine (C9.out _).mono ?_
    rintro en w10 ⟨rfl, hb10⟩
    subst hb10
    go_wp2_with fail
    go_ret2
    exact ⟨rfl, HB9.out⟩
  · rw [if_neg hm]
    rw [M.serr_no hm] at C0
    clear hm
    go_enter Tryz.func8, Tryz.ntmps8
    go_wp2_with fail
    refine (C0.out _).mono ?_
    rintro en w1 ⟨rfl, hb1⟩
    have HB1 := Lib.hid (HB.out.trans (hb1.mono HB.out.size))
    clear hb1
    go_wp2_with fail
    go_ret2
    exact ⟨rfl, HB1.out⟩
end Go.Proofs.YtiflhbjhnonidaaGreatDoor
namespace Go.Proofs.YtiflhbjhnonidaaGreatDoor
open Go.RowKit

/-- A reader, the box that its numbers go to and the box of the call's result; all else is as in y. -/
structure Rd16 (y z : World) (b g1 g2 : Nat) (t : ByteArray) (k : Nat) (n r bo c e s l : Int) : Prop where
  rd : RdF z b t ⟨k, 0⟩
  b1 : B7 z g1 0 0 0 0 0 0 0
  b2 : B7 z g2 n r bo c e s l
  kept : Kept (fun j => j = b) y z
  lt : b < g1
  ne : g1 < g2
  le : y.heap.size ≤ g1
section
variable {y z : World} {b g1 g2 : Nat} {t : ByteArray} {k : Nat} {n r bo c e s l : Int}
theorem Rd16.num (h : Rd16 y z b g1 g2 t k n r bo c e s l) (q : Nat) (h1 : 1 ≤ q) (h7 : q ≤ 7) (hz : k + q ≤ t.size) :
    Calls Tryz.prog 66 #[.pointer (some ⟨b, 0, none⟩), .int .i64 (q : Nat)] z fun en z' => en = .returned (.int .i64 (M.hnum t k (k + q))) ∧ Rd16 y z' b g1 g2 t (k + q) n r bo c e s l := by
  have hlt := h.lt
  have hne := h.ne
  refine (numF b t ⟨k, 0⟩ (q : Nat) (by omega) (by omega) z h.rd (by show k ≤ t.size; omega)).mono ?_
  rintro en z' ⟨h1', h2, h3⟩
  obtain ⟨e1, e2⟩ := M.num_at t k q h1 h7 hz
  rw [e1] at h1'
  rw [e2] at h2
  exact ⟨h1', h2, Box.kept h.b1 h3 (by omega), Box.kept h.b2 h3 (by omega), h.kept.grown h3 (fun j e _ => by injection e with e; exact e.symm), h.lt, h.ne, h.le⟩
theorem Rd16.put (h : Rd16 y z b g1 g2 t k n r bo c e s l) (i : Nat) (u : Value) {n' r' bo' c' e' s' l' : Int}
    (hc : (#[.int .i64 n, .int .i64 r, .int .i64 bo, .int .i64 c, .int .i64 e, .int .i64 s, .int .i64 l] : Array Value).setIfInBounds i u = #[.int .i64 n', .int .i64 r', .int .i64 bo', .int .i64 c', .int .i64 e', .int .i64 s', .int .i64 l']) :
    Rd16 y (z.setCell ⟨g2, i, none⟩ u) b g1 g2 t k n' r' bo' c' e' s' l' := by
  have hlt := h.lt
  have hne := h.ne
  have hle := h.le
  have hg := grown_set z g2 i u
  refine ⟨Box.kept h.rd hg (by omega), Box.kept h.b1 hg (by omega), ?_, h.kept.set (fun e => by omega) i u, h.lt, h.ne, h.le⟩
  have := Box.set h.b2 i u
  rw [hc] at this
  exact this
end

set_option maxHeartbeats 4000000 in
theorem read16_any (b : Nat) (t : ByteArray) (y : World) (h : RdF y b t ⟨1, 0⟩) (hz : 12 ≤ t.size) :
    Calls Tryz.prog 33 #[.pointer (some ⟨b, 0, none⟩)] y fun en z => en = .returned (Sv (M.hnum t 1 2) (M.hnum t 2 3) (M.hnum t 3 7) (M.hnum t 7 8) (M.hnum t 8 9) (M.hnum t 9 10) (M.hnum t 10 12)) ∧ RdF z b t ⟨12, 0⟩ ∧ Kept (fun j => j = b) y z := by
  have hb : b < y.heap.size := Box.lt h
  have H0 : Hid (Rd16 y ((y.alloc (Sc16 0 0 0 0 0 0 0)).alloc (Sc16 0 0 0 0 0 0 0)) b y.heap.size (y.heap.size + 1) t 1 0 0 0 0 0 0 0) := by
    have hb2 := ib2 y (Sc16 0 0 0 0 0 0 0) (Sc16 0 0 0 0 0 0 0)
    refine ⟨Box.below h hb2 hb, ?_, ?_, Kept.of_below hb2 _, hb, Nat.lt_succ_self _, Nat.le_refl _⟩
    · exact (B7.new y 0 0 0 0 0 0 0).below (ib1 _ _) (by simp)
    · have := B7.new (y.alloc (Sc16 0 0 0 0 0 0 0)) 0 0 0 0 0 0 0
      rw [World.size_alloc] at this
      exact this
  have HN : Hid (∀ z k n r bo c e s l (q : Nat), 1 ≤ q → q ≤ 7 → k + q ≤ t.size → Rd16 y z b y.heap.size (y.heap.size + 1) t k n r bo c e s l → Calls Tryz.prog 66 #[.pointer (some ⟨b, 0, none⟩), .int .i64 (q : Nat)] z fun en z' => en = .returned (.int .i64 (M.hnum t k (k + q))) ∧ Rd16 y z' b y.heap.size (y.heap.size + 1) t (k + q) n r bo c e s l) :=
    fun z k n r bo c e s l q a1 a2 a3 h => h.num q a1 a2 a3
  have C1 : Hid (∀ z n r bo c e s l, Rd16 y z b y.heap.size (y.heap.size + 1) t 1 n r bo c e s l → Calls Tryz.prog 66 #[.pointer (some ⟨b, 0, none⟩), .int .i64 1] z fun en z' => en = .returned (.int .i64 (M.hnum t 1 2)) ∧ Rd16 y z' b y.heap.size (y.heap.size + 1) t 2 n r bo c e s l) := fun z n r bo c e s l h => HN.out z 1 n r bo c e s l 1 (by omega) (by omega) (by omega) h
  have C2 : Hid (∀ z n r bo c e s l, Rd16 y z b y.heap.size (y.heap.size + 1) t 2 n r bo c e s l → Calls Tryz.prog 66 #[.pointer (some ⟨b, 0, none⟩), .int .i64 1] z fun en z' => en = .returned (.int .i64 (M.hnum t 2 3)) ∧ Rd16 y z' b y.heap.size (y.heap.size + 1) t 3 n r bo c e s l) := fun z n r bo c e s l h => HN.out z 2 n r bo c e s l 1 (by omega) (by omega) (by omega) h
  have C3 : Hid (∀ z n r bo c e s l, Rd16 y z b y.heap.size (y.heap.size + 1) t 3 n r bo c e s l → Calls Tryz.prog 66 #[.pointer (some ⟨b, 0, none⟩), .int .i64 4] z fun en z' => en = .returned (.int .i64 (M.hnum t 3 7)) ∧ Rd16 y z' b y.heap.size (y.heap.size + 1) t 7 n r bo c e s l) := fun z n r bo c e s l h => HN.out z 3 n r bo c e s l 4 (by omega) (by omega) (by omega) h
  have C4 : Hid (∀ z n r bo c e s l, Rd16 y z b y.heap.size (y.heap.size + 1) t 7 n r bo c e s l → Calls Tryz.prog 66 #[.pointer (some ⟨b, 0, none⟩), .int .i64 1] z fun en z' => en = .returned (.int .i64 (M.hnum t 7 8)) ∧ Rd16 y z' b y.heap.size (y.heap.size + 1) t 8 n r bo c e s l) := fun z n r bo c e s l h => HN.out z 7 n r bo c e s l 1 (by omega) (by omega) (by omega) h
  have C5 : Hid (∀ z n r bo c e s l, Rd16 y z b y.heap.size (y.heap.size + 1) t 8 n r bo c e s l → Calls Tryz.prog 66 #[.pointer (some ⟨b, 0, none⟩), .int .i64 1] z fun en z' => en = .returned (.int .i64 (M.hnum t 8 9)) ∧ Rd16 y z' b y.heap.size (y.heap.size + 1) t 9 n r bo c e s l) := fun z n r bo c e s l h => HN.out z 8 n r bo c e s l 1 (by omega) (by omega) (by omega) h
  have C6 : Hid (∀ z n r bo c e s l, Rd16 y z b y.heap.size (y.heap.size + 1) t 9 n r bo c e s l → Calls Tryz.prog 66 #[.pointer (some ⟨b, 0, none⟩), .int .i64 1] z fun en z' => en = .returned (.int .i64 (M.hnum t 9 10)) ∧ Rd16 y z' b y.heap.size (y.heap.size + 1) t 10 n r bo c e s l) := fun z n r bo c e s l h => HN.out z 9 n r bo c e s l 1 (by omega) (by omega) (by omega) h
  have C7 : Hid (∀ z n r bo c e s l, Rd16 y z b y.heap.size (y.heap.size + 1) t 10 n r bo c e s l → Calls Tryz.prog 66 #[.pointer (some ⟨b, 0, none⟩), .int .i64 2] z fun en z' => en = .returned (.int .i64 (M.hnum t 10 12)) ∧ Rd16 y z' b y.heap.size (y.heap.size + 1) t 12 n r bo c e s l) := fun z n r bo c e s l h => HN.out z 10 n r bo c e s l 2 (by omega) (by omega) (by omega) h
  obtain ⟨x1, hx1⟩ : ∃ x, x = M.hnum t 1 2 := ⟨_, rfl⟩
  obtain ⟨x2, hx2⟩ : ∃ x, x = M.hnum t 2 3 := ⟨_, rfl⟩
  obtain ⟨x3, hx3⟩ : ∃ x, x = M.hnum t 3 7 := ⟨_, rfl⟩
  obtain ⟨x4, hx4⟩ : ∃ x, x = M.hnum t 7 8 := ⟨_, rfl⟩
  obtain ⟨x5, hx5⟩ : ∃ x, x = M.hnum t 8 9 := ⟨_, rfl⟩
  obtain ⟨x6, hx6⟩ : ∃ x, x = M.hnum t 9 10 := ⟨_, rfl⟩
  obtain ⟨x7, hx7⟩ : ∃ x, x = M.hnum t 10 12 := ⟨_, rfl⟩
  rw [← hx1] at C1 ⊢
  rw [← hx2] at C2 ⊢
  rw [← hx3] at C3 ⊢
  rw [← hx4] at C4 ⊢
  rw [← hx5] at C5 ⊢
  rw [← hx6] at C6 ⊢
  rw [← hx7] at C7 ⊢
  clear hx1 hx2 hx3 hx4 hx5 hx6 hx7 HN hz h hb
  go_enter Tryz.func33, Tryz.ntmps33
  go_wp2_with fail
  refine (C1.out _ _ _ _ _ _ _ _ H0.out).mono ?_
  rintro en z1 ⟨rfl, hh⟩
  have G1 := Lib.hid hh
  clear hh H0 C1
  have c1 := G1.out.b2.cells.1
  have f1 := G1.out.b2.frozen.1
  have H1 : Hid (Rd16 y (z1.setCell ⟨y.heap.size + 1, 0, none⟩ (.int .i64 x1)) b y.heap.size (y.heap.size + 1) t 2 x1 0 0 0 0 0 0) := G1.out.put 0 _ rfl
  obtain ⟨v1, hv⟩ : ∃ v, v = z1.setCell ⟨y.heap.size + 1, 0, none⟩ (.int .i64 x1) := ⟨_, rfl⟩
  rw [← hv] at H1
  have hv' := hv.symm
  clear hv
  go_wp2_with fail
  clear c1 f1 G1
  refine (C2.out _ _ _ _ _ _ _ _ H1.out).mono ?_
  rintro en z2 ⟨rfl, hh⟩
  have G2 := Lib.hid hh
  clear hh H1 C2
  have c2 := G2.out.b2.cells.2.1
  have f2 := G2.out.b2.frozen.2.1
  have H2 : Hid (Rd16 y (z2.setCell ⟨y.heap.size + 1, 1, none⟩ (.int .i64 x2)) b y.heap.size (y.heap.size + 1) t 3 x1 x2 0 0 0 0 0) := G2.out.put 1 _ rfl
  obtain ⟨v2, hv⟩ : ∃ v, v = z2.setCell ⟨y.heap.size + 1, 1, none⟩ (.int .i64 x2) := ⟨_, rfl⟩
  rw [← hv] at H2
  have hv' := hv.symm
  clear hv
  go_wp2_with fail
  clear c2 f2 G2
  refine (C3.out _ _ _ _ _ _ _ _ H2.out).mono ?_
  rintro en z3 ⟨rfl, hh⟩
  have G3 := Lib.hid hh
  clear hh H2 C3
  have c3 := G3.out.b2.cells.2.2.1
  have f3 := G3.out.b2.frozen.2.2.1
  have H3 : Hid (Rd16 y (z3.setCell ⟨y.heap.size + 1, 2, none⟩ (.int .i64 x3)) b y.heap.size (y.heap.size + 1) t 7 x1 x2 x3 0 0 0 0) := G3.out.put 2 _ rfl
  obtain ⟨v3, hv⟩ : ∃ v, v = z3.setCell ⟨y.heap.size + 1, 2, none⟩ (.int .i64 x3) := ⟨_, rfl⟩
  rw [← hv] at H3
  have hv' := hv.symm
  clear hv
  go_wp2_with fail
  clear c3 f3 G3
  refine (C4.out _ _ _ _ _ _ _ _ H3.out).mono ?_
  rintro en z4 ⟨rfl, hh⟩
  have G4 := Lib.hid hh
  clear hh H3 C4
  have c4 := G4.out.b2.cells.2.2.2.1
  have f4 := G4.out.b2.frozen.2.2.2.1
  have H4 : Hid (Rd16 y (z4.setCell ⟨y.heap.size + 1, 3, none⟩ (.int .i64 x4)) b y.heap.size (y.heap.size + 1) t 8 x1 x2 x3 x4 0 0 0) := G4.out.put 3 _ rfl
  obtain ⟨v4, hv⟩ : ∃ v, v = z4.setCell ⟨y.heap.size + 1, 3, none⟩ (.int .i64 x4) := ⟨_, rfl⟩
  rw [← hv] at H4
  have hv' := hv.symm
  clear hv
  go_wp2_with fail
  clear c4 f4 G4
  refine (C5.out _ _ _ _ _ _ _ _ H4.out).mono ?_
  rintro en z5 ⟨rfl, hh⟩
  have G5 := Lib.hid hh
  clear hh H4 C5
  have c5 := G5.out.b2.cells.2.2.2.2.1
  have f5 := G5.out.b2.frozen.2.2.2.2.1
  have H5 : Hid (Rd16 y (z5.setCell ⟨y.heap.size + 1, 4, none⟩ (.int .i64 x5)) b y.heap.size (y.heap.size + 1) t 9 x1 x2 x3 x4 x5 0 0) := G5.out.put 4 _ rfl
  obtain ⟨v5, hv⟩ : ∃ v, v = z5.setCell ⟨y.heap.size + 1, 4, none⟩ (.int .i64 x5) := ⟨_, rfl⟩
  rw [← hv] at H5
  have hv' := hv.symm
  clear hv
  go_wp2_with fail
  clear c5 f5 G5
  refine (C6.out _ _ _ _ _ _ _ _ H5.out).mono ?_
  rintro en z6 ⟨rfl, hh⟩
  have G6 := Lib.hid hh
  clear hh H5 C6
  have c6 := G6.out.b2.cells.2.2.2.2.2.1
  have f6 := G6.out.b2.frozen.2.2.2.2.2.1
  have H6 : Hid (Rd16 y (z6.setCell ⟨y.heap.size + 1, 5, none⟩ (.int .i64 x6)) b y.heap.size (y.heap.size + 1) t 10 x1 x2 x3 x4 x5 x6 0) := G6.out.put 5 _ rfl
  obtain ⟨v6, hv⟩ : ∃ v, v = z6.setCell ⟨y.heap.size + 1, 5, none⟩ (.int .i64 x6) := ⟨_, rfl⟩
  rw [← hv] at H6
  have hv' := hv.symm
  clear hv
  go_wp2_with fail
  clear c6 f6 G6
  refine (C7.out _ _ _ _ _ _ _ _ H6.out).mono ?_
  rintro en z7 ⟨rfl, hh⟩
  have G7 := Lib.hid hh
  clear hh H6 C7
  have c7 := G7.out.b2.cells.2.2.2.2.2.2
  have f7 := G7.out.b2.frozen.2.2.2.2.2.2
  have H7 : Hid (Rd16 y (z7.setCell ⟨y.heap.size + 1, 6, none⟩ (.int .i64 x7)) b y.heap.size (y.heap.size + 1) t 12 x1 x2 x3 x4 x5 x6 x7) := G7.out.put 6 _ rfl
  obtain ⟨v7, hv⟩ : ∃ v, v = z7.setCell ⟨y.heap.size + 1, 6, none⟩ (.int .i64 x7) := ⟨_, rfl⟩
  rw [← hv] at H7
  have hv' := hv.symm
  clear hv
  obtain ⟨d0, d1, d2, d3, d4, d5, d6⟩ := H7.out.b2.cells
  obtain ⟨e0, e1, e2, e3, e4, e5, e6⟩ := H7.out.b1.cells
  obtain ⟨g0, g1, g2, g3, g4, g5, g6⟩ := H7.out.b1.frozen
  go_wp2_with fail
  have hlt := H7.out.lt
  refine bodyPost_ret (v := Sv x1 x2 x3 x4 x5 x6 x7) (by simp [results, Tryz.results33, go_sem, *]) rfl ⟨rfl, ?_, ?_⟩
  · (repeat refine Box.kept ?_ (grown_set _ _ _ _) (by omega))
    exact H7.out.rd
  · (repeat refine Kept.set ?_ (fun e => absurd e (Nat.lt_irrefl _)) _ _)
    exact H7.out.kept
end Go.Proofs.YtiflhbjhnonidaaGreatDoor
