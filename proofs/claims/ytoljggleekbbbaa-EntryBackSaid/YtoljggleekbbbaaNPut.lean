/-
  Walks over entry.Put and solderref17.Put.
-/
import Derived.Test.YtoljggleekbbbaaNChk
import Derived.Test.YtoljggleekbbbaaJRef
import Derived.LoopN
namespace Go.Proofs.Ytoljggleekbbbaa
open Go.RowKit

/-- Two entries, by value. -/
abbrev Ev2 (a b s c d u : Int) : Value := .agg #[.int .i64 a, .int .i64 b, .int .i64 s, .int .i64 c, .int .i64 d, .int .i64 u]
abbrev Ec2 (a b s c d u : Int) : Obj := .cells #[.int .i64 a, .int .i64 b, .int .i64 s, .int .i64 c, .int .i64 d, .int .i64 u] 26
/-- What Put answers. -/
def M.eput (x : M.E2) : Value := if M.emay x = true then .tuple #[.string (M.ewhole x), .int .i64 0] else .tuple #[.string ⟨#[]⟩, .int .i64 3]
theorem M.eput_ok {x : M.E2} (h : M.emay x = true) : M.eput x = .tuple #[.string (M.ewhole x), .int .i64 0] := if_pos h
theorem M.eput_no {x : M.E2} (h : ¬ M.emay x = true) : M.eput x = .tuple #[.string ⟨#[]⟩, .int .i64 3] := if_neg h
/-- Six numbers in a box. -/
def B6 (y : World) (k : Nat) (a b s c d u : Int) : Prop := Box y k 26 #[.int .i64 a, .int .i64 b, .int .i64 s, .int .i64 c, .int .i64 d, .int .i64 u]
section
variable {y z : World} {k B : Nat} {a b s c d u : Int}
theorem B6.cells (h : B6 y k a b s c d u) : y.cell? ⟨k, 0, none⟩ = some (.int .i64 a) ∧ y.cell? ⟨k, 1, none⟩ = some (.int .i64 b) ∧ y.cell? ⟨k, 2, none⟩ = some (.int .i64 s) ∧ y.cell? ⟨k, 3, none⟩ = some (.int .i64 c) ∧ y.cell? ⟨k, 4, none⟩ = some (.int .i64 d) ∧ y.cell? ⟨k, 5, none⟩ = some (.int .i64 u) :=
  ⟨Box.cell h 0, Box.cell h 1, Box.cell h 2, Box.cell h 3, Box.cell h 4, Box.cell h 5⟩
theorem B6.frozen (h : B6 y k a b s c d u) : y.frozen? ⟨k, 0, none⟩ = false ∧ y.frozen? ⟨k, 1, none⟩ = false ∧ y.frozen? ⟨k, 2, none⟩ = false ∧ y.frozen? ⟨k, 3, none⟩ = false ∧ y.frozen? ⟨k, 4, none⟩ = false ∧ y.frozen? ⟨k, 5, none⟩ = false :=
  ⟨Box.frozen h 0, Box.frozen h 1, Box.frozen h 2, Box.frozen h 3, Box.frozen h 4, Box.frozen h 5⟩
theorem B6.lt (h : B6 y k a b s c d u) : k < y.heap.size := Box.lt h
theorem B6.below (h : B6 y k a b s c d u) (hb : Below B y z) (hB : k < B) : B6 z k a b s c d u := Box.below h hb hB
end
theorem B6.new (y : World) (a b s c d u : Int) : B6 (y.alloc (Ec2 a b s c d u)) y.heap.size a b s c d u := Box.new _ _ _
/-- Three numbers in a box. -/
def B3e (y : World) (k : Nat) (a b s : Int) : Prop := Box y k 25 #[.int .i64 a, .int .i64 b, .int .i64 s]
theorem B3e.cells {y : World} {k : Nat} {a b s : Int} (h : B3e y k a b s) : y.cell? ⟨k, 0, none⟩ = some (.int .i64 a) ∧ y.cell? ⟨k, 1, none⟩ = some (.int .i64 b) ∧ y.cell? ⟨k, 2, none⟩ = some (.int .i64 s) :=
  ⟨Box.cell h 0, Box.cell h 1, Box.cell h 2⟩
theorem B3e.lt {y : World} {k : Nat} {a b s : Int} (h : B3e y k a b s) : k < y.heap.size := Box.lt h
theorem B3e.below {y z : World} {k B : Nat} {a b s : Int} (h : B3e y k a b s) (hb : Below B y z) (hB : k < B) : B3e z k a b s := Box.below h hb hB
theorem B3e.new (y : World) (a b s : Int) : B3e (y.alloc (Ec a b s)) y.heap.size a b s := Box.new _ _ _

/-- Either entry of the two. -/
theorem index17_0 (a b s c d u : Int) (W : World) : (Instr.index 26 (Ev2 a b s c d u) (.int .i64 0)).run Try.prog W = .ok (Ev a b s) W := by rfl
theorem index17_1 (a b s c d u : Int) (W : World) : (Instr.index 26 (Ev2 a b s c d u) (.int .i64 1)).run Try.prog W = .ok (Ev c d u) W := by rfl

/-- The texts that Put comes by. -/
theorem M.efirst17 (x : M.E2) (h : M.emay1 x.a x.b x.s = true) : ∃ s1 s2 : ByteArray, M.vput ⟨#[69]⟩ x.a x.b = s1 ∧ M.putS s1 (x.s + 1) 1 = s2 ∧ s1.size ≤ 100 ∧ s2.size ≤ 100 ∧ s2 = M.ef3 x := by
  obtain ⟨h1, h2, h3, h4⟩ := (M.emay1_iff _ _ _).1 h
  have e1 : M.vput ⟨#[69]⟩ x.a x.b = M.ef2 x := by rw [M.vput, M.putS_yes ((M.fits7_17 _).2 (by omega)), M.putS_yes ((M.fits7_17 _).2 (by omega))]; rfl
  have e2 : M.putS (M.ef2 x) (x.s + 1) 1 = M.ef3 x := by rw [M.putS_yes ((M.fits1_17 _).2 (by omega))]; rfl
  exact ⟨M.ef2 x, M.ef3 x, e1, e2, by rw [M.ef2_size]; decide, by rw [M.ef3_size]; decide, rfl⟩
theorem M.esecond17 (x : M.E2) (hm : M.emay x = true) : ∃ s3 : ByteArray, M.vput (M.ef3 x) x.c x.d = s3 ∧ M.putS s3 (x.u + 1) 1 = M.efront x ∧ s3.size ≤ 100 := by
  obtain ⟨h1, h2, h3, h4⟩ := M.eputs x hm
  exact ⟨_, h3, h4, by rw [M.ef5_size]; decide⟩
theorem M.emay_no1 {x : M.E2} (h : ¬ M.emay1 x.a x.b x.s = true) : ¬ M.emay x = true := fun e => h (by unfold M.emay at e; rw [Bool.and_eq_true] at e; exact e.1)
theorem M.emay_no2 {x : M.E2} (h : ¬ M.emay1 x.c x.d x.u = true) : ¬ M.emay x = true := fun e => h (by unfold M.emay at e; rw [Bool.and_eq_true] at e; exact e.2)
theorem M.emay_yes {x : M.E2} (h : M.emay1 x.a x.b x.s = true) (h' : M.emay1 x.c x.d x.u = true) : M.emay x = true := by unfold M.emay; rw [h, h']; rfl

set_option maxHeartbeats 4000000 in
theorem eput_any (a b s c d u : Int) (w : World) :
    Calls Try.prog 7 #[Ev2 a b s c d u] w fun en w' => en = .returned (M.eput ⟨a, b, s, c, d, u⟩) ∧ Below w.heap.size w w' := by
  have C0 := Lib.hid (fun x => echeck_any a b s x)
  have D0 := Lib.hid (fun x => echeck_any c d u x)
  have x0 := fun W => index17_0 a b s c d u W
  have x1 := fun W => index17_1 a b s c d u W
  obtain ⟨R, hR⟩ : ∃ R, R = M.eput ⟨a, b, s, c, d, u⟩ := ⟨_, rfl⟩
  rw [← hR]
  have HR := Lib.hid hR
  clear hR
  by_cases h1 : M.emay1 a b s = true
  · rw [M.eerr_ok h1] at C0
    have hmi := (M.emay1_iff _ _ _).1 h1
    obtain ⟨s1, s2, e1, e2, z1, z2, z9⟩ := M.efirst17 ⟨a, b, s, c, d, u⟩ h1
    simp only at e1 e2
    have C1 := Lib.hid (fun x => vput_any ⟨#[69]⟩ a b x (by decide) (by omega) (by omega))
    have C2 := Lib.hid (fun x => put_any s1 (s + 1) 1 x (by omega) (by omega) (by decide) (by decide))
    rw [e1] at C1
    rw [e2] at C2
    have HZ2 : Hid (s2 = M.ef3 ⟨a, b, s, c, d, u⟩ ∧ s2.size ≤ 100) := ⟨z9, z2⟩
    obtain ⟨t1, hws, ht1⟩ : ∃ x, IntKind.i64.wrap (s + 1) = x ∧ x = s + 1 := ⟨_, by rw [IntKind.wrap_i64]; omega, rfl⟩
    rw [← ht1] at C2
    clear e1 e2 z1 z2 z9 hmi ht1
    go_enter Try.func7, Try.ntmps7
    go_wp2_with fail
    refine wp_loop_rounds 3 ?_
    rw [rounds_succ]
    go_wp2_with fail
    have HX1 := Lib.hid (B3e.new (w.alloc (Ec2 a b s c d u)) a b s)
    have HA1 : Hid (Below w.heap.size w ((w.alloc (Ec2 a b s c d u)).alloc (Ec a b s))) := by show Below _ _ _; exact Below.alloc (nb1 w (Ec2 a b s c d u)) (Below.size (nb1 w (Ec2 a b s c d u))) _
    obtain ⟨g1, hg1⟩ : ∃ g, g = (w.alloc (Ec2 a b s c d u)).heap.size := ⟨_, rfl⟩
    rw [← hg1] at HX1
    try rw [World.size_alloc] at hg1
    rw [← hg1]
    clear hg1
    refine (C0.out _).mono ?_
    rintro en v1 ⟨rfl, hb⟩
    have HX := Lib.hid (HX1.out.below hb HX1.out.lt)
    have HB1 := Lib.hid (HA1.out.trans (hb.mono HA1.out.size))
    clear hb HX1 HA1
    have HS1 : Hid (∀ y, Below v1.heap.size v1 y → y.cell? ⟨g1, 0, none⟩ = some (.int .i64 a) ∧ y.cell? ⟨g1, 1, none⟩ = some (.int .i64 b) ∧ y.cell? ⟨g1, 2, none⟩ = some (.int .i64 s)) := fun y hb => (HX.out.below hb HX.out.lt).cells
    clear HX
    have hb0 : Below v1.heap.size v1 v1 := Below.refl _ _
    have hS0 := HS1.out v1 hb0
    go_wp2_with fail
    go_region_held3 (fun y => y.cell? ⟨g1, 0, none⟩ = some (.int .i64 a) ∧ y.cell? ⟨g1, 1, none⟩ = some (.int .i64 b) ∧ y.cell? ⟨g1, 2, none⟩ = some (.int .i64 s)) (first | assumption)
      (first
        | (go_at_call 14; with_reducible refine (Held.call HS1 (by first | assumption | exact Below.drew (by assumption)) (C1.out _)).mono ?_; rintro en w12 ⟨rfl, hb2, hS2⟩)
        | (go_at_call 13; with_reducible refine (Held.call HS1 (by first | assumption | exact Below.drew (by assumption)) (C2.out _)).mono ?_; rintro en w13 ⟨rfl, hb3, hS3⟩))
    have HC1 := Lib.hid (HB1.out.trans (hb3.mono HB1.out.size))
    clear hb0 hS0 hb2 hb3 hS2 hS3 HB1 HS1
    go_wp2_with fail
    rw [rounds_succ]
    cases h2 : M.emay1 c d u
    · have HN := Lib.hid (HR.out.trans (M.eput_no (M.emay_no2 (x := ⟨a, b, s, c, d, u⟩) (by show ¬ M.emay1 c d u = true; rw [h2]; decide))))
      rw [M.eerr_no (by rw [h2]; decide)] at D0
      clear h1 h2 HZ2
      go_wp2_with fail
      have HX2 := Lib.hid (B3e.new (w13) c d u)
      have HA2 : Hid (Below w.heap.size w ((w13).alloc (Ec c d u))) := by show Below _ _ _; exact Below.alloc HC1.out (Below.size HC1.out) _
      obtain ⟨g2, hg2⟩ : ∃ g, g = (w13).heap.size := ⟨_, rfl⟩
      rw [← hg2] at HX2
      try rw [World.size_alloc] at hg2
      rw [← hg2]
      clear hg2
      refine (D0.out _).mono ?_
      rintro en v2 ⟨rfl, hb⟩
      have HX := Lib.hid (HX2.out.below hb HX2.out.lt)
      have HB2 := Lib.hid (HA2.out.trans (hb.mono HA2.out.size))
      clear hb HX2 HA2
      go_wp2_with fail
      go_ret2
      exact ⟨(congrArg Ending.returned HN.out).symm, HB2.out⟩
    · have hm := M.emay_yes (x := ⟨a, b, s, c, d, u⟩) h1 h2
      have HN := Lib.hid (HR.out.trans (M.eput_ok hm))
      rw [M.eerr_ok h2] at D0
      have hmi := (M.emay1_iff _ _ _).1 h2
      obtain ⟨s3, e3, e4, z3⟩ := M.esecond17 _ hm
      simp only at e3 e4
      rw [← HZ2.out.1] at e3
      have z2 := HZ2.out.2
      have C3 := Lib.hid (fun x => vput_any s2 c d x (by omega) (by omega) (by omega))
      have C4 := Lib.hid (fun x => put_any s3 (u + 1) 1 x (by omega) (by omega) (by decide) (by decide))
      have y3 := M.efront_size ⟨a, b, s, c, d, u⟩
      have y4 := M.esum_size ⟨a, b, s, c, d, u⟩
      have C5 := Lib.hid (fun x => tail10 (M.efront ⟨a, b, s, c, d, u⟩) x (by omega))
      have C6 := Lib.hid (fun x => pad_any (M.efront ⟨a, b, s, c, d, u⟩ ++ M.tail (M.efront ⟨a, b, s, c, d, u⟩)) (by omega) x)
      rw [e3] at C3
      rw [e4] at C4
      have y5 := M.tail_size (M.efront ⟨a, b, s, c, d, u⟩)
      have HW : Hid (M.ewhole ⟨a, b, s, c, d, u⟩ = M.pad (M.efront ⟨a, b, s, c, d, u⟩ ++ M.tail (M.efront ⟨a, b, s, c, d, u⟩))) := rfl
      obtain ⟨s4, hs4⟩ : ∃ x, x = M.efront ⟨a, b, s, c, d, u⟩ := ⟨_, rfl⟩
      rw [← hs4] at C4 C5 C6 HW y3 y5
      obtain ⟨s5, hs5⟩ : ∃ x, x = M.tail s4 := ⟨_, rfl⟩
      rw [← hs5] at C5 C6 HW y5
      obtain ⟨s6, hs6⟩ : ∃ x, x = M.pad (s4 ++ s5) := ⟨_, rfl⟩
      rw [← hs6] at C6 HW
      rw [HW.out] at HN
      obtain ⟨t2, hwu, ht2⟩ : ∃ x, IntKind.i64.wrap (u + 1) = x ∧ x = u + 1 := ⟨_, by rw [IntKind.wrap_i64]; omega, rfl⟩
      rw [← ht2] at C4
      clear e3 e4 hs4 hs5 hs6 y4 z2 z3 hm hmi ht2 h1 h2 HZ2
      go_wp2_with fail
      have HX2 := Lib.hid (B3e.new (w13) c d u)
      have HA2 : Hid (Below w.heap.size w ((w13).alloc (Ec c d u))) := by show Below _ _ _; exact Below.alloc HC1.out (Below.size HC1.out) _
      obtain ⟨g2, hg2⟩ : ∃ g, g = (w13).heap.size := ⟨_, rfl⟩
      rw [← hg2] at HX2
      try rw [World.size_alloc] at hg2
      rw [← hg2]
      clear hg2
      refine (D0.out _).mono ?_
      rintro en v2 ⟨rfl, hb⟩
      have HX := Lib.hid (HX2.out.below hb HX2.out.lt)
      have HB2 := Lib.hid (HA2.out.trans (hb.mono HA2.out.size))
      clear hb HX2 HA2
      have HS2 : Hid (∀ y, Below v2.heap.size v2 y → y.cell? ⟨g2, 0, none⟩ = some (.int .i64 c) ∧ y.cell? ⟨g2, 1, none⟩ = some (.int .i64 d) ∧ y.cell? ⟨g2, 2, none⟩ = some (.int .i64 u)) := fun y hb => (HX.out.below hb HX.out.lt).cells
      clear HX
      have hb0 : Below v2.heap.size v2 v2 := Below.refl _ _
      have hS0 := HS2.out v2 hb0
      go_wp2_with fail
      go_region_held3 (fun y => y.cell? ⟨g2, 0, none⟩ = some (.int .i64 c) ∧ y.cell? ⟨g2, 1, none⟩ = some (.int .i64 d) ∧ y.cell? ⟨g2, 2, none⟩ = some (.int .i64 u)) (first | assumption)
        (first
          | (go_at_call 14; with_reducible refine (Held.call HS2 (by first | assumption | exact Below.drew (by assumption)) (C3.out _)).mono ?_; rintro en w22 ⟨rfl, hb2, hS2⟩)
          | (go_at_call 13; with_reducible refine (Held.call HS2 (by first | assumption | exact Below.drew (by assumption)) (C4.out _)).mono ?_; rintro en w23 ⟨rfl, hb3, hS3⟩))
      have HC2 := Lib.hid (HB2.out.trans (hb3.mono HB2.out.size))
      clear hb0 hS0 hb2 hb3 hS2 hS3 HB2 HS2
      go_wp2_with fail
      rw [rounds_succ]
      go_wp2_with fail
      refine (C5.out _).mono ?_
      rintro en w9 ⟨rfl, hb9⟩
      have HB9 := Lib.hid (HC2.out.trans (hb9.mono HC2.out.size))
      clear hb9
      go_wp2_with fail
      refine (C6.out _).mono ?_
      rintro en w10 ⟨rfl, hb10⟩
      have HB10 := Lib.hid (HB9.out.trans (hb10.mono HB9.out.size))
      clear hb10
      go_wp2_with fail
      go_ret2
      exact ⟨(congrArg Ending.returned HN.out).symm, HB10.out⟩
  · rw [M.eerr_no h1] at C0
    have HN := Lib.hid (HR.out.trans (M.eput_no (M.emay_no1 (x := ⟨a, b, s, c, d, u⟩) h1)))
    clear h1
    go_enter Try.func7, Try.ntmps7
    go_wp2_with fail
    refine wp_loop_rounds 3 ?_
    rw [rounds_succ]
    go_wp2_with fail
    have HX1 := Lib.hid (B3e.new (w.alloc (Ec2 a b s c d u)) a b s)
    have HA1 : Hid (Below w.heap.size w ((w.alloc (Ec2 a b s c d u)).alloc (Ec a b s))) := by show Below _ _ _; exact Below.alloc (nb1 w (Ec2 a b s c d u)) (Below.size (nb1 w (Ec2 a b s c d u))) _
    obtain ⟨g1, hg1⟩ : ∃ g, g = (w.alloc (Ec2 a b s c d u)).heap.size := ⟨_, rfl⟩
    rw [← hg1] at HX1
    try rw [World.size_alloc] at hg1
    rw [← hg1]
    clear hg1
    refine (C0.out _).mono ?_
    rintro en v1 ⟨rfl, hb⟩
    have HX := Lib.hid (HX1.out.below hb HX1.out.lt)
    have HB1 := Lib.hid (HA1.out.trans (hb.mono HA1.out.size))
    clear hb HX1 HA1
    go_wp2_with fail
    go_ret2
    exact ⟨(congrArg Ending.returned HN.out).symm, HB1.out⟩

set_option maxHeartbeats 4000000 in
theorem reput_any (a b s c d u : Int) (w : World) :
    Calls Try.prog 8 #[Ev2 a b s c d u] w fun en w' => en = .returned (M.eput ⟨a, b, s, c, d, u⟩) ∧ Below w.heap.size w w' := by
  have C0 := Lib.hid (fun x => recheck_any a b s x)
  have D0 := Lib.hid (fun x => recheck_any c d u x)
  have x0 := fun W => index17_0 a b s c d u W
  have x1 := fun W => index17_1 a b s c d u W
  obtain ⟨R, hR⟩ : ∃ R, R = M.eput ⟨a, b, s, c, d, u⟩ := ⟨_, rfl⟩
  rw [← hR]
  have HR := Lib.hid hR
  clear hR
  by_cases h1 : M.emay1 a b s = true
  · rw [M.eerr_ok h1] at C0
    have hmi := (M.emay1_iff _ _ _).1 h1
    obtain ⟨s1, s2, e1, e2, z1, z2, z9⟩ := M.efirst17 ⟨a, b, s, c, d, u⟩ h1
    simp only at e1 e2
    have C1 := Lib.hid (fun x => rvput_any ⟨#[69]⟩ a b x (by decide) (by omega) (by omega))
    have C2 := Lib.hid (fun x => rput_any s1 (s + 1) 1 x (by omega) (by omega))
    rw [e1] at C1
    rw [e2] at C2
    have HZ2 : Hid (s2 = M.ef3 ⟨a, b, s, c, d, u⟩ ∧ s2.size ≤ 100) := ⟨z9, z2⟩
    obtain ⟨t1, hws, ht1⟩ : ∃ x, IntKind.i64.wrap (s + 1) = x ∧ x = s + 1 := ⟨_, by rw [IntKind.wrap_i64]; omega, rfl⟩
    rw [← ht1] at C2
    clear e1 e2 z1 z2 z9 hmi ht1
    go_enter Try.func8, Try.ntmps8
    go_wp2_with fail
    refine wp_loop_rounds 3 ?_
    have HB0 := Lib.hid (nb1 w (Ec2 a b s c d u))
    have HX0 := Lib.hid (B6.new w a b s c d u)
    rw [rounds_succ]
    obtain ⟨c0, c1, c2, c3, c4, c5⟩ := HX0.out.cells
    go_wp2_with fail
    refine (C0.out _).mono ?_
    rintro en v1 ⟨rfl, hb⟩
    have HY1 := Lib.hid (HX0.out.below hb HX0.out.lt)
    have HB1 := Lib.hid (HB0.out.trans (hb.mono HB0.out.size))
    clear hb c0 c1 c2 c3 c4 c5
    have HS1 : Hid (∀ y, Below v1.heap.size v1 y → y.cell? ⟨w.heap.size, 0, none⟩ = some (.int .i64 a) ∧ y.cell? ⟨w.heap.size, 1, none⟩ = some (.int .i64 b) ∧ y.cell? ⟨w.heap.size, 2, none⟩ = some (.int .i64 s)) := fun y hb => have h := (HY1.out.below hb HY1.out.lt).cells; ⟨h.1, h.2.1, h.2.2.1⟩
    have hb0 : Below v1.heap.size v1 v1 := Below.refl _ _
    have hS0 := HS1.out v1 hb0
    go_wp2_with fail
    go_region_held3 (fun y => y.cell? ⟨w.heap.size, 0, none⟩ = some (.int .i64 a) ∧ y.cell? ⟨w.heap.size, 1, none⟩ = some (.int .i64 b) ∧ y.cell? ⟨w.heap.size, 2, none⟩ = some (.int .i64 s)) (first | assumption)
      (first
        | (go_at_call 18; with_reducible refine (Held.call HS1 (by first | assumption | exact Below.drew (by assumption)) (C1.out _)).mono ?_; rintro en w12 ⟨rfl, hb2, hS2⟩)
        | (go_at_call 17; with_reducible refine (Held.call HS1 (by first | assumption | exact Below.drew (by assumption)) (C2.out _)).mono ?_; rintro en w13 ⟨rfl, hb3, hS3⟩))
    have HC1 := Lib.hid (HB1.out.trans (hb3.mono HB1.out.size))
    have HX1 := Lib.hid (HY1.out.below hb3 HY1.out.lt)
    clear hb0 hS0 hb2 hb3 hS2 hS3 HB1 HS1
    go_wp2_with fail
    rw [rounds_succ]
    cases h2 : M.emay1 c d u
    · have HN := Lib.hid (HR.out.trans (M.eput_no (M.emay_no2 (x := ⟨a, b, s, c, d, u⟩) (by show ¬ M.emay1 c d u = true; rw [h2]; decide))))
      rw [M.eerr_no (by rw [h2]; decide)] at D0
      clear h1 h2 HZ2
      obtain ⟨c0, c1, c2, c3, c4, c5⟩ := HX1.out.cells
      go_wp2_with fail
      refine (D0.out _).mono ?_
      rintro en v2 ⟨rfl, hb⟩
      have HY2 := Lib.hid (HX1.out.below hb HX1.out.lt)
      have HB2 := Lib.hid (HC1.out.trans (hb.mono HC1.out.size))
      clear hb c0 c1 c2 c3 c4 c5
      go_wp2_with fail
      go_ret2
      exact ⟨(congrArg Ending.returned HN.out).symm, HB2.out⟩
    · have hm := M.emay_yes (x := ⟨a, b, s, c, d, u⟩) h1 h2
      have HN := Lib.hid (HR.out.trans (M.eput_ok hm))
      rw [M.eerr_ok h2] at D0
      have hmi := (M.emay1_iff _ _ _).1 h2
      obtain ⟨s3, e3, e4, z3⟩ := M.esecond17 _ hm
      simp only at e3 e4
      rw [← HZ2.out.1] at e3
      have z2 := HZ2.out.2
      have C3 := Lib.hid (fun x => rvput_any s2 c d x (by omega) (by omega) (by omega))
      have C4 := Lib.hid (fun x => rput_any s3 (u + 1) 1 x (by omega) (by omega))
      have y3 := M.efront_size ⟨a, b, s, c, d, u⟩
      have y4 := M.esum_size ⟨a, b, s, c, d, u⟩
      have C5 := Lib.hid (fun x => rtail10 (M.efront ⟨a, b, s, c, d, u⟩) x (by omega))
      have C6 := Lib.hid (fun x => rpad_any (M.efront ⟨a, b, s, c, d, u⟩ ++ M.tail (M.efront ⟨a, b, s, c, d, u⟩)) (by omega) x)
      rw [e3] at C3
      rw [e4] at C4
      have y5 := M.tail_size (M.efront ⟨a, b, s, c, d, u⟩)
      have HW : Hid (M.ewhole ⟨a, b, s, c, d, u⟩ = M.pad (M.efront ⟨a, b, s, c, d, u⟩ ++ M.tail (M.efront ⟨a, b, s, c, d, u⟩))) := rfl
      obtain ⟨s4, hs4⟩ : ∃ x, x = M.efront ⟨a, b, s, c, d, u⟩ := ⟨_, rfl⟩
      rw [← hs4] at C4 C5 C6 HW y3 y5
      obtain ⟨s5, hs5⟩ : ∃ x, x = M.tail s4 := ⟨_, rfl⟩
      rw [← hs5] at C5 C6 HW y5
      obtain ⟨s6, hs6⟩ : ∃ x, x = M.pad (s4 ++ s5) := ⟨_, rfl⟩
      rw [← hs6] at C6 HW
      rw [HW.out] at HN
      obtain ⟨t2, hwu, ht2⟩ : ∃ x, IntKind.i64.wrap (u + 1) = x ∧ x = u + 1 := ⟨_, by rw [IntKind.wrap_i64]; omega, rfl⟩
      rw [← ht2] at C4
      clear e3 e4 hs4 hs5 hs6 y4 z2 z3 hm hmi ht2 h1 h2 HZ2
      obtain ⟨c0, c1, c2, c3, c4, c5⟩ := HX1.out.cells
      go_wp2_with fail
      refine (D0.out _).mono ?_
      rintro en v2 ⟨rfl, hb⟩
      have HY2 := Lib.hid (HX1.out.below hb HX1.out.lt)
      have HB2 := Lib.hid (HC1.out.trans (hb.mono HC1.out.size))
      clear hb c0 c1 c2 c3 c4 c5
      have HS2 : Hid (∀ y, Below v2.heap.size v2 y → y.cell? ⟨w.heap.size, 3, none⟩ = some (.int .i64 c) ∧ y.cell? ⟨w.heap.size, 4, none⟩ = some (.int .i64 d) ∧ y.cell? ⟨w.heap.size, 5, none⟩ = some (.int .i64 u)) := fun y hb => have h := (HY2.out.below hb HY2.out.lt).cells; ⟨h.2.2.2.1, h.2.2.2.2.1, h.2.2.2.2.2⟩
      have hb0 : Below v2.heap.size v2 v2 := Below.refl _ _
      have hS0 := HS2.out v2 hb0
      go_wp2_with fail
      go_region_held3 (fun y => y.cell? ⟨w.heap.size, 3, none⟩ = some (.int .i64 c) ∧ y.cell? ⟨w.heap.size, 4, none⟩ = some (.int .i64 d) ∧ y.cell? ⟨w.heap.size, 5, none⟩ = some (.int .i64 u)) (first | assumption)
        (first
          | (go_at_call 18; with_reducible refine (Held.call HS2 (by first | assumption | exact Below.drew (by assumption)) (C3.out _)).mono ?_; rintro en w22 ⟨rfl, hb2, hS2⟩)
          | (go_at_call 17; with_reducible refine (Held.call HS2 (by first | assumption | exact Below.drew (by assumption)) (C4.out _)).mono ?_; rintro en w23 ⟨rfl, hb3, hS3⟩))
      have HC2 := Lib.hid (HB2.out.trans (hb3.mono HB2.out.size))
      have HX2 := Lib.hid (HY2.out.below hb3 HY2.out.lt)
      clear hb0 hS0 hb2 hb3 hS2 hS3 HB2 HS2
      go_wp2_with fail
      rw [rounds_succ]
      go_wp2_with fail
      refine (C5.out _).mono ?_
      rintro en w9 ⟨rfl, hb9⟩
      have HB9 := Lib.hid (HC2.out.trans (hb9.mono HC2.out.size))
      clear hb9
      go_wp2_with fail
      refine (C6.out _).mono ?_
      rintro en w10 ⟨rfl, hb10⟩
      have HB10 : Hid (Below w.heap.size w w10) := by show Below _ _ _; rw [hb10]; exact HB9.out
      clear hb10
      go_wp2_with fail
      go_ret2
      exact ⟨(congrArg Ending.returned HN.out).symm, HB10.out⟩
  · rw [M.eerr_no h1] at C0
    have HN := Lib.hid (HR.out.trans (M.eput_no (M.emay_no1 (x := ⟨a, b, s, c, d, u⟩) h1)))
    clear h1
    go_enter Try.func8, Try.ntmps8
    go_wp2_with fail
    refine wp_loop_rounds 3 ?_
    rw [rounds_succ]
    have HB0 := Lib.hid (nb1 w (Ec2 a b s c d u))
    have HX0 := Lib.hid (B6.new w a b s c d u)
    obtain ⟨c0, c1, c2, c3, c4, c5⟩ := HX0.out.cells
    go_wp2_with fail
    refine (C0.out _).mono ?_
    rintro en v1 ⟨rfl, hb⟩
    have HY1 := Lib.hid (HX0.out.below hb HX0.out.lt)
    have HB1 := Lib.hid (HB0.out.trans (hb.mono HB0.out.size))
    clear hb c0 c1 c2 c3 c4 c5
    go_wp2_with fail
    go_ret2
    exact ⟨(congrArg Ending.returned HN.out).symm, HB1.out⟩

end Go.Proofs.Ytoljggleekbbbaa
