/-
  Walks over loghead.may, Put, solderref10.May, Put, solderlaw10.own.
-/
import Derived.Test.YtdegfkhbcgnmmaaDoorJMath
import Derived.Test.YtdegfkhbcgnmmaaDoorCTail
namespace Go.Proofs.YtdegfkhbcgnmmaaDoor
open Go.RowKit

/-- A head by value. -/
def M.Hd.v (h : M.Hd) : Value := .agg #[.int .i64 h.g, .int .i64 h.q, .int .i64 h.a]
def M.Hd.ok (h : M.Hd) : Prop := (-9223372036854775808 ≤ h.g ∧ h.g ≤ 9223372036854775807) ∧ (-9223372036854775808 ≤ h.q ∧ h.q ≤ 9223372036854775807) ∧ (-9223372036854775808 ≤ h.a ∧ h.a ≤ 9223372036854775807)
theorem below1 (w : World) (o1 : Obj) : Below w.heap.size w (w.alloc o1) := (Below.refl w.heap.size w).alloc (Nat.le_refl _) o1
theorem below2a (w : World) (o1 o2 : Obj) : Below w.heap.size w ((w.alloc o1).alloc o2) := (below1 w o1).alloc (by simp) o2

theorem may10_any (g q a : Int) (w : World) :
    Calls Tryd.prog 14 #[.agg #[.int .i64 g, .int .i64 q, .int .i64 a]] w fun e w' => e = .returned (.bool (M.hmay ⟨g, q, a⟩)) ∧ Below w.heap.size w w' := by
  have C1 := Lib.hid (fun x => fits_any g 6 x (by decide) (by decide))
  have C2 := Lib.hid (fun x => fits_any q 6 x (by decide) (by decide))
  have HB := Lib.hid (below1 w (.cells #[.int .i64 g, .int .i64 q, .int .i64 a] 28))
  unfold M.hmay
  simp only
  obtain ⟨r1, hr1⟩ : ∃ r, r = M.fitsB g 6 := ⟨_, rfl⟩
  obtain ⟨r2, hr2⟩ : ∃ r, r = M.fitsB q 6 := ⟨_, rfl⟩
  rw [← hr1] at C1 ⊢
  rw [← hr2] at C2 ⊢
  clear hr1 hr2
  cases r1
  · go_enter Tryd.func14, Tryd.ntmps14
    go_wp2_with fail
    refine (C1.out _).mono ?_
    rintro e w1 ⟨rfl, rfl⟩
    go_wp2_with fail
    go_ret
    exact ⟨rfl, HB.out⟩
  · cases r2
    · go_enter Tryd.func14, Tryd.ntmps14
      go_wp2_with fail
      refine (C1.out _).mono ?_
      rintro e w1 ⟨rfl, rfl⟩
      go_wp2_with fail
      refine (C2.out _).mono ?_
      rintro e w1 ⟨rfl, rfl⟩
      go_wp2_with fail
      go_ret
      exact ⟨rfl, HB.out⟩
    · have hc : (decide (0 ≤ a) = false) ∨ (decide (0 ≤ a) = true ∧ decide (a ≤ 200) = false) ∨ (decide (0 ≤ a) = true ∧ decide (a ≤ 200) = true) := by
        cases decide (0 ≤ a) <;> cases decide (a ≤ 200) <;> simp
      rcases hc with d1 | ⟨d1, d2⟩ | ⟨d1, d2⟩
      · rw [d1]
        go_enter Tryd.func14, Tryd.ntmps14
        go_wp2_with fail
        refine (C1.out _).mono ?_
        rintro e w1 ⟨rfl, rfl⟩
        go_wp2_with fail
        refine (C2.out _).mono ?_
        rintro e w1 ⟨rfl, rfl⟩
        go_wp2_with fail
        go_ret
        exact ⟨rfl, HB.out⟩
      all_goals
        rw [d1, d2]
        go_enter Tryd.func14, Tryd.ntmps14
        go_wp2_with fail
        refine (C1.out _).mono ?_
        rintro e w1 ⟨rfl, rfl⟩
        go_wp2_with fail
        refine (C2.out _).mono ?_
        rintro e w1 ⟨rfl, rfl⟩
        go_wp2_with fail
        go_ret
        exact ⟨rfl, HB.out⟩

theorem M.hmay_flat (g q a : Int) : M.hmay ⟨g, q, a⟩ = (decide (0 ≤ g) && (decide (g < 281474976710656) && (decide (0 ≤ q) && (decide (q < 281474976710656) && (decide (0 ≤ a) && decide (a ≤ 200)))))) := by
  rw [Bool.eq_iff_iff, M.hmay_iff]
  simp only [Bool.and_eq_true, decide_eq_true_eq]
  omega
theorem M.six_cases (b1 b2 b3 b4 b5 b6 : Bool) : b1 = false ∨ (b1 = true ∧ b2 = false) ∨ (b1 = true ∧ b2 = true ∧ b3 = false) ∨ (b1 = true ∧ b2 = true ∧ b3 = true ∧ b4 = false) ∨ (b1 = true ∧ b2 = true ∧ b3 = true ∧ b4 = true ∧ b5 = false) ∨ (b1 = true ∧ b2 = true ∧ b3 = true ∧ b4 = true ∧ b5 = true ∧ b6 = false) ∨ (b1 = true ∧ b2 = true ∧ b3 = true ∧ b4 = true ∧ b5 = true ∧ b6 = true) := by
  cases b1 <;> cases b2 <;> cases b3 <;> cases b4 <;> cases b5 <;> cases b6 <;> simp
theorem rmay10_any (g q a : Int) (w : World) :
    Calls Tryd.prog 18 #[.agg #[.int .i64 g, .int .i64 q, .int .i64 a]] w fun e w' => e = .returned (.bool (M.hmay ⟨g, q, a⟩)) ∧ Below w.heap.size w w' := by
  have HB := Lib.hid (below1 w (.cells #[.int .i64 g, .int .i64 q, .int .i64 a] 23))
  rw [M.hmay_flat]
  rcases M.six_cases (decide (0 ≤ g)) (decide (g < 281474976710656)) (decide (0 ≤ q)) (decide (q < 281474976710656)) (decide (0 ≤ a)) (decide (a ≤ 200)) with d1 | ⟨d1, d2⟩ | ⟨d1, d2, d3⟩ | ⟨d1, d2, d3, d4⟩ | ⟨d1, d2, d3, d4, d5⟩ | ⟨d1, d2, d3, d4, d5, d6⟩ | ⟨d1, d2, d3, d4, d5, d6⟩
  · rw [d1]
    go_enter Tryd.func18, Tryd.ntmps18
    go_wp2_with fail
    go_ret
    exact ⟨rfl, HB.out⟩
  · rw [d1, d2]
    go_enter Tryd.func18, Tryd.ntmps18
    go_wp2_with fail
    go_ret
    exact ⟨rfl, HB.out⟩
  · rw [d1, d2, d3]
    go_enter Tryd.func18, Tryd.ntmps18
    go_wp2_with fail
    go_ret
    exact ⟨rfl, HB.out⟩
  · rw [d1, d2, d3, d4]
    go_enter Tryd.func18, Tryd.ntmps18
    go_wp2_with fail
    go_ret
    exact ⟨rfl, HB.out⟩
  · rw [d1, d2, d3, d4, d5]
    go_enter Tryd.func18, Tryd.ntmps18
    go_wp2_with fail
    go_ret
    exact ⟨rfl, HB.out⟩
  · rw [d1, d2, d3, d4, d5, d6]
    go_enter Tryd.func18, Tryd.ntmps18
    go_wp2_with fail
    go_ret
    exact ⟨rfl, HB.out⟩
  · rw [d1, d2, d3, d4, d5, d6]
    go_enter Tryd.func18, Tryd.ntmps18
    go_wp2_with fail
    go_ret
    exact ⟨rfl, HB.out⟩

/-- Three numbers in a box. -/
def B3 (y : World) (b : Nat) (t : TypeId) (g q a : Int) : Prop := Box y b t #[.int .i64 g, .int .i64 q, .int .i64 a]
theorem B3.cells {y : World} {b : Nat} {t : TypeId} {g q a : Int} (h : B3 y b t g q a) : y.cell? ⟨b, 0, none⟩ = some (.int .i64 g) ∧ y.cell? ⟨b, 1, none⟩ = some (.int .i64 q) ∧ y.cell? ⟨b, 2, none⟩ = some (.int .i64 a) :=
  ⟨Box.cell h 0, Box.cell h 1, Box.cell h 2⟩
theorem B3.frozen {y : World} {b : Nat} {t : TypeId} {g q a : Int} (h : B3 y b t g q a) : y.frozen? ⟨b, 0, none⟩ = false ∧ y.frozen? ⟨b, 1, none⟩ = false ∧ y.frozen? ⟨b, 2, none⟩ = false :=
  ⟨Box.frozen h 0, Box.frozen h 1, Box.frozen h 2⟩
theorem B3.new (y : World) (t : TypeId) (g q a : Int) : B3 (y.alloc (.cells #[.int .i64 g, .int .i64 q, .int .i64 a] t)) y.heap.size t g q a := Box.new _ _ _
theorem B3.lt {y : World} {b : Nat} {t : TypeId} {g q a : Int} (h : B3 y b t g q a) : b < y.heap.size := Box.lt h
theorem B3.below {y z : World} {b B : Nat} {t : TypeId} {g q a : Int} (h : B3 y b t g q a) (hb : Below B y z) (hB : b < B) : B3 z b t g q a := Box.below h hb hB

/-- What Put answers. -/
def M.hput (h : M.Hd) : Value := if M.hmay h = true then .tuple #[.string (M.hwhole h), .int .i64 0] else .tuple #[.string ⟨#[]⟩, .int .i64 3]

theorem tail10 (s : ByteArray) (w : World) (hs : s.size ≤ 100000) : Calls Tryd.prog 17 #[.string s] w fun e w' => e = .returned (.string (M.tail s)) ∧ Below w.heap.size w w' := tail_any s w (by omega)
theorem rtail10 (s : ByteArray) (w : World) (hs : s.size ≤ 100000) : Calls Tryd.prog 21 #[.string s] w fun e w' => e = .returned (.string (M.tail s)) ∧ Below w.heap.size w w' := rtail_any s w (by omega)

/-- The four texts that Put comes by. -/
theorem M.hparts (h : M.Hd) (hm : M.hmay h = true) : ∃ s1 s2 : ByteArray, M.putS ⟨#[76]⟩ h.g 6 = s1 ∧ M.putS s1 h.q 6 = s2 ∧ M.putS s2 h.a 2 = M.hfront h ∧ s1.size ≤ 100 ∧ s2.size ≤ 100 := by
  obtain ⟨h1, h2, h3⟩ := (M.hmay_iff h).1 hm
  refine ⟨_, _, rfl, rfl, M.hputs h hm, ?_, ?_⟩
  · rw [M.putS_yes ((M.fits6 _).2 h1), ByteArray.size_append, M.bytes_size, M.L_size]; decide
  · rw [M.putS_yes ((M.fits6 _).2 h1), M.putS_yes ((M.fits6 _).2 h2), ByteArray.size_append, ByteArray.size_append, M.bytes_size, M.bytes_size, M.L_size]; decide

set_option maxHeartbeats 1000000 in
theorem put10_any (g q a : Int) (w : World) :
    Calls Tryd.prog 7 #[.agg #[.int .i64 g, .int .i64 q, .int .i64 a]] w fun e w' => e = .returned (M.hput ⟨g, q, a⟩) ∧ Below w.heap.size w w' := by
  have C0 := Lib.hid (fun x => may10_any g q a x)
  have HB := Lib.hid (below1 w (.cells #[.int .i64 g, .int .i64 q, .int .i64 a] 28))
  have HX := Lib.hid (B3.new w 28 g q a)
  unfold M.hput
  by_cases hm : M.hmay ⟨g, q, a⟩ = true
  · rw [if_pos hm]
    rw [hm] at C0
    obtain ⟨s1, s2, e1, e2, e3, z1, z2⟩ := M.hparts _ hm
    simp only at e1 e2 e3
    obtain ⟨⟨_, g9⟩, ⟨_, q9⟩, _, a9⟩ := (M.hmay_iff _).1 hm
    simp only at g9 q9 a9
    have C1 := Lib.hid (fun x => put_any ⟨#[76]⟩ g 6 x (by decide) (by omega) (by decide) (by decide))
    have C2 := Lib.hid (fun x => put_any s1 q 6 x (by omega) (by omega) (by decide) (by decide))
    have C3 := Lib.hid (fun x => put_any s2 a 2 x (by omega) (by omega) (by decide) (by decide))
    have z3 := M.hfront_size ⟨g, q, a⟩
    have z4 := M.hsum_size ⟨g, q, a⟩
    have C4 := Lib.hid (fun x => tail10 (M.hfront ⟨g, q, a⟩) x (by omega))
    have C5 := Lib.hid (fun x => pad_any (M.hfront ⟨g, q, a⟩ ++ M.tail (M.hfront ⟨g, q, a⟩)) (by omega) x)
    rw [e1] at C1
    rw [e2] at C2
    rw [e3] at C3
    have z5 := M.tail_size (M.hfront ⟨g, q, a⟩)
    have HW : Hid (M.hwhole ⟨g, q, a⟩ = M.pad (M.hfront ⟨g, q, a⟩ ++ M.tail (M.hfront ⟨g, q, a⟩))) := rfl
    obtain ⟨s3, hs3⟩ : ∃ x, x = M.hfront ⟨g, q, a⟩ := ⟨_, rfl⟩
    rw [← hs3] at C3 C4 C5 HW z3 z5
    obtain ⟨s4, hs4⟩ : ∃ x, x = M.tail s3 := ⟨_, rfl⟩
    rw [← hs4] at C4 C5 HW z5
    obtain ⟨s5, hs5⟩ : ∃ x, x = M.pad (s3 ++ s4) := ⟨_, rfl⟩
    rw [← hs5] at C5 HW
    rw [HW.out]
    clear e1 e2 e3 hs3 hs4 hs5 z4 z1 z2 g9 q9 a9 hm
    go_enter Tryd.func7, Tryd.ntmps7
    go_wp2_with fail
    refine (C0.out _).mono ?_
    rintro e w1 ⟨rfl, hb1⟩
    have H1 := Lib.hid (HX.out.below hb1 HX.out.lt)
    have HB1 := Lib.hid (HB.out.trans (hb1.mono HB.out.size))
    clear hb1
    obtain ⟨c0, c1, c2⟩ := H1.out.cells
    go_wp2_with fail
    refine (C1.out _).mono ?_
    rintro e w2 ⟨rfl, hb2⟩
    have H2 := Lib.hid (H1.out.below hb2 H1.out.lt)
    have HB2 := Lib.hid (HB1.out.trans (hb2.mono HB1.out.size))
    clear hb2 c0 c1 c2
    obtain ⟨c0, c1, c2⟩ := H2.out.cells
    go_wp2_with fail
    refine (C2.out _).mono ?_
    rintro e w3 ⟨rfl, hb3⟩
    have H3 := Lib.hid (H2.out.below hb3 H2.out.lt)
    have HB3 := Lib.hid (HB2.out.trans (hb3.mono HB2.out.size))
    clear hb3 c0 c1 c2
    obtain ⟨c0, c1, c2⟩ := H3.out.cells
    go_wp2_with fail
    refine (C3.out _).mono ?_
    rintro e w4 ⟨rfl, hb4⟩
    have HB4 := Lib.hid (HB3.out.trans (hb4.mono HB3.out.size))
    clear hb4 c0 c1 c2
    go_wp2_with fail
    refine (C4.out _).mono ?_
    rintro e w5 ⟨rfl, hb5⟩
    have HB5 := Lib.hid (HB4.out.trans (hb5.mono HB4.out.size))
    clear hb5
    go_wp2_with fail
    refine (C5.out _).mono ?_
    rintro e w6 ⟨rfl, hb6⟩
    have HB6 := Lib.hid (HB5.out.trans (hb6.mono HB5.out.size))
    clear hb6
    go_wp2_with fail
    go_ret2
    exact ⟨rfl, HB6.out⟩
  · rw [if_neg hm]
    have hm' : M.hmay ⟨g, q, a⟩ = false := by simpa using hm
    rw [hm'] at C0
    clear hm hm'
    go_enter Tryd.func7, Tryd.ntmps7
    go_wp2_with fail
    refine (C0.out _).mono ?_
    rintro e w1 ⟨rfl, hb1⟩
    have HB1 := Lib.hid (HB.out.trans (hb1.mono HB.out.size))
    clear hb1
    go_wp2_with fail
    go_ret2
    exact ⟨rfl, HB1.out⟩

set_option maxHeartbeats 1000000 in
theorem own10_any (g q a : Int) (w : World) :
    Calls Tryd.prog 8 #[.agg #[.int .i64 g, .int .i64 q, .int .i64 a]] w fun e w' => e = .returned (.agg #[.int .i64 g, .int .i64 q, .int .i64 a]) ∧ Below w.heap.size w w' := by
  go_enter Tryd.func8, Tryd.ntmps8
  go_wp2_with fail
  exact bodyPost_ret (by simp [results, Tryd.results8, go_sem]) rfl ⟨rfl, below2a _ _ _⟩
end Go.Proofs.YtdegfkhbcgnmmaaDoor
