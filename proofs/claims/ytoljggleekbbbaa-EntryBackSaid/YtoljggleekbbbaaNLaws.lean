/-
  Walks over works, EntryPuts and EntryGets. (Written by wip/gen_nlaws.py.)
-/
import Derived.Test.YtoljggleekbbbaaNRGet
import Derived.Test.YtoljggleekbbbaaNEq
namespace Go.Proofs.Ytoljggleekbbbaa
open Go.RowKit

theorem M.emay_works : M.emay ⟨1, 0, -1, 0, 2, 7⟩ = true := by decide
theorem M.egot_whole (x : M.E2) (h : M.emay x = true) : M.egot (M.eget (M.ewhole x)) = .tuple #[Ev2 x.a x.b x.s x.c x.d x.u, .int .i64 0] := by rw [M.eget_whole x h]; rfl
theorem M.eput_is (x : M.E2) : ∃ pt pe, M.eput x = .tuple #[.string pt, .int .i64 pe] := by
  unfold M.eput
  split
  · exact ⟨_, _, rfl⟩
  · exact ⟨_, _, rfl⟩

set_option maxHeartbeats 2000000 in
theorem works17_any (w : World) : Calls Try.prog 6 #[] w fun e w' => e = .returned (.bool true) ∧ Below w.heap.size w w' := by
  have C1 := Lib.hid (fun x => eput_any 1 0 (-1) 0 2 7 x)
  rw [M.eput_ok M.emay_works] at C1
  have C2 := Lib.hid (fun x => eget_any (M.ewhole ⟨1, 0, -1, 0, 2, 7⟩) x)
  rw [M.egot_whole _ M.emay_works] at C2
  have hz := M.ewhole_size ⟨1, 0, -1, 0, 2, 7⟩
  obtain ⟨s, hs⟩ : ∃ s, s = M.ewhole ⟨1, 0, -1, 0, 2, 7⟩ := ⟨_, rfl⟩
  rw [← hs] at C1 C2 hz
  have hd : ((s.size : Int) == 64) = true := by rw [beq_iff_eq]; omega
  have HX := Lib.hid (B6.new w 1 0 (-1) 0 2 7)
  have HB := Lib.hid (nb1 w (Ec2 1 0 (-1) 0 2 7))
  have hq := fun W => eqEntries17 1 0 (-1) 0 2 7 W
  clear hs hz
  go_enter Try.func6, Try.ntmps6
  go_wp2_with fail
  refine (C1.out _).mono ?_
  rintro e w1 ⟨rfl, hb1⟩
  have HX1 := Lib.hid (HX.out.below hb1 HX.out.lt)
  have HB1 := Lib.hid (HB.out.trans (hb1.mono HB.out.size))
  clear hb1 HX HB
  go_wp2_with fail
  refine (C2.out _).mono ?_
  rintro e w2 ⟨rfl, hb2⟩
  have HX2 := Lib.hid (HX1.out.below hb2 HX1.out.lt)
  have HB2 := Lib.hid (HB1.out.trans (hb2.mono HB1.out.size))
  clear hb2 HX1 HB1
  have HX3 := Lib.hid (HX2.out.below (nb1 w2 (Ec2 1 0 (-1) 0 2 7)) HX2.out.lt)
  have HY3 := Lib.hid (B6.new w2 1 0 (-1) 0 2 7)
  have HB3 := Lib.hid (HB2.out.trans ((nb1 w2 (Ec2 1 0 (-1) 0 2 7)).mono HB2.out.size))
  obtain ⟨c0, c1, c2, c3, c4, c5⟩ := B6.cells HX3.out
  obtain ⟨d0, d1, d2, d3, d4, d5⟩ := B6.cells HY3.out
  go_wp2_with fail
  go_ret
  exact ⟨rfl, HB3.out⟩

set_option maxHeartbeats 4000000 in
theorem entryPuts_yes (a b s c d u : Int) (w : World) : Calls Try.prog 3 #[Ev2 a b s c d u] w fun en z => en = .returned (.bool true) ∧ Below w.heap.size w z := by
  have HB := Lib.hid (nb1 w (Ec2 a b s c d u))
  have HX := Lib.hid (B6.new w a b s c d u)
  have C1 := Lib.hid (fun x => eput_any a b s c d u x)
  have C2 := Lib.hid (fun x => reput_any a b s c d u x)
  have C3 := Lib.hid (fun x => echeck_any a b s x)
  have C4 := Lib.hid (fun x => recheck_any a b s x)
  have C5 := Lib.hid (fun x => echeck_any c d u x)
  have C6 := Lib.hid (fun x => recheck_any c d u x)
  obtain ⟨pt, pe, hp⟩ := M.eput_is ⟨a, b, s, c, d, u⟩
  rw [hp] at C1 C2
  obtain ⟨er, her⟩ : ∃ x, x = M.eerr a b s := ⟨_, rfl⟩
  rw [← her] at C3 C4
  obtain ⟨es, hes⟩ : ∃ x, x = M.eerr c d u := ⟨_, rfl⟩
  rw [← hes] at C5 C6
  have hs : (pt.toList == pt.toList) = true := str_eq_self _
  have h1 : (pe == pe) = true := beq_self_eq_true _
  have h2 : (er == er) = true := beq_self_eq_true _
  have h3 : (es == es) = true := beq_self_eq_true _
  clear hp her hes
  go_enter Try.func3, Try.ntmps3
  go_wp2_with fail
  refine (works17_any _).mono ?_
  rintro en w1 ⟨rfl, hb1⟩
  have H1 := Lib.hid (HX.out.below hb1 HX.out.lt)
  have HB1 := Lib.hid (HB.out.trans (hb1.mono HB.out.size))
  clear hb1 HX HB
  obtain ⟨c0, c1, c2, c3, c4, c5⟩ := B6.cells H1.out
  go_wp2_with fail
  refine (C1.out _).mono ?_
  rintro en w2 ⟨rfl, hb2⟩
  have H2 := Lib.hid (H1.out.below hb2 H1.out.lt)
  have HB2 := Lib.hid (HB1.out.trans (hb2.mono HB1.out.size))
  clear hb2 c0 c1 c2 c3 c4 c5 H1 HB1
  obtain ⟨c0, c1, c2, c3, c4, c5⟩ := B6.cells H2.out
  go_wp2_with fail
  refine (C2.out _).mono ?_
  rintro en w3 ⟨rfl, hb3⟩
  have H3 := Lib.hid (H2.out.below hb3 H2.out.lt)
  have HB3 := Lib.hid (HB2.out.trans (hb3.mono HB2.out.size))
  clear hb3 c0 c1 c2 c3 c4 c5 H2 HB2
  have HS : Hid (∀ y, Below w3.heap.size w3 y → y.cell? ⟨w.heap.size, 0, none⟩ = some (.int .i64 a) ∧ y.cell? ⟨w.heap.size, 1, none⟩ = some (.int .i64 b) ∧ y.cell? ⟨w.heap.size, 2, none⟩ = some (.int .i64 s) ∧ y.cell? ⟨w.heap.size, 3, none⟩ = some (.int .i64 c) ∧ y.cell? ⟨w.heap.size, 4, none⟩ = some (.int .i64 d) ∧ y.cell? ⟨w.heap.size, 5, none⟩ = some (.int .i64 u)) := fun y hb => (H3.out.below hb H3.out.lt).cells
  have hb0 : Below w3.heap.size w3 w3 := Below.refl _ _
  have hS0 := HS.out w3 hb0
  go_wp2_with fail
  go_region_held3 (fun y => y.cell? ⟨w.heap.size, 0, none⟩ = some (.int .i64 a) ∧ y.cell? ⟨w.heap.size, 1, none⟩ = some (.int .i64 b) ∧ y.cell? ⟨w.heap.size, 2, none⟩ = some (.int .i64 s) ∧ y.cell? ⟨w.heap.size, 3, none⟩ = some (.int .i64 c) ∧ y.cell? ⟨w.heap.size, 4, none⟩ = some (.int .i64 d) ∧ y.cell? ⟨w.heap.size, 5, none⟩ = some (.int .i64 u)) (first | assumption)
    (first
      | (go_at_call 9; with_reducible refine (Held.call HS (by first | assumption | exact Below.drew (by assumption)) (C3.out _)).mono ?_; rintro en w4 ⟨rfl, hb4, hS4⟩)
      | (go_at_call 10; with_reducible refine (Held.call HS (by first | assumption | exact Below.drew (by assumption)) (C4.out _)).mono ?_; rintro en w5 ⟨rfl, hb5, hS5⟩)
      | (go_at_call 9; with_reducible refine (Held.call HS (by first | assumption | exact Below.drew (by assumption)) (C5.out _)).mono ?_; rintro en w6 ⟨rfl, hb6, hS6⟩)
      | (go_at_call 10; with_reducible refine (Held.call HS (by first | assumption | exact Below.drew (by assumption)) (C6.out _)).mono ?_; rintro en w7 ⟨rfl, hb7, hS7⟩))
  have HB7 := Lib.hid (HB3.out.trans (hb7.mono HB3.out.size))
  clear hb0 hS0 hS4 hS5 hS6 hS7 hb4 hb5 hb6 hb7 HS
  go_wp2_with fail
  go_ret
  exact ⟨rfl, HB7.out⟩

theorem entryGets_far (t : ByteArray) (w : World) (h : 3000 < t.size) : Calls Try.prog 4 #[.string t] w fun en z => en = .returned (.bool true) ∧ Below w.heap.size w z := by
  have h1 : (3000 : Int) < (t.size : Int) := by omega
  clear h
  go_enter Try.func4, Try.ntmps4
  go_wp2_with fail
  refine (works17_any _).mono ?_
  rintro en w1 ⟨rfl, hb1⟩
  have HB1 := Lib.hid hb1
  clear hb1
  go_wp2_with fail
  go_ret
  exact ⟨rfl, HB1.out⟩
set_option maxHeartbeats 4000000 in
theorem entryGets_near (t : ByteArray) (w : World) (h : ¬ 3000 < t.size) : Calls Try.prog 4 #[.string t] w fun en z => en = .returned (.bool true) ∧ Below w.heap.size w z := by
  have h1 : ¬ (3000 : Int) < (t.size : Int) := by omega
  have C1 := Lib.hid (fun x => eget_any t x)
  have C2 := Lib.hid (fun x => reget_any t x)
  unfold M.egot at C1 C2
  obtain ⟨⟨⟨x1, x2, x3, x4, x5, x6⟩, er⟩, hx⟩ : ∃ x, x = M.eget t := ⟨_, rfl⟩
  rw [← hx] at C1 C2
  simp only at C1 C2
  have hq := fun W => eqEntries17 x1 x2 x3 x4 x5 x6 W
  have e8 : (er == er) = true := beq_self_eq_true _
  clear h hx
  go_enter Try.func4, Try.ntmps4
  go_wp2_with fail
  refine (works17_any _).mono ?_
  rintro en w1 ⟨rfl, hb1⟩
  have HB1 := Lib.hid hb1
  clear hb1
  go_wp2_with fail
  refine (C1.out _).mono ?_
  rintro en w2 ⟨rfl, hb2⟩
  have HB2 := Lib.hid (HB1.out.trans (hb2.mono HB1.out.size))
  have H2 := Lib.hid (B6.new w2 x1 x2 x3 x4 x5 x6)
  have HB2' := Lib.hid (HB2.out.trans ((nb1 w2 (Ec2 x1 x2 x3 x4 x5 x6)).mono HB2.out.size))
  clear hb2
  go_wp2_with fail
  refine (C2.out _).mono ?_
  rintro en w3 ⟨rfl, hb3⟩
  have H3 := Lib.hid (H2.out.below hb3 H2.out.lt)
  have HB3 := Lib.hid (HB2'.out.trans (hb3.mono HB2'.out.size))
  clear hb3 H2 HB2
  have H4 := Lib.hid (B6.new w3 x1 x2 x3 x4 x5 x6)
  have H3' := Lib.hid (H3.out.below (nb1 w3 (Ec2 x1 x2 x3 x4 x5 x6)) H3.out.lt)
  obtain ⟨c0, c1, c2, c3, c4, c5⟩ := B6.cells H3'.out
  obtain ⟨d0, d1, d2, d3, d4, d5⟩ := B6.cells H4.out
  have HB4 := Lib.hid (HB3.out.trans ((nb1 w3 (Ec2 x1 x2 x3 x4 x5 x6)).mono HB3.out.size))
  go_wp2_with fail
  go_ret
  exact ⟨rfl, HB4.out⟩
theorem entryGets_walk (t : ByteArray) (w : World) : Calls Try.prog 4 #[.string t] w fun en z => en = .returned (.bool true) ∧ Below w.heap.size w z := by
  by_cases h : 3000 < t.size
  · exact entryGets_far t w h
  · exact entryGets_near t w h
end Go.Proofs.Ytoljggleekbbbaa
