/-
  A walk over entry.Get. (Written by wip/gen_nget.py.)
-/
import Derived.Test.YtoljggleekbbbaaNRead
import Derived.Test.YtoljggleekbbbaaJGet
namespace Go.Proofs.Ytoljggleekbbbaa
open Go.RowKit

/-- What Get answers. -/
def M.egot (r : M.E2 × Int) : Value := .tuple #[Ev2 r.1.a r.1.b r.1.s r.1.c r.1.d r.1.u, .int .i64 r.2]
theorem E_toList : (⟨#[69]⟩ : ByteArray).toList = [69] := by rw [ByteArray.toList_eq]
theorem M.egot_size {t : ByteArray} (h : t.size ≠ 64) : M.egot (M.eget t) = .tuple #[Ev2 0 0 0 0 0 0, .int .i64 12] := by unfold M.eget; rw [if_pos h]; rfl
theorem M.egot_form {t : ByteArray} (h : t.size = 64) (h1 : t.extract 0 1 ≠ M.ef0) : M.egot (M.eget t) = .tuple #[Ev2 0 0 0 0 0 0, .int .i64 4] := by unfold M.eget; rw [if_neg (by simpa using h), if_pos h1]; rfl
theorem M.egot_sum {t : ByteArray} (h : t.size = 64) (h1 : t.extract 0 1 = M.ef0) (h2 : t.extract 31 35 ≠ M.tail (t.extract 0 31)) : M.egot (M.eget t) = .tuple #[Ev2 0 0 0 0 0 0, .int .i64 5] := by unfold M.eget; rw [if_neg (by simpa using h), if_neg (by simpa using h1), if_pos h2]; rfl
theorem M.egot_not {t : ByteArray} (h : t.size = 64) (h1 : t.extract 0 1 = M.ef0) (h2 : t.extract 31 35 = M.tail (t.extract 0 31)) (h3 : ¬ (M.emay (M.eread t) = true ∧ M.ewhole (M.eread t) = t)) : M.egot (M.eget t) = .tuple #[Ev2 0 0 0 0 0 0, .int .i64 4] := by unfold M.eget; rw [if_neg (by simpa using h), if_neg (by simpa using h1), if_neg (by simpa using h2), if_neg h3]; rfl
theorem M.egot_ok {t : ByteArray} (h : t.size = 64) (h1 : t.extract 0 1 = M.ef0) (h2 : t.extract 31 35 = M.tail (t.extract 0 31)) (h3 : M.emay (M.eread t) = true) (h4 : M.ewhole (M.eread t) = t) : M.egot (M.eget t) = .tuple #[Ev2 (M.hnum t 1 8) (M.hnum t 8 15) (M.hnum t 15 16 - 1) (M.hnum t 16 23) (M.hnum t 23 30) (M.hnum t 30 31 - 1), .int .i64 0] := by unfold M.eget; rw [if_neg (by simpa using h), if_neg (by simpa using h1), if_neg (by simpa using h2), if_pos ⟨h3, h4⟩]; rfl
/-- Two texts of the same bytes. -/
theorem eq_of_toList17 {a b : ByteArray} (h : (a.toList == b.toList) = true) : a = b := Classical.byContradiction fun e => by rw [ne_of_toList10 e] at h; cases h
theorem ne_of_not17 {a b : ByteArray} (h : (a.toList == b.toList) = false) : a ≠ b := fun e => by rw [e, str_eq_self] at h; cases h

theorem RdK.read17 {w y : World} {b : Nat} {tt : TypeId} {cs : Array Value} {t : ByteArray} (h : RdK w y b tt cs t 1) (hz : 31 ≤ t.size) :
    Calls Try.prog 25 #[.pointer (some ⟨b, 0, none⟩)] y fun en z => en = .returned (Ev2 (M.hnum t 1 8) (M.hnum t 8 15) (M.hnum t 15 16 - 1) (M.hnum t 16 23) (M.hnum t 23 30) (M.hnum t 30 31 - 1)) ∧ RdK w z b tt cs t 31 := by
  have hlt := h.lt
  refine (read17_any b t y h.rd hz).mono ?_
  rintro en z ⟨e1, e2, e3⟩
  exact ⟨e1, e2, e3.box h.box (by omega), h.below.trans (e3.below h.below.size (fun k hk e => by omega)), h.lt⟩
theorem RdK.left17 {w y : World} {b : Nat} {tt : TypeId} {cs : Array Value} {t : ByteArray} (h : RdK w y b tt cs t 31) (hz : t.size = 64) :
    Calls Try.prog 26 #[.pointer (some ⟨b, 0, none⟩)] y fun e y' => e = .returned (.int .i64 33) ∧ y = y' := by
  have h' := leftF b t ⟨31, 0⟩ y h.rd (by show 31 ≤ t.size; omega)
  have e : M.left t ⟨31, 0⟩ = 33 := by show (t.size : Int) - ((31 : Nat) : Int) = _; omega
  rw [e] at h'
  exact h'
theorem RdK.bytes17 {w y : World} {b k : Nat} {tt : TypeId} {cs : Array Value} {t : ByteArray} (h : RdK w y b tt cs t k) (z : Nat) (hz : k + z ≤ t.size) {hb : Nat} {a bb s c d u : Int} (h2 : B6 y hb a bb s c d u) (hne : b < hb) :
    Calls Try.prog 24 #[.pointer (some ⟨b, 0, none⟩), .int .i64 (z : Nat)] y fun e' y' => e' = .returned (.string (t.extract k (k + z))) ∧ RdK w y' b tt cs t (k + z) ∧ B6 y' hb a bb s c d u := h.bytes2 z hz h2 hne

set_option maxHeartbeats 8000000 in
theorem eget_any (t : ByteArray) (w : World) :
    Calls Try.prog 11 #[.string t] w fun e w' => e = .returned (M.egot (M.eget t)) ∧ Below w.heap.size w w' := by
  by_cases h : t.size = 64
  case neg =>
    have HN := Lib.hid (M.egot_size h)
    obtain ⟨R, hR⟩ : ∃ R, R = M.egot (M.eget t) := ⟨_, rfl⟩
    rw [← hR] at HN ⊢
    have hd : ((t.size : Int) == 64) = false := by rw [beq_eq_false_iff_ne]; omega
    have hd' : ((t.size : Int) != 64) = true := by rw [bne, hd]; rfl
    clear h hR
    go_enter Try.func11, Try.ntmps11
    go_wp2_with fail
    exact bodyPost_ret (v := .tuple #[.agg #[.int .i64 0, .int .i64 0, .int .i64 0, .int .i64 0, .int .i64 0, .int .i64 0], .int .i64 12]) (by simp [results, Try.results11, go_sem, *]) rfl ⟨(congrArg Ending.returned HN.out).symm, (by first | exact nb1 _ _ | ((repeat refine Below.setCell ?_ (by simp) _); exact nb1 _ _))⟩
  have hd : ((t.size : Int) == 64) = true := by rw [beq_iff_eq]; omega
  have hd' : ((t.size : Int) != 64) = false := by rw [bne, hd]; rfl
  have HC0 : Hid (∀ (b : Nat) (y : World), RdK w y b 26 #[.int .i64 0, .int .i64 0, .int .i64 0, .int .i64 0, .int .i64 0, .int .i64 0] t 0 → Calls Try.prog 24 #[.pointer (some ⟨b, 0, none⟩), .int .i64 1] y fun e y' => e = .returned (.string (t.extract 0 1)) ∧ RdK w y' b 26 #[.int .i64 0, .int .i64 0, .int .i64 0, .int .i64 0, .int .i64 0, .int .i64 0] t 1) := fun b y hR => hR.bytes 1 (by omega)
  have HC1 : Hid (∀ (b : Nat) (y : World), RdK w y b 26 #[.int .i64 0, .int .i64 0, .int .i64 0, .int .i64 0, .int .i64 0, .int .i64 0] t 1 → Calls Try.prog 25 #[.pointer (some ⟨b, 0, none⟩)] y fun e y' => e = .returned (Ev2 (M.hnum t 1 8) (M.hnum t 8 15) (M.hnum t 15 16 - 1) (M.hnum t 16 23) (M.hnum t 23 30) (M.hnum t 30 31 - 1)) ∧ RdK w y' b 26 #[.int .i64 0, .int .i64 0, .int .i64 0, .int .i64 0, .int .i64 0, .int .i64 0] t 31) := fun b y hR => hR.read17 (by omega)
  have HC2 : Hid (∀ (b : Nat) (y : World), RdK w y b 26 #[.int .i64 0, .int .i64 0, .int .i64 0, .int .i64 0, .int .i64 0, .int .i64 0] t 31 → Calls Try.prog 26 #[.pointer (some ⟨b, 0, none⟩)] y fun e y' => e = .returned (.int .i64 33) ∧ y = y') := fun b y hR => hR.left17 h
  have HC4 : Hid (∀ (b hb : Nat) (y : World) (a bb s c d u : Int), RdK w y b 26 #[.int .i64 0, .int .i64 0, .int .i64 0, .int .i64 0, .int .i64 0, .int .i64 0] t 31 → B6 y hb a bb s c d u → b < hb → Calls Try.prog 24 #[.pointer (some ⟨b, 0, none⟩), .int .i64 4] y fun e y' => e = .returned (.string (t.extract 31 35)) ∧ RdK w y' b 26 #[.int .i64 0, .int .i64 0, .int .i64 0, .int .i64 0, .int .i64 0, .int .i64 0] t 35 ∧ B6 y' hb a bb s c d u) := fun b hb y a bb s c d u hR hX hl => hR.bytes17 4 (by omega) hX hl
  have HC5 := Lib.hid (fun x => tail10 (t.extract 0 31) x (by rw [ByteArray.size_extract]; omega))
  have HP := Lib.hid (fun x => eput_any (M.hnum t 1 8) (M.hnum t 8 15) (M.hnum t 15 16 - 1) (M.hnum t 16 23) (M.hnum t 23 30) (M.hnum t 30 31 - 1) x)
  have N1 : Hid (((t.extract 0 1).toList == [69]) = false → M.egot (M.eget t) = .tuple #[Ev2 0 0 0 0 0 0, .int .i64 4]) := fun e => M.egot_form h (ne_of_not17 (b := ⟨#[69]⟩) (by rw [E_toList]; exact e))
  have N2 : Hid (((t.extract 0 1).toList == [69]) = true → ((t.extract 31 35).toList == (M.tail (t.extract 0 31)).toList) = false → M.egot (M.eget t) = .tuple #[Ev2 0 0 0 0 0 0, .int .i64 5]) := fun e e2 => M.egot_sum h (eq_of_toList17 (b := ⟨#[69]⟩) (by rw [E_toList]; exact e)) (ne_of_not17 e2)
  have N3 : Hid (((t.extract 0 1).toList == [69]) = true → ((t.extract 31 35).toList == (M.tail (t.extract 0 31)).toList) = true → M.emay (M.eread t) = false → M.egot (M.eget t) = .tuple #[Ev2 0 0 0 0 0 0, .int .i64 4]) := fun e e2 e3 => M.egot_not h (eq_of_toList17 (b := ⟨#[69]⟩) (by rw [E_toList]; exact e)) (eq_of_toList17 e2) (fun q => by rw [e3] at q; exact absurd q.1 (by decide))
  have N4 : Hid (((t.extract 0 1).toList == [69]) = true → ((t.extract 31 35).toList == (M.tail (t.extract 0 31)).toList) = true → ((M.ewhole (M.eread t)).toList == t.toList) = false → M.egot (M.eget t) = .tuple #[Ev2 0 0 0 0 0 0, .int .i64 4]) := fun e e2 e3 => M.egot_not h (eq_of_toList17 (b := ⟨#[69]⟩) (by rw [E_toList]; exact e)) (eq_of_toList17 e2) (fun q => ne_of_not17 e3 q.2)
  have N5 : Hid (((t.extract 0 1).toList == [69]) = true → ((t.extract 31 35).toList == (M.tail (t.extract 0 31)).toList) = true → M.emay (M.eread t) = true → ((M.ewhole (M.eread t)).toList == t.toList) = true → M.egot (M.eget t) = .tuple #[Ev2 (M.hnum t 1 8) (M.hnum t 8 15) (M.hnum t 15 16 - 1) (M.hnum t 16 23) (M.hnum t 23 30) (M.hnum t 30 31 - 1), .int .i64 0]) := fun e e2 e3 e4 => M.egot_ok h (eq_of_toList17 (b := ⟨#[69]⟩) (by rw [E_toList]; exact e)) (eq_of_toList17 e2) e3 (eq_of_toList17 e4)
  have Q0 : Hid (M.emay (M.eread t) = false → M.eput ⟨M.hnum t 1 8, M.hnum t 8 15, M.hnum t 15 16 - 1, M.hnum t 16 23, M.hnum t 23 30, M.hnum t 30 31 - 1⟩ = .tuple #[.string ⟨#[]⟩, .int .i64 3]) := fun e => M.eput_no (by show ¬ M.emay (M.eread t) = true; rw [e]; decide)
  have Q1 : Hid (M.emay (M.eread t) = true → M.eput ⟨M.hnum t 1 8, M.hnum t 8 15, M.hnum t 15 16 - 1, M.hnum t 16 23, M.hnum t 23 30, M.hnum t 30 31 - 1⟩ = .tuple #[.string (M.ewhole (M.eread t)), .int .i64 0]) := fun e => M.eput_ok e
  obtain ⟨R, hR⟩ : ∃ R, R = M.egot (M.eget t) := ⟨_, rfl⟩
  rw [← hR] at N1 N2 N3 N4 N5 ⊢
  obtain ⟨p, hp⟩ : ∃ p, p = M.eput ⟨M.hnum t 1 8, M.hnum t 8 15, M.hnum t 15 16 - 1, M.hnum t 16 23, M.hnum t 23 30, M.hnum t 30 31 - 1⟩ := ⟨_, rfl⟩
  rw [← hp] at HP Q0 Q1
  obtain ⟨wh, hwh⟩ : ∃ p, p = M.ewhole (M.eread t) := ⟨_, rfl⟩
  rw [← hwh] at N4 N5 Q1
  obtain ⟨pm, hpm⟩ : ∃ p, p = M.emay (M.eread t) := ⟨_, rfl⟩
  rw [← hpm] at N3 N5 Q0 Q1
  obtain ⟨xo, hxo⟩ : ∃ x, x = t.extract 0 1 := ⟨_, rfl⟩
  rw [← hxo] at HC0 N1 N2 N3 N4 N5
  obtain ⟨uu, huu⟩ : ∃ x, x = t.extract 31 35 := ⟨_, rfl⟩
  rw [← huu] at HC4 N2 N3 N4 N5
  obtain ⟨tl, htl⟩ : ∃ x, x = M.tail (t.extract 0 31) := ⟨_, rfl⟩
  rw [← htl] at HC5 N2 N3 N4 N5
  obtain ⟨x1, hx1⟩ : ∃ x, x = M.hnum t 1 8 := ⟨_, rfl⟩
  obtain ⟨x2, hx2⟩ : ∃ x, x = M.hnum t 8 15 := ⟨_, rfl⟩
  obtain ⟨x3, hx3⟩ : ∃ x, x = M.hnum t 15 16 - 1 := ⟨_, rfl⟩
  obtain ⟨x4, hx4⟩ : ∃ x, x = M.hnum t 16 23 := ⟨_, rfl⟩
  obtain ⟨x5, hx5⟩ : ∃ x, x = M.hnum t 23 30 := ⟨_, rfl⟩
  obtain ⟨x6, hx6⟩ : ∃ x, x = M.hnum t 30 31 - 1 := ⟨_, rfl⟩
  rw [← hx1, ← hx2, ← hx3, ← hx4, ← hx5, ← hx6] at HC1 HP N5
  have hle : (31 : Int) ≤ (t.size : Int) := by omega
  have hwr : IntKind.i64.wrap ((t.size : Int) - 33) = 31 := by rw [h]; decide
  clear hR hp hwh hpm hxo huu htl hx1 hx2 hx3 hx4 hx5 hx6 h
  go_enter Try.func11, Try.ntmps11
  go_wp2_with fail
  refine (newK t w 26 #[.int .i64 0, .int .i64 0, .int .i64 0, .int .i64 0, .int .i64 0, .int .i64 0]).mono ?_
  rintro e w1 ⟨b, rfl, h1⟩
  have H1 := Lib.hid h1
  clear h1
  go_wp2_with fail
  refine (HC0.out _ _ H1.out).mono ?_
  rintro e w2 ⟨rfl, h2⟩
  have H2 := Lib.hid h2
  clear h2 H1
  cases k1 : (xo.toList == [69])
  · have HN := Lib.hid (N1.out k1)
    obtain ⟨c0, c1, c2, c3, c4, c5⟩ := B6.cells H2.out.box
    obtain ⟨f0, f1, f2, f3, f4, f5⟩ := B6.frozen H2.out.box
    go_wp2_with fail
    exact bodyPost_ret (v := .tuple #[.agg #[.int .i64 0, .int .i64 0, .int .i64 0, .int .i64 0, .int .i64 0, .int .i64 0], .int .i64 4]) (by simp [results, Try.results11, go_sem, *]) rfl ⟨(congrArg Ending.returned HN.out).symm, by (repeat refine Below.setCell ?_ (by simp) _); exact H2.out.below⟩
  go_wp2_with fail
  refine (HC1.out _ _ H2.out).mono ?_
  rintro e w3 ⟨rfl, h3⟩
  have H3 := Lib.hid h3
  clear h3 H2
  have H4 := Lib.hid (H3.out.alloc (Ec2 x1 x2 x3 x4 x5 x6))
  have HX4 := Lib.hid (B6.new w3 x1 x2 x3 x4 x5 x6)
  have HN4 : Hid (b < w3.heap.size) := Box.lt H3.out.rd
  go_wp2_with fail
  refine (HC2.out _ _ H4.out).mono ?_
  rintro e w4 ⟨rfl, rfl⟩
  obtain ⟨w4, hw4⟩ : ∃ x, x = w3.alloc (Ec2 x1 x2 x3 x4 x5 x6) := ⟨_, rfl⟩
  rw [← hw4] at H4 HX4 ⊢
  clear hw4
  obtain ⟨hb, hhb⟩ : ∃ x, x = w3.heap.size := ⟨_, rfl⟩
  rw [← hhb] at HX4 HN4 ⊢
  clear hhb
  go_wp2_with fail
  refine (HC4.out b hb w4 _ _ _ _ _ _ H4.out HX4.out HN4.out).mono ?_
  rintro e w5 ⟨rfl, h5, hx5⟩
  have H5 := Lib.hid h5
  have HX5 := Lib.hid hx5
  clear h5 hx5 H4 HX4
  go_wp2_with fail
  refine (HC5.out _).mono ?_
  rintro e w6 ⟨rfl, h6⟩
  have H6 := Lib.hid (H5.out.keep h6)
  have HX6 := Lib.hid (B6.below HX5.out h6 (B6.lt HX5.out))
  clear h6 H5 HX5
  cases k2 : (uu.toList == tl.toList)
  · have HN := Lib.hid (N2.out k1 k2)
    obtain ⟨c0, c1, c2, c3, c4, c5⟩ := B6.cells H6.out.box
    obtain ⟨f0, f1, f2, f3, f4, f5⟩ := B6.frozen H6.out.box
    go_wp2_with fail
    exact bodyPost_ret (v := .tuple #[.agg #[.int .i64 0, .int .i64 0, .int .i64 0, .int .i64 0, .int .i64 0, .int .i64 0], .int .i64 5]) (by simp [results, Try.results11, go_sem, *]) rfl ⟨(congrArg Ending.returned HN.out).symm, by (repeat refine Below.setCell ?_ (by simp) _); exact H6.out.below⟩
  obtain ⟨d0, d1, d2, d3, d4, d5⟩ := B6.cells HX6.out
  go_wp2_with fail
  have hne1 : (hb == w.heap.size) = false := by rw [beq_eq_false_iff_ne]; have := HN4.out; have := H6.out.lt; omega
  cases k3 : pm
  · rw [Q0.out k3] at HP
    have HN := Lib.hid (N3.out k1 k2 k3)
    refine (HP.out _).mono ?_
    rintro e w7 ⟨rfl, h7⟩
    have H7 := Lib.hid (H6.out.keep h7)
    clear h7 H6 HX6 d0 d1 d2 d3 d4 d5
    obtain ⟨c0, c1, c2, c3, c4, c5⟩ := B6.cells H7.out.box
    obtain ⟨f0, f1, f2, f3, f4, f5⟩ := B6.frozen H7.out.box
    go_wp2_with fail
    exact bodyPost_ret (v := .tuple #[.agg #[.int .i64 0, .int .i64 0, .int .i64 0, .int .i64 0, .int .i64 0, .int .i64 0], .int .i64 4]) (by simp [results, Try.results11, go_sem, *]) rfl ⟨(congrArg Ending.returned HN.out).symm, by (repeat refine Below.setCell ?_ (by simp) _); exact H7.out.below⟩
  rw [Q1.out k3] at HP
  refine (HP.out _).mono ?_
  rintro e w7 ⟨rfl, h7⟩
  have HX7 := Lib.hid (B6.below HX6.out h7 (B6.lt HX6.out))
  have H7 := Lib.hid (H6.out.keep h7)
  clear h7 H6 HX6 d0 d1 d2 d3 d4 d5
  obtain ⟨d0, d1, d2, d3, d4, d5⟩ := B6.cells HX7.out
  obtain ⟨c0, c1, c2, c3, c4, c5⟩ := B6.cells H7.out.box
  obtain ⟨f0, f1, f2, f3, f4, f5⟩ := B6.frozen H7.out.box
  cases k4 : (wh.toList == t.toList)
  · have HN := Lib.hid (N4.out k1 k2 k4)
    go_wp2_with fail
    exact bodyPost_ret (v := .tuple #[.agg #[.int .i64 0, .int .i64 0, .int .i64 0, .int .i64 0, .int .i64 0, .int .i64 0], .int .i64 4]) (by simp [results, Try.results11, go_sem, *]) rfl ⟨(congrArg Ending.returned HN.out).symm, by (repeat refine Below.setCell ?_ (by simp) _); exact H7.out.below⟩
  · have HN := Lib.hid (N5.out k1 k2 k3 k4)
    go_wp2_with fail
    exact bodyPost_ret (v := .tuple #[Ev2 x1 x2 x3 x4 x5 x6, .int .i64 0]) (by simp [results, Try.results11, go_sem, *]) rfl ⟨(congrArg Ending.returned HN.out).symm, by (repeat refine Below.setCell ?_ (by simp) _); exact H7.out.below⟩
end Go.Proofs.Ytoljggleekbbbaa
