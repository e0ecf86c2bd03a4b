/-
  A walk over solderref17.Get. (Written by wip/gen_nrget.py.)
-/
import Derived.Test.YtoljggleekbbbaaNGet
import Derived.Test.YtoljggleekbbbaaJRGet
import Derived.Test.YtoljggleekbbbaaHnum
import Derived.Deep.CutBlock
namespace Go.Proofs.Ytoljggleekbbbaa
open Go.RowKit

theorem number17_any (s : ByteArray) (hs : s.size ≤ 7) (w : World) :
    Calls Try.prog 27 #[.string s] w fun e w' => e = .returned (.int .i64 (M.num s.data.toList : Nat)) ∧ w' = w := by
  go_enter Try.func27, Try.ntmps27
  go_wp2_with fail
  go_loop [3, 4] (fun v j => ∃ k : Nat, k ≤ s.size ∧ j = .int .i64 k ∧ v = .int .i64 (M.num (s.data.toList.take k) : Nat)) (fun _ j => s.size - (intOf j).toNat)
  case atStart => exact ⟨0, Nat.zero_le _, rfl, rfl⟩
  case round =>
    obtain ⟨k, hk, rfl, rfl⟩ := hrel
    by_cases hlt : k < s.size
    · have hq := num_take_lt s k (by omega) hk
      have HT : Hid (M.num (s.data.toList.take (k + 1)) = 256 * M.num (s.data.toList.take k) + (s[k]'hlt).toNat) := take_at s k hlt
      obtain ⟨c, hc⟩ : ∃ c, c = s[k]'hlt := ⟨_, rfl⟩
      rw [← hc] at HT
      have x0 : ∀ h : k < s.size, s[k]'h = c := fun _ => hc.symm
      have hcb := c.toNat_lt
      obtain ⟨q, hq'⟩ : ∃ q, q = M.num (s.data.toList.take k) := ⟨_, rfl⟩
      rw [← hq'] at hq HT
      rw [← hq']
      clear hq' hc
      go_wp2_with fail
      go_round
      case rel => exact ⟨k + 1, by omega, by go_num, by rw [HT.out]; go_num⟩
      case measure => simp [intOf]; omega
    · have e : s.data.toList.take k = s.data.toList := List.take_of_length_le (by rw [Array.length_toList]; exact Nat.not_lt.mp hlt)
      rw [e]
      obtain ⟨q, hq'⟩ : ∃ q, q = M.num s.data.toList := ⟨_, rfl⟩
      rw [← hq']
      have HQ := Lib.hid hq'
      clear hq' e
      go_wp2_with fail
      go_ret
      refine ⟨?_, rfl⟩
      rw [← HQ.out]
      rfl

/-- What a slice of a sector says of an entry. -/
theorem M.slice17 (t : ByteArray) (i : Nat) (h : i + 15 ≤ t.size) : ∃ (T : ByteArray) (k : UInt8), T = t.extract i (i + 15) ∧ T.size = 15 ∧ (T.extract 0 7).size ≤ 7 ∧ (T.extract 7 14).size ≤ 7 ∧
    ((M.num (T.extract 0 7).data.toList : Nat) : Int) = M.hnum t i (i + 7) ∧ ((M.num (T.extract 7 14).data.toList : Nat) : Int) = M.hnum t (i + 7) (i + 14) ∧ (∀ h' : 14 < T.size, T[14]'h' = k) ∧ (k.toNat : Int) = M.hnum t (i + 14) (i + 15) := by
  have hs : (t.extract i (i + 15)).size = 15 := by rw [ByteArray.size_extract]; omega
  have e1 : (t.extract i (i + 15)).extract 0 7 = t.extract i (i + 7) := by rw [ByteArray.extract_extract, Nat.add_zero, Nat.min_eq_left (by omega)]
  have e2 : (t.extract i (i + 15)).extract 7 14 = t.extract (i + 7) (i + 14) := by rw [ByteArray.extract_extract, Nat.min_eq_left (by omega)]
  have e3 : (t.extract i (i + 15)).extract 14 15 = t.extract (i + 14) (i + 15) := by rw [ByteArray.extract_extract, Nat.min_eq_left (by omega)]
  have e4 := M.hnum_at (t.extract i (i + 15)) 14 (by omega)
  rw [M.hnum, e3] at e4
  exact ⟨t.extract i (i + 15), _, rfl, hs, by rw [ByteArray.size_extract]; omega, by rw [ByteArray.size_extract]; omega, by rw [e1]; rfl, by rw [e2]; rfl, fun _ => rfl, e4.symm⟩
theorem below_set6 {w y : World} {g : Nat} (h : Below w.heap.size w y) (hg : w.heap.size ≤ g) (a b c d e f : Value) :
    Below w.heap.size w ((((((y.setCell ⟨g, 0, none⟩ a).setCell ⟨g, 1, none⟩ b).setCell ⟨g, 2, none⟩ c).setCell ⟨g, 3, none⟩ d).setCell ⟨g, 4, none⟩ e).setCell ⟨g, 5, none⟩ f) :=
  (((((h.setCell (by exact hg) a).setCell (by exact hg) b).setCell (by exact hg) c).setCell (by exact hg) d).setCell (by exact hg) e).setCell (by exact hg) f

/-- In y, a later world than w, there are the box of the call's result and, behind it, that of the entries that were read. -/
structure Rg17 (w y : World) (g0 g1 : Nat) (a b s c d u : Int) : Prop where
  b0 : B6 y g0 0 0 0 0 0 0
  b1 : B6 y g1 a b s c d u
  below : Below w.heap.size w y
  le : w.heap.size ≤ g0
  lt : g0 < g1
section
variable {w y z : World} {g0 g1 : Nat} {a b s c d u : Int}
theorem Rg17.keep (h : Rg17 w y g0 g1 a b s c d u) (hb : Below y.heap.size y z) : Rg17 w z g0 g1 a b s c d u :=
  ⟨h.b0.below hb h.b0.lt, h.b1.below hb h.b1.lt, h.below.trans (hb.mono h.below.size), h.le, h.lt⟩
theorem Rg17.set (h : Rg17 w y g0 g1 a b s c d u) (i : Nat) (x : Value) {a' b' s' c' d' u' : Int}
    (hc : (#[.int .i64 a, .int .i64 b, .int .i64 s, .int .i64 c, .int .i64 d, .int .i64 u] : Array Value).setIfInBounds i x = #[.int .i64 a', .int .i64 b', .int .i64 s', .int .i64 c', .int .i64 d', .int .i64 u']) :
    Rg17 w (y.setCell ⟨g1, i, none⟩ x) g0 g1 a' b' s' c' d' u' := by
  have hlt := h.lt
  have hle := h.le
  have hg := grown_set y g1 i x
  refine ⟨Box.kept h.b0 hg (by omega), ?_, h.below.setCell (by show w.heap.size ≤ g1; omega) _, h.le, h.lt⟩
  have := Box.set h.b1 i x
  rw [hc] at this
  exact this
theorem Rg17.drew (h : Rg17 w y g0 g1 a b s c d u) : Rg17 w y.drew g0 g1 a b s c d u := h.keep (Below.refl _ _).drew
end

set_option maxRecDepth 4000 in
set_option maxHeartbeats 8000000 in
theorem reget_any (t : ByteArray) (w : World) :
    Calls Try.prog 12 #[.string t] w fun e w' => e = .returned (M.egot (M.eget t)) ∧ Below w.heap.size w w' := by
  have HB0 := Lib.hid (nb2 w (Ec2 0 0 0 0 0 0) (Ec2 0 0 0 0 0 0))
  by_cases h : t.size = 64
  case neg =>
    have HN := Lib.hid (M.egot_size h)
    obtain ⟨R, hR⟩ : ∃ R, R = M.egot (M.eget t) := ⟨_, rfl⟩
    rw [← hR] at HN ⊢
    have hd : ((t.size : Int) == 64) = false := by rw [beq_eq_false_iff_ne]; omega
    have hd' : ((t.size : Int) != 64) = true := by rw [bne, hd]; rfl
    clear h hR
    go_enter Try.func12, Try.ntmps12
    go_wp2_with (exact bodyPost_ret (v := .tuple #[.agg #[.int .i64 0, .int .i64 0, .int .i64 0, .int .i64 0, .int .i64 0, .int .i64 0], .int .i64 12]) (by simp [results, Try.results12, go_sem, *]) rfl ⟨(congrArg Ending.returned HN.out).symm, (by first | exact HB0.out | ((repeat refine Below.setCell ?_ (by simp) _); exact HB0.out))⟩)
  have hd : ((t.size : Int) == 64) = true := by rw [beq_iff_eq]; omega
  have hd' : ((t.size : Int) != 64) = false := by rw [bne, hd]; rfl
  have hlt : 0 < t.size := by omega
  have hex := M.ex_one_eq t hlt 69
  obtain ⟨cc, hc⟩ : ∃ c, c = t[0]'hlt := ⟨_, rfl⟩
  have x0 : ∀ h : 0 < t.size, t[0]'h = cc := fun _ => hc.symm
  have he : ((cc.toNat : Int) == 69) = decide (cc = 69) := u8_eq cc 69 (by decide)
  rw [← hc] at hex
  have N1 : Hid (((cc.toNat : Int) == 69) = false → M.egot (M.eget t) = .tuple #[Ev2 0 0 0 0 0 0, .int .i64 4]) := fun e => M.egot_form h (fun q => by rw [he, decide_eq_true (hex.1 q)] at e; cases e)
  have K1 : ((cc.toNat : Int) == 69) = true → t.extract 0 1 = M.ef0 := fun e => hex.2 (by rw [he, decide_eq_true_eq] at e; exact e)
  have N2 : Hid (((cc.toNat : Int) == 69) = true → ((t.extract 31 35).toList == (M.tail (t.extract 0 31)).toList) = false → M.egot (M.eget t) = .tuple #[Ev2 0 0 0 0 0 0, .int .i64 5]) := fun e e2 => M.egot_sum h (K1 e) (ne_of_not17 e2)
  have N3 : Hid (((cc.toNat : Int) == 69) = true → ((t.extract 31 35).toList == (M.tail (t.extract 0 31)).toList) = true → M.emay (M.eread t) = false → M.egot (M.eget t) = .tuple #[Ev2 0 0 0 0 0 0, .int .i64 4]) := fun e e2 e3 => M.egot_not h (K1 e) (eq_of_toList17 e2) (fun q => by rw [e3] at q; exact absurd q.1 (by decide))
  have N4 : Hid (((cc.toNat : Int) == 69) = true → ((t.extract 31 35).toList == (M.tail (t.extract 0 31)).toList) = true → ((M.ewhole (M.eread t)).toList == t.toList) = false → M.egot (M.eget t) = .tuple #[Ev2 0 0 0 0 0 0, .int .i64 4]) := fun e e2 e3 => M.egot_not h (K1 e) (eq_of_toList17 e2) (fun q => ne_of_not17 e3 q.2)
  have N5 : Hid (((cc.toNat : Int) == 69) = true → ((t.extract 31 35).toList == (M.tail (t.extract 0 31)).toList) = true → M.emay (M.eread t) = true → ((M.ewhole (M.eread t)).toList == t.toList) = true → M.egot (M.eget t) = .tuple #[Ev2 (M.hnum t 1 8) (M.hnum t 8 15) (M.hnum t 15 16 - 1) (M.hnum t 16 23) (M.hnum t 23 30) (M.hnum t 30 31 - 1), .int .i64 0]) := fun e e2 e3 e4 => M.egot_ok h (K1 e) (eq_of_toList17 e2) e3 (eq_of_toList17 e4)
  have Q0 : Hid (M.emay (M.eread t) = false → M.eput ⟨M.hnum t 1 8, M.hnum t 8 15, M.hnum t 15 16 - 1, M.hnum t 16 23, M.hnum t 23 30, M.hnum t 30 31 - 1⟩ = .tuple #[.string ⟨#[]⟩, .int .i64 3]) := fun e => M.eput_no (by show ¬ M.emay (M.eread t) = true; rw [e]; decide)
  have Q1 : Hid (M.emay (M.eread t) = true → M.eput ⟨M.hnum t 1 8, M.hnum t 8 15, M.hnum t 15 16 - 1, M.hnum t 16 23, M.hnum t 23 30, M.hnum t 30 31 - 1⟩ = .tuple #[.string (M.ewhole (M.eread t)), .int .i64 0]) := fun e => M.eput_ok e
  have HP := Lib.hid (fun x => reput_any (M.hnum t 1 8) (M.hnum t 8 15) (M.hnum t 15 16 - 1) (M.hnum t 16 23) (M.hnum t 23 30) (M.hnum t 30 31 - 1) x)
  have HC5 := Lib.hid (fun x => rtail10 (t.extract 0 31) x (by rw [ByteArray.size_extract]; omega))
  obtain ⟨T0, k3, hT0, z1, z2, z3, p1, p2, y3, p3⟩ := M.slice17 t 1 (by omega)
  obtain ⟨T1, k6, hT1, z4, z5, z6, p4, p5, y6, p6⟩ := M.slice17 t 16 (by omega)
  simp only [Nat.reduceAdd] at hT0 hT1 p1 p2 p3 p4 p5 p6
  have q3 := k3.toNat_lt
  have q6 := k6.toNat_lt
  have D1 := Lib.hid (fun x => number17_any (T0.extract 0 7) z2 x)
  have D2 := Lib.hid (fun x => number17_any (T0.extract 7 14) z3 x)
  have D4 := Lib.hid (fun x => number17_any (T1.extract 0 7) z5 x)
  have D5 := Lib.hid (fun x => number17_any (T1.extract 7 14) z6 x)
  rw [p1] at D1
  rw [p2] at D2
  rw [p4] at D4
  rw [p5] at D5
  have i14 : 14 < T0.size := by omega
  have j14 : 14 < T1.size := by omega
  have v3 : IntKind.i64.wrap (k3.toNat : Int) = (k3.toNat : Int) := by rw [IntKind.wrap_i64]; omega
  have v6 : IntKind.i64.wrap (k6.toNat : Int) = (k6.toNat : Int) := by rw [IntKind.wrap_i64]; omega
  have ku3 : IntKind.i64.wrap ((k3.toNat : Int) - 1) = M.hnum t 15 16 - 1 := by rw [IntKind.wrap_i64]; omega
  have ku6 : IntKind.i64.wrap ((k6.toNat : Int) - 1) = M.hnum t 30 31 - 1 := by rw [IntKind.wrap_i64]; omega
  have HT0 := Lib.hid hT0
  have HT1 := Lib.hid hT1
  obtain ⟨R, hR⟩ : ∃ R, R = M.egot (M.eget t) := ⟨_, rfl⟩
  rw [← hR] at N1 N2 N3 N4 N5 ⊢
  obtain ⟨p, hp⟩ : ∃ p, p = M.eput ⟨M.hnum t 1 8, M.hnum t 8 15, M.hnum t 15 16 - 1, M.hnum t 16 23, M.hnum t 23 30, M.hnum t 30 31 - 1⟩ := ⟨_, rfl⟩
  rw [← hp] at HP Q0 Q1
  obtain ⟨wh, hwh⟩ : ∃ p, p = M.ewhole (M.eread t) := ⟨_, rfl⟩
  rw [← hwh] at N4 N5 Q1
  obtain ⟨pm, hpm⟩ : ∃ p, p = M.emay (M.eread t) := ⟨_, rfl⟩
  rw [← hpm] at N3 N5 Q0 Q1
  obtain ⟨uu, huu⟩ : ∃ x, x = t.extract 31 35 := ⟨_, rfl⟩
  rw [← huu] at N2 N3 N4 N5
  have HU := Lib.hid huu
  obtain ⟨tl, htl⟩ : ∃ x, x = M.tail (t.extract 0 31) := ⟨_, rfl⟩
  rw [← htl] at HC5 N2 N3 N4 N5
  obtain ⟨x1, hx1⟩ : ∃ x, x = M.hnum t 1 8 := ⟨_, rfl⟩
  obtain ⟨x2, hx2⟩ : ∃ x, x = M.hnum t 8 15 := ⟨_, rfl⟩
  obtain ⟨x3, hx3⟩ : ∃ x, x = M.hnum t 15 16 - 1 := ⟨_, rfl⟩
  obtain ⟨x4, hx4⟩ : ∃ x, x = M.hnum t 16 23 := ⟨_, rfl⟩
  obtain ⟨x5, hx5⟩ : ∃ x, x = M.hnum t 23 30 := ⟨_, rfl⟩
  obtain ⟨x6, hx6⟩ : ∃ x, x = M.hnum t 30 31 - 1 := ⟨_, rfl⟩
  rw [← hx1] at D1 HP N5
  rw [← hx2] at D2 HP N5
  rw [← hx3] at ku3 HP N5
  rw [← hx4] at D4 HP N5
  rw [← hx5] at D5 HP N5
  rw [← hx6] at ku6 HP N5
  have hle : (31 : Int) ≤ (t.size : Int) := by omega
  have hle2 : (35 : Int) ≤ (t.size : Int) := by omega
  have l0 : (7 : Int) ≤ (T0.size : Int) := by omega
  have l1 : (14 : Int) ≤ (T0.size : Int) := by omega
  have l2 : (14 : Int) < (T0.size : Int) := by omega
  have m0 : (7 : Int) ≤ (T1.size : Int) := by omega
  have m1 : (14 : Int) ≤ (T1.size : Int) := by omega
  have m2 : (14 : Int) < (T1.size : Int) := by omega
  have hle3 : (16 : Int) ≤ (t.size : Int) := by omega
  have H0 : Hid (Rg17 w ((w.alloc (Ec2 0 0 0 0 0 0)).alloc (Ec2 0 0 0 0 0 0)) w.heap.size (w.heap.size + 1) 0 0 0 0 0 0) := by
    refine ⟨(B6.new w 0 0 0 0 0 0).below (nb1 _ _) (by simp), ?_, HB0.out, Nat.le_refl _, Nat.lt_succ_self _⟩
    have := B6.new (w.alloc (Ec2 0 0 0 0 0 0)) 0 0 0 0 0 0
    rw [World.size_alloc] at this
    exact this
  clear hR hp hwh hpm huu htl hx1 hx2 hx3 hx4 hx5 hx6 h z1 z2 z3 z4 z5 z6 p1 p2 p3 p4 p5 p6 q3 q6 hT0 hT1 HB0 hex hc K1 he
  cases k1 : ((cc.toNat : Int) == 69)
  · have HN := Lib.hid (N1.out k1)
    have k1' : ((cc.toNat : Int) != 69) = true := by rw [bne, k1]; rfl
    go_enter Try.func12, Try.ntmps12
    go_wp2_with (exact bodyPost_ret (v := .tuple #[.agg #[.int .i64 0, .int .i64 0, .int .i64 0, .int .i64 0, .int .i64 0, .int .i64 0], .int .i64 4]) (by simp [results, Try.results12, go_sem, *]) rfl ⟨(congrArg Ending.returned HN.out).symm, (by first | exact H0.out.below | ((repeat refine Below.setCell ?_ (by simp) _); exact H0.out.below))⟩)
  have k1' : ((cc.toNat : Int) != 69) = false := by rw [bne, k1]; rfl
  go_enter Try.func12, Try.ntmps12
  go_wp2_with fail
  obtain ⟨v0, hv0⟩ : ∃ x, x = (w.alloc (Ec2 0 0 0 0 0 0)).alloc (Ec2 0 0 0 0 0 0) := ⟨_, rfl⟩
  rw [← hv0] at H0 ⊢
  clear hv0
  obtain ⟨g0, hg0⟩ : ∃ x, x = w.heap.size := ⟨_, rfl⟩
  obtain ⟨g1, hg1⟩ : ∃ x, x = w.heap.size + 1 := ⟨_, rfl⟩
  rw [← hg1, ← hg0] at H0 ⊢
  clear hg0 hg1
  go_region_held3 (fun _ => True) (first | trivial)
    (first
      | (go_at_call 20; refine (HC5.out _).mono ?_; rintro e w2 ⟨rfl, h2⟩; have H2 : Hid (Rg17 w w2 g0 g1 0 0 0 0 0 0) := (by show Rg17 _ _ _ _ _ _ _ _ _ _; first | exact H0.out.keep h2 | exact H0.out.drew.keep h2)))
  rw [← HU.out]
  cases k2 : (uu.toList == tl.toList)
  · have HN := Lib.hid (N2.out k1 k2)
    obtain ⟨c0, c1, c2, c3, c4, c5⟩ := B6.cells H2.out.b0
    obtain ⟨f0, f1, f2, f3, f4, f5⟩ := B6.frozen H2.out.b0
    obtain ⟨d0, d1, d2, d3, d4, d5⟩ := B6.cells H2.out.b1
    go_wp2_with (exact bodyPost_ret (v := .tuple #[.agg #[.int .i64 0, .int .i64 0, .int .i64 0, .int .i64 0, .int .i64 0, .int .i64 0], .int .i64 5]) (by simp [results, Try.results12, go_sem, *]) rfl ⟨(congrArg Ending.returned HN.out).symm, below_set6 H2.out.below H2.out.le _ _ _ _ _ _⟩)
  go_wp2_with fail
  refine wp_loop_rounds 3 ?_
  rw [rounds_succ]
  go_upto_block 2 with fail
  go_cut [6] from 31 to 52 (fun _ wx => Hid (Rg17 w wx g0 g1 x1 x2 x3 0 0 0))
  case first =>
    go_wp2_with fail
    rw [← HT0.out]
    obtain ⟨d0, d1, d2, d3, d4, d5⟩ := B6.cells H2.out.b1
    obtain ⟨r0, r1, r2, r3, r4, r5⟩ := B6.frozen H2.out.b1
    go_region_held3 (fun _ => True) (first | trivial)
      (first
        | (go_at_call 27; with_reducible refine (D1.out _).mono ?_; rintro e wa ⟨rfl, rfl⟩)
        | (go_at_call 27; with_reducible refine (D2.out _).mono ?_; rintro e wb ⟨rfl, rfl⟩))
    all_goals
      go_wp2_with fail
      go_meet
      case rel => first | exact ((H2.out.set 0 (.int .i64 x1) rfl).set 1 (.int .i64 x2) rfl).set 2 (.int .i64 x3) rfl | exact (((H2.out.set 0 (.int .i64 x1) rfl).set 1 (.int .i64 x2) rfl).set 2 (.int .i64 x3) rfl).drew
  have H5 := Lib.hid hcut.out
  clear hcut H2 HT0 D1 D2 y3 i14 v3 ku3 l0 l1 l2 hle2 HU HC5 N1 N2 H0 x0 hlt
  go_wp2_with fail
  rw [rounds_succ]
  go_upto_block 2 with fail
  go_cut [6] from 31 to 52 (fun _ wx => Hid (Rg17 w wx g0 g1 x1 x2 x3 x4 x5 x6))
  case first =>
    go_wp2_with fail
    rw [← HT1.out]
    obtain ⟨d0, d1, d2, d3, d4, d5⟩ := B6.cells H5.out.b1
    obtain ⟨r0, r1, r2, r3, r4, r5⟩ := B6.frozen H5.out.b1
    go_region_held3 (fun _ => True) (first | trivial)
      (first
        | (go_at_call 27; with_reducible refine (D4.out _).mono ?_; rintro e wa ⟨rfl, rfl⟩)
        | (go_at_call 27; with_reducible refine (D5.out _).mono ?_; rintro e wb ⟨rfl, rfl⟩))
    all_goals
      go_wp2_with fail
      go_meet
      case rel => first | exact ((H5.out.set 3 (.int .i64 x4) rfl).set 4 (.int .i64 x5) rfl).set 5 (.int .i64 x6) rfl | exact (((H5.out.set 3 (.int .i64 x4) rfl).set 4 (.int .i64 x5) rfl).set 5 (.int .i64 x6) rfl).drew
  have H6 := Lib.hid hcut.out
  clear hcut H5 HT1 D4 D5 y6 j14 v6 ku6 m0 m1 m2 hle3 hle
  go_wp2_with fail
  rw [rounds_succ]
  obtain ⟨d0, d1, d2, d3, d4, d5⟩ := B6.cells H6.out.b1
  go_wp2_with fail
  cases k3 : pm
  · rw [Q0.out k3] at HP
    have HN := Lib.hid (N3.out k1 k2 k3)
    refine (HP.out _).mono ?_
    rintro e w7 ⟨rfl, h7⟩
    have H7 := Lib.hid (H6.out.keep h7)
    clear h7 H6 d0 d1 d2 d3 d4 d5
    obtain ⟨c0, c1, c2, c3, c4, c5⟩ := B6.cells H7.out.b0
    obtain ⟨f0, f1, f2, f3, f4, f5⟩ := B6.frozen H7.out.b0
    go_wp2_with (exact bodyPost_ret (v := .tuple #[.agg #[.int .i64 0, .int .i64 0, .int .i64 0, .int .i64 0, .int .i64 0, .int .i64 0], .int .i64 4]) (by simp [results, Try.results12, go_sem, *]) rfl ⟨(congrArg Ending.returned HN.out).symm, below_set6 H7.out.below H7.out.le _ _ _ _ _ _⟩)
  rw [Q1.out k3] at HP
  refine (HP.out _).mono ?_
  rintro e w7 ⟨rfl, h7⟩
  have H7 := Lib.hid (H6.out.keep h7)
  clear h7 H6 d0 d1 d2 d3 d4 d5
  obtain ⟨c0, c1, c2, c3, c4, c5⟩ := B6.cells H7.out.b0
  obtain ⟨f0, f1, f2, f3, f4, f5⟩ := B6.frozen H7.out.b0
  obtain ⟨d0, d1, d2, d3, d4, d5⟩ := B6.cells H7.out.b1
  have hne1 : (g1 == g0) = false := by rw [beq_eq_false_iff_ne]; have := H7.out.lt; omega
  cases k4 : (wh.toList == t.toList)
  · have HN := Lib.hid (N4.out k1 k2 k4)
    go_wp2_with (exact bodyPost_ret (v := .tuple #[.agg #[.int .i64 0, .int .i64 0, .int .i64 0, .int .i64 0, .int .i64 0, .int .i64 0], .int .i64 4]) (by simp [results, Try.results12, go_sem, *]) rfl ⟨(congrArg Ending.returned HN.out).symm, below_set6 H7.out.below H7.out.le _ _ _ _ _ _⟩)
  · have HN := Lib.hid (N5.out k1 k2 k3 k4)
    go_wp2_with (exact bodyPost_ret (v := .tuple #[Ev2 x1 x2 x3 x4 x5 x6, .int .i64 0]) (by simp [results, Try.results12, go_sem, *]) rfl ⟨(congrArg Ending.returned HN.out).symm, below_set6 H7.out.below H7.out.le _ _ _ _ _ _⟩)
end Go.Proofs.Ytoljggleekbbbaa
