/-
  Walks over solderref16.Get. (Written by wip/gen_urget.py.)
-/
import Derived.Test.YtiflhbjhnonidaaGreatDoorUE
import Derived.Test.YtiflhbjhnonidaaGreatDoorMC
import Derived.Test.YtiflhbjhnonidaaGreatDoorMP
import Derived.Deep.RegionHeld3
namespace Go.Proofs.YtiflhbjhnonidaaGreatDoor
open Go.RowKit

/-- A number of two and of four bytes. -/
theorem M.hnum_next (t : ByteArray) (i j : Nat) (hi : i ≤ j) (h : j < t.size) : M.hnum t i (j + 1) = 256 * M.hnum t i j + ((t[j]'h).toNat : Int) := by
  have l : j < t.data.toList.length := h
  have e : (t.extract i (j + 1)).data.toList = (t.extract i j).data.toList ++ [t[j]'h] := by
    rw [M.ex_list, M.ex_list, show j + 1 - i = (j - i) + 1 by omega, List.take_succ_eq_append_getElem (by rw [List.length_drop]; omega), List.getElem_drop]
    congr 2
    simp only [show i + (j - i) = j by omega]
    rfl
  unfold M.hnum
  rw [e, M.num_snoc]
  omega
theorem M.hnum_2 (t : ByteArray) (i : Nat) (h : i + 1 < t.size) : M.hnum t i (i + 2) = 256 * ((t[i]'(by omega)).toNat : Int) + ((t[i + 1]'h).toNat : Int) := by
  rw [M.hnum_next t i (i + 1) (by omega) h, M.hnum_at t i (by omega)]
theorem M.hnum_4 (t : ByteArray) (i : Nat) (h : i + 3 < t.size) : M.hnum t i (i + 4) = 16777216 * ((t[i]'(by omega)).toNat : Int) + 65536 * ((t[i + 1]'(by omega)).toNat : Int) + 256 * ((t[i + 2]'(by omega)).toNat : Int) + ((t[i + 3]'h).toNat : Int) := by
  rw [M.hnum_next t i (i + 3) (by omega) h, M.hnum_next t i (i + 2) (by omega) (by omega), M.hnum_2 t i (by omega)]
  omega

theorem rsget16_size (t : ByteArray) (w : World) (h : t.size ≠ 64) :
    Calls Tryz.prog 12 #[.string t] w fun e w' => e = .returned (M.sgot (M.sget t)) ∧ Below w.heap.size w w' := by
  have HR : Hid (M.sget t = (⟨0, 0, 0, 0, 0, 0, 0⟩, 12)) := by show _ = _; unfold M.sget; rw [if_pos h]; rfl
  have hd : ((t.size : Int) == 64) = false := by rw [beq_eq_false_iff_ne]; omega
  have hd' : ((t.size : Int) != 64) = true := by rw [bne, hd]; rfl
  clear h
  go_enter Tryz.func12, Tryz.ntmps12
  go_wp2_with fail
  exact bodyPost_ret (v := .tuple #[.agg #[.int .i64 0, .int .i64 0, .int .i64 0, .int .i64 0, .int .i64 0, .int .i64 0, .int .i64 0], .int .i64 12]) (by simp [results, Tryz.results12, go_sem, *]) rfl ⟨M.sgot_of HR.out, ib1 _ _⟩

set_option maxHeartbeats 2000000 in
theorem rsget16_form (t : ByteArray) (w : World) (h : t.size = 64) (h1 : t.extract 0 1 ≠ ⟨#[83]⟩) :
    Calls Tryz.prog 12 #[.string t] w fun e w' => e = .returned (M.sgot (M.sget t)) ∧ Below w.heap.size w w' := by
  have HR : Hid (M.sget t = (⟨0, 0, 0, 0, 0, 0, 0⟩, 4)) := by show _ = _; unfold M.sget; rw [if_neg (by simpa using h), if_pos h1]; rfl
  have hd : ((t.size : Int) == 64) = true := by rw [beq_iff_eq]; omega
  have hd' : ((t.size : Int) != 64) = false := by rw [bne, hd]; rfl
  have hlt : 0 < t.size := by omega
  obtain ⟨c, hc⟩ : ∃ c, c = t[0]'hlt := ⟨_, rfl⟩
  have x0 : ∀ h : 0 < t.size, t[0]'h = c := fun _ => hc.symm
  have he : ((c.toNat : Int) == 83) = decide (c = 83) := u8_eq c 83 (by decide)
  rw [decide_eq_false (fun e => h1 ((M.ex_one_eq t hlt 83).2 (hc.symm.trans e)))] at he
  have he1 : ((c.toNat : Int) == 83) = false := he
  have he2 : ((c.toNat : Int) != 83) = true := by rw [bne, he1]; rfl
  clear h h1 hc he
  go_enter Tryz.func12, Tryz.ntmps12
  go_wp2_with fail
  exact bodyPost_ret (v := .tuple #[.agg #[.int .i64 0, .int .i64 0, .int .i64 0, .int .i64 0, .int .i64 0, .int .i64 0, .int .i64 0], .int .i64 4]) (by simp [results, Tryz.results12, go_sem, *]) rfl ⟨M.sgot_of HR.out, ib1 _ _⟩

set_option maxRecDepth 4000 in
set_option maxHeartbeats 8000000 in
theorem rsget16_sum (t : ByteArray) (w : World) (h : t.size = 64) (h1 : t.extract 0 1 = ⟨#[83]⟩) (h2 : t.extract 12 16 ≠ M.tail (t.extract 0 12)) :
    Calls Tryz.prog 12 #[.string t] w fun e w' => e = .returned (M.sgot (M.sget t)) ∧ Below w.heap.size w w' := by
  have HR : Hid (M.sget t = (⟨0, 0, 0, 0, 0, 0, 0⟩, 5)) := by show _ = _; unfold M.sget; rw [if_neg (by simpa using h), if_neg (by simpa using h1), if_pos h2]; rfl
  have hd : ((t.size : Int) == 64) = true := by rw [beq_iff_eq]; omega
  have hd' : ((t.size : Int) != 64) = false := by rw [bne, hd]; rfl
  have hlt : 0 < t.size := by omega
  obtain ⟨c, hc⟩ : ∃ c, c = t[0]'hlt := ⟨_, rfl⟩
  have x0 : ∀ h : 0 < t.size, t[0]'h = c := fun _ => hc.symm
  have he : ((c.toNat : Int) == 83) = decide (c = 83) := u8_eq c 83 (by decide)
  rw [decide_eq_true (hc.trans ((M.ex_one_eq t hlt 83).1 h1))] at he
  have he1 : ((c.toNat : Int) == 83) = true := he
  have he2 : ((c.toNat : Int) != 83) = false := by rw [bne, he1]; rfl
  have hne := ne_of_toList10 h2
  have HC5 := Lib.hid (fun x => rtail10 (t.extract 0 12) x (by rw [ByteArray.size_extract]; omega))
  obtain ⟨u, hu⟩ : ∃ x, x = t.extract 12 16 := ⟨_, rfl⟩
  obtain ⟨tl, hv⟩ : ∃ x, x = M.tail (t.extract 0 12) := ⟨_, rfl⟩
  rw [← hv] at HC5
  have hle : (12 : Int) ≤ (t.size : Int) := by omega
  have hle2 : (16 : Int) ≤ (t.size : Int) := by omega
  rw [← hv] at hne
  clear hu h1 h2 hv h hc he
  go_enter Tryz.func12, Tryz.ntmps12
  go_wp2_with fail
  have HX := Lib.hid (B7.new w 0 0 0 0 0 0 0)
  have HB := Lib.hid (ib1 w (Sc16 0 0 0 0 0 0 0))
  obtain ⟨w1, hw1⟩ : ∃ x, x = w.alloc (Sc16 0 0 0 0 0 0 0) := ⟨_, rfl⟩
  rw [← hw1] at HX HB ⊢
  clear hw1
  go_region_held3 (fun _ => True) (first | trivial)
    (first
      | (go_at_call 29; refine (HC5.out _).mono ?_; rintro e w2 ⟨rfl, h2⟩; have HX2 := Lib.hid ((show B7 _ w.heap.size 0 0 0 0 0 0 0 by first | exact HX.out | exact HX.out.below (Below.refl _ _).drew HX.out.lt).below h2 HX.out.lt); have HB2 : Hid (Below w.heap.size w w2) := (by show Below _ _ _; first | exact HB.out.trans (h2.mono HB.out.size) | exact HB.out.drew.trans (h2.mono HB.out.size)); clear h2))
  obtain ⟨c0, c1, c2, c3, c4, c5, c6⟩ := B7.cells HX2.out
  obtain ⟨f0, f1, f2, f3, f4, f5, f6⟩ := B7.frozen HX2.out
  go_wp2_with fail
  exact bodyPost_ret (v := .tuple #[.agg #[.int .i64 0, .int .i64 0, .int .i64 0, .int .i64 0, .int .i64 0, .int .i64 0, .int .i64 0], .int .i64 5]) (by simp [results, Tryz.results12, go_sem, *]) rfl ⟨M.sgot_of HR.out, by (repeat refine Below.setCell ?_ (by simp) _); exact HB2.out⟩

set_option maxRecDepth 4000 in
set_option maxHeartbeats 8000000 in
theorem rsget16_full (t : ByteArray) (w : World) (h : t.size = 64) (h1 : t.extract 0 1 = ⟨#[83]⟩) (h2 : t.extract 12 16 = M.tail (t.extract 0 12)) :
    Calls Tryz.prog 12 #[.string t] w fun e w' => e = .returned (M.sgot (M.sget t)) ∧ Below w.heap.size w w' := by
  have hd : ((t.size : Int) == 64) = true := by rw [beq_iff_eq]; omega
  have hd' : ((t.size : Int) != 64) = false := by rw [bne, hd]; rfl
  have hlt : 0 < t.size := by omega
  obtain ⟨c, hc⟩ : ∃ c, c = t[0]'hlt := ⟨_, rfl⟩
  have x0 : ∀ h : 0 < t.size, t[0]'h = c := fun _ => hc.symm
  have he : ((c.toNat : Int) == 83) = decide (c = 83) := u8_eq c 83 (by decide)
  rw [decide_eq_true (hc.trans ((M.ex_one_eq t hlt 83).1 h1))] at he
  have he1 : ((c.toNat : Int) == 83) = true := he
  have he2 : ((c.toNat : Int) != 83) = false := by rw [bne, he1]; rfl
  have hne : ((t.extract 12 16).toList == (M.tail (t.extract 0 12)).toList) = true := by rw [h2]; exact str_eq_self _
  have HP := Lib.hid (fun x => rsput16_any (M.hnum t 1 2) (M.hnum t 2 3) (M.hnum t 3 7) (M.hnum t 7 8) (M.hnum t 8 9) (M.hnum t 9 10) (M.hnum t 10 12) x)
  have hcs : ∃ pt pe, M.sput16 ⟨M.hnum t 1 2, M.hnum t 2 3, M.hnum t 3 7, M.hnum t 7 8, M.hnum t 8 9, M.hnum t 9 10, M.hnum t 10 12⟩ = .tuple #[.string pt, .int .i64 pe] ∧ ((pe = 3 ∧ M.sget t = (⟨0, 0, 0, 0, 0, 0, 0⟩, 4)) ∨ (pe = 0 ∧ (pt.toList == t.toList) = false ∧ M.sget t = (⟨0, 0, 0, 0, 0, 0, 0⟩, 4)) ∨ (pe = 0 ∧ (pt.toList == t.toList) = true ∧ M.sget t = (⟨M.hnum t 1 2, M.hnum t 2 3, M.hnum t 3 7, M.hnum t 7 8, M.hnum t 8 9, M.hnum t 9 10, M.hnum t 10 12⟩, 0))) := by
    by_cases h3 : M.smay (M.sread t) = true
    · refine ⟨M.swhole (M.sread t), 0, by unfold M.sput16; exact if_pos h3, Or.inr ?_⟩
      by_cases h4 : M.swhole (M.sread t) = t
      · exact Or.inr ⟨rfl, by rw [h4]; exact str_eq_self _, by unfold M.sget; rw [if_neg (by simpa using h), if_neg (by simpa using h1), if_neg (by simpa using h2), if_pos ⟨h3, h4⟩]; rfl⟩
      · exact Or.inl ⟨rfl, ne_of_toList10 h4, by unfold M.sget; rw [if_neg (by simpa using h), if_neg (by simpa using h1), if_neg (by simpa using h2), if_neg (fun e => h4 e.2)]; rfl⟩
    · exact ⟨⟨#[]⟩, 3, by unfold M.sput16; exact if_neg h3, Or.inl ⟨rfl, by unfold M.sget; rw [if_neg (by simpa using h), if_neg (by simpa using h1), if_neg (by simpa using h2), if_neg (fun e => h3 e.1)]; rfl⟩⟩
  obtain ⟨pt, pe, hp, hcs⟩ := hcs
  rw [hp] at HP
  clear hp
  have HC5 := Lib.hid (fun x => rtail10 (t.extract 0 12) x (by rw [ByteArray.size_extract]; omega))
  have y1 := M.hnum_at t 1 (by omega)
  have y2 := M.hnum_at t 2 (by omega)
  have y3 := M.hnum_4 t 3 (by omega)
  have y4 := M.hnum_at t 7 (by omega)
  have y5 := M.hnum_at t 8 (by omega)
  have y6 := M.hnum_at t 9 (by omega)
  have y7 := M.hnum_2 t 10 (by omega)
  obtain ⟨k1, hk1⟩ : ∃ k, k = t[1]'(by omega) := ⟨_, rfl⟩
  have z1 : ∀ h : 1 < t.size, t[1]'h = k1 := fun _ => hk1.symm
  have q1 := k1.toNat_lt
  obtain ⟨k2, hk2⟩ : ∃ k, k = t[2]'(by omega) := ⟨_, rfl⟩
  have z2 : ∀ h : 2 < t.size, t[2]'h = k2 := fun _ => hk2.symm
  have q2 := k2.toNat_lt
  obtain ⟨k3, hk3⟩ : ∃ k, k = t[3]'(by omega) := ⟨_, rfl⟩
  have z3 : ∀ h : 3 < t.size, t[3]'h = k3 := fun _ => hk3.symm
  have q3 := k3.toNat_lt
  obtain ⟨k4, hk4⟩ : ∃ k, k = t[4]'(by omega) := ⟨_, rfl⟩
  have z4 : ∀ h : 4 < t.size, t[4]'h = k4 := fun _ => hk4.symm
  have q4 := k4.toNat_lt
  obtain ⟨k5, hk5⟩ : ∃ k, k = t[5]'(by omega) := ⟨_, rfl⟩
  have z5 : ∀ h : 5 < t.size, t[5]'h = k5 := fun _ => hk5.symm
  have q5 := k5.toNat_lt
  obtain ⟨k6, hk6⟩ : ∃ k, k = t[6]'(by omega) := ⟨_, rfl⟩
  have z6 : ∀ h : 6 < t.size, t[6]'h = k6 := fun _ => hk6.symm
  have q6 := k6.toNat_lt
  obtain ⟨k7, hk7⟩ : ∃ k, k = t[7]'(by omega) := ⟨_, rfl⟩
  have z7 : ∀ h : 7 < t.size, t[7]'h = k7 := fun _ => hk7.symm
  have q7 := k7.toNat_lt
  obtain ⟨k8, hk8⟩ : ∃ k, k = t[8]'(by omega) := ⟨_, rfl⟩
  have z8 : ∀ h : 8 < t.size, t[8]'h = k8 := fun _ => hk8.symm
  have q8 := k8.toNat_lt
  obtain ⟨k9, hk9⟩ : ∃ k, k = t[9]'(by omega) := ⟨_, rfl⟩
  have z9 : ∀ h : 9 < t.size, t[9]'h = k9 := fun _ => hk9.symm
  have q9 := k9.toNat_lt
  obtain ⟨k10, hk10⟩ : ∃ k, k = t[10]'(by omega) := ⟨_, rfl⟩
  have z10 : ∀ h : 10 < t.size, t[10]'h = k10 := fun _ => hk10.symm
  have q10 := k10.toNat_lt
  obtain ⟨k11, hk11⟩ : ∃ k, k = t[11]'(by omega) := ⟨_, rfl⟩
  have z11 : ∀ h : 11 < t.size, t[11]'h = k11 := fun _ => hk11.symm
  have q11 := k11.toNat_lt
  rw [← hk1] at y1
  rw [← hk2] at y2
  simp only [← hk3, ← hk4, ← hk5, ← hk6, Nat.reduceAdd] at y3
  rw [← hk7] at y4
  rw [← hk8] at y5
  rw [← hk9] at y6
  simp only [← hk10, ← hk11, Nat.reduceAdd] at y7
  obtain ⟨x1, hx1⟩ : ∃ x, x = M.hnum t 1 2 := ⟨_, rfl⟩
  obtain ⟨x2, hx2⟩ : ∃ x, x = M.hnum t 2 3 := ⟨_, rfl⟩
  obtain ⟨x3, hx3⟩ : ∃ x, x = M.hnum t 3 7 := ⟨_, rfl⟩
  obtain ⟨x4, hx4⟩ : ∃ x, x = M.hnum t 7 8 := ⟨_, rfl⟩
  obtain ⟨x5, hx5⟩ : ∃ x, x = M.hnum t 8 9 := ⟨_, rfl⟩
  obtain ⟨x6, hx6⟩ : ∃ x, x = M.hnum t 9 10 := ⟨_, rfl⟩
  obtain ⟨x7, hx7⟩ : ∃ x, x = M.hnum t 10 12 := ⟨_, rfl⟩
  simp only [← hx1, ← hx2, ← hx3, ← hx4, ← hx5, ← hx6, ← hx7] at y1 y2 y3 y4 y5 y6 y7 HP hcs
  obtain ⟨m3, e3⟩ : ∃ m : Int, m = 16777216 * (k3.toNat : Int) := ⟨_, rfl⟩
  obtain ⟨m4, e4⟩ : ∃ m : Int, m = 65536 * (k4.toNat : Int) := ⟨_, rfl⟩
  obtain ⟨m5, e5⟩ : ∃ m : Int, m = 256 * (k5.toNat : Int) := ⟨_, rfl⟩
  obtain ⟨m34, e34⟩ : ∃ m : Int, m = m3 + m4 := ⟨_, rfl⟩
  obtain ⟨m345, e345⟩ : ∃ m : Int, m = m34 + m5 := ⟨_, rfl⟩
  obtain ⟨m10, e10⟩ : ∃ m : Int, m = 256 * (k10.toNat : Int) := ⟨_, rfl⟩
  have r3 : IntKind.i64.wrap (16777216 * (k3.toNat : Int)) = m3 := by rw [IntKind.wrap_i64]; omega
  have r4 : IntKind.i64.wrap (65536 * (k4.toNat : Int)) = m4 := by rw [IntKind.wrap_i64]; omega
  have r5 : IntKind.i64.wrap (256 * (k5.toNat : Int)) = m5 := by rw [IntKind.wrap_i64]; omega
  have r34 : IntKind.i64.wrap (m3 + m4) = m34 := by rw [IntKind.wrap_i64]; omega
  have r345 : IntKind.i64.wrap (m34 + m5) = m345 := by rw [IntKind.wrap_i64]; omega
  have r6 : IntKind.i64.wrap (m345 + (k6.toNat : Int)) = x3 := by rw [IntKind.wrap_i64]; omega
  have r10 : IntKind.i64.wrap (256 * (k10.toNat : Int)) = m10 := by rw [IntKind.wrap_i64]; omega
  have r11 : IntKind.i64.wrap (m10 + (k11.toNat : Int)) = x7 := by rw [IntKind.wrap_i64]; omega
  have v3 : IntKind.i64.wrap (k3.toNat : Int) = (k3.toNat : Int) := by rw [IntKind.wrap_i64]; omega
  have v4 : IntKind.i64.wrap (k4.toNat : Int) = (k4.toNat : Int) := by rw [IntKind.wrap_i64]; omega
  have v5 : IntKind.i64.wrap (k5.toNat : Int) = (k5.toNat : Int) := by rw [IntKind.wrap_i64]; omega
  have v6 : IntKind.i64.wrap (k6.toNat : Int) = (k6.toNat : Int) := by rw [IntKind.wrap_i64]; omega
  have v10 : IntKind.i64.wrap (k10.toNat : Int) = (k10.toNat : Int) := by rw [IntKind.wrap_i64]; omega
  have v11 : IntKind.i64.wrap (k11.toNat : Int) = (k11.toNat : Int) := by rw [IntKind.wrap_i64]; omega
  have v1 : IntKind.i64.wrap x1 = x1 := by rw [IntKind.wrap_i64]; omega
  have v2 : IntKind.i64.wrap x2 = x2 := by rw [IntKind.wrap_i64]; omega
  have v7 : IntKind.i64.wrap x4 = x4 := by rw [IntKind.wrap_i64]; omega
  have v8 : IntKind.i64.wrap x5 = x5 := by rw [IntKind.wrap_i64]; omega
  have v9 : IntKind.i64.wrap x6 = x6 := by rw [IntKind.wrap_i64]; omega
  have s1 : (k1.toNat : Int) = x1 := y1.symm
  have s2 : (k2.toNat : Int) = x2 := y2.symm
  have s4 : (k7.toNat : Int) = x4 := y4.symm
  have s5 : (k8.toNat : Int) = x5 := y5.symm
  have s6 : (k9.toNat : Int) = x6 := y6.symm
  clear y1 y2 y3 y4 y5 y6 y7 q1 hk1 q2 hk2 q3 hk3 q4 hk4 q5 hk5 q6 hk6 q7 hk7 q8 hk8 q9 hk9 q10 hk10 q11 hk11 hx1 hx2 hx3 hx4 hx5 hx6 hx7 e3 e4 e5 e34 e345 e10
  have i1 : (1 : Int) < (t.size : Int) := by omega
  have i2 : (2 : Int) < (t.size : Int) := by omega
  have i3 : (3 : Int) < (t.size : Int) := by omega
  have i4 : (4 : Int) < (t.size : Int) := by omega
  have i5 : (5 : Int) < (t.size : Int) := by omega
  have i6 : (6 : Int) < (t.size : Int) := by omega
  have i7 : (7 : Int) < (t.size : Int) := by omega
  have i8 : (8 : Int) < (t.size : Int) := by omega
  have i9 : (9 : Int) < (t.size : Int) := by omega
  have i10 : (10 : Int) < (t.size : Int) := by omega
  have i11 : (11 : Int) < (t.size : Int) := by omega
  obtain ⟨u, hu⟩ : ∃ x, x = t.extract 12 16 := ⟨_, rfl⟩
  obtain ⟨tl, hv⟩ : ∃ x, x = M.tail (t.extract 0 12) := ⟨_, rfl⟩
  rw [← hv] at HC5
  have hle : (12 : Int) ≤ (t.size : Int) := by omega
  have hle2 : (16 : Int) ≤ (t.size : Int) := by omega
  rw [← hv] at hne
  have HCS := Lib.hid hcs
  clear hu h1 h2 hv h hc he hcs
  go_enter Tryz.func12, Tryz.ntmps12
  go_wp2_with fail
  have HX := Lib.hid (B7.new w 0 0 0 0 0 0 0)
  have HB := Lib.hid (ib1 w (Sc16 0 0 0 0 0 0 0))
  obtain ⟨w1, hw1⟩ : ∃ x, x = w.alloc (Sc16 0 0 0 0 0 0 0) := ⟨_, rfl⟩
  rw [← hw1] at HX HB ⊢
  clear hw1
  go_region_held3 (fun _ => True) (first | trivial)
    (first
      | (go_at_call 29; refine (HC5.out _).mono ?_; rintro e w2 ⟨rfl, h2⟩; have HX2 := Lib.hid ((show B7 _ w.heap.size 0 0 0 0 0 0 0 by first | exact HX.out | exact HX.out.below (Below.refl _ _).drew HX.out.lt).below h2 HX.out.lt); have HB2 : Hid (Below w.heap.size w w2) := (by show Below _ _ _; first | exact HB.out.trans (h2.mono HB.out.size) | exact HB.out.drew.trans (h2.mono HB.out.size)); clear h2))
  go_wp2_with fail
  refine wp_region_held_drew (S := fun _ => True) (by kernel_rfl) (trivial) (fun hHeld => ?_)
  refine wpAnyH_take (i := 0) (oi := ?_) (v := ?_) ?_ (by kernel_rfl) (by kernel_rfl) (by kernel_rfl) ?_ ?_ (by assumption) ?_
  rotate_left 2
  · (simp only [List.getElem?_toArray, List.getElem?_cons_zero]; rfl)
  rotate_left
  · (refine Or.inl ⟨by rfl, ?_⟩; intro w hSw; (try dsimp only at hSw); go_simp; try with_reducible rfl)
  rotate_right
  · exact fun _ _ _ h => h
  simp only [Act.put, List.setIfInBounds_toArray, List.set_cons_zero, List.set_cons_succ]
  refine wpAnyH_take (i := 1) (oi := ?_) (v := ?_) ?_ (by kernel_rfl) (by kernel_rfl) (by kernel_rfl) ?_ ?_ (by assumption) ?_
  rotate_left 2
  · (simp only [List.getElem?_toArray, List.getElem?_cons_zero, List.getElem?_cons_succ]; rfl)
  rotate_left
  · (refine Or.inl ⟨by rfl, ?_⟩; intro w hSw; (try dsimp only at hSw); go_simp; try with_reducible rfl)
  rotate_right
  · exact fun _ _ _ h => h
  simp only [Act.put, List.setIfInBounds_toArray, List.set_cons_zero, List.set_cons_succ]
  refine wpAnyH_take (i := 2) (oi := ?_) (v := ?_) ?_ (by kernel_rfl) (by kernel_rfl) (by kernel_rfl) ?_ ?_ (by assumption) ?_
  rotate_left 2
  · (simp only [List.getElem?_toArray, List.getElem?_cons_zero, List.getElem?_cons_succ]; rfl)
  rotate_left
  · (refine Or.inl ⟨by rfl, ?_⟩; intro w hSw; (try dsimp only at hSw); go_simp; try with_reducible rfl)
  rotate_right
  · exact fun _ _ _ h => h
  simp only [Act.put, List.setIfInBounds_toArray, List.set_cons_zero, List.set_cons_succ]
  refine wpAnyH_take (i := 3) (oi := ?_) (v := ?_) ?_ (by kernel_rfl) (by kernel_rfl) (by kernel_rfl) ?_ ?_ (by assumption) ?_
  rotate_left 2
  · (simp only [List.getElem?_toArray, List.getElem?_cons_zero, List.getElem?_cons_succ]; rfl)
  rotate_left
  · (refine Or.inl ⟨by rfl, ?_⟩; intro w hSw; (try dsimp only at hSw); go_simp; try with_reducible rfl)
  rotate_right
  · exact fun _ _ _ h => h
  simp only [Act.put, List.setIfInBounds_toArray, List.set_cons_zero, List.set_cons_succ]
  refine wpAnyH_take (i := 4) (oi := ?_) (v := ?_) ?_ (by kernel_rfl) (by kernel_rfl) (by kernel_rfl) ?_ ?_ (by assumption) ?_
  rotate_left 2
  · (simp only [List.getElem?_toArray, List.getElem?_cons_zero, List.getElem?_cons_succ]; rfl)
  rotate_left
  · (refine Or.inl ⟨by rfl, ?_⟩; intro w hSw; (try dsimp only at hSw); go_simp; try with_reducible rfl)
  rotate_right
  · exact fun _ _ _ h => h
  simp only [Act.put, List.setIfInBounds_toArray, List.set_cons_zero, List.set_cons_succ]
  refine wpAnyH_take (i := 5) (oi := ?_) (v := ?_) ?_ (by kernel_rfl) (by kernel_rfl) (by kernel_rfl) ?_ ?_ (by assumption) ?_
  rotate_left 2
  · (simp only [List.getElem?_toArray, List.getElem?_cons_zero, List.getElem?_cons_succ]; rfl)
  rotate_left
  · (refine Or.inl ⟨by rfl, ?_⟩; intro w hSw; (try dsimp only at hSw); go_simp; try with_reducible rfl)
  rotate_right
  · exact fun _ _ _ h => h
  simp only [Act.put, List.setIfInBounds_toArray, List.set_cons_zero, List.set_cons_succ]
  refine wpAnyH_take (i := 6) (oi := ?_) (v := ?_) ?_ (by kernel_rfl) (by kernel_rfl) (by kernel_rfl) ?_ ?_ (by assumption) ?_
  rotate_left 2
  · (simp only [List.getElem?_toArray, List.getElem?_cons_zero, List.getElem?_cons_succ]; rfl)
  rotate_left
  · (refine Or.inl ⟨by rfl, ?_⟩; intro w hSw; (try dsimp only at hSw); go_simp; try with_reducible rfl)
  rotate_right
  · exact fun _ _ _ h => h
  simp only [Act.put, List.setIfInBounds_toArray, List.set_cons_zero, List.set_cons_succ]
  refine wpAnyH_take (i := 7) (oi := ?_) (v := ?_) ?_ (by kernel_rfl) (by kernel_rfl) (by kernel_rfl) ?_ ?_ (by assumption) ?_
  rotate_left 2
  · (simp only [List.getElem?_toArray, List.getElem?_cons_zero, List.getElem?_cons_succ]; rfl)
  rotate_left
  · (refine Or.inl ⟨by rfl, ?_⟩; intro w hSw; (try dsimp only at hSw); go_simp; try with_reducible rfl)
  rotate_right
  · exact fun _ _ _ h => h
  simp only [Act.put, List.setIfInBounds_toArray, List.set_cons_zero, List.set_cons_succ]
  refine wpAnyH_take (i := 8) (oi := ?_) (v := ?_) ?_ (by kernel_rfl) (by kernel_rfl) (by kernel_rfl) ?_ ?_ (by assumption) ?_
  rotate_left 2
  · (simp only [List.getElem?_toArray, List.getElem?_cons_zero, List.getElem?_cons_succ]; rfl)
  rotate_left
  · (refine Or.inl ⟨by rfl, ?_⟩; intro w hSw; (try dsimp only at hSw); go_simp; try with_reducible rfl)
  rotate_right
  · exact fun _ _ _ h => h
  simp only [Act.put, List.setIfInBounds_toArray, List.set_cons_zero, List.set_cons_succ]
  refine wpAnyH_take (i := 9) (oi := ?_) (v := ?_) ?_ (by kernel_rfl) (by kernel_rfl) (by kernel_rfl) ?_ ?_ (by assumption) ?_
  rotate_left 2
  · (simp only [List.getElem?_toArray, List.getElem?_cons_zero, List.getElem?_cons_succ]; rfl)
  rotate_left
  · (refine Or.inl ⟨by rfl, ?_⟩; intro w hSw; (try dsimp only at hSw); go_simp; try with_reducible rfl)
  rotate_right
  · exact fun _ _ _ h => h
  simp only [Act.put, List.setIfInBounds_toArray, List.set_cons_zero, List.set_cons_succ]
  refine wpAnyH_take (i := 10) (oi := ?_) (v := ?_) ?_ (by kernel_rfl) (by kernel_rfl) (by kernel_rfl) ?_ ?_ (by assumption) ?_
  rotate_left 2
  · (simp only [List.getElem?_toArray, List.getElem?_cons_zero, List.getElem?_cons_succ]; rfl)
  rotate_left
  · (refine Or.inl ⟨by rfl, ?_⟩; intro w hSw; (try dsimp only at hSw); go_simp; try with_reducible rfl)
  rotate_right
  · exact fun _ _ _ h => h
  simp only [Act.put, List.setIfInBounds_toArray, List.set_cons_zero, List.set_cons_succ]
  refine wpAnyH_take (i := 11) (oi := ?_) (v := ?_) ?_ (by kernel_rfl) (by kernel_rfl) (by kernel_rfl) ?_ ?_ (by assumption) ?_
  rotate_left 2
  · (simp only [List.getElem?_toArray, List.getElem?_cons_zero, List.getElem?_cons_succ]; rfl)
  rotate_left
  · (refine Or.inl ⟨by rfl, ?_⟩; intro w hSw; (try dsimp only at hSw); go_simp; try with_reducible rfl)
  rotate_right
  · exact fun _ _ _ h => h
  simp only [Act.put, List.setIfInBounds_toArray, List.set_cons_zero, List.set_cons_succ]
  refine wpAnyH_take (i := 12) (oi := ?_) (v := ?_) ?_ (by kernel_rfl) (by kernel_rfl) (by kernel_rfl) ?_ ?_ (by assumption) ?_
  rotate_left 2
  · (simp only [List.getElem?_toArray, List.getElem?_cons_zero, List.getElem?_cons_succ]; rfl)
  rotate_left
  · (refine Or.inl ⟨by rfl, ?_⟩; intro w hSw; (try dsimp only at hSw); go_simp; try with_reducible rfl)
  rotate_right
  · exact fun _ _ _ h => h
  simp only [Act.put, List.setIfInBounds_toArray, List.set_cons_zero, List.set_cons_succ]
  refine wpAnyH_take (i := 13) (oi := ?_) (v := ?_) ?_ (by kernel_rfl) (by kernel_rfl) (by kernel_rfl) ?_ ?_ (by assumption) ?_
  rotate_left 2
  · (simp only [List.getElem?_toArray, List.getElem?_cons_zero, List.getElem?_cons_succ]; rfl)
  rotate_left
  · (refine Or.inl ⟨by rfl, ?_⟩; intro w hSw; (try dsimp only at hSw); go_simp; try with_reducible rfl)
  rotate_right
  · exact fun _ _ _ h => h
  simp only [Act.put, List.setIfInBounds_toArray, List.set_cons_zero, List.set_cons_succ]
  refine wpAnyH_take (i := 14) (oi := ?_) (v := ?_) ?_ (by kernel_rfl) (by kernel_rfl) (by kernel_rfl) ?_ ?_ (by assumption) ?_
  rotate_left 2
  · (simp only [List.getElem?_toArray, List.getElem?_cons_zero, List.getElem?_cons_succ]; rfl)
  rotate_left
  · (refine Or.inl ⟨by rfl, ?_⟩; intro w hSw; (try dsimp only at hSw); go_simp; try with_reducible rfl)
  rotate_right
  · exact fun _ _ _ h => h
  simp only [Act.put, List.setIfInBounds_toArray, List.set_cons_zero, List.set_cons_succ]
  refine wpAnyH_take (i := 15) (oi := ?_) (v := ?_) ?_ (by kernel_rfl) (by kernel_rfl) (by kernel_rfl) ?_ ?_ (by assumption) ?_
  rotate_left 2
  · (simp only [List.getElem?_toArray, List.getElem?_cons_zero, List.getElem?_cons_succ]; rfl)
  rotate_left
  · (refine Or.inl ⟨by rfl, ?_⟩; intro w hSw; (try dsimp only at hSw); go_simp; try with_reducible rfl)
  rotate_right
  · exact fun _ _ _ h => h
  simp only [Act.put, List.setIfInBounds_toArray, List.set_cons_zero, List.set_cons_succ]
  refine wpAnyH_take (i := 16) (oi := ?_) (v := ?_) ?_ (by kernel_rfl) (by kernel_rfl) (by kernel_rfl) ?_ ?_ (by assumption) ?_
  rotate_left 2
  · (simp only [List.getElem?_toArray, List.getElem?_cons_zero, List.getElem?_cons_succ]; rfl)
  rotate_left
  · (refine Or.inl ⟨by rfl, ?_⟩; intro w hSw; (try dsimp only at hSw); go_simp; try with_reducible rfl)
  rotate_right
  · exact fun _ _ _ h => h
  simp only [Act.put, List.setIfInBounds_toArray, List.set_cons_zero, List.set_cons_succ]
  refine wpAnyH_take (i := 17) (oi := ?_) (v := ?_) ?_ (by kernel_rfl) (by kernel_rfl) (by kernel_rfl) ?_ ?_ (by assumption) ?_
  rotate_left 2
  · (simp only [List.getElem?_toArray, List.getElem?_cons_zero, List.getElem?_cons_succ]; rfl)
  rotate_left
  · (refine Or.inl ⟨by rfl, ?_⟩; intro w hSw; (try dsimp only at hSw); go_simp; try with_reducible rfl)
  rotate_right
  · exact fun _ _ _ h => h
  simp only [Act.put, List.setIfInBounds_toArray, List.set_cons_zero, List.set_cons_succ]
  refine wpAnyH_take (i := 18) (oi := ?_) (v := ?_) ?_ (by kernel_rfl) (by kernel_rfl) (by kernel_rfl) ?_ ?_ (by assumption) ?_
  rotate_left 2
  · (simp only [List.getElem?_toArray, List.getElem?_cons_zero, List.getElem?_cons_succ]; rfl)
  rotate_left
  · (refine Or.inl ⟨by rfl, ?_⟩; intro w hSw; (try dsimp only at hSw); go_simp; try with_reducible rfl)
  rotate_right
  · exact fun _ _ _ h => h
  simp only [Act.put, List.setIfInBounds_toArray, List.set_cons_zero, List.set_cons_succ]
  refine wpAnyH_take (i := 19) (oi := ?_) (v := ?_) ?_ (by kernel_rfl) (by kernel_rfl) (by kernel_rfl) ?_ ?_ (by assumption) ?_
  rotate_left 2
  · (simp only [List.getElem?_toArray, List.getElem?_cons_zero, List.getElem?_cons_succ]; rfl)
  rotate_left
  · (refine Or.inl ⟨by rfl, ?_⟩; intro w hSw; (try dsimp only at hSw); go_simp; try with_reducible rfl)
  rotate_right
  · exact fun _ _ _ h => h
  simp only [Act.put, List.setIfInBounds_toArray, List.set_cons_zero, List.set_cons_succ]
  refine wpAnyH_take (i := 20) (oi := ?_) (v := ?_) ?_ (by kernel_rfl) (by kernel_rfl) (by kernel_rfl) ?_ ?_ (by assumption) ?_
  rotate_left 2
  · (simp only [List.getElem?_toArray, List.getElem?_cons_zero, List.getElem?_cons_succ]; rfl)
  rotate_left
  · (refine Or.inl ⟨by rfl, ?_⟩; intro w hSw; (try dsimp only at hSw); go_simp; try with_reducible rfl)
  rotate_right
  · exact fun _ _ _ h => h
  simp only [Act.put, List.setIfInBounds_toArray, List.set_cons_zero, List.set_cons_succ]
  refine wpAnyH_take (i := 21) (oi := ?_) (v := ?_) ?_ (by kernel_rfl) (by kernel_rfl) (by kernel_rfl) ?_ ?_ (by assumption) ?_
  rotate_left 2
  · (simp only [List.getElem?_toArray, List.getElem?_cons_zero, List.getElem?_cons_succ]; rfl)
  rotate_left
  · (refine Or.inl ⟨by rfl, ?_⟩; intro w hSw; (try dsimp only at hSw); go_simp; try with_reducible rfl)
  rotate_right
  · exact fun _ _ _ h => h
  simp only [Act.put, List.setIfInBounds_toArray, List.set_cons_zero, List.set_cons_succ]
  refine wpAnyH_take (i := 22) (oi := ?_) (v := ?_) ?_ (by kernel_rfl) (by kernel_rfl) (by kernel_rfl) ?_ ?_ (by assumption) ?_
  rotate_left 2
  · (simp only [List.getElem?_toArray, List.getElem?_cons_zero, List.getElem?_cons_succ]; rfl)
  rotate_left
  · (refine Or.inl ⟨by rfl, ?_⟩; intro w hSw; (try dsimp only at hSw); go_simp; try with_reducible rfl)
  rotate_right
  · exact fun _ _ _ h => h
  simp only [Act.put, List.setIfInBounds_toArray, List.set_cons_zero, List.set_cons_succ]
  refine wpAnyH_take (i := 23) (oi := ?_) (v := ?_) ?_ (by kernel_rfl) (by kernel_rfl) (by kernel_rfl) ?_ ?_ (by assumption) ?_
  rotate_left 2
  · (simp only [List.getElem?_toArray, List.getElem?_cons_zero, List.getElem?_cons_succ]; rfl)
  rotate_left
  · (refine Or.inl ⟨by rfl, ?_⟩; intro w hSw; (try dsimp only at hSw); go_simp; try with_reducible rfl)
  rotate_right
  · exact fun _ _ _ h => h
  simp only [Act.put, List.setIfInBounds_toArray, List.set_cons_zero, List.set_cons_succ]
  refine wpAnyH_take (i := 24) (oi := ?_) (v := ?_) ?_ (by kernel_rfl) (by kernel_rfl) (by kernel_rfl) ?_ ?_ (by assumption) ?_
  rotate_left 2
  · (simp only [List.getElem?_toArray, List.getElem?_cons_zero, List.getElem?_cons_succ]; rfl)
  rotate_left
  · (refine Or.inl ⟨by rfl, ?_⟩; intro w hSw; (try dsimp only at hSw); go_simp; try with_reducible rfl)
  rotate_right
  · exact fun _ _ _ h => h
  simp only [Act.put, List.setIfInBounds_toArray, List.set_cons_zero, List.set_cons_succ]
  refine wpAnyH_take (i := 25) (oi := ?_) (v := ?_) ?_ (by kernel_rfl) (by kernel_rfl) (by kernel_rfl) ?_ ?_ (by assumption) ?_
  rotate_left 2
  · (simp only [List.getElem?_toArray, List.getElem?_cons_zero, List.getElem?_cons_succ]; rfl)
  rotate_left
  · (refine Or.inl ⟨by rfl, ?_⟩; intro w hSw; (try dsimp only at hSw); go_simp; try with_reducible rfl)
  rotate_right
  · exact fun _ _ _ h => h
  simp only [Act.put, List.setIfInBounds_toArray, List.set_cons_zero, List.set_cons_succ]
  refine wpAnyH_take (i := 26) (oi := ?_) (v := ?_) ?_ (by kernel_rfl) (by kernel_rfl) (by kernel_rfl) ?_ ?_ (by assumption) ?_
  rotate_left 2
  · (simp only [List.getElem?_toArray, List.getElem?_cons_zero, List.getElem?_cons_succ]; rfl)
  rotate_left
  · (refine Or.inl ⟨by rfl, ?_⟩; intro w hSw; (try dsimp only at hSw); go_simp; try with_reducible rfl)
  rotate_right
  · exact fun _ _ _ h => h
  simp only [Act.put, List.setIfInBounds_toArray, List.set_cons_zero, List.set_cons_succ]
  refine wpAnyH_take (i := 27) (oi := ?_) (v := ?_) ?_ (by kernel_rfl) (by kernel_rfl) (by kernel_rfl) ?_ ?_ (by assumption) ?_
  rotate_left 2
  · (simp only [List.getElem?_toArray, List.getElem?_cons_zero, List.getElem?_cons_succ]; rfl)
  rotate_left
  · (refine Or.inl ⟨by rfl, ?_⟩; intro w hSw; (try dsimp only at hSw); go_simp; try with_reducible rfl)
  rotate_right
  · exact fun _ _ _ h => h
  simp only [Act.put, List.setIfInBounds_toArray, List.set_cons_zero, List.set_cons_succ]
  refine wpAnyH_take (i := 28) (oi := ?_) (v := ?_) ?_ (by kernel_rfl) (by kernel_rfl) (by kernel_rfl) ?_ ?_ (by assumption) ?_
  rotate_left 2
  · (simp only [List.getElem?_toArray, List.getElem?_cons_zero, List.getElem?_cons_succ]; rfl)
  rotate_left
  · (refine Or.inl ⟨by rfl, ?_⟩; intro w hSw; (try dsimp only at hSw); go_simp; try with_reducible rfl)
  rotate_right
  · exact fun _ _ _ h => h
  simp only [Act.put, List.setIfInBounds_toArray, List.set_cons_zero, List.set_cons_succ]
  refine wpAnyH_take (i := 29) (oi := ?_) (v := ?_) ?_ (by kernel_rfl) (by kernel_rfl) (by kernel_rfl) ?_ ?_ (by assumption) ?_
  rotate_left 2
  · (simp only [List.getElem?_toArray, List.getElem?_cons_zero, List.getElem?_cons_succ]; rfl)
  rotate_left
  · (refine Or.inl ⟨by rfl, ?_⟩; intro w hSw; (try dsimp only at hSw); go_simp; try with_reducible rfl)
  rotate_right
  · exact fun _ _ _ h => h
  simp only [Act.put, List.setIfInBounds_toArray, List.set_cons_zero, List.set_cons_succ]
  refine wpAnyH_take (i := 30) (oi := ?_) (v := ?_) ?_ (by kernel_rfl) (by kernel_rfl) (by kernel_rfl) ?_ ?_ (by assumption) ?_
  rotate_left 2
  · (simp only [List.getElem?_toArray, List.getElem?_cons_zero, List.getElem?_cons_succ]; rfl)
  rotate_left
  · (refine Or.inl ⟨by rfl, ?_⟩; intro w hSw; (try dsimp only at hSw); go_simp; try with_reducible rfl)
  rotate_right
  · exact fun _ _ _ h => h
  simp only [Act.put, List.setIfInBounds_toArray, List.set_cons_zero, List.set_cons_succ]
  refine wpAnyH_take (i := 31) (oi := ?_) (v := ?_) ?_ (by kernel_rfl) (by kernel_rfl) (by kernel_rfl) ?_ ?_ (by assumption) ?_
  rotate_left 2
  · (simp only [List.getElem?_toArray, List.getElem?_cons_zero, List.getElem?_cons_succ]; rfl)
  rotate_left
  · (refine Or.inl ⟨by rfl, ?_⟩; intro w hSw; (try dsimp only at hSw); go_simp; try with_reducible rfl)
  rotate_right
  · exact fun _ _ _ h => h
  simp only [Act.put, List.setIfInBounds_toArray, List.set_cons_zero, List.set_cons_succ]
  refine wpAnyH_take (i := 32) (oi := ?_) (v := ?_) ?_ (by kernel_rfl) (by kernel_rfl) (by kernel_rfl) ?_ ?_ (by assumption) ?_
  rotate_left 2
  · (simp only [List.getElem?_toArray, List.getElem?_cons_zero, List.getElem?_cons_succ]; rfl)
  rotate_left
  · (refine Or.inl ⟨by rfl, ?_⟩; intro w hSw; (try dsimp only at hSw); go_simp; try with_reducible rfl)
  rotate_right
  · exact fun _ _ _ h => h
  simp only [Act.put, List.setIfInBounds_toArray, List.set_cons_zero, List.set_cons_succ]
  refine wpAnyH_take (i := 33) (oi := ?_) (v := ?_) ?_ (by kernel_rfl) (by kernel_rfl) (by kernel_rfl) ?_ ?_ (by assumption) ?_
  rotate_left 2
  · (simp only [List.getElem?_toArray, List.getElem?_cons_zero, List.getElem?_cons_succ]; rfl)
  rotate_left
  · (refine Or.inl ⟨by rfl, ?_⟩; intro w hSw; (try dsimp only at hSw); go_simp; try with_reducible rfl)
  rotate_right
  · exact fun _ _ _ h => h
  simp only [Act.put, List.setIfInBounds_toArray, List.set_cons_zero, List.set_cons_succ]
  refine wpAnyH_take (i := 34) (oi := ?_) (v := ?_) ?_ (by kernel_rfl) (by kernel_rfl) (by kernel_rfl) ?_ ?_ (by assumption) ?_
  rotate_left 2
  · (simp only [List.getElem?_toArray, List.getElem?_cons_zero, List.getElem?_cons_succ]; rfl)
  rotate_left
  · (refine Or.inl ⟨by rfl, ?_⟩; intro w hSw; (try dsimp only at hSw); go_simp; try with_reducible rfl)
  rotate_right
  · exact fun _ _ _ h => h
  simp only [Act.put, List.setIfInBounds_toArray, List.set_cons_zero, List.set_cons_succ]
  refine wpAnyH_take (i := 35) (oi := ?_) (v := ?_) ?_ (by kernel_rfl) (by kernel_rfl) (by kernel_rfl) ?_ ?_ (by assumption) ?_
  rotate_left 2
  · (simp only [List.getElem?_toArray, List.getElem?_cons_zero, List.getElem?_cons_succ]; rfl)
  rotate_left
  · (refine Or.inl ⟨by rfl, ?_⟩; intro w hSw; (try dsimp only at hSw); go_simp; try with_reducible rfl)
  rotate_right
  · exact fun _ _ _ h => h
  simp only [Act.put, List.setIfInBounds_toArray, List.set_cons_zero, List.set_cons_succ]
  refine wpAnyH_take (i := 36) (oi := ?_) (v := ?_) ?_ (by kernel_rfl) (by kernel_rfl) (by kernel_rfl) ?_ ?_ (by assumption) ?_
  rotate_left 2
  · (simp only [List.getElem?_toArray, List.getElem?_cons_zero, List.getElem?_cons_succ]; rfl)
  rotate_left
  · (refine Or.inl ⟨by rfl, ?_⟩; intro w hSw; (try dsimp only at hSw); go_simp; try with_reducible rfl)
  rotate_right
  · exact fun _ _ _ h => h
  simp only [Act.put, List.setIfInBounds_toArray, List.set_cons_zero, List.set_cons_succ]
  refine wpAnyH_take (i := 37) (oi := ?_) (v := ?_) ?_ (by kernel_rfl) (by kernel_rfl) (by kernel_rfl) ?_ ?_ (by assumption) ?_
  rotate_left 2
  · (simp only [List.getElem?_toArray, List.getElem?_cons_zero, List.getElem?_cons_succ]; rfl)
  rotate_left
  · (refine Or.inl ⟨by rfl, ?_⟩; intro w hSw; (try dsimp only at hSw); go_simp; try with_reducible rfl)
  rotate_right
  · exact fun _ _ _ h => h
  simp only [Act.put, List.setIfInBounds_toArray, List.set_cons_zero, List.set_cons_succ]
  refine wpAnyH_take (i := 38) (oi := ?_) (v := ?_) ?_ (by kernel_rfl) (by kernel_rfl) (by kernel_rfl) ?_ ?_ (by assumption) ?_
  rotate_left 2
  · (simp only [List.getElem?_toArray, List.getElem?_cons_zero, List.getElem?_cons_succ]; rfl)
  rotate_left
  · (refine Or.inl ⟨by rfl, ?_⟩; intro w hSw; (try dsimp only at hSw); go_simp; try with_reducible rfl)
  rotate_right
  · exact fun _ _ _ h => h
  simp only [Act.put, List.setIfInBounds_toArray, List.set_cons_zero, List.set_cons_succ]
  refine wpAnyH_take (i := 39) (oi := ?_) (v := ?_) ?_ (by kernel_rfl) (by kernel_rfl) (by kernel_rfl) ?_ ?_ (by assumption) ?_
  rotate_left 2
  · (simp only [List.getElem?_toArray, List.getElem?_cons_zero, List.getElem?_cons_succ]; rfl)
  rotate_left
  · (refine Or.inl ⟨by rfl, ?_⟩; intro w hSw; (try dsimp only at hSw); go_simp; try with_reducible rfl)
  rotate_right
  · exact fun _ _ _ h => h
  simp only [Act.put, List.setIfInBounds_toArray, List.set_cons_zero, List.set_cons_succ]
  refine wpAnyH_take (i := 40) (oi := ?_) (v := ?_) ?_ (by kernel_rfl) (by kernel_rfl) (by kernel_rfl) ?_ ?_ (by assumption) ?_
  rotate_left 2
  · (simp only [List.getElem?_toArray, List.getElem?_cons_zero, List.getElem?_cons_succ]; rfl)
  rotate_left
  · (refine Or.inl ⟨by rfl, ?_⟩; intro w hSw; (try dsimp only at hSw); go_simp; try with_reducible rfl)
  rotate_right
  · exact fun _ _ _ h => h
  simp only [Act.put, List.setIfInBounds_toArray, List.set_cons_zero, List.set_cons_succ]
  refine wpAnyH_take (i := 41) (oi := ?_) (v := ?_) ?_ (by kernel_rfl) (by kernel_rfl) (by kernel_rfl) ?_ ?_ (by assumption) ?_
  rotate_left 2
  · (simp only [List.getElem?_toArray, List.getElem?_cons_zero, List.getElem?_cons_succ]; rfl)
  rotate_left
  · (refine Or.inl ⟨by rfl, ?_⟩; intro w hSw; (try dsimp only at hSw); go_simp; try with_reducible rfl)
  rotate_right
  · exact fun _ _ _ h => h
  simp only [Act.put, List.setIfInBounds_toArray, List.set_cons_zero, List.set_cons_succ]
  refine wpAnyH_take (i := 42) (oi := ?_) (v := ?_) ?_ (by kernel_rfl) (by kernel_rfl) (by kernel_rfl) ?_ ?_ (by assumption) ?_
  rotate_left 2
  · (simp only [List.getElem?_toArray, List.getElem?_cons_zero, List.getElem?_cons_succ]; rfl)
  rotate_left
  · (refine Or.inl ⟨by rfl, ?_⟩; intro w hSw; (try dsimp only at hSw); go_simp; try with_reducible rfl)
  rotate_right
  · exact fun _ _ _ h => h
  simp only [Act.put, List.setIfInBounds_toArray, List.set_cons_zero, List.set_cons_succ]
  refine wpAnyH_ready (rs := [43]) (by kernel_rfl) (by simp) ?_
  refine AllReadyH.cons (o := ?_) ?_ (fun K hK => ?_) AllReadyH.nil
  rotate_left
  · (simp only [List.getElem?_toArray, List.getElem?_cons_zero, List.getElem?_cons_succ]; rfl)
  go_simp
  refine hK.out _ _ (trivial) (fun hHeld => ?_)
  clear hK K
  try simp only [Act.put, List.setIfInBounds_toArray, List.set_cons_zero, List.set_cons_succ]
  refine wpAnyH_ready (rs := [44]) (by kernel_rfl) (by simp) ?_
  refine AllReadyH.cons (o := ?_) ?_ (fun K hK => ?_) AllReadyH.nil
  rotate_left
  · (simp only [List.getElem?_toArray, List.getElem?_cons_zero, List.getElem?_cons_succ]; rfl)
  go_simp
  refine hK.out _ _ (trivial) (fun hHeld => ?_)
  clear hK K
  try simp only [Act.put, List.setIfInBounds_toArray, List.set_cons_zero, List.set_cons_succ]
  refine wpAnyH_done (by kernel_rfl) ?_ _
  have HX3 := Lib.hid (HX2.out.below (((Below.refl w2.heap.size w2).alloc (Nat.le_refl _) (Sc16 x1 x2 x3 x4 x5 x6 x7)).drew) HX2.out.lt)
  have HH3 := Lib.hid ((B7.new w2 x1 x2 x3 x4 x5 x6 x7).below (Below.refl _ _).drew (B7.new w2 x1 x2 x3 x4 x5 x6 x7).lt)
  have HB3 := Lib.hid ((HB2.out.alloc HB2.out.size (Sc16 x1 x2 x3 x4 x5 x6 x7)).drew)
  have HN3 := Lib.hid HX2.out.lt
  obtain ⟨w3, hw3⟩ : ∃ x, x = (w2.alloc (Sc16 x1 x2 x3 x4 x5 x6 x7)).drew := ⟨_, rfl⟩
  rw [← hw3] at HX3 HH3 HB3 ⊢
  clear hw3
  obtain ⟨hb, hhb⟩ : ∃ x, x = w2.heap.size := ⟨_, rfl⟩
  rw [← hhb] at HH3 HN3 ⊢
  clear hhb
  obtain ⟨d0, d1, d2, d3, d4, d5, d6⟩ := HH3.out.cells
  go_wp2_with fail
  refine (HP.out _).mono ?_
  rintro e w9 ⟨rfl, h9⟩
  have HX9 := Lib.hid (HX3.out.below h9 HX3.out.lt)
  have HH9 := Lib.hid (HH3.out.below h9 HH3.out.lt)
  have HB9 := Lib.hid (HB3.out.trans (h9.mono HB3.out.size))
  clear h9 HH3 HX3 HB3 d0 d1 d2 d3 d4 d5 d6
  have hcs := HCS.out
  clear HCS
  rcases hcs with ⟨rfl, e3_⟩ | ⟨rfl, e2, e3_⟩ | ⟨rfl, e2, e3_⟩
  · have e3 := Lib.hid e3_
    clear e3_
    obtain ⟨d0, d1, d2, d3, d4, d5, d6⟩ := B7.cells HH9.out
    obtain ⟨c0, c1, c2, c3, c4, c5, c6⟩ := B7.cells HX9.out
    obtain ⟨f0, f1, f2, f3, f4, f5, f6⟩ := B7.frozen HX9.out
    have hne1 : (hb == w.heap.size) = false := by rw [beq_eq_false_iff_ne]; have := HN3.out; omega
    go_wp2_with fail
    exact bodyPost_ret (v := .tuple #[.agg #[.int .i64 0, .int .i64 0, .int .i64 0, .int .i64 0, .int .i64 0, .int .i64 0, .int .i64 0], .int .i64 4]) (by simp [results, Tryz.results12, go_sem, *]) rfl ⟨M.sgot_of e3.out, by (repeat refine Below.setCell ?_ (by simp) _); exact HB9.out⟩
  · have e3 := Lib.hid e3_
    clear e3_
    obtain ⟨d0, d1, d2, d3, d4, d5, d6⟩ := B7.cells HH9.out
    obtain ⟨c0, c1, c2, c3, c4, c5, c6⟩ := B7.cells HX9.out
    obtain ⟨f0, f1, f2, f3, f4, f5, f6⟩ := B7.frozen HX9.out
    have hne1 : (hb == w.heap.size) = false := by rw [beq_eq_false_iff_ne]; have := HN3.out; omega
    go_wp2_with fail
    exact bodyPost_ret (v := .tuple #[.agg #[.int .i64 0, .int .i64 0, .int .i64 0, .int .i64 0, .int .i64 0, .int .i64 0, .int .i64 0], .int .i64 4]) (by simp [results, Tryz.results12, go_sem, *]) rfl ⟨M.sgot_of e3.out, by (repeat refine Below.setCell ?_ (by simp) _); exact HB9.out⟩
  · have e3 := Lib.hid e3_
    clear e3_
    obtain ⟨d0, d1, d2, d3, d4, d5, d6⟩ := B7.cells HH9.out
    obtain ⟨c0, c1, c2, c3, c4, c5, c6⟩ := B7.cells HX9.out
    obtain ⟨f0, f1, f2, f3, f4, f5, f6⟩ := B7.frozen HX9.out
    have hne1 : (hb == w.heap.size) = false := by rw [beq_eq_false_iff_ne]; have := HN3.out; omega
    go_wp2_with fail
    exact bodyPost_ret (v := .tuple #[Sv x1 x2 x3 x4 x5 x6 x7, .int .i64 0]) (by simp [results, Tryz.results12, go_sem, *]) rfl ⟨M.sgot_of e3.out, by (repeat refine Below.setCell ?_ (by simp) _); exact HB9.out⟩

theorem rsget16_any (t : ByteArray) (w : World) :
    Calls Tryz.prog 12 #[.string t] w fun e w' => e = .returned (M.sgot (M.sget t)) ∧ Below w.heap.size w w' := by
  by_cases h : t.size = 64
  · by_cases h1 : t.extract 0 1 = ⟨#[83]⟩
    · by_cases h2 : t.extract 12 16 = M.tail (t.extract 0 12)
      · exact rsget16_full t w h h1 h2
      · exact rsget16_sum t w h h1 h2
    · exact rsget16_form t w h h1
  · exact rsget16_size t w h
end Go.Proofs.YtiflhbjhnonidaaGreatDoor
