/-
  Walks over solderref10.Get.
-/
import Derived.Test.YtdegfkhbcgnmmaaDoorJGet
namespace Go.Proofs.YtdegfkhbcgnmmaaDoor
open Go.RowKit

theorem M.ex_one (s : ByteArray) (h : 0 < s.size) : s.extract 0 1 = ⟨#[s[0]'h]⟩ := by
  apply M.ba_ext
  rw [M.ex_list]
  have l : 0 < s.data.toList.length := h
  rw [List.drop_eq_getElem_cons l]
  rfl
theorem M.ex_one_eq (s : ByteArray) (h : 0 < s.size) (c : UInt8) : s.extract 0 1 = ⟨#[c]⟩ ↔ s[0]'h = c := by
  rw [M.ex_one s h]
  constructor
  · intro e
    injection e with e
    simpa using e
  · intro e; rw [e]
theorem u8_eq (c : UInt8) (n : Nat) (h : n < 256) : ((c.toNat : Int) == (n : Int)) = decide (c = UInt8.ofNat n) := by
  rw [Bool.eq_iff_iff, beq_iff_eq, decide_eq_true_eq]
  constructor
  · intro e
    have e' : c.toNat = n := by omega
    rw [← e']
    simp
  · intro e
    rw [e]
    simp
    omega

set_option maxHeartbeats 2000000 in
theorem rget10_size (s : ByteArray) (w : World) (h : s.size ≠ 64) :
    Calls Tryd.prog 11 #[.string s] w fun e w' => e = .returned (M.hgot (M.hget s)) ∧ Below w.heap.size w w' := by
  have HR : Hid (M.hget s = (⟨0, 0, 0⟩, 12)) := by show _ = _; unfold M.hget; rw [if_pos h]; rfl
  have hd : ((s.size : Int) == 64) = false := by rw [beq_eq_false_iff_ne]; omega
  have hd' : ((s.size : Int) != 64) = true := by rw [bne, hd]; rfl
  clear h
  go_enter Tryd.func11, Tryd.ntmps11
  go_wp2_with fail
  exact bodyPost_ret (v := .tuple #[.agg #[.int .i64 0, .int .i64 0, .int .i64 0], .int .i64 12]) (by simp [results, Tryd.results11, go_sem, *]) rfl ⟨M.hgot_of HR.out, below1 _ _⟩

set_option maxHeartbeats 2000000 in
theorem rget10_form (s : ByteArray) (w : World) (h : s.size = 64) (h1 : s.extract 0 1 ≠ ⟨#[76]⟩) :
    Calls Tryd.prog 11 #[.string s] w fun e w' => e = .returned (M.hgot (M.hget s)) ∧ Below w.heap.size w w' := by
  have HR : Hid (M.hget s = (⟨0, 0, 0⟩, 4)) := by show _ = _; unfold M.hget; rw [if_neg (by simpa using h), if_pos h1]; rfl
  have hd : ((s.size : Int) == 64) = true := by rw [beq_iff_eq]; omega
  have hd' : ((s.size : Int) != 64) = false := by rw [bne, hd]; rfl
  have hlt : 0 < s.size := by omega
  obtain ⟨c, hc⟩ : ∃ c, c = s[0]'hlt := ⟨_, rfl⟩
  have x0 : ∀ h : 0 < s.size, s[0]'h = c := fun _ => hc.symm
  have he : ((c.toNat : Int) == 76) = decide (c = 76) := u8_eq c 76 (by decide)
  rw [decide_eq_false (fun e => h1 ((M.ex_one_eq s hlt 76).2 (hc.symm.trans e)))] at he
  have he1 : ((c.toNat : Int) == 76) = false := he
  have he2 : ((c.toNat : Int) != 76) = true := by rw [bne, he1]; rfl
  clear h h1 hc he
  go_enter Tryd.func11, Tryd.ntmps11
  go_wp2_with fail
  exact bodyPost_ret (v := .tuple #[.agg #[.int .i64 0, .int .i64 0, .int .i64 0], .int .i64 4]) (by simp [results, Tryd.results11, go_sem, *]) rfl ⟨M.hgot_of HR.out, below1 _ _⟩

set_option maxHeartbeats 2000000 in
theorem rget10_sum (s : ByteArray) (w : World) (h : s.size = 64) (h1 : s.extract 0 1 = ⟨#[76]⟩) (h2 : s.extract 15 19 ≠ M.tail (s.extract 0 15)) :
    Calls Tryd.prog 11 #[.string s] w fun e w' => e = .returned (M.hgot (M.hget s)) ∧ Below w.heap.size w w' := by
  have HR : Hid (M.hget s = (⟨0, 0, 0⟩, 5)) := by show _ = _; unfold M.hget; rw [if_neg (by simpa using h), if_neg (by simpa using h1), if_pos h2]; rfl
  have hd : ((s.size : Int) == 64) = true := by rw [beq_iff_eq]; omega
  have hd' : ((s.size : Int) != 64) = false := by rw [bne, hd]; rfl
  have hlt : 0 < s.size := by omega
  obtain ⟨c, hc⟩ : ∃ c, c = s[0]'hlt := ⟨_, rfl⟩
  have x0 : ∀ h : 0 < s.size, s[0]'h = c := fun _ => hc.symm
  have he : ((c.toNat : Int) == 76) = decide (c = 76) := u8_eq c 76 (by decide)
  have hne := ne_of_toList h2
  rw [decide_eq_true (hc.trans ((M.ex_one_eq s hlt 76).1 h1))] at he
  have he1 : ((c.toNat : Int) == 76) = true := he
  have he2 : ((c.toNat : Int) != 76) = false := by rw [bne, he1]; rfl
  have HC5 := Lib.hid (fun x => rtail10 (s.extract 0 15) x (by rw [ByteArray.size_extract]; omega))
  obtain ⟨x, hx⟩ : ∃ x, x = s.extract 15 19 := ⟨_, rfl⟩
  obtain ⟨t, ht⟩ : ∃ x, x = M.tail (s.extract 0 15) := ⟨_, rfl⟩
  rw [← ht] at HC5
  rw [← hx, ← ht] at hne
  have hle : (15 : Int) ≤ (s.size : Int) := by omega
  have hle2 : (19 : Int) ≤ (s.size : Int) := by omega
  have hle3 : (7 : Int) ≤ (s.size : Int) := by omega
  have hle4 : (13 : Int) ≤ (s.size : Int) := by omega
  rw [hx] at hne
  clear h h1 h2 hc he hx ht
  go_enter Tryd.func11, Tryd.ntmps11
  go_wp2_with fail
  have HX := Lib.hid (B3.new w 23 0 0 0)
  have HB := Lib.hid (below1 w (.cells #[.int .i64 0, .int .i64 0, .int .i64 0] 23))
  obtain ⟨w1, hw1⟩ : ∃ x, x = w.alloc (.cells #[.int .i64 0, .int .i64 0, .int .i64 0] 23) := ⟨_, rfl⟩
  rw [← hw1] at HX HB ⊢
  clear hw1
  go_region_held3 (fun _ => True) (first | trivial)
    (first
      | (go_at_call 21; refine (HC5.out _).mono ?_; rintro e w2 ⟨rfl, h2⟩; have HX2 := Lib.hid ((show B3 _ w.heap.size _ 0 0 0 by first | exact HX.out | exact HX.out.below (Below.refl _ _).drew HX.out.lt).below h2 HX.out.lt); have HB2 : Hid (Below w.heap.size w w2) := (by show Below _ _ _; first | exact HB.out.trans (h2.mono HB.out.size) | exact HB.out.drew.trans (h2.mono HB.out.size)); clear h2))
  obtain ⟨c0, c1, c2⟩ := HX2.out.cells
  obtain ⟨f0, f1, f2⟩ := HX2.out.frozen
  go_wp2_with fail
  exact bodyPost_ret (v := .tuple #[.agg #[.int .i64 0, .int .i64 0, .int .i64 0], .int .i64 5]) (by simp [results, Tryd.results11, go_sem, *]) rfl ⟨M.hgot_of HR.out, by (repeat refine Below.setCell ?_ (by simp) _); exact HB2.out⟩

set_option maxHeartbeats 2000000 in
theorem rget10_not (s : ByteArray) (w : World) (h : s.size = 64) (h1 : s.extract 0 1 = ⟨#[76]⟩) (h2 : s.extract 15 19 = M.tail (s.extract 0 15)) (h3 : ¬ M.hmay (M.hread s) = true) :
    Calls Tryd.prog 11 #[.string s] w fun e w' => e = .returned (M.hgot (M.hget s)) ∧ Below w.heap.size w w' := by
  have HR : Hid (M.hget s = (⟨0, 0, 0⟩, 4)) := by show _ = _; unfold M.hget; rw [if_neg (by simpa using h), if_neg (by simpa using h1), if_neg (by simpa using h2), if_neg (fun e => h3 e.1)]; rfl
  have hd : ((s.size : Int) == 64) = true := by rw [beq_iff_eq]; omega
  have hd' : ((s.size : Int) != 64) = false := by rw [bne, hd]; rfl
  have hlt : 0 < s.size := by omega
  obtain ⟨c, hc⟩ : ∃ c, c = s[0]'hlt := ⟨_, rfl⟩
  have x0 : ∀ h : 0 < s.size, s[0]'h = c := fun _ => hc.symm
  have he : ((c.toNat : Int) == 76) = decide (c = 76) := u8_eq c 76 (by decide)
  have hne : ((s.extract 15 19).toList == (M.tail (s.extract 0 15)).toList) = true := by rw [h2]; exact str_eq_self _
  have HP := Lib.hid (fun x => rput10_any (M.hnum s 1 7) (M.hnum s 7 13) (M.hnum s 13 15) x)
  have HN1 : Hid (∀ y, Calls Tryd.prog 25 #[.string (s.extract 1 7)] y fun e w' => e = .returned (.int .i64 (M.hnum s 1 7)) ∧ w' = y) := fun y => number10_any _ (by rw [ByteArray.size_extract]; omega) y
  have HN2 : Hid (∀ y, Calls Tryd.prog 25 #[.string (s.extract 7 13)] y fun e w' => e = .returned (.int .i64 (M.hnum s 7 13)) ∧ w' = y) := fun y => number10_any _ (by rw [ByteArray.size_extract]; omega) y
  have HN3 : Hid (∀ y, Calls Tryd.prog 25 #[.string (s.extract 13 15)] y fun e w' => e = .returned (.int .i64 (M.hnum s 13 15)) ∧ w' = y) := fun y => number10_any _ (by rw [ByteArray.size_extract]; omega) y
  have h3' : M.hput ⟨M.hnum s 1 7, M.hnum s 7 13, M.hnum s 13 15⟩ = .tuple #[.string ⟨#[]⟩, .int .i64 3] := by unfold M.hput; exact if_neg h3
  rw [h3'] at HP
  clear h3'
  rw [decide_eq_true (hc.trans ((M.ex_one_eq s hlt 76).1 h1))] at he
  have he1 : ((c.toNat : Int) == 76) = true := he
  have he2 : ((c.toNat : Int) != 76) = false := by rw [bne, he1]; rfl
  have HC5 := Lib.hid (fun x => rtail10 (s.extract 0 15) x (by rw [ByteArray.size_extract]; omega))
  obtain ⟨x, hx⟩ : ∃ x, x = s.extract 15 19 := ⟨_, rfl⟩
  obtain ⟨t, ht⟩ : ∃ x, x = M.tail (s.extract 0 15) := ⟨_, rfl⟩
  rw [← ht] at HC5
  rw [← hx, ← ht] at hne
  have hle : (15 : Int) ≤ (s.size : Int) := by omega
  have hle2 : (19 : Int) ≤ (s.size : Int) := by omega
  have hle3 : (7 : Int) ≤ (s.size : Int) := by omega
  have hle4 : (13 : Int) ≤ (s.size : Int) := by omega
  rw [hx] at hne
  obtain ⟨g, hg⟩ : ∃ x, x = M.hnum s 1 7 := ⟨_, rfl⟩
  obtain ⟨q, hq⟩ : ∃ x, x = M.hnum s 7 13 := ⟨_, rfl⟩
  obtain ⟨a, ha⟩ : ∃ x, x = M.hnum s 13 15 := ⟨_, rfl⟩
  rw [← hg] at HN1 HP
  rw [← hq] at HN2 HP
  rw [← ha] at HN3 HP
  clear h h1 h2 h3 hc he hx ht hg hq ha
  go_enter Tryd.func11, Tryd.ntmps11
  go_wp2_with fail
  have HX := Lib.hid (B3.new w 23 0 0 0)
  have HB := Lib.hid (below1 w (.cells #[.int .i64 0, .int .i64 0, .int .i64 0] 23))
  obtain ⟨w1, hw1⟩ : ∃ x, x = w.alloc (.cells #[.int .i64 0, .int .i64 0, .int .i64 0] 23) := ⟨_, rfl⟩
  rw [← hw1] at HX HB ⊢
  clear hw1
  go_region_held3 (fun _ => True) (first | trivial)
    (first
      | (go_at_call 21; refine (HC5.out _).mono ?_; rintro e w2 ⟨rfl, h2⟩; have HX2 := Lib.hid ((show B3 _ w.heap.size _ 0 0 0 by first | exact HX.out | exact HX.out.below (Below.refl _ _).drew HX.out.lt).below h2 HX.out.lt); have HB2 : Hid (Below w.heap.size w w2) := (by show Below _ _ _; first | exact HB.out.trans (h2.mono HB.out.size) | exact HB.out.drew.trans (h2.mono HB.out.size)); clear h2))
  go_wp2_with fail
  go_region_held3 (fun _ => True) (first | trivial) (first
      | (go_at_call 25; with_reducible refine (HN1.out _).mono ?_; rintro e w3 ⟨rfl, rfl⟩)
      | (go_at_call 25; with_reducible refine (HN2.out _).mono ?_; rintro e w4 ⟨rfl, rfl⟩)
      | (go_at_call 25; with_reducible refine (HN3.out _).mono ?_; rintro e w5 ⟨rfl, rfl⟩))
  all_goals
    have HX3 := Lib.hid (HX2.out.below (((Below.refl w2.heap.size w2).alloc (Nat.le_refl _) (.cells #[.int .i64 g, .int .i64 q, .int .i64 a] 23)).drew) HX2.out.lt)
    have HH3 := Lib.hid ((B3.new w2 23 g q a).below (Below.refl _ _).drew (B3.new w2 23 g q a).lt)
    have HB3 := Lib.hid ((HB2.out.alloc HB2.out.size (.cells #[.int .i64 g, .int .i64 q, .int .i64 a] 23)).drew)
    have HN3 := Lib.hid HX2.out.lt
    obtain ⟨w3, hw3⟩ : ∃ x, x = (w2.alloc (.cells #[.int .i64 g, .int .i64 q, .int .i64 a] 23)).drew := ⟨_, rfl⟩
    rw [← hw3] at HX3 HH3 HB3 ⊢
    clear hw3
    obtain ⟨hb, hhb⟩ : ∃ x, x = w2.heap.size := ⟨_, rfl⟩
    rw [← hhb] at HH3 HN3 ⊢
    clear hhb
    obtain ⟨c0, c1, c2⟩ := HH3.out.cells
    go_wp2_with fail
    refine (HP.out _).mono ?_
    rintro e w9 ⟨rfl, h9⟩
    have HX9 := Lib.hid (HX3.out.below h9 HX3.out.lt)
    have HH9 := Lib.hid (HH3.out.below h9 HH3.out.lt)
    have HB9 := Lib.hid (HB3.out.trans (h9.mono HB3.out.size))
    clear h9 HH3 HX3 HB3 c0 c1 c2
    obtain ⟨c0, c1, c2⟩ := HX9.out.cells
    obtain ⟨f0, f1, f2⟩ := HX9.out.frozen
    go_wp2_with fail
    exact bodyPost_ret (v := .tuple #[.agg #[.int .i64 0, .int .i64 0, .int .i64 0], .int .i64 4]) (by simp [results, Tryd.results11, go_sem, *]) rfl ⟨M.hgot_of HR.out, by (repeat refine Below.setCell ?_ (by simp) _); exact HB9.out⟩

set_option maxHeartbeats 2000000 in
theorem rget10_other (s : ByteArray) (w : World) (h : s.size = 64) (h1 : s.extract 0 1 = ⟨#[76]⟩) (h2 : s.extract 15 19 = M.tail (s.extract 0 15)) (h3 : M.hmay (M.hread s) = true) (h4 : M.hwhole (M.hread s) ≠ s) :
    Calls Tryd.prog 11 #[.string s] w fun e w' => e = .returned (M.hgot (M.hget s)) ∧ Below w.heap.size w w' := by
  have HR : Hid (M.hget s = (⟨0, 0, 0⟩, 4)) := by show _ = _; unfold M.hget; rw [if_neg (by simpa using h), if_neg (by simpa using h1), if_neg (by simpa using h2), if_neg (fun e => h4 e.2)]; rfl
  have hd : ((s.size : Int) == 64) = true := by rw [beq_iff_eq]; omega
  have hd' : ((s.size : Int) != 64) = false := by rw [bne, hd]; rfl
  have hlt : 0 < s.size := by omega
  obtain ⟨c, hc⟩ : ∃ c, c = s[0]'hlt := ⟨_, rfl⟩
  have x0 : ∀ h : 0 < s.size, s[0]'h = c := fun _ => hc.symm
  have he : ((c.toNat : Int) == 76) = decide (c = 76) := u8_eq c 76 (by decide)
  have hne : ((s.extract 15 19).toList == (M.tail (s.extract 0 15)).toList) = true := by rw [h2]; exact str_eq_self _
  have HP := Lib.hid (fun x => rput10_any (M.hnum s 1 7) (M.hnum s 7 13) (M.hnum s 13 15) x)
  have HN1 : Hid (∀ y, Calls Tryd.prog 25 #[.string (s.extract 1 7)] y fun e w' => e = .returned (.int .i64 (M.hnum s 1 7)) ∧ w' = y) := fun y => number10_any _ (by rw [ByteArray.size_extract]; omega) y
  have HN2 : Hid (∀ y, Calls Tryd.prog 25 #[.string (s.extract 7 13)] y fun e w' => e = .returned (.int .i64 (M.hnum s 7 13)) ∧ w' = y) := fun y => number10_any _ (by rw [ByteArray.size_extract]; omega) y
  have HN3 : Hid (∀ y, Calls Tryd.prog 25 #[.string (s.extract 13 15)] y fun e w' => e = .returned (.int .i64 (M.hnum s 13 15)) ∧ w' = y) := fun y => number10_any _ (by rw [ByteArray.size_extract]; omega) y
  have h3' : M.hput ⟨M.hnum s 1 7, M.hnum s 7 13, M.hnum s 13 15⟩ = .tuple #[.string (M.hwhole (M.hread s)), .int .i64 0] := by unfold M.hput; exact if_pos h3
  rw [h3'] at HP
  have hweq : ((M.hwhole (M.hread s)).toList == s.toList) = false := ne_of_toList h4
  obtain ⟨u, hu⟩ : ∃ x, x = M.hwhole (M.hread s) := ⟨_, rfl⟩
  rw [← hu] at HP hweq
  clear h3' h4 hu
  rw [decide_eq_true (hc.trans ((M.ex_one_eq s hlt 76).1 h1))] at he
  have he1 : ((c.toNat : Int) == 76) = true := he
  have he2 : ((c.toNat : Int) != 76) = false := by rw [bne, he1]; rfl
  have HC5 := Lib.hid (fun x => rtail10 (s.extract 0 15) x (by rw [ByteArray.size_extract]; omega))
  obtain ⟨x, hx⟩ : ∃ x, x = s.extract 15 19 := ⟨_, rfl⟩
  obtain ⟨t, ht⟩ : ∃ x, x = M.tail (s.extract 0 15) := ⟨_, rfl⟩
  rw [← ht] at HC5
  rw [← hx, ← ht] at hne
  have hle : (15 : Int) ≤ (s.size : Int) := by omega
  have hle2 : (19 : Int) ≤ (s.size : Int) := by omega
  have hle3 : (7 : Int) ≤ (s.size : Int) := by omega
  have hle4 : (13 : Int) ≤ (s.size : Int) := by omega
  rw [hx] at hne
  obtain ⟨g, hg⟩ : ∃ x, x = M.hnum s 1 7 := ⟨_, rfl⟩
  obtain ⟨q, hq⟩ : ∃ x, x = M.hnum s 7 13 := ⟨_, rfl⟩
  obtain ⟨a, ha⟩ : ∃ x, x = M.hnum s 13 15 := ⟨_, rfl⟩
  rw [← hg] at HN1 HP
  rw [← hq] at HN2 HP
  rw [← ha] at HN3 HP
  clear h h1 h2 h3 hc he hx ht hg hq ha
  go_enter Tryd.func11, Tryd.ntmps11
  go_wp2_with fail
  have HX := Lib.hid (B3.new w 23 0 0 0)
  have HB := Lib.hid (below1 w (.cells #[.int .i64 0, .int .i64 0, .int .i64 0] 23))
  obtain ⟨w1, hw1⟩ : ∃ x, x = w.alloc (.cells #[.int .i64 0, .int .i64 0, .int .i64 0] 23) := ⟨_, rfl⟩
  rw [← hw1] at HX HB ⊢
  clear hw1
  go_region_held3 (fun _ => True) (first | trivial)
    (first
      | (go_at_call 21; refine (HC5.out _).mono ?_; rintro e w2 ⟨rfl, h2⟩; have HX2 := Lib.hid ((show B3 _ w.heap.size _ 0 0 0 by first | exact HX.out | exact HX.out.below (Below.refl _ _).drew HX.out.lt).below h2 HX.out.lt); have HB2 : Hid (Below w.heap.size w w2) := (by show Below _ _ _; first | exact HB.out.trans (h2.mono HB.out.size) | exact HB.out.drew.trans (h2.mono HB.out.size)); clear h2))
  go_wp2_with fail
  go_region_held3 (fun _ => True) (first | trivial) (first
      | (go_at_call 25; with_reducible refine (HN1.out _).mono ?_; rintro e w3 ⟨rfl, rfl⟩)
      | (go_at_call 25; with_reducible refine (HN2.out _).mono ?_; rintro e w4 ⟨rfl, rfl⟩)
      | (go_at_call 25; with_reducible refine (HN3.out _).mono ?_; rintro e w5 ⟨rfl, rfl⟩))
  all_goals
    have HX3 := Lib.hid (HX2.out.below (((Below.refl w2.heap.size w2).alloc (Nat.le_refl _) (.cells #[.int .i64 g, .int .i64 q, .int .i64 a] 23)).drew) HX2.out.lt)
    have HH3 := Lib.hid ((B3.new w2 23 g q a).below (Below.refl _ _).drew (B3.new w2 23 g q a).lt)
    have HB3 := Lib.hid ((HB2.out.alloc HB2.out.size (.cells #[.int .i64 g, .int .i64 q, .int .i64 a] 23)).drew)
    have HN3 := Lib.hid HX2.out.lt
    obtain ⟨w3, hw3⟩ : ∃ x, x = (w2.alloc (.cells #[.int .i64 g, .int .i64 q, .int .i64 a] 23)).drew := ⟨_, rfl⟩
    rw [← hw3] at HX3 HH3 HB3 ⊢
    clear hw3
    obtain ⟨hb, hhb⟩ : ∃ x, x = w2.heap.size := ⟨_, rfl⟩
    rw [← hhb] at HH3 HN3 ⊢
    clear hhb
    obtain ⟨c0, c1, c2⟩ := HH3.out.cells
    go_wp2_with fail
    refine (HP.out _).mono ?_
    rintro e w9 ⟨rfl, h9⟩
    have HX9 := Lib.hid (HX3.out.below h9 HX3.out.lt)
    have HH9 := Lib.hid (HH3.out.below h9 HH3.out.lt)
    have HB9 := Lib.hid (HB3.out.trans (h9.mono HB3.out.size))
    clear h9 HH3 HX3 HB3 c0 c1 c2
    obtain ⟨c0, c1, c2⟩ := HX9.out.cells
    obtain ⟨f0, f1, f2⟩ := HX9.out.frozen
    go_wp2_with fail
    exact bodyPost_ret (v := .tuple #[.agg #[.int .i64 0, .int .i64 0, .int .i64 0], .int .i64 4]) (by simp [results, Tryd.results11, go_sem, *]) rfl ⟨M.hgot_of HR.out, by (repeat refine Below.setCell ?_ (by simp) _); exact HB9.out⟩

set_option maxHeartbeats 2000000 in
theorem rget10_good (s : ByteArray) (w : World) (h : s.size = 64) (h1 : s.extract 0 1 = ⟨#[76]⟩) (h2 : s.extract 15 19 = M.tail (s.extract 0 15)) (h3 : M.hmay (M.hread s) = true) (h4 : M.hwhole (M.hread s) = s) :
    Calls Tryd.prog 11 #[.string s] w fun e w' => e = .returned (M.hgot (M.hget s)) ∧ Below w.heap.size w w' := by
  have HR : Hid (M.hget s = (M.hread s, 0)) := by show _ = _; unfold M.hget; rw [if_neg (by simpa using h), if_neg (by simpa using h1), if_neg (by simpa using h2), if_pos ⟨h3, h4⟩]
  unfold M.hread at HR
  have hd : ((s.size : Int) == 64) = true := by rw [beq_iff_eq]; omega
  have hd' : ((s.size : Int) != 64) = false := by rw [bne, hd]; rfl
  have hlt : 0 < s.size := by omega
  obtain ⟨c, hc⟩ : ∃ c, c = s[0]'hlt := ⟨_, rfl⟩
  have x0 : ∀ h : 0 < s.size, s[0]'h = c := fun _ => hc.symm
  have he : ((c.toNat : Int) == 76) = decide (c = 76) := u8_eq c 76 (by decide)
  have hne : ((s.extract 15 19).toList == (M.tail (s.extract 0 15)).toList) = true := by rw [h2]; exact str_eq_self _
  have HP := Lib.hid (fun x => rput10_any (M.hnum s 1 7) (M.hnum s 7 13) (M.hnum s 13 15) x)
  have HN1 : Hid (∀ y, Calls Tryd.prog 25 #[.string (s.extract 1 7)] y fun e w' => e = .returned (.int .i64 (M.hnum s 1 7)) ∧ w' = y) := fun y => number10_any _ (by rw [ByteArray.size_extract]; omega) y
  have HN2 : Hid (∀ y, Calls Tryd.prog 25 #[.string (s.extract 7 13)] y fun e w' => e = .returned (.int .i64 (M.hnum s 7 13)) ∧ w' = y) := fun y => number10_any _ (by rw [ByteArray.size_extract]; omega) y
  have HN3 : Hid (∀ y, Calls Tryd.prog 25 #[.string (s.extract 13 15)] y fun e w' => e = .returned (.int .i64 (M.hnum s 13 15)) ∧ w' = y) := fun y => number10_any _ (by rw [ByteArray.size_extract]; omega) y
  have h3' : M.hput ⟨M.hnum s 1 7, M.hnum s 7 13, M.hnum s 13 15⟩ = .tuple #[.string (M.hwhole (M.hread s)), .int .i64 0] := by unfold M.hput; exact if_pos h3
  rw [h3'] at HP
  have hweq : ((M.hwhole (M.hread s)).toList == s.toList) = true := by rw [h4]; exact str_eq_self _
  obtain ⟨u, hu⟩ : ∃ x, x = M.hwhole (M.hread s) := ⟨_, rfl⟩
  rw [← hu] at HP hweq
  clear h3' h4 hu
  rw [decide_eq_true (hc.trans ((M.ex_one_eq s hlt 76).1 h1))] at he
  have he1 : ((c.toNat : Int) == 76) = true := he
  have he2 : ((c.toNat : Int) != 76) = false := by rw [bne, he1]; rfl
  have HC5 := Lib.hid (fun x => rtail10 (s.extract 0 15) x (by rw [ByteArray.size_extract]; omega))
  obtain ⟨x, hx⟩ : ∃ x, x = s.extract 15 19 := ⟨_, rfl⟩
  obtain ⟨t, ht⟩ : ∃ x, x = M.tail (s.extract 0 15) := ⟨_, rfl⟩
  rw [← ht] at HC5
  rw [← hx, ← ht] at hne
  have hle : (15 : Int) ≤ (s.size : Int) := by omega
  have hle2 : (19 : Int) ≤ (s.size : Int) := by omega
  have hle3 : (7 : Int) ≤ (s.size : Int) := by omega
  have hle4 : (13 : Int) ≤ (s.size : Int) := by omega
  rw [hx] at hne
  obtain ⟨g, hg⟩ : ∃ x, x = M.hnum s 1 7 := ⟨_, rfl⟩
  obtain ⟨q, hq⟩ : ∃ x, x = M.hnum s 7 13 := ⟨_, rfl⟩
  obtain ⟨a, ha⟩ : ∃ x, x = M.hnum s 13 15 := ⟨_, rfl⟩
  rw [← hg] at HN1 HP HR
  rw [← hq] at HN2 HP HR
  rw [← ha] at HN3 HP HR
  clear h h1 h2 h3 hc he hx ht hg hq ha
  go_enter Tryd.func11, Tryd.ntmps11
  go_wp2_with fail
  have HX := Lib.hid (B3.new w 23 0 0 0)
  have HB := Lib.hid (below1 w (.cells #[.int .i64 0, .int .i64 0, .int .i64 0] 23))
  obtain ⟨w1, hw1⟩ : ∃ x, x = w.alloc (.cells #[.int .i64 0, .int .i64 0, .int .i64 0] 23) := ⟨_, rfl⟩
  rw [← hw1] at HX HB ⊢
  clear hw1
  go_region_held3 (fun _ => True) (first | trivial)
    (first
      | (go_at_call 21; refine (HC5.out _).mono ?_; rintro e w2 ⟨rfl, h2⟩; have HX2 := Lib.hid ((show B3 _ w.heap.size _ 0 0 0 by first | exact HX.out | exact HX.out.below (Below.refl _ _).drew HX.out.lt).below h2 HX.out.lt); have HB2 : Hid (Below w.heap.size w w2) := (by show Below _ _ _; first | exact HB.out.trans (h2.mono HB.out.size) | exact HB.out.drew.trans (h2.mono HB.out.size)); clear h2))
  go_wp2_with fail
  go_region_held3 (fun _ => True) (first | trivial) (first
      | (go_at_call 25; with_reducible refine (HN1.out _).mono ?_; rintro e w3 ⟨rfl, rfl⟩)
      | (go_at_call 25; with_reducible refine (HN2.out _).mono ?_; rintro e w4 ⟨rfl, rfl⟩)
      | (go_at_call 25; with_reducible refine (HN3.out _).mono ?_; rintro e w5 ⟨rfl, rfl⟩))
  all_goals
    have HX3 := Lib.hid (HX2.out.below (((Below.refl w2.heap.size w2).alloc (Nat.le_refl _) (.cells #[.int .i64 g, .int .i64 q, .int .i64 a] 23)).drew) HX2.out.lt)
    have HH3 := Lib.hid ((B3.new w2 23 g q a).below (Below.refl _ _).drew (B3.new w2 23 g q a).lt)
    have HB3 := Lib.hid ((HB2.out.alloc HB2.out.size (.cells #[.int .i64 g, .int .i64 q, .int .i64 a] 23)).drew)
    have HN3 := Lib.hid HX2.out.lt
    obtain ⟨w3, hw3⟩ : ∃ x, x = (w2.alloc (.cells #[.int .i64 g, .int .i64 q, .int .i64 a] 23)).drew := ⟨_, rfl⟩
    rw [← hw3] at HX3 HH3 HB3 ⊢
    clear hw3
    obtain ⟨hb, hhb⟩ : ∃ x, x = w2.heap.size := ⟨_, rfl⟩
    rw [← hhb] at HH3 HN3 ⊢
    clear hhb
    obtain ⟨c0, c1, c2⟩ := HH3.out.cells
    go_wp2_with fail
    refine (HP.out _).mono ?_
    rintro e w9 ⟨rfl, h9⟩
    have HX9 := Lib.hid (HX3.out.below h9 HX3.out.lt)
    have HH9 := Lib.hid (HH3.out.below h9 HH3.out.lt)
    have HB9 := Lib.hid (HB3.out.trans (h9.mono HB3.out.size))
    clear h9 HH3 HX3 HB3 c0 c1 c2
    obtain ⟨d0, d1, d2⟩ := HH9.out.cells
    obtain ⟨c0, c1, c2⟩ := HX9.out.cells
    obtain ⟨f0, f1, f2⟩ := HX9.out.frozen
    go_wp2_with fail
    exact bodyPost_ret (v := .tuple #[.agg #[.int .i64 g, .int .i64 q, .int .i64 a], .int .i64 0]) (by simp [results, Tryd.results11, go_sem, *]) rfl ⟨M.hgot_of HR.out, by (repeat refine Below.setCell ?_ (by simp) _); exact HB9.out⟩

theorem rget10_any (s : ByteArray) (w : World) :
    Calls Tryd.prog 11 #[.string s] w fun e w' => e = .returned (M.hgot (M.hget s)) ∧ Below w.heap.size w w' := by
  by_cases h : s.size = 64
  · by_cases h1 : s.extract 0 1 = ⟨#[76]⟩
    · by_cases h2 : s.extract 15 19 = M.tail (s.extract 0 15)
      · by_cases h3 : M.hmay (M.hread s) = true
        · by_cases h4 : M.hwhole (M.hread s) = s
          · exact rget10_good s w h h1 h2 h3 h4
          · exact rget10_other s w h h1 h2 h3 h4
        · exact rget10_not s w h h1 h2 h3
      · exact rget10_sum s w h h1 h2
    · exact rget10_form s w h h1
  · exact rget10_size s w h
end Go.Proofs.YtdegfkhbcgnmmaaDoor
