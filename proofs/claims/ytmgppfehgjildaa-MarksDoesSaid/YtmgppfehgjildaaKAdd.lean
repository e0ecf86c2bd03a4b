/-
  Walks over marks.Add and Remove.
-/
import Derived.Test.YtmgppfehgjildaaKBase
namespace Go.Proofs.Ytmgppfehgjildaa
open Go.RowKit

/-- What Add answers, and the set behind it. -/
def M.addB (m : Nat) (f : Nat → Bool) (i : Int) : Bool := decide (0 ≤ i) && decide (i < (m : Int)) && !f i.toNat
def M.putI (m : Nat) (f : Nat → Bool) (i : Int) (v : Bool) : Nat → Bool := if 0 ≤ i ∧ i < (m : Int) then M.put f i.toNat v else f
theorem M.putI_in (m : Nat) (f : Nat → Bool) (i : Nat) (v : Bool) (h : i < m) : M.putI m f (i : Int) v = M.put f i v := by
  unfold M.putI
  rw [if_pos (by omega), Int.toNat_natCast]
theorem M.putI_out (m : Nat) (f : Nat → Bool) (i : Int) (v : Bool) (h : i < 0 ∨ (m : Int) ≤ i) : M.putI m f i v = f := by
  unfold M.putI
  rw [if_neg (by omega)]

theorem add_out (i : Int) (w : World) {p : Option Addr} {m : Nat} {f : Nat → Bool} (h : SetN w p m f) (hi : i < 0 ∨ (m : Int) ≤ i) :
    Calls Try.prog 10 #[.pointer p, .int .i64 i] w fun e w' => e = .returned (.bool false) ∧ ∃ n, w' = w.drewN n := by
  have HM := Lib.hid (may_n i w h)
  have e1 : (decide ((0 : Int) ≤ i) && decide (i < (m : Int))) = false := by simp; omega
  rw [e1] at HM
  clear e1 h hi
  go_enter Try.func10, Try.ntmps10
  go_wp2_with fail
  refine HM.out.mono ?_
  rintro e w1 ⟨rfl, rfl⟩
  go_wp2_with fail
  go_ret
  exact ⟨rfl, 0, rfl⟩
theorem add_was (i : Nat) (w : World) {b m : Nat} {f : Nat → Bool} (h : Set w b m f) (hi : i < m) (hf : f i = true) :
    Calls Try.prog 10 #[.pointer (some ⟨b, 0, none⟩), .int .i64 i] w fun e w' => e = .returned (.bool false) ∧ ∃ n, w' = w.drewN n := by
  have HM := Lib.hid (may_n i w h.n)
  have e1 : (decide ((0 : Int) ≤ (i : Int)) && decide ((i : Int) < (m : Int))) = true := by simp; omega
  rw [e1] at HM
  have HH := Lib.hid (has_in i w h hi)
  rw [hf] at HH
  clear e1 h hi hf
  go_enter Try.func10, Try.ntmps10
  go_wp2_with fail
  refine HM.out.mono ?_
  rintro e w1 ⟨rfl, rfl⟩
  go_wp2_with fail
  refine HH.out.mono ?_
  rintro e w2 ⟨rfl, n, rfl⟩
  go_wp2_with fail
  go_ret
  exact ⟨rfl, n, rfl⟩

theorem M.sub_pow : ∀ k, k < 8 → 255 - 2 ^ k = 255 ^^^ 2 ^ k := by decide

set_option maxHeartbeats 1000000 in
theorem add_new (i : Nat) (w : World) {b m : Nat} {f : Nat → Bool} (h : Set w b m f) (hi : i < m) (hf : f i = false) :
    Calls Try.prog 10 #[.pointer (some ⟨b, 0, none⟩), .int .i64 i] w fun e w' => e = .returned (.bool true) ∧ Set w' b m (M.put f i true) ∧ Kept (fun k => k = b) w w' := by
  have HM := Lib.hid (may_n i w h.n)
  have e1 : (decide ((0 : Int) ≤ (i : Int)) && decide ((i : Int) < (m : Int))) = true := by simp; omega
  rw [e1] at HM
  clear e1
  have HH := Lib.hid (has_in i w h hi)
  rw [hf] at HH
  have HB := Lib.hid (fun x => bitOf_any i x)
  have hm := h.le
  have HX : Hid (∀ n, Set ((w.drewN n).setCell ⟨b, 1 + i / 8, none⟩ (.int .u8 (M.byte (M.put f i true) (i / 8) : Nat))) b m (M.put f i true) ∧ Kept (fun k => k = b) w ((w.drewN n).setCell ⟨b, 1 + i / 8, none⟩ (.int .u8 (M.byte (M.put f i true) (i / 8) : Nat)))) := fun n =>
    ⟨(h.drewN n).put hi true, Kept.set (P := fun k => k = b) ((Kept.refl _ w).drewN n) (fun _ => rfl) _ _⟩
  have hi8 : i / 8 < 125 := by omega
  have HC : Hid (∀ n, (w.drewN n).cell? ⟨b, 1 + i / 8, none⟩ = some (.int .u8 (M.byte f (i / 8) : Nat)) ∧ (w.drewN n).frozen? ⟨b, 1 + i / 8, none⟩ = false) := fun n => ⟨(h.drewN n).c1 _ hi8, (h.drewN n).box.frozen _⟩
  have hq : (i : Int) / 8 = ((i / 8 : Nat) : Int) := by omega
  have hor : bits .or .u8 (M.byte f (i / 8) : Nat) ((2 ^ (i % 8) : Nat) : Int) = (M.byte (M.put f i true) (i / 8) : Nat) := by
    rw [← M.byte_in]
    exact u8_or_nat _ _ (M.byte_lt _ _) (Nat.pow_lt_pow_right (by omega) (by omega : i % 8 < 8))
  obtain ⟨x, hx⟩ : ∃ x : Nat, x = M.byte (M.put f i true) (i / 8) := ⟨_, rfl⟩
  rw [← hx] at hor HX
  obtain ⟨y, hy⟩ : ∃ y, y = 2 ^ (i % 8) := ⟨_, rfl⟩
  rw [← hy] at hor HB
  obtain ⟨z, hz⟩ : ∃ z, z = M.byte f (i / 8) := ⟨_, rfl⟩
  rw [← hz] at hor HC
  obtain ⟨q, hq'⟩ : ∃ q, q = i / 8 := ⟨_, rfl⟩
  rw [← hq'] at hq HC hi8 HX
  have hq0 : (0 : Int) ≤ (q : Int) := by omega
  have hq1 : (q : Int) < 125 := by omega
  have hqt : (i : Int).tdiv 8 = (q : Int) := by rw [Int.tdiv_eq_ediv_of_nonneg (by omega)]; exact hq
  have hqw : IntKind.i64.wrap (q : Int) = (q : Int) := by rw [IntKind.wrap_i64]; omega
  clear h hx hy hz hq' hf
  go_enter Try.func10, Try.ntmps10
  go_wp2_with fail
  refine HM.out.mono ?_
  rintro e w1 ⟨rfl, hw1⟩
  rw [hw1]
  clear hw1
  go_wp2_with fail
  refine HH.out.mono ?_
  rintro e w2 ⟨rfl, n, hw2⟩
  have HX2 : Hid (Set ((w2.setCell ⟨b, 1 + q, none⟩ (.int .u8 (x : Nat))).drew) b m (M.put f i true) ∧ Kept (fun k => k = b) w ((w2.setCell ⟨b, 1 + q, none⟩ (.int .u8 (x : Nat))).drew)) := by
    rw [hw2]; exact ⟨(HX.out n).1.drew, (HX.out n).2.drew⟩
  have hc := (HC.out n).1
  have hfz := (HC.out n).2
  rw [← hw2] at hc hfz
  clear hw2 HX HC HH HM
  go_wp2_with fail
  go_region_with (first | (go_at_call 29; refine (HB.out _).mono ?_; rintro e w3 ⟨rfl, rfl⟩))
  all_goals (obtain ⟨W, hW⟩ : ∃ W, W = (w2.setCell ⟨b, 1 + q, none⟩ (.int .u8 (x : Nat))).drew := ⟨_, rfl⟩; rw [← hW] at HX2; rw [← hW]; clear hW hc hfz)
  all_goals go_wp2_with fail
  all_goals go_ret
  all_goals exact ⟨rfl, HX2.out.1, HX2.out.2⟩
set_option maxHeartbeats 1000000 in
theorem remove_was (i : Nat) (w : World) {b m : Nat} {f : Nat → Bool} (h : Set w b m f) (hi : i < m) (hf : f i = true) :
    Calls Try.prog 12 #[.pointer (some ⟨b, 0, none⟩), .int .i64 i] w fun e w' => e = .returned (.bool true) ∧ Set w' b m (M.put f i false) ∧ Kept (fun k => k = b) w w' := by
  have HH := Lib.hid (has_in i w h hi)
  rw [hf] at HH
  have HB := Lib.hid (fun x => bitOf_any i x)
  have hm := h.le
  have HX : Hid (∀ n, Set ((w.drewN n).setCell ⟨b, 1 + i / 8, none⟩ (.int .u8 (M.byte (M.put f i false) (i / 8) : Nat))) b m (M.put f i false) ∧ Kept (fun k => k = b) w ((w.drewN n).setCell ⟨b, 1 + i / 8, none⟩ (.int .u8 (M.byte (M.put f i false) (i / 8) : Nat)))) := fun n =>
    ⟨(h.drewN n).put hi false, Kept.set (P := fun k => k = b) ((Kept.refl _ w).drewN n) (fun _ => rfl) _ _⟩
  have hi8 : i / 8 < 125 := by omega
  have HC : Hid (∀ n, (w.drewN n).cell? ⟨b, 1 + i / 8, none⟩ = some (.int .u8 (M.byte f (i / 8) : Nat)) ∧ (w.drewN n).frozen? ⟨b, 1 + i / 8, none⟩ = false) := fun n => ⟨(h.drewN n).c1 _ hi8, (h.drewN n).box.frozen _⟩
  have hq : (i : Int) / 8 = ((i / 8 : Nat) : Int) := by omega
  have hor : bits .andNot .u8 (M.byte f (i / 8) : Nat) ((2 ^ (i % 8) : Nat) : Int) = (M.byte (M.put f i false) (i / 8) : Nat) := by
    rw [← M.byte_out, ← M.sub_pow _ (by omega : i % 8 < 8)]
    exact u8_andNot_nat _ _ (M.byte_lt _ _) (Nat.pow_lt_pow_right (by omega) (by omega : i % 8 < 8))
  obtain ⟨x, hx⟩ : ∃ x : Nat, x = M.byte (M.put f i false) (i / 8) := ⟨_, rfl⟩
  rw [← hx] at hor HX
  obtain ⟨y, hy⟩ : ∃ y, y = 2 ^ (i % 8) := ⟨_, rfl⟩
  rw [← hy] at hor HB
  obtain ⟨z, hz⟩ : ∃ z, z = M.byte f (i / 8) := ⟨_, rfl⟩
  rw [← hz] at hor HC
  obtain ⟨q, hq'⟩ : ∃ q, q = i / 8 := ⟨_, rfl⟩
  rw [← hq'] at hq HC hi8 HX
  have hq0 : (0 : Int) ≤ (q : Int) := by omega
  have hq1 : (q : Int) < 125 := by omega
  have hqt : (i : Int).tdiv 8 = (q : Int) := by rw [Int.tdiv_eq_ediv_of_nonneg (by omega)]; exact hq
  have hqw : IntKind.i64.wrap (q : Int) = (q : Int) := by rw [IntKind.wrap_i64]; omega
  clear h hx hy hz hq' hf
  go_enter Try.func12, Try.ntmps12
  go_wp2_with fail
  refine HH.out.mono ?_
  rintro e w2 ⟨rfl, n, hw2⟩
  have HX2 : Hid (Set ((w2.setCell ⟨b, 1 + q, none⟩ (.int .u8 (x : Nat))).drew) b m (M.put f i false) ∧ Kept (fun k => k = b) w ((w2.setCell ⟨b, 1 + q, none⟩ (.int .u8 (x : Nat))).drew)) := by
    rw [hw2]; exact ⟨(HX.out n).1.drew, (HX.out n).2.drew⟩
  have hc := (HC.out n).1
  have hfz := (HC.out n).2
  rw [← hw2] at hc hfz
  clear hw2 HX HC HH
  go_wp2_with fail
  go_region_with (first | (go_at_call 29; refine (HB.out _).mono ?_; rintro e w3 ⟨rfl, rfl⟩))
  all_goals (obtain ⟨W, hW⟩ : ∃ W, W = (w2.setCell ⟨b, 1 + q, none⟩ (.int .u8 (x : Nat))).drew := ⟨_, rfl⟩; rw [← hW] at HX2; rw [← hW]; clear hW hc hfz)
  all_goals go_wp2_with fail
  all_goals go_ret
  all_goals exact ⟨rfl, HX2.out.1, HX2.out.2⟩

theorem add_any (i : Int) (w : World) {b m : Nat} {f : Nat → Bool} (h : Set w b m f) :
    Calls Try.prog 10 #[.pointer (some ⟨b, 0, none⟩), .int .i64 i] w fun e w' => e = .returned (.bool (M.addB m f i)) ∧ Set w' b m (M.putI m f i true) ∧ Kept (fun k => k = b) w w' := by
  by_cases hi : i < 0 ∨ (m : Int) ≤ i
  · have e : M.addB m f i = false := by
      unfold M.addB
      rcases hi with hi | hi
      · have : ¬ 0 ≤ i := by omega
        simp [this]
      · have : ¬ i < (m : Int) := by omega
        simp [this]
    rw [e, M.putI_out m f i true hi]
    refine (add_out i w h.n hi).mono ?_
    rintro e w' ⟨rfl, n, rfl⟩
    exact ⟨rfl, h.drewN n, (Kept.refl _ w).drewN n⟩
  · obtain ⟨j, rfl⟩ : ∃ j : Nat, i = j := ⟨i.toNat, by omega⟩
    have hj : j < m := by omega
    have e : M.addB m f (j : Int) = !f j := by
      unfold M.addB
      have h2 : (j : Int) < (m : Int) := by omega
      simp [h2]
    rw [e, M.putI_in m f j true hj]
    by_cases hf : f j = true
    · rw [hf, M.put_id f j true hf]
      refine (add_was j w h hj hf).mono ?_
      rintro e w' ⟨rfl, n, rfl⟩
      exact ⟨rfl, h.drewN n, (Kept.refl _ w).drewN n⟩
    · have hf' : f j = false := by simpa using hf
      rw [hf']
      exact add_new j w h hj hf'
theorem remove_none (i : Int) (w : World) {p : Option Addr} {m : Nat} {f : Nat → Bool} (h : SetN w p m f) (hi : M.hasI f i = false) :
    Calls Try.prog 12 #[.pointer p, .int .i64 i] w fun e w' => e = .returned (.bool false) ∧ ∃ n, w' = w.drewN n := by
  have HH := Lib.hid (has_n i w h)
  rw [hi] at HH
  clear h hi
  go_enter Try.func12, Try.ntmps12
  go_wp2_with fail
  refine HH.out.mono ?_
  rintro e w2 ⟨rfl, n, rfl⟩
  go_wp2_with fail
  go_ret
  exact ⟨rfl, n, rfl⟩
theorem remove_any (i : Int) (w : World) {b m : Nat} {f : Nat → Bool} (h : Set w b m f) :
    Calls Try.prog 12 #[.pointer (some ⟨b, 0, none⟩), .int .i64 i] w fun e w' => e = .returned (.bool (M.hasI f i)) ∧ Set w' b m (M.putI m f i false) ∧ Kept (fun k => k = b) w w' := by
  by_cases hf : M.hasI f i = true
  · have hi : ¬ (i < 0 ∨ (m : Int) ≤ i) := fun hi => by rw [M.hasI_out h.low hi] at hf; cases hf
    obtain ⟨j, rfl⟩ : ∃ j : Nat, i = j := ⟨i.toNat, by omega⟩
    have hj : j < m := by omega
    rw [hf, M.putI_in m f j false hj]
    rw [M.hasI_nat] at hf
    exact remove_was j w h hj hf
  · have hf' : M.hasI f i = false := by simpa using hf
    have e : M.putI m f i false = f := by
      unfold M.putI
      split
      · rename_i hi
        apply M.put_id
        unfold M.hasI at hf'
        have : decide (0 ≤ i) = true := by simpa using hi.1
        rw [this, Bool.true_and] at hf'
        exact hf'
      · rfl
    rw [hf', e]
    refine (remove_none i w h.n hf').mono ?_
    rintro e w' ⟨rfl, n, rfl⟩
    exact ⟨rfl, h.drewN n, (Kept.refl _ w).drewN n⟩
end Go.Proofs.Ytmgppfehgjildaa
