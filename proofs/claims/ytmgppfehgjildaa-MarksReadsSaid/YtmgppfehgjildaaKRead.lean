/-
  Walk over marks.Read.
-/
import Derived.Test.YtmgppfehgjildaaKAdd
namespace Go.Proofs.Ytmgppfehgjildaa
open Go.RowKit

/-- Is a bit 1 that is no number? -/
def M.bad (m : Nat) (l : List UInt8) : Bool := (List.range (8 * l.length)).any (fun i => M.bitAt l i && decide (m ≤ i))
/-- What is wrong with bytes. -/
def M.readE (m : Nat) (l : List UInt8) : Int := if l.length < M.wide m then 1 else if M.wide m < l.length then 2 else if M.bad m l then 4 else 0
theorem M.bit_far (l : List UInt8) (i : Nat) (h : 8 * l.length ≤ i) : M.bitAt l i = false := by
  unfold M.bitAt
  rw [List.getElem?_eq_none (by omega)]
  simp
theorem M.good {m : Nat} {l : List UInt8} (h : ∀ i, i < 8 * l.length → M.bitAt l i = true → i < m) : M.bad m l = false := by
  unfold M.bad
  rw [List.any_eq_false]
  intro i hi
  have := h i (by simpa using hi)
  by_cases e : M.bitAt l i = true
  · have := this e
    simp [e]; omega
  · simp [e]
theorem M.bad_at {m : Nat} {l : List UInt8} {i : Nat} (h : i < 8 * l.length) (hb : M.bitAt l i = true) (hm : m ≤ i) : M.bad m l = true := by
  unfold M.bad
  rw [List.any_eq_true]
  exact ⟨i, by simpa using h, by simp [hb, hm]⟩
theorem M.upto_all (l : List UInt8) : M.upto l (8 * l.length) = M.bitAt l := by
  funext i
  unfold M.upto
  by_cases h : i < 8 * l.length
  · simp [h]
  · rw [M.bit_far l i (by omega)]; simp

/-- What Read comes to. -/
def ReadPost (m : Nat) (l : List UInt8) (w : World) (e : Ending) (w' : World) : Prop :=
  ∃ p, e = .returned (.tuple #[.pointer p, .int .i64 (M.readE m l)]) ∧ (M.readE m l ≠ 0 → p = none) ∧ (M.readE m l = 0 → ∃ b, p = some ⟨b, 0, none⟩ ∧ w.heap.size ≤ b ∧ Set w' b m (M.bitAt l)) ∧ Below w.heap.size w w'

set_option maxRecDepth 100000 in
set_option maxHeartbeats 2000000 in
theorem read_any (n : Int) (s : ByteArray) (w : World) :
    Calls Try.prog 26 #[.int .i64 n, .string s] w fun e w' => ReadPost (M.most n) s.data.toList w e w' := by
  have HN := Lib.hid (new_any n w)
  have HS0 := Lib.hid (Set.new w n)
  have HK0 : Hid (Kept (fun k => k = w.heap.size) w (w.alloc (.cells (M.cells (M.most n) (fun _ => false)) 54))) := (Kept.refl _ w).alloc _
  have hm := M.most_le n
  obtain ⟨m, hmm⟩ : ∃ m, m = M.most n := ⟨_, rfl⟩
  rw [← hmm] at HN HS0 HK0 hm
  rw [← hmm]
  clear hmm
  have hsl : s.data.toList.length = s.size := by rw [Array.length_toList]; rfl
  obtain ⟨l, hl⟩ : ∃ l, l = s.data.toList := ⟨_, rfl⟩
  rw [← hl] at hsl
  rw [← hl]
  have HL := Lib.hid hl
  clear hl
  have hq1 : M.wide m ≤ 125 ∧ m ≤ 8 * M.wide m := by unfold M.wide; omega
  have HFin : Hid (∀ x : World, Kept (fun k => k = w.heap.size) w x → Below w.heap.size w x) := fun x hx => hx.below (Nat.le_refl _) (fun k hk e => by omega)
  have HWd := Lib.hid (fun x (hx : Set x w.heap.size m (fun _ => false)) => width_n x hx.n)
  by_cases h1 : s.size < M.wide m
  · have HE : Hid (M.readE m l = 1) := by show _ = _; unfold M.readE; rw [if_pos (by omega)]
    have h1' : (s.size : Int) < (M.wide m : Nat) := by omega
    go_enter Try.func26, Try.ntmps26
    go_wp2_with fail
    refine HN.out.mono ?_
    rintro e w1 ⟨rfl, hw1⟩
    rw [← hw1] at HS0 HK0
    clear hw1 HN
    go_wp2_with fail
    refine (HWd.out w1 HS0.out).mono ?_
    rintro e w2 ⟨rfl, rfl⟩
    go_wp2_with fail
    go_ret2
    exact ⟨none, by rw [HE.out]; rfl, fun _ => rfl, fun h => (by rw [HE.out] at h; cases h), HFin.out _ HK0.out⟩
  · by_cases h2 : M.wide m < s.size
    · have HE : Hid (M.readE m l = 2) := by show _ = _; unfold M.readE; rw [if_neg (by omega), if_pos (by omega)]
      have h1' : ((M.wide m : Nat) : Int) ≤ (s.size : Int) := by omega
      have h2' : ((M.wide m : Nat) : Int) < (s.size : Int) := by omega
      clear h1
      go_enter Try.func26, Try.ntmps26
      go_wp2_with fail
      refine HN.out.mono ?_
      rintro e w1 ⟨rfl, hw1⟩
      rw [← hw1] at HS0 HK0
      clear hw1 HN
      go_wp2_with fail
      refine (HWd.out w1 HS0.out).mono ?_
      rintro e w2 ⟨rfl, rfl⟩
      go_wp2_with fail
      refine (HWd.out _ HS0.out).mono ?_
      rintro e w2 ⟨rfl, rfl⟩
      go_wp2_with fail
      go_ret2
      exact ⟨none, by rw [HE.out]; rfl, fun _ => rfl, fun h => (by rw [HE.out] at h; cases h), HFin.out _ HK0.out⟩
    · have he : M.wide m = s.size := by omega
      have HB4 : Hid (M.bad m l = true → M.readE m l = 4) := fun h => by unfold M.readE; rw [if_neg (by omega), if_neg (by omega), if_pos h]
      have HB0 : Hid (M.bad m l = false → M.readE m l = 0) := fun h => by unfold M.readE; rw [if_neg (by omega), if_neg (by omega), if_neg (by rw [h]; simp)]
      rw [he] at HWd hq1
      obtain ⟨z, hz⟩ : ∃ z, z = s.size := ⟨_, rfl⟩
      rw [← hz] at HWd hq1 hsl
      have HZ := Lib.hid hz
      have hzi : (s.size : Int) = (z : Nat) := by omega
      clear h1 h2 he hz
      go_enter Try.func26, Try.ntmps26
      go_wp2_with fail
      refine HN.out.mono ?_
      rintro e w1 ⟨rfl, hw1⟩
      rw [← hw1] at HS0 HK0
      clear hw1 HN
      go_wp2_with fail
      refine (HWd.out w1 HS0.out).mono ?_
      rintro e w2 ⟨rfl, rfl⟩
      go_wp2_with fail
      refine (HWd.out _ HS0.out).mono ?_
      rintro e w2 ⟨rfl, rfl⟩
      go_wp2_with fail
      go_loopw [23] (fun i wr => ∃ k : Nat, k ≤ 8 * z ∧ i = .int .i64 k ∧ Set wr w.heap.size m (M.upto l k) ∧ (∀ j, j < k → M.bitAt l j = true → j < m) ∧ Kept (fun k => k = w.heap.size) w wr) (fun i _ => 8 * z - (intOf i).toNat)
      case atStart => exact ⟨0, Nat.zero_le _, rfl, by rw [M.upto_zero]; exact HS0.out, fun j hj => absurd hj (by omega), HK0.out⟩
      case round =>
        obtain ⟨k, hk, rfl, hSk, hbk, hKk⟩ := hrel
        have HSk := Lib.hid hSk
        have HBk := Lib.hid hbk
        have HKk := Lib.hid hKk
        clear hSk hbk hKk HS0 HK0
        by_cases hlt : k < 8 * z
        · have hlt' : (k : Int) < 8 * (z : Int) := by omega
          obtain ⟨q, hq'⟩ : ∃ q, q = k / 8 := ⟨_, rfl⟩
          have hqz : q < s.size := by have := HZ.out; omega
          obtain ⟨c, hc⟩ : ∃ c, c = s[q]'hqz := ⟨_, rfl⟩
          have hcr : ∀ h : q < s.size, s[q]'h = c := fun _ => hc.symm
          have HBit : Hid (M.bitAt l k = c.toNat.testBit (k % 8)) := by
            show _ = _
            unfold M.bitAt
            rw [hc, HL.out, ← hq']
            have e : s.data.toList[q]? = some (s[q]'hqz) := by
              rw [List.getElem?_eq_getElem (by rw [Array.length_toList]; exact hqz)]
              rfl
            rw [e]; rfl
          have hq : (k : Int) / 8 = (q : Int) := by omega
          have HBo := Lib.hid (fun x => bitOf_any k x)
          have HAdd := Lib.hid (fun x (hx : Set x w.heap.size m (M.upto l k)) => add_any (k : Nat) x hx)
          obtain ⟨y, hy⟩ : ∃ y, y = 2 ^ (k % 8) := ⟨_, rfl⟩
          have hbx := M.bit_and c.toNat (k % 8)
          have hand : bits .and .u8 ((c.toNat : Nat) : Int) ((2 ^ (k % 8) : Nat) : Int) = ((c.toNat &&& 2 ^ (k % 8) : Nat) : Int) := u8_and_nat _ _ c.toNat_lt (Nat.pow_lt_pow_right (by omega) (by omega : k % 8 < 8))
          rw [← hy] at HBo hand hbx
          obtain ⟨x, hx⟩ : ∃ x : Nat, x = c.toNat &&& y := ⟨_, rfl⟩
          rw [← hx] at hand hbx
          rw [← HBit.out] at hbx
          have hq0 : (0 : Int) ≤ (q : Int) := by omega
          have hqs : (q : Int) < (s.size : Int) := by omega
          have hqz' : (q : Int) < (z : Int) := by omega
          have hqt : (k : Int).tdiv 8 = (q : Int) := by rw [Int.tdiv_eq_ediv_of_nonneg (by omega)]; exact hq
          have hqw : IntKind.i64.wrap (q : Int) = (q : Int) := by rw [IntKind.wrap_i64]; omega
          by_cases hb : M.bitAt l k = true
          · have hne : ((x : Int) != 0) = true := by
              rw [hb] at hbx
              simp at hbx
              simp
              omega
            clear hc hx hy hq' hbx
            have HB' := Lib.hid hb
            clear hb
            by_cases hkm : k < m
            · have HA : Hid (∀ x (_ : Set x w.heap.size m (M.upto l k)), Calls Try.prog 10 #[.pointer (some ⟨w.heap.size, 0, none⟩), .int .i64 (k : Nat)] x fun e w' => e = .returned (.bool true) ∧ Set w' w.heap.size m (M.upto l (k + 1)) ∧ Kept (fun k => k = w.heap.size) x w') := fun x hx => by
                have := add_any (k : Nat) x hx
                rw [M.putI_in m _ k true hkm, ← M.upto_in l k HB'.out] at this
                have e : M.addB m (M.upto l k) (k : Nat) = true := by
                  unfold M.addB
                  have h2 : (k : Int) < (m : Int) := by omega
                  simp [h2, M.upto_at]
                rw [e] at this
                exact this
              go_wp2_with fail
              go_region_held3 (fun _ => True) (first | trivial) (first
                | (go_at_call 29; refine (HBo.out _).mono ?_; rintro e w3 ⟨rfl, hw3⟩; subst hw3)
                | (go_at_call 10; refine (HA.out _ HSk.out.drew).mono ?_; rintro e w4 ⟨rfl, hS4, hK4⟩))
              all_goals (have HS4 := Lib.hid hS4; have HK4 : Hid (Kept (fun k => k = w.heap.size) w w4) := HKk.out.drew.trans hK4; clear hS4 hK4)
              all_goals go_wp2_with fail
              all_goals go_roundw
              all_goals first
                | exact ⟨k + 1, by omega, by go_num, HS4.out, fun j hj hjb => by
                    by_cases e : j = k
                    · omega
                    · exact HBk.out j (by omega) hjb, HK4.out⟩
                | (simp [intOf]; omega)
            · have HA : Hid (∀ x (_ : Set x w.heap.size m (M.upto l k)), Calls Try.prog 10 #[.pointer (some ⟨w.heap.size, 0, none⟩), .int .i64 (k : Nat)] x fun e w' => e = .returned (.bool false) ∧ ∃ n, w' = x.drewN n) := fun x hx =>
                add_out (k : Nat) x hx.n (Or.inr (by omega))
              have HE := Lib.hid (HB4.out (M.bad_at (by omega) HB'.out (by omega)))
              go_wp2_with fail
              go_quiet (first
                | (go_at_call 29; exact quiet_same (HBo.out _))
                | (go_at_call 10; exact quiet_more (HA.out _ (HSk.out.drewN _))))
              go_wp2_with fail
              go_ret2
              exact ⟨none, by rw [HE.out]; rfl, fun _ => rfl, fun h => (by rw [HE.out] at h; cases h), HFin.out _ (HKk.out.drewN _)⟩
          · have hb' : M.bitAt l k = false := by simpa using hb
            have hne : ((x : Int) != 0) = false := by
              rw [hb'] at hbx
              simp at hbx
              simp [hbx]
            have HU := Lib.hid (M.upto_out l k hb')
            clear hc hx hy hq' hbx hb
            have HB' := Lib.hid hb'
            clear hb'
            go_wp2_with fail
            go_quiet (first | (go_at_call 29; exact quiet_same (HBo.out _)))
            go_wp2_with fail
            go_roundw
            case rel => exact ⟨k + 1, by omega, by go_num, by rw [HU.out]; exact HSk.out.drewN _, fun j hj hjb => by
              by_cases e : j = k
              · rw [e, HB'.out] at hjb; cases hjb
              · exact HBk.out j (by omega) hjb, HKk.out.drewN _⟩
            case measure => simp [intOf]; omega
        · have ek : k = 8 * z := by omega
          subst ek
          have HE := Lib.hid (HB0.out (M.good (by rw [hsl]; exact HBk.out)))
          have HX : Hid (Set wr w.heap.size m (M.bitAt l)) := by
            have := HSk.out
            rw [← hsl, M.upto_all] at this
            exact this
          go_wp2_with fail
          go_ret2
          exact ⟨_, by rw [HE.out]; rfl, fun h => absurd HE.out h, fun _ => ⟨_, rfl, Nat.le_refl _, HX.out⟩, HFin.out _ HKk.out⟩
end Go.Proofs.Ytmgppfehgjildaa
