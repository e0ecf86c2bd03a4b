/-
  Walk over solderref07.Read.
-/
import Derived.Test.YtmgppfehgjildaaKRef
import Derived.Test.YtmgppfehgjildaaKRead
namespace Go.Proofs.Ytmgppfehgjildaa
open Go.RowKit

/-- What the document's Read comes to. -/
def RReadPost (m : Nat) (l : List UInt8) (w : World) (e : Ending) (w' : World) : Prop :=
  ∃ p, e = .returned (.tuple #[.pointer p, .int .i64 (M.readE m l)]) ∧ (M.readE m l ≠ 0 → p = none) ∧ (M.readE m l = 0 → ∃ b g c, p = some ⟨b, 0, none⟩ ∧ RSet w' b g c m (M.bitAt l)) ∧ Below w.heap.size w w'

set_option maxRecDepth 100000 in
set_option maxHeartbeats 2000000 in
theorem refRead_any (n : Int) (s : ByteArray) (w : World) :
    Calls Try.prog 27 #[.int .i64 n, .string s] w fun e w' => RReadPost (M.most n) s.data.toList w e w' := by
  have HN := Lib.hid (refNew_any n w)
  have hm := M.most_le n
  obtain ⟨m, hmm⟩ : ∃ m, m = M.most n := ⟨_, rfl⟩
  rw [← hmm] at HN hm
  rw [← hmm]
  clear hmm
  have hsl : s.data.toList.length = s.size := by rw [Array.length_toList]; rfl
  obtain ⟨l, hl⟩ : ∃ l, l = s.data.toList := ⟨_, rfl⟩
  rw [← hl] at hsl
  rw [← hl]
  have HL := Lib.hid hl
  clear hl
  have hq1 : M.wide m ≤ 125 ∧ m ≤ 8 * M.wide m := by unfold M.wide; omega
  have hwd : ((m : Int) + 7) / 8 = (M.wide m : Nat) := by unfold M.wide; omega
  by_cases h1 : s.size < M.wide m
  · have HE : Hid (M.readE m l = 1) := by show _ = _; unfold M.readE; rw [if_pos (by omega)]
    have h1' : (s.size : Int) < (M.wide m : Nat) := by omega
    go_enter Try.func27, Try.ntmps27
    go_wp2_with fail
    refine HN.out.mono ?_
    rintro e w1 ⟨rfl, hS1, hb1, _⟩
    have h0 := hS1.c0
    have HB := Lib.hid hb1
    clear hS1 hb1 HN
    go_wp2_with fail
    go_ret2
    exact ⟨none, by rw [HE.out]; rfl, fun _ => rfl, fun h => (by rw [HE.out] at h; cases h), HB.out⟩
  · by_cases h2 : M.wide m < s.size
    · have HE : Hid (M.readE m l = 2) := by show _ = _; unfold M.readE; rw [if_neg (by omega), if_pos (by omega)]
      have h1' : ((M.wide m : Nat) : Int) ≤ (s.size : Int) := by omega
      have h2' : ((M.wide m : Nat) : Int) < (s.size : Int) := by omega
      clear h1
      go_enter Try.func27, Try.ntmps27
      go_wp2_with fail
      refine HN.out.mono ?_
      rintro e w1 ⟨rfl, hS1, hb1, _⟩
      have h0 := hS1.c0
      have HB := Lib.hid hb1
      clear hS1 hb1 HN
      go_wp2_with fail
      go_ret2
      exact ⟨none, by rw [HE.out]; rfl, fun _ => rfl, fun h => (by rw [HE.out] at h; cases h), HB.out⟩
    · have he : M.wide m = s.size := by omega
      have HB4 : Hid (M.bad m l = true → M.readE m l = 4) := fun h => by unfold M.readE; rw [if_neg (by omega), if_neg (by omega), if_pos h]
      have HB0 : Hid (M.bad m l = false → M.readE m l = 0) := fun h => by unfold M.readE; rw [if_neg (by omega), if_neg (by omega), if_neg (by rw [h]; simp)]
      rw [he] at hwd hq1
      obtain ⟨z, hz⟩ : ∃ z, z = s.size := ⟨_, rfl⟩
      rw [← hz] at hwd hq1 hsl
      have HZ := Lib.hid hz
      have hzi : (s.size : Int) = (z : Nat) := by omega
      clear h1 h2 he hz
      go_enter Try.func27, Try.ntmps27
      go_wp2_with fail
      refine HN.out.mono ?_
      rintro e w1 ⟨rfl, hS1, hb1, hz1⟩
      obtain ⟨b, hbb⟩ : ∃ b, b = w.heap.size + 1 := ⟨_, rfl⟩
      obtain ⟨g, hgg⟩ : ∃ g, g = w.heap.size := ⟨_, rfl⟩
      have hgw : w.heap.size ≤ g := by omega
      rw [← hbb, ← hgg] at hS1
      rw [← hbb]
      have h0 := hS1.c0
      have HS1 := Lib.hid hS1
      have HB1 := Lib.hid hb1
      clear hS1 hb1 HN hz1 hbb hgg
      go_wp2_with fail
      clear h0
      go_loopw [8] (fun i wr => ∃ k : Nat, k ≤ 8 * z ∧ i = .int .i64 k ∧ RSet wr b g m m (M.upto l k) ∧ (∀ j, j < k → M.bitAt l j = true → j < m) ∧ Below w.heap.size w wr) (fun i _ => 8 * z - (intOf i).toNat)
      case atStart => exact ⟨0, Nat.zero_le _, rfl, by rw [M.upto_zero]; exact HS1.out, fun j hj => absurd hj (by omega), HB1.out⟩
      case round =>
        obtain ⟨k, hk, rfl, hSk, hbk, hKk⟩ := hrel
        have HSk := Lib.hid hSk
        have HBk := Lib.hid hbk
        have HKk := Lib.hid hKk
        have h0 := hSk.c0
        clear hSk hbk hKk HS1 HB1
        by_cases hlt : k < 8 * z
        · have hlt' : (k : Int) < 8 * (z : Int) := by omega
          obtain ⟨q, hq'⟩ : ∃ q, q = k / 8 := ⟨_, rfl⟩
          have hqz : q < s.size := by have := HZ.out; omega
          obtain ⟨c, hc⟩ : ∃ c, c = s[q]'hqz := ⟨_, rfl⟩
          have hcr : ∀ h : q < s.size, s[q]'h = c := fun _ => hc.symm
          have HBit : Hid (M.bitAt l k = c.toNat.testBit (k % 8)) := by
            show _ = _
            unfold M.bitAt
            rw [hc, HL.out, ← hq']
            have e : s.data.toList[q]? = some (s[q]'hqz) := by
              rw [List.getElem?_eq_getElem (by rw [Array.length_toList]; exact hqz)]
              rfl
            rw [e]; rfl
          have hq : (k : Int) / 8 = (q : Int) := by omega
          have hp8 : ∀ j, j < 8 → (2 : Int) ^ j % 256 = ((2 ^ j : Nat) : Int) := by decide
          have hpw := hp8 (k % 8) (by omega)
          clear hp8
          obtain ⟨y, hy⟩ : ∃ y, y = 2 ^ (k % 8) := ⟨_, rfl⟩
          have hbx := M.bit_and c.toNat (k % 8)
          have hand : bits .and .u8 ((c.toNat : Nat) : Int) ((2 ^ (k % 8) : Nat) : Int) = ((c.toNat &&& 2 ^ (k % 8) : Nat) : Int) := u8_and_nat _ _ c.toNat_lt (Nat.pow_lt_pow_right (by omega) (by omega : k % 8 < 8))
          rw [← hy] at hpw hand hbx
          obtain ⟨x, hx⟩ : ∃ x : Nat, x = c.toNat &&& y := ⟨_, rfl⟩
          rw [← hx] at hand hbx
          rw [← HBit.out] at hbx
          have hq0 : (0 : Int) ≤ (q : Int) := by omega
          have hqs : (q : Int) < (s.size : Int) := by omega
          have hqz' : (q : Int) < (z : Int) := by omega
          have hk0 : (0 : Int) ≤ (k : Int) := by omega
          by_cases hb : M.bitAt l k = true
          · have hne : ((x : Int) == 0) = false := by
              rw [hb] at hbx
              simp at hbx
              simp
              omega
            clear hc hx hy hq' hbx
            have HB' := Lib.hid hb
            clear hb
            by_cases hkm : k < m
            · have hkm' : (k : Int) < (m : Int) := by omega
              have hcc : wr.cell? ⟨g, k, none⟩ = some (.bool (M.upto l k k)) := HSk.out.c1 k hkm
              have hfz := HSk.out.fz k
              have HX : Hid (∀ n, RSet ((wr.drewN n).setCell ⟨g, k, none⟩ (.bool true)) b g m m (M.upto l (k + 1)) ∧ Below w.heap.size w ((wr.drewN n).setCell ⟨g, k, none⟩ (.bool true))) := fun n => by
                rw [M.upto_in l k HB'.out]
                exact ⟨(HSk.out.drewN n).set k hkm true, (below_drewN HKk.out n).setCell (p := ⟨g, k, none⟩) hgw _⟩
              go_wp2_with fail
              go_quiet (fail)
              go_wp2_with fail
              go_roundw
              case rel => exact ⟨k + 1, by omega, by go_num, (HX.out _).1, fun j hj hjb => by
                by_cases e : j = k
                · omega
                · exact HBk.out j (by omega) hjb, (HX.out _).2⟩
              case measure => simp [intOf]; omega
            · have hkm' : (m : Int) ≤ (k : Int) := by omega
              have HE := Lib.hid (HB4.out (M.bad_at (by omega) HB'.out (by omega)))
              go_wp2_with fail
              go_quiet (fail)
              go_wp2_with fail
              go_ret2
              exact ⟨none, by rw [HE.out]; rfl, fun _ => rfl, fun h => (by rw [HE.out] at h; cases h), below_drewN HKk.out _⟩
          · have hb' : M.bitAt l k = false := by simpa using hb
            have hne : ((x : Int) == 0) = true := by
              rw [hb'] at hbx
              simp at hbx
              simp [hbx]
            have HU := Lib.hid (M.upto_out l k hb')
            clear hc hx hy hq' hbx hb
            have HB' := Lib.hid hb'
            clear hb'
            go_wp2_with fail
            go_quiet (fail)
            go_wp2_with fail
            go_roundw
            case rel => exact ⟨k + 1, by omega, by go_num, by rw [HU.out]; exact HSk.out.drewN _, fun j hj hjb => by
              by_cases e : j = k
              · rw [e, HB'.out] at hjb; cases hjb
              · exact HBk.out j (by omega) hjb, below_drewN HKk.out _⟩
            case measure => simp [intOf]; omega
        · have ek : k = 8 * z := by omega
          subst ek
          have HE := Lib.hid (HB0.out (M.good (by rw [hsl]; exact HBk.out)))
          have HX : Hid (RSet wr b g m m (M.bitAt l)) := by
            have := HSk.out
            rw [← hsl, M.upto_all] at this
            exact this
          go_wp2_with fail
          go_ret2
          exact ⟨_, by rw [HE.out]; rfl, fun h => absurd HE.out h, fun _ => ⟨_, _, _, rfl, HX.out⟩, HKk.out⟩
end Go.Proofs.Ytmgppfehgjildaa
