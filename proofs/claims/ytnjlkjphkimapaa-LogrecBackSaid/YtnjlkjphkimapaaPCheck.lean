/-
  Walks over solderref11.Check and logrec.Check.
-/
import Derived.Test.YtnjlkjphkimapaaPSec
import Derived.Test.YtnjlkjphkimapaaPMath
namespace Go.Proofs.Ytnjlkjphkimapaa
open Go.RowKit Go.Deep

/-- What is ahead of i and has its place: the first so many have not. -/
def M.none11 (a : Nat → Int) (i k : Nat) : Prop := ∀ j, j < k → a j ≠ a i
theorem M.twice_yes {a : Nat → Int} {i k : Nat} (hk : k < i) (e : a k = a i) : M.twice a i = true := (M.twice_iff a i).2 ⟨k, hk, e⟩
theorem M.twice_no {a : Nat → Int} {i : Nat} (h : M.none11 a i i) : M.twice a i = false := by
  cases hc : M.twice a i
  · rfl
  · obtain ⟨k, hk, e⟩ := (M.twice_iff a i).1 hc
    exact absurd e (h k hk)

set_option maxRecDepth 100000 in
set_option maxHeartbeats 1000000 in
theorem rcheck_any (A : Option Addr) (n cap : Nat) (a : Nat → Int) (t : Nat → ByteArray) (w : World) (h : SecF w A n a t) (hn : n ≤ maxLen) :
    Calls Try.prog 11 #[.slice A n cap] w fun e w' => e = .returned (.int .i64 (M.chk a t n)) ∧ Below w.heap.size w w' := by
  have HF := Lib.hid (fun y (hb : Below w.heap.size w y) i (hi : i < n) => (h.below (Nat.le_refl _) hb).at_ hi)
  have hn1 : (n : Int) ≤ 9223372036854775807 := by unfold maxLen at hn; omega
  clear h hn
  by_cases h0 : n = 0
  · have E : Hid (M.chk a t n = 8) := by show _ = _; rw [M.chk, if_pos h0]
    subst h0
    go_enter Try.func11, Try.ntmps11
    go_wp2_with fail
    go_ret
    rw [E.out]
    first | exact ⟨rfl, Below.refl _ _⟩ | exact ⟨rfl, HB.out⟩ | exact ⟨rfl, below_drewN HB2.out _⟩
  by_cases h16 : 16 < n
  · have E : Hid (M.chk a t n = 6) := by show _ = _; rw [M.chk, if_neg h0, if_pos h16]
    have c0 : ¬ (n : Int) = 0 := by omega
    have c1 : (16 : Int) < (n : Int) := by omega
    have HN : Hid (¬ n = 0) := h0
    clear h0
    go_enter Try.func11, Try.ntmps11
    go_wp2_with fail
    go_ret
    rw [E.out]
    first | exact ⟨rfl, Below.refl _ _⟩ | exact ⟨rfl, HB.out⟩ | exact ⟨rfl, below_drewN HB2.out _⟩
  have E : Hid (M.chk a t n = M.firstE a t n) := by show _ = _; rw [M.chk, if_neg h0, if_neg h16]
  have c0 : ((n : Int) == 0) = false := by simp; omega
  have c1 : ¬ (16 : Int) < (n : Int) := by omega
  have HN : Hid (¬ n = 0 ∧ ¬ 16 < n) := ⟨h0, h16⟩
  clear h0 h16
  go_enter Try.func11, Try.ntmps11
  go_wp2_with fail
  go_loopw [3] (fun j wr => ∃ k : Nat, k ≤ n ∧ j = .int .i64 k ∧ Hid (Below w.heap.size w wr) ∧ Hid (M.firstE a t k = 0)) (fun j _ => n - (intOf j).toNat)
  case atStart => exact ⟨0, Nat.zero_le _, rfl, Below.refl _ _, rfl⟩
  case round =>
    obtain ⟨k, hk, rfl, HB, HZ⟩ := hrel
    by_cases hlt : k < n
    · have hk0 : (0 : Int) ≤ (k : Int) := by omega
      have hlt' : (k : Int) < (n : Int) := by omega
      have hk16 : (k : Int) < 16 := by have := HN.out; omega
      obtain ⟨ad, rfl, x0, x1⟩ := HF.out _ HB.out k hlt
      obtain ⟨z, hz⟩ : ∃ z, z = a k := ⟨_, rfl⟩
      obtain ⟨s, hs⟩ : ∃ s, s = t k := ⟨_, rfl⟩
      rw [← hz] at x0
      rw [← hs] at x1
      have stop : ∀ e, M.secE a t k = e → e ≠ 0 → Hid (M.firstE a t n = e) := fun e h1 h2 => by
        show _ = _; rw [M.firstE_stop a t hlt HZ.out (by rw [h1]; exact h2), h1]
      have HS := Lib.hid stop
      clear stop
      have HZ' := Lib.hid hz
      have HT' := Lib.hid hs
      clear hz hs
      by_cases d1 : z < 0
      · have HR : Hid (M.firstE a t n = 3) := HS.out 3 (by rw [M.secE, ← HZ'.out, if_pos (Or.inl d1)]) (by decide)
        go_wp2_with fail
        go_ret
        rw [E.out, HR.out]
        first | exact ⟨rfl, Below.refl _ _⟩ | exact ⟨rfl, HB.out⟩ | exact ⟨rfl, below_drewN HB2.out _⟩
      have d1' : ¬ z < 0 := d1
      by_cases d2 : 1000 ≤ z
      · have HR : Hid (M.firstE a t n = 3) := HS.out 3 (by rw [M.secE, ← HZ'.out, if_pos (Or.inr d2)]) (by decide)
        go_wp2_with fail
        go_ret
        rw [E.out, HR.out]
        first | exact ⟨rfl, Below.refl _ _⟩ | exact ⟨rfl, HB.out⟩ | exact ⟨rfl, below_drewN HB2.out _⟩
      have d2' : ¬ 1000 ≤ z := d2
      have HRange : Hid (¬ (a k < 0 ∨ 1000 ≤ a k)) := by show ¬ _; rw [← HZ'.out]; omega
      by_cases d3 : s.size = 64
      · have d3' : ((s.size : Int) == 64) = true := by simp; omega
        have HSec : Hid (M.secE a t k = if M.twice a k = true then 9 else 0) := by show _ = _; rw [M.secE, if_neg HRange.out, ← HT'.out, if_neg (by simp [d3])]
        have D3 := Lib.hid d3
        clear d3
        go_wp2_with fail
        go_loopw [4] (fun j wr => ∃ i : Nat, i ≤ k ∧ j = .int .i64 i ∧ Hid (Below w.heap.size w wr) ∧ Hid (M.none11 a k i)) (fun j _ => k - (intOf j).toNat)
        case atStart => exact ⟨0, Nat.zero_le _, rfl, HB, fun j hj => absurd hj (by omega)⟩
        case round =>
          obtain ⟨i, hi, rfl, HB2, HO⟩ := hrel
          clear x0 x1 HB
          by_cases hil : i < k
          · have hi0 : (0 : Int) ≤ (i : Int) := by omega
            have hil' : (i : Int) < (k : Int) := by omega
            have hin : (i : Int) < (n : Int) := by omega
            obtain ⟨ad2, e2, y0, _⟩ := HF.out _ HB2.out i (by omega)
            obtain rfl : ad2 = ad := by injection e2 with e2; exact e2.symm
            clear e2
            obtain ⟨ad3, e3, x0, _⟩ := HF.out _ HB2.out k hlt
            obtain rfl : ad3 = ad2 := by injection e3 with e3; exact e3.symm
            clear e3
            rw [← HZ'.out] at x0
            obtain ⟨y, hy⟩ : ∃ y, y = a i := ⟨_, rfl⟩
            rw [← hy] at y0
            have HY := Lib.hid hy
            clear hy
            by_cases hz : y = z
            · have hz' : (y == z) = true := by simp [hz]
              have HR : Hid (M.firstE a t n = 9) := HS.out 9 (by rw [HSec.out, if_pos (M.twice_yes hil (by rw [← HY.out, ← HZ'.out]; exact hz))]) (by decide)
              clear hz
              go_wp2_with fail
              go_quiet (fail)
              go_wp2_with fail
              go_ret
              rw [E.out, HR.out]
              first | exact ⟨rfl, Below.refl _ _⟩ | exact ⟨rfl, HB.out⟩ | exact ⟨rfl, below_drewN HB2.out _⟩
            · have hz' : (y == z) = false := by simp [hz]
              have HO2 : Hid (M.none11 a k (i + 1)) := fun j hj => by
                by_cases e : j = i
                · rw [e, ← HY.out, ← HZ'.out]; exact hz
                · exact HO.out j (by omega)
              clear hz
              go_wp2_with fail
              go_quiet (fail)
              go_wp2_with fail
              go_roundw
              case rel => exact ⟨i + 1, by omega, by go_num, below_drewN HB2.out _, HO2⟩
              case measure => simp [intOf]; omega
          · have e : i = k := by omega
            rw [e] at HO
            have HK : Hid (M.firstE a t (k + 1) = 0) := by
              show _ = _
              rw [M.firstE_next a t k HZ.out, HSec.out, if_neg (by rw [M.twice_no HO.out]; simp)]
            have hil' : ¬ (i : Int) < (k : Int) := by omega
            clear e hil
            go_wp2_with fail
            go_roundw
            case rel => exact ⟨k + 1, by omega, by go_num, HB2, HK⟩
            case measure => simp [intOf]; omega
      · have d3' : ((s.size : Int) == 64) = false := by simp; omega
        have HR : Hid (M.firstE a t n = 12) := HS.out 12 (by rw [M.secE, if_neg HRange.out, ← HT'.out, if_pos d3]) (by decide)
        clear d3
        go_wp2_with fail
        go_ret
        rw [E.out, HR.out]
        first | exact ⟨rfl, Below.refl _ _⟩ | exact ⟨rfl, HB.out⟩ | exact ⟨rfl, below_drewN HB2.out _⟩
    · have e : k = n := by omega
      rw [e] at HZ
      have hlt' : ¬ (k : Int) < (n : Int) := by omega
      clear hlt e
      go_wp2_with fail
      go_ret
      rw [E.out, HZ.out]
      first | exact ⟨rfl, Below.refl _ _⟩ | exact ⟨rfl, HB.out⟩ | exact ⟨rfl, below_drewN HB2.out _⟩
end Go.Proofs.Ytnjlkjphkimapaa
