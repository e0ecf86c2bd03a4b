/-
  Walks over cyclic.divideByte, cyclic.extend and cyclic.Of.
-/
import Derived.Test.YtoljggleekbbbaaProg
import Derived.Test.YtoljggleekbbbaaCMath
import Derived.WalkKit
import Derived.WalkSpells
import Derived.WalkSmall
import Derived.Deep.LoopGhost
import Derived.Lib.OthersKept
import Derived.Lib.Hide
import Derived.BigQuiet
import Derived.Deep.QuietTactic
import Derived.Laws.BitsAllLaws
namespace Go.Proofs.Ytoljggleekbbbaa
open Go.RowKit

theorem and_one (q : Nat) (h : q < 4294967296) : bits .and .u32 (q : Int) 1 = ((q % 2 : Nat) : Int) := by
  have := u32_and_nat q 1 h (by omega)
  rw [nat_mask1] at this
  exact this
theorem xor_p (q : Nat) (h : q < 4294967296) : bits .xor .u32 ((q : Int) / 2) 3988292384 = (((q / 2) ^^^ 3988292384 : Nat) : Int) := u32_xor_nat (q / 2) 3988292384 (by omega) (by omega)

theorem divide_any (n : Nat) (w : World) (h : n < 4294967296) :
    Calls Try.prog 49 #[.int .u32 n] w fun e w' => e = .returned (.int .u32 (M.steps 8 n)) ∧ w = w' := by
  go_enter Try.func49, Try.ntmps49
  go_wp2_with fail
  go_loop [0, 4] (fun v j => ∃ k : Nat, k ≤ 8 ∧ j = .int .i64 k ∧ v = .int .u32 (M.steps k n)) (fun _ j => 8 - (intOf j).toNat)
  case atStart => exact ⟨0, Nat.zero_le _, rfl, rfl⟩
  case round =>
    obtain ⟨k, hk, rfl, rfl⟩ := hrel
    have hq := M.steps_lt h k
    have HS : Hid (M.steps (k + 1) n = M.step (M.steps k n)) := by show _ = _; rfl
    obtain ⟨q, hq'⟩ : ∃ q, q = M.steps k n := ⟨_, rfl⟩
    rw [← hq'] at HS hq
    rw [← hq']
    have HQ := Lib.hid hq'
    clear hq'
    have a1 := and_one q hq
    by_cases hlt : k < 8
    · by_cases ho : q % 2 = 1
      · have a2 := xor_p q (by omega)
        have e : M.step q = (q / 2) ^^^ 3988292384 := by rw [M.step, if_pos ho]
        rw [e] at HS
        clear e
        go_wp2_with fail
        go_round
        case rel => exact ⟨k + 1, by omega, by go_num, by rw [HS.out]⟩
        case measure => simp [intOf]; omega
      · have ho' : q % 2 = 0 := by omega
        have e : M.step q = q / 2 := by rw [M.step, if_neg ho]
        rw [e] at HS
        clear e
        go_wp2_with fail
        go_round
        case rel => exact ⟨k + 1, by omega, by go_num, by rw [HS.out]; go_num⟩
        case measure => simp [intOf]; omega
    · have hge : decide ((k : Int) < 8) = false := by simp; omega
      have e : k = 8 := by omega
      rw [e] at HQ
      have E := Lib.hid e
      clear e
      go_wp2_with fail
      go_ret
      exact ⟨by rw [HQ.out]; rfl, rfl⟩

theorem run_take (s : ByteArray) (k : Nat) (h : k < s.size) (n : Nat) : M.run n (s.data.toList.take (k + 1)) = M.absorb (M.run n (s.data.toList.take k)) (s[k]'h) := by
  rw [List.take_succ_eq_append_getElem (by rw [Array.length_toList]; exact h), M.run_snoc]
  rfl
theorem xor_c (q : Nat) (c : UInt8) (h : q < 4294967296) : bits .xor .u32 (q : Int) ((c.toNat : Int) % 4294967296) = ((q ^^^ c.toNat : Nat) : Int) := by
  have := c.toNat_lt
  have e : (c.toNat : Int) % 4294967296 = (c.toNat : Int) := by omega
  rw [e]
  exact u32_xor_nat q c.toNat h (by omega)
theorem not_n (q : Nat) (h : q < 4294967296) : bits .xor .u32 IntKind.u32.max (q : Int) = ((q ^^^ 4294967295 : Nat) : Int) := by
  rw [Nat.xor_comm]
  exact u32_xor_nat 4294967295 q (by omega) h
theorem extend_any (n : Nat) (s : ByteArray) (w : World) (h : n < 4294967296) (hs : s.size ≤ 9223372036854775807) :
    Calls Try.prog 43 #[.int .u32 n, .string s] w fun e w' => e = .returned (.int .u32 ((M.run (n ^^^ 4294967295) s.data.toList ^^^ 4294967295 : Nat) : Int)) ∧ w = w' := by
  have a1 := not_n n h
  have hm := M.xor_lt h (by omega : 4294967295 < 4294967296)
  obtain ⟨m, hm'⟩ : ∃ m, m = n ^^^ 4294967295 := ⟨_, rfl⟩
  rw [← hm'] at a1 hm
  rw [← hm']
  clear hm'
  go_enter Try.func43, Try.ntmps43
  go_wp2_with fail
  clear a1
  go_loop [5, 11] (fun v j => ∃ k : Nat, k ≤ s.size ∧ j = .int .i64 k ∧ v = .int .u32 (M.run m (s.data.toList.take k))) (fun _ j => s.size - (intOf j).toNat)
  case atStart => exact ⟨0, Nat.zero_le _, rfl, rfl⟩
  case round =>
    obtain ⟨k, hk, rfl, rfl⟩ := hrel
    have hq := M.run_lt hm (s.data.toList.take k)
    by_cases hlt : k < s.size
    · have HT := Lib.hid (run_take s k hlt m)
      obtain ⟨c, hc⟩ : ∃ c, c = (s[k]'hlt) := ⟨_, rfl⟩
      have hix : ∀ h : k < s.size, s[k]'h = c := fun _ => hc.symm
      rw [← hc] at HT
      clear hc
      obtain ⟨q, hq'⟩ : ∃ q, q = M.run m (s.data.toList.take k) := ⟨_, rfl⟩
      rw [← hq'] at HT hq
      rw [← hq']
      clear hq'
      have a2 := xor_c q c hq
      have hx := M.xor_lt hq (by have := c.toNat_lt; omega : c.toNat < 4294967296)
      have HC := Lib.hid (divide_any (q ^^^ c.toNat) w hx)
      rw [M.absorb] at HT
      obtain ⟨d, hd⟩ : ∃ d, d = M.steps 8 (q ^^^ c.toNat) := ⟨_, rfl⟩
      rw [← hd] at HT HC
      clear hd
      go_wp2_with fail
      refine HC.out.mono ?_
      rintro e w1 ⟨rfl, rfl⟩
      go_wp2_with fail
      go_round
      case rel => exact ⟨k + 1, by omega, by go_num, by rw [HT.out]⟩
      case measure => simp [intOf]; omega
    · have e : s.data.toList.take k = s.data.toList := List.take_of_length_le (by rw [Array.length_toList]; exact Nat.not_lt.mp hlt)
      rw [e] at hq
      rw [e]
      have a2 := not_n _ hq
      clear e
      go_wp2_with fail
      go_ret
      exact ⟨rfl, rfl⟩

theorem of_any (s : ByteArray) (w : World) (hs : s.size ≤ 9223372036854775807) :
    Calls Try.prog 30 #[.string s] w fun e w' => e = .returned (.int .i64 (M.of s.data.toList)) ∧ w = w' := by
  have HC := Lib.hid (extend_any 0 s w (by omega) hs)
  have hl := M.of_lt s.data.toList
  have e : M.run (0 ^^^ 4294967295) s.data.toList ^^^ 4294967295 = M.of s.data.toList := by simp [M.of]
  rw [e] at HC
  clear e
  go_enter Try.func30, Try.ntmps30
  go_wp2_with fail
  refine HC.out.mono ?_
  rintro e w1 ⟨rfl, rfl⟩
  go_wp2_with fail
  go_ret
  exact ⟨rfl, rfl⟩
end Go.Proofs.Ytoljggleekbbbaa
