/-
  Walk over solderlaw07.same, at slices of the same numbers.
-/
import Derived.Test.YtmgppfehgjildaaKAll
namespace Go.Proofs.Ytmgppfehgjildaa
open Go.RowKit

theorem Ints.parts {w : World} {v : Value} {L : List Nat} (h : Ints w v L) : ∃ A cap, v = .slice A L.length cap ∧ L.length ≤ cap ∧ ∀ i (hi : i < L.length), ∃ g, A = some ⟨g, 0, none⟩ ∧ w.cell? ⟨g, i, none⟩ = some (.int .i64 (L[i]'hi : Nat)) := by
  rcases h with ⟨rfl, rfl⟩ | ⟨g, cap, rfl, hc, _, hi⟩
  · exact ⟨none, 0, rfl, Nat.le_refl _, fun i hi => absurd hi (by simp)⟩
  · exact ⟨_, cap, rfl, hc, fun i h => ⟨g, rfl, hi i h⟩⟩
theorem Ints.drewN {w : World} {v : Value} {L : List Nat} (h : Ints w v L) (n : Nat) : Ints (w.drewN n) v L := h

set_option maxHeartbeats 1000000 in
theorem same_any (w : World) {a b : Value} {L : List Nat} (ha : Ints w a L) (hb : Ints w b L) (hL : L.length ≤ 1000) :
    Calls Try.prog 20 #[a, b] w fun e w' => e = .returned (.bool true) ∧ ∃ n, w' = w.drewN n := by
  obtain ⟨A, ca, rfl, _, hA⟩ := ha.parts
  obtain ⟨B, cb, rfl, _, hB⟩ := hb.parts
  have HA := Lib.hid hA
  have HB := Lib.hid hB
  clear ha hb hA hB
  obtain ⟨len, hlen⟩ : ∃ x, x = L.length := ⟨_, rfl⟩
  rw [← hlen] at hL
  rw [← hlen]
  have HN := Lib.hid hlen
  clear hlen
  have hll : ((len : Int) == (len : Int)) = true := by simp
  go_enter Try.func20, Try.ntmps20
  go_wp2_with fail
  go_loopw [5] (fun i wr => ∃ k : Nat, k ≤ len ∧ i = .int .i64 k ∧ ∃ n, wr = w.drewN n) (fun i _ => len - (intOf i).toNat)
  case atStart => exact ⟨0, Nat.zero_le _, rfl, 0, rfl⟩
  case round =>
    obtain ⟨k, hk, rfl, n, rfl⟩ := hrel
    by_cases hlt : k < len
    · have hlt' : (k : Int) < (len : Int) := by omega
      have hk0 : (0 : Int) ≤ (k : Int) := by omega
      obtain ⟨ga, rfl, hca⟩ := HA.out k (by rw [← HN.out]; exact hlt)
      obtain ⟨gb, rfl, hcb⟩ := HB.out k (by rw [← HN.out]; exact hlt)
      obtain ⟨x, hx⟩ : ∃ x, x = L[k]'(by rw [← HN.out]; exact hlt) := ⟨_, rfl⟩
      rw [← hx] at hca hcb
      clear hx HA HB
      have hxx : ((x : Int) == (x : Int)) = true := by simp
      go_wp2_with fail
      go_quiet (fail)
      go_wp2_with fail
      go_roundw
      case rel => exact ⟨k + 1, by omega, by go_num, _, rfl⟩
      case measure => simp [intOf]; omega
    · have e : k = len := by omega
      subst e
      go_wp2_with fail
      go_ret
      exact ⟨rfl, n, rfl⟩
end Go.Proofs.Ytmgppfehgjildaa
