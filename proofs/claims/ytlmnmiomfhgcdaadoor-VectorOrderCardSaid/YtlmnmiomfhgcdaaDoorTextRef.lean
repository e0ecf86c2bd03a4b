/-
  Walks over solderref01.Text.
-/
import Derived.Test.YtlmnmiomfhgcdaaDoorOneByte
import Derived.Test.YtlmnmiomfhgcdaaDoorNumMath
import Derived.Lib.ItoaLen
namespace Go.Proofs.YtlmnmiomfhgcdaaDoor
open Go.RowKit

def decS (n : Nat) : ByteArray := ⟨(Lib.decDigits n).toArray⟩
theorem decS_small (n : Nat) (x : UInt8) (h : n < 10) (hx : x.toNat = 48 + n % 10) : decS n = ⟨#[x]⟩ := by
  unfold decS
  rw [Lib.decDigits_one h]
  have : UInt8.ofNat (48 + n) = x := by rw [show 48 + n = x.toNat by omega, UInt8.ofNat_toNat]
  rw [this]
theorem decS_big (n : Nat) (x : UInt8) (h : ¬ n < 10) (hx : x.toNat = 48 + n % 10) : decS n = decS (n / 10) ++ ⟨#[x]⟩ := by
  have e : Lib.decDigits n = Lib.decDigits (n / 10) ++ [UInt8.ofNat (48 + n % 10)] := by rw [Lib.decDigits, dif_neg h]
  have e2 : UInt8.ofNat (48 + n % 10) = x := by rw [← hx, UInt8.ofNat_toNat]
  unfold decS
  rw [e, e2]
  exact ByteArray.ext (by simp [ByteArray.data_append])
theorem decS_size (n : Nat) (h : n ≤ 9223372036854775807) : (decS n).size ≤ 20 := by
  show (Lib.decDigits n).toArray.size ≤ 20
  have h1 := Lib.decDigits_length n
  have h2 := Lib.nDigits_le20 n (by omega)
  simp; omega
theorem ret_string {a b : ByteArray} (h : a = b) : Ending.returned (.string a) = .returned (.string b) := by rw [h]

set_option maxHeartbeats 1000000 in
theorem refText_nat (n : Nat) : n ≤ 9223372036854775807 → ∀ w : World, Calls Tryd.prog 28 #[.int .i64 (n : Int)] w fun e w' => e = .returned (.string (decS n)) ∧ Below w.heap.size w w' := by
  induction n using Nat.strongRecOn with
  | _ n ih =>
    intro hn w
    obtain ⟨x, hx⟩ : ∃ x : UInt8, x.toNat = 48 + n % 10 := ⟨UInt8.ofNat (48 + n % 10), by rw [UInt8.toNat_ofNat']; omega⟩
    have hxi : (x.toNat : Int) = 48 + (n : Int) % 10 := by omega
    have hcv := run_one_byte w x
    rw [hxi] at hcv
    have HX := Lib.hid hx
    have HI := Lib.hid (And.intro ih hn)
    have hb : Below w.heap.size w (w.alloc (.cells #[.int .u8 (48 + (n : Int) % 10)] 5)) := (Below.refl _ _).alloc (Nat.le_refl _) _
    have HB := Lib.hid hb
    clear hx hxi ih hn hb
    by_cases h10 : n < 10
    · go_enter Tryd.func28, Tryd.ntmps28
      go_wp2_with fail
      go_ret
      exact ⟨ret_string (decS_small n x h10 HX.out).symm, HB.out⟩
    · go_enter Tryd.func28, Tryd.ntmps28
      go_wp2_with fail
      have e10 : wrap64 ((n : Int) / 10) = ((n / 10 : Nat) : Int) := by
        have := HI.out.2
        unfold wrap64; omega
      rw [e10]
      refine (HI.out.1 (n / 10) (by omega) (by have := HI.out.2; omega) _).mono ?_
      clear e10
      rintro e w2 ⟨rfl, hb2⟩
      have hb3 : Below w.heap.size w w2 := HB.out.trans (hb2.mono (by simp))
      have HB3 := Lib.hid hb3
      clear hb2 hb3
      have hsz := decS_size (n / 10) (by have := HI.out.2; omega)
      go_wp2_with fail
      go_ret
      exact ⟨ret_string (decS_big n x h10 HX.out).symm, HB3.out⟩

theorem itoa_min : (⟨(Lib.itoa (-9223372036854775808)).toArray⟩ : ByteArray) = ⟨#[45, 57, 50, 50, 51, 51, 55, 50, 48, 51, 54, 56, 53, 52, 55, 55, 53, 56, 48, 56]⟩ := by
  have e : Lib.itoa (-9223372036854775808) = 45 :: Lib.decDigits 9223372036854775808 := by
    rw [Lib.itoa, if_pos (by omega)]
    rfl
  have e2 : Lib.decDigits 9223372036854775808 = [57, 50, 50, 51, 51, 55, 50, 48, 51, 54, 56, 53, 52, 55, 55, 53, 56, 48, 56] := by
    have h := M.nat_back (l := [57, 50, 50, 51, 51, 55, 50, 48, 51, 54, 56, 53, 52, 55, 55, 53, 56, 48, 56]) (by decide)
    have hv : M.numv [57, 50, 50, 51, 51, 55, 50, 48, 51, 54, 56, 53, 52, 55, 55, 53, 56, 48, 56] = 9223372036854775808 := by decide
    rw [hv] at h
    exact h
  rw [e, e2]
theorem itoa_neg (n : Int) (k : Nat) (hk : n = -(k : Int)) (h1 : 1 ≤ k) : (⟨#[45]⟩ : ByteArray) ++ decS k = ⟨(Lib.itoa n).toArray⟩ := by
  have e : Lib.itoa n = 45 :: Lib.decDigits k := by
    rw [Lib.itoa, if_pos (by omega), show n.natAbs = k by omega]
  rw [e]
  exact ByteArray.ext (by simp [ByteArray.data_append, decS])
theorem itoa_pos (n : Int) (k : Nat) (hk : n = (k : Int)) : decS k = ⟨(Lib.itoa n).toArray⟩ := by
  rw [Lib.itoa, if_neg (by omega), show n.toNat = k by omega]
  rfl

theorem refText_min (w : World) :
    Calls Tryd.prog 28 #[.int .i64 (-9223372036854775808)] w fun e w' => e = .returned (.string ⟨#[45, 57, 50, 50, 51, 51, 55, 50, 48, 51, 54, 56, 53, 52, 55, 55, 53, 56, 48, 56]⟩) ∧ w = w' := by
  go_enter Tryd.func28, Tryd.ntmps28
  go_wp2_with fail
  go_ret
  exact ⟨rfl, rfl⟩

set_option maxHeartbeats 1000000 in
theorem refText_neg (n : Int) (k : Nat) (hk : n = -(k : Int)) (h1 : 1 ≤ k) (h2 : k ≤ 9223372036854775807) (w : World) :
    Calls Tryd.prog 28 #[.int .i64 n] w fun e w' => e = .returned (.string ((⟨#[45]⟩ : ByteArray) ++ decS k)) ∧ Below w.heap.size w w' := by
  have hn1 : n < 0 := by omega
  have hn2 : -9223372036854775807 ≤ n := by omega
  have HK := Lib.hid (And.intro hk h2)
  clear hk h1 h2
  go_enter Tryd.func28, Tryd.ntmps28
  go_wp2_with fail
  have en : -n = ((k : Nat) : Int) := by have := HK.out.1; omega
  rw [en]
  refine (refText_nat k HK.out.2 _).mono ?_
  clear en
  rintro e w2 ⟨rfl, hb2⟩
  have hsz := decS_size k HK.out.2
  go_wp2_with fail
  go_ret
  exact ⟨rfl, hb2⟩

theorem refText_any (n : Int) (h0 : -9223372036854775808 ≤ n) (h1 : n ≤ 9223372036854775807) (w : World) :
    Calls Tryd.prog 28 #[.int .i64 n] w fun e w' => e = .returned (.string ⟨(Lib.itoa n).toArray⟩) ∧ Below w.heap.size w w' := by
  by_cases hn : n < 0
  · by_cases hm : n = -9223372036854775808
    · subst hm
      refine (refText_min w).mono ?_
      rintro e w' ⟨rfl, rfl⟩
      exact ⟨ret_string itoa_min.symm, Below.refl _ _⟩
    · obtain ⟨k, hk⟩ : ∃ k : Nat, n = -(k : Int) := ⟨n.natAbs, by omega⟩
      refine (refText_neg n k hk (by omega) (by omega) w).mono ?_
      rintro e w' ⟨rfl, hb⟩
      exact ⟨ret_string (itoa_neg n k hk (by omega)), hb⟩
  · obtain ⟨k, hk⟩ : ∃ k : Nat, n = (k : Int) := ⟨n.toNat, by omega⟩
    subst hk
    refine (refText_nat k (by omega) w).mono ?_
    rintro e w' ⟨rfl, hb⟩
    exact ⟨ret_string (itoa_pos _ k rfl), hb⟩
end Go.Proofs.YtlmnmiomfhgcdaaDoor
