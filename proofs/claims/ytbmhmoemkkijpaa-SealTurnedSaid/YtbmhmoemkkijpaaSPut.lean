/-
  Walks over seal.Put and solderref04.Put.
-/
import Derived.Test.YtbmhmoemkkijpaaFPutF
import Derived.Test.YtbmhmoemkkijpaaCTail
import Derived.Test.YtbmhmoemkkijpaaSMath
namespace Go.Proofs.Ytbmhmoemkkijpaa
open Go.RowKit

theorem fits1 (k : Int) : M.fitsB k 1 = decide (0 ≤ k ∧ k < 256) := by
  unfold M.fitsB
  rw [Bool.eq_iff_iff]
  simp
theorem tailT (s : ByteArray) (w : World) (hs : s.size ≤ 9223372036854775807) :
    Calls Try.prog 16 #[.string s] w fun e w' => e = .returned (.string (M.tail s)) ∧ Below w.heap.size w w' := tail_any s w hs
theorem rtailT (s : ByteArray) (w : World) (hs : s.size ≤ 9223372036854775807) :
    Calls Try.prog 18 #[.string s] w fun e w' => e = .returned (.string (M.tail s)) ∧ Below w.heap.size w w' := rtail_any s w hs

set_option maxHeartbeats 400000 in
theorem sput_yes (k : Nat) (b : ByteArray) (w : World) (hk : k < 256) (hb : b.size ≤ 600) :
    Calls Try.prog 8 #[.int .i64 k, .string b] w fun e w' => e = .returned (.tuple #[.string (M.whole k b), .int .i64 0]) ∧ Below w.heap.size w w' := by
  have f1 : M.fitsB k 1 = true := by rw [fits1]; simp; omega
  have f2 : M.fitsB b.size 2 = true := by unfold M.fitsB; simp; omega
  have hd : decide ((600 : Int) < (b.size : Int)) = false := by simp; omega
  have F1 := Lib.hid (fun w => fits_any k 1 w (by omega) (by omega))
  rw [f1] at F1
  have P1 := Lib.hid (fun w => put_yes ⟨#[]⟩ k 1 w (by decide) (by omega) (by omega) (by omega) f1)
  have P2 := Lib.hid (fun w => put_yes (M.bytes k 1) b.size 2 w (by rw [M.bytes_size]; omega) (by omega) (by omega) (by omega) f2)
  have C3 := Lib.hid (fun w => tailT (M.front k b) w (by rw [M.front_size]; omega))
  have e1 : (⟨#[]⟩ : ByteArray) ++ ⟨(M.be k 1).toArray⟩ = M.bytes k 1 := M.nil_app _
  rw [e1] at P1
  obtain ⟨p, hp⟩ : ∃ p, p = M.bytes k 1 := ⟨_, rfl⟩
  obtain ⟨q, hq⟩ : ∃ q, q = M.bytes k 1 ++ M.bytes b.size 2 := ⟨_, rfl⟩
  have e2 : M.bytes k 1 ++ ⟨(M.be b.size 2).toArray⟩ = q := hq.symm
  rw [e2] at P2
  rw [← hp] at P1 P2
  have hqz : q.size = 3 := by rw [hq, ByteArray.size_append, M.bytes_size, M.bytes_size]
  obtain ⟨r, hr⟩ : ∃ r, r = M.front k b := ⟨_, rfl⟩
  have E3 : Hid (q ++ b = r) := by show _ = _; rw [hr, hq]; rfl
  have hrz : r.size = 3 + b.size := by rw [hr, M.front_size]
  rw [← hr] at C3
  have E4 : Hid (r ++ M.tail r = M.whole k b) := by show _ = _; rw [hr]; rfl
  have htz := M.tail_size r
  clear e1 e2 hp hq hr f1 f2
  obtain ⟨t, ht⟩ : ∃ t, t = M.tail r := ⟨_, rfl⟩
  rw [← ht] at C3 E4 htz
  clear ht
  go_enter Try.func8, Try.ntmps8
  go_wp2_with fail
  refine (F1.out w).mono ?_
  rintro e w1 ⟨rfl, rfl⟩
  go_wp2_with fail
  refine (P1.out w).mono ?_
  rintro e w1 ⟨rfl, hb1⟩
  go_wp2_with fail
  refine (P2.out w1).mono ?_
  rintro e w2 ⟨rfl, hb2⟩
  have hb2 := hb1.trans (hb2.mono hb1.size)
  clear hb1
  go_wp2_with fail
  rw [E3.out]
  refine (C3.out w2).mono ?_
  rintro e w3 ⟨rfl, hb3⟩
  have hb3 := hb2.trans (hb3.mono hb2.size)
  clear hb2
  go_wp2_with fail
  go_ret2
  exact ⟨by rw [← E4.out]; rfl, hb3⟩

theorem sput_any (k : Int) (b : ByteArray) (w : World) (k0 : -9223372036854775808 ≤ k) (k9 : k ≤ 9223372036854775807) :
    Calls Try.prog 8 #[.int .i64 k, .string b] w fun e w' => e = .returned (.tuple #[.string (M.putB k b), .int .i64 (M.putE k b)]) ∧ Below w.heap.size w w' := by
  by_cases hk : k < 0 ∨ 255 < k
  · have f1 : M.fitsB k 1 = false := by rw [fits1]; simp; omega
    have F1 := Lib.hid (fun w => fits_any k 1 w (by omega) (by omega))
    rw [f1] at F1
    rw [M.putB, M.putE, if_pos hk, if_pos hk]
    clear hk f1
    go_enter Try.func8, Try.ntmps8
    go_wp2_with fail
    refine (F1.out w).mono ?_
    rintro e w1 ⟨rfl, rfl⟩
    go_wp2_with fail
    go_ret2
    exact ⟨rfl, Below.refl _ _⟩
  · by_cases hb : 600 < b.size
    · have f1 : M.fitsB k 1 = true := by rw [fits1]; simp; omega
      have F1 := Lib.hid (fun w => fits_any k 1 w (by omega) (by omega))
      rw [f1] at F1
      rw [M.putB, M.putE, if_neg hk, if_neg hk, if_pos hb, if_pos hb]
      have hd : decide ((600 : Int) < (b.size : Int)) = true := by simp; omega
      clear hk f1 hb
      go_enter Try.func8, Try.ntmps8
      go_wp2_with fail
      refine (F1.out w).mono ?_
      rintro e w1 ⟨rfl, rfl⟩
      go_wp2_with fail
      go_ret2
      exact ⟨rfl, Below.refl _ _⟩
    · obtain ⟨n, rfl⟩ : ∃ n : Nat, k = n := ⟨k.toNat, by omega⟩
      obtain ⟨h1, h2⟩ := M.put_whole n b (by omega) (by omega)
      rw [h1, h2]
      exact sput_yes n b w (by omega) (by omega)

set_option maxHeartbeats 400000 in
theorem rsput_yes (k : Nat) (b : ByteArray) (w : World) (hk : k < 256) (hb : b.size ≤ 600) :
    Calls Try.prog 9 #[.int .i64 k, .string b] w fun e w' => e = .returned (.tuple #[.string (M.whole k b), .int .i64 0]) ∧ Below w.heap.size w w' := by
  have f1 : M.fitsB k 1 = true := by rw [fits1]; simp; omega
  have f2 : M.fitsB b.size 2 = true := by unfold M.fitsB; simp; omega
  have hd : decide ((600 : Int) < (b.size : Int)) = false := by simp; omega
  have hk0 : decide ((k : Int) < 0) = false := by simp
  have hk1 : decide ((255 : Int) < (k : Int)) = false := by simp; omega
  have P1 := Lib.hid (fun w => rput_yes ⟨#[]⟩ k 1 w (by decide) (by omega) (by omega) (by omega) f1)
  have P2 := Lib.hid (fun w => rput_yes (M.bytes k 1) b.size 2 w (by rw [M.bytes_size]; omega) (by omega) (by omega) (by omega) f2)
  have C3 := Lib.hid (fun w => rtailT (M.front k b) w (by rw [M.front_size]; omega))
  have e1 : (⟨#[]⟩ : ByteArray) ++ ⟨(M.be k 1).toArray⟩ = M.bytes k 1 := M.nil_app _
  rw [e1] at P1
  obtain ⟨p, hp⟩ : ∃ p, p = M.bytes k 1 := ⟨_, rfl⟩
  obtain ⟨q, hq⟩ : ∃ q, q = M.bytes k 1 ++ M.bytes b.size 2 := ⟨_, rfl⟩
  have e2 : M.bytes k 1 ++ ⟨(M.be b.size 2).toArray⟩ = q := hq.symm
  rw [e2] at P2
  rw [← hp] at P1 P2
  have hqz : q.size = 3 := by rw [hq, ByteArray.size_append, M.bytes_size, M.bytes_size]
  obtain ⟨r, hr⟩ : ∃ r, r = M.front k b := ⟨_, rfl⟩
  have E3 : Hid (q ++ b = r) := by show _ = _; rw [hr, hq]; rfl
  have hrz : r.size = 3 + b.size := by rw [hr, M.front_size]
  rw [← hr] at C3
  have E4 : Hid (r ++ M.tail r = M.whole k b) := by show _ = _; rw [hr]; rfl
  have htz := M.tail_size r
  clear e1 e2 hp hq hr f1 f2
  obtain ⟨t, ht⟩ : ∃ t, t = M.tail r := ⟨_, rfl⟩
  rw [← ht] at C3 E4 htz
  clear ht
  go_enter Try.func9, Try.ntmps9
  go_wp2_with fail
  refine (P1.out w).mono ?_
  rintro e w1 ⟨rfl, hb1⟩
  go_wp2_with fail
  refine (P2.out w1).mono ?_
  rintro e w2 ⟨rfl, hb2⟩
  have hb2 := hb1.trans (hb2.mono hb1.size)
  clear hb1
  go_wp2_with fail
  rw [E3.out]
  refine (C3.out w2).mono ?_
  rintro e w3 ⟨rfl, hb3⟩
  have hb3 := hb2.trans (hb3.mono hb2.size)
  clear hb2
  go_wp2_with fail
  go_ret2
  exact ⟨by rw [← E4.out]; rfl, hb3⟩

theorem rsput_any (k : Int) (b : ByteArray) (w : World) :
    Calls Try.prog 9 #[.int .i64 k, .string b] w fun e w' => e = .returned (.tuple #[.string (M.putB k b), .int .i64 (M.putE k b)]) ∧ Below w.heap.size w w' := by
  by_cases hk0 : k < 0
  · rw [M.putB, M.putE, if_pos (Or.inl hk0), if_pos (Or.inl hk0)]
    have d0 : decide (k < 0) = true := by simpa using hk0
    clear hk0
    go_enter Try.func9, Try.ntmps9
    go_wp2_with fail
    go_ret2
    exact ⟨rfl, Below.refl _ _⟩
  · by_cases hk1 : 255 < k
    · rw [M.putB, M.putE, if_pos (Or.inr hk1), if_pos (Or.inr hk1)]
      have d0 : decide (k < 0) = false := by simpa using hk0
      have d1 : decide (255 < k) = true := by simpa using hk1
      clear hk0 hk1
      go_enter Try.func9, Try.ntmps9
      go_wp2_with fail
      go_ret2
      exact ⟨rfl, Below.refl _ _⟩
    · have hk : ¬ (k < 0 ∨ 255 < k) := by omega
      by_cases hb : 600 < b.size
      · rw [M.putB, M.putE, if_neg hk, if_neg hk, if_pos hb, if_pos hb]
        have d0 : decide (k < 0) = false := by simpa using hk0
        have d1 : decide (255 < k) = false := by simpa using hk1
        have hd : decide ((600 : Int) < (b.size : Int)) = true := by simp; omega
        clear hk hk0 hk1 hb
        go_enter Try.func9, Try.ntmps9
        go_wp2_with fail
        go_ret2
        exact ⟨rfl, Below.refl _ _⟩
      · obtain ⟨n, rfl⟩ : ∃ n : Nat, k = n := ⟨k.toNat, by omega⟩
        obtain ⟨h1, h2⟩ := M.put_whole n b (by omega) (by omega)
        rw [h1, h2]
        exact rsput_yes n b w (by omega) (by omega)
end Go.Proofs.Ytbmhmoemkkijpaa
