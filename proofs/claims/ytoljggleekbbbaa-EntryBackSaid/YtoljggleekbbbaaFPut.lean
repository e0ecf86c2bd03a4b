/-
  Walks over field.Fits, field.Put, solderref02.Fits and solderref02.Put.
-/
import Derived.Test.YtoljggleekbbbaaFSize
import Derived.Lib.UnsafeStr
import Derived.Laws.IdiomStrings
namespace Go.Proofs.Ytoljggleekbbbaa
open Go.RowKit

theorem fits_size (n z : Int) (w : World) (h0 : -9223372036854775808 ≤ z) (h9 : z ≤ 9223372036854775807) (hs : M.sizeB z = false) :
    Calls Try.prog 28 #[.int .i64 n, .int .i64 z] w fun e w' => e = .returned (.bool (M.fitsB n z)) ∧ w = w' := by
  have HI := Lib.hid (isSize_any z w h0 h9)
  rw [hs] at HI
  have e : M.fitsB n z = false := by
    unfold M.fitsB; unfold M.sizeB at hs; simp at hs ⊢; omega
  rw [e]
  clear hs e
  go_enter Try.func28, Try.ntmps28
  go_wp2_with fail
  refine HI.out.mono ?_
  rintro e w1 ⟨rfl, rfl⟩
  go_wp2_with fail
  go_ret
  exact ⟨rfl, rfl⟩
theorem fits_neg (n z : Int) (w : World) (h0 : -9223372036854775808 ≤ z) (h9 : z ≤ 9223372036854775807) (hs : M.sizeB z = true) (hn : n < 0) :
    Calls Try.prog 28 #[.int .i64 n, .int .i64 z] w fun e w' => e = .returned (.bool (M.fitsB n z)) ∧ w = w' := by
  have HI := Lib.hid (isSize_any z w h0 h9)
  rw [hs] at HI
  have e : M.fitsB n z = false := by unfold M.fitsB; simp; omega
  rw [e]
  have hd : decide (0 ≤ n) = false := by simpa using hn
  clear hs e
  go_enter Try.func28, Try.ntmps28
  go_wp2_with fail
  refine HI.out.mono ?_
  rintro e w1 ⟨rfl, rfl⟩
  go_wp2_with fail
  go_ret
  exact ⟨rfl, rfl⟩
set_option maxHeartbeats 400000 in
theorem fits_pos (n z : Int) (w : World) (hs : M.sizeB z = true) (hn : 0 ≤ n) :
    Calls Try.prog 28 #[.int .i64 n, .int .i64 z] w fun e w' => e = .returned (.bool (M.fitsB n z)) ∧ w = w' := by
  have hz : z = 1 ∨ z = 2 ∨ z = 3 ∨ z = 4 ∨ z = 5 ∨ z = 6 ∨ z = 7 := by unfold M.sizeB at hs; simp at hs; omega
  have HI := Lib.hid (isSize_any z w (by omega) (by omega))
  rw [hs] at HI
  clear hs
  have HF : Hid (M.fitsB n z = decide (n < 256 ^ z.toNat)) := by
    show _ = _
    unfold M.fitsB
    rw [Bool.eq_iff_iff]
    simp only [decide_eq_true_eq]
    exact ⟨fun h => h.2.2.2, fun h => ⟨by omega, by omega, hn, h⟩⟩
  rcases hz with rfl | rfl | rfl | rfl | rfl | rfl | rfl
  all_goals
    rw [HF.out]
    go_enter Try.func28, Try.ntmps28
    go_wp2_with fail
    refine HI.out.mono ?_
    rintro e w1 ⟨rfl, rfl⟩
    go_wp2_with fail
    go_ret
    exact ⟨rfl, rfl⟩
theorem fits_any (n z : Int) (w : World) (h0 : -9223372036854775808 ≤ z) (h9 : z ≤ 9223372036854775807) :
    Calls Try.prog 28 #[.int .i64 n, .int .i64 z] w fun e w' => e = .returned (.bool (M.fitsB n z)) ∧ w = w' := by
  cases hs : M.sizeB z
  · exact fits_size n z w h0 h9 hs
  · by_cases hn : n < 0
    · exact fits_neg n z w h0 h9 hs hn
    · exact fits_pos n z w hs (by omega)

theorem rfits_no (n z : Int) (w : World) (h : ¬ (1 ≤ z ∧ z ≤ 7 ∧ 0 ≤ n)) :
    Calls Try.prog 31 #[.int .i64 n, .int .i64 z] w fun e w' => e = .returned (.bool (M.fitsB n z)) ∧ w = w' := by
  have e : M.fitsB n z = false := by unfold M.fitsB; simp; omega
  rw [e]
  clear e
  by_cases h1 : z < 1
  · clear h
    go_enter Try.func31, Try.ntmps31
    go_wp2_with fail
    go_ret
    exact ⟨rfl, rfl⟩
  · have d1 : decide (z < 1) = false := by simpa using h1
    by_cases h2 : 7 < z
    · clear h h1
      go_enter Try.func31, Try.ntmps31
      go_wp2_with fail
      go_ret
      exact ⟨rfl, rfl⟩
    · have d2 : decide (7 < z) = false := by simpa using h2
      have h3 : n < 0 := by omega
      clear h h1 h2
      go_enter Try.func31, Try.ntmps31
      go_wp2_with fail
      go_ret
      exact ⟨rfl, rfl⟩
set_option maxHeartbeats 400000 in
theorem rfits_yes (n z : Nat) (w : World) (h1 : 1 ≤ z) (h7 : z ≤ 7) (hn : n ≤ 9223372036854775807) :
    Calls Try.prog 31 #[.int .i64 n, .int .i64 z] w fun e w' => e = .returned (.bool (M.fitsB n z)) ∧ w = w' := by
  have HF : Hid (M.fitsB n z = decide (n / 256 ^ z = 0)) := by
    show _ = _
    unfold M.fitsB
    rw [Bool.eq_iff_iff]
    simp only [decide_eq_true_eq, Int.toNat_natCast]
    have hp : 0 < 256 ^ z := Nat.pow_pos (by omega)
    rw [Nat.div_eq_zero_iff]
    constructor
    · rintro ⟨_, _, _, h⟩
      right
      have : ((n : Nat) : Int) < ((256 ^ z : Nat) : Int) := by rw [Int.natCast_pow]; exact h
      omega
    · rintro (h | h)
      · omega
      · refine ⟨by omega, by omega, by omega, ?_⟩
        have : ((n : Nat) : Int) < ((256 ^ z : Nat) : Int) := by omega
        rw [Int.natCast_pow] at this
        exact this
  have d1 : decide ((z : Int) < 1) = false := by simp; omega
  have d2 : decide ((7 : Int) < (z : Int)) = false := by simp; omega
  have d3 : decide ((n : Int) < 0) = false := by simp
  go_enter Try.func31, Try.ntmps31
  go_wp2_with fail
  go_loop [0, 5] (fun v j => ∃ i : Nat, i ≤ z ∧ j = .int .i64 i ∧ v = .int .i64 ((n / 256 ^ i : Nat) : Int)) (fun _ j => z - (intOf j).toNat)
  case atStart => exact ⟨0, Nat.zero_le _, rfl, by simp⟩
  case round =>
    obtain ⟨i, hi, rfl, rfl⟩ := hrel
    have hq : n / 256 ^ i ≤ 9223372036854775807 := Nat.le_trans (Nat.div_le_self _ _) hn
    have HS : Hid (n / 256 ^ (i + 1) = n / 256 ^ i / 256) := by show _ = _; rw [Nat.pow_succ, Nat.div_div_eq_div_mul]
    obtain ⟨q, hq'⟩ : ∃ q, q = n / 256 ^ i := ⟨_, rfl⟩
    rw [← hq'] at HS hq
    rw [← hq']
    have HQ := Lib.hid hq'
    clear hq'
    by_cases hlt : i < z
    · go_wp2_with fail
      go_round
      case rel => exact ⟨i + 1, by omega, by go_num, by rw [HS.out]; go_num⟩
      case measure => simp [intOf]; omega
    · have e : i = z := by omega
      subst e
      go_wp2_with fail
      go_ret
      refine ⟨?_, rfl⟩
      rw [HF.out, ← HQ.out]
      show Ending.returned (.bool _) = _
      congr 2
      rw [Bool.eq_iff_iff]
      simp
theorem rfits_any (n z : Int) (w : World) (h9 : n ≤ 9223372036854775807) :
    Calls Try.prog 31 #[.int .i64 n, .int .i64 z] w fun e w' => e = .returned (.bool (M.fitsB n z)) ∧ w = w' := by
  by_cases h : 1 ≤ z ∧ z ≤ 7 ∧ 0 ≤ n
  · obtain ⟨n, rfl⟩ : ∃ m : Nat, n = m := ⟨n.toNat, by omega⟩
    obtain ⟨z, rfl⟩ : ∃ m : Nat, z = m := ⟨z.toNat, by omega⟩
    exact rfits_yes n z w (by omega) (by omega) (by omega)
  · exact rfits_no n z w h

theorem rput_no (s : ByteArray) (n z : Int) (w : World) (h9 : n ≤ 9223372036854775807) (hf : M.fitsB n z = false) :
    Calls Try.prog 17 #[.string s, .int .i64 n, .int .i64 z] w fun e w' => e = .returned (.string s) ∧ w = w' := by
  have HI := Lib.hid (rfits_any n z w h9)
  rw [hf] at HI
  clear hf
  go_enter Try.func17, Try.ntmps17
  go_wp2_with fail
  refine HI.out.mono ?_
  rintro e w1 ⟨rfl, rfl⟩
  go_wp2_with fail
  go_ret
  exact ⟨rfl, rfl⟩

theorem cons_bytes (c : UInt8) (t : List UInt8) : (⟨#[c]⟩ : ByteArray) ++ (⟨t.toArray⟩ : ByteArray) = ⟨(c :: t).toArray⟩ := by
  apply ByteArray.ext
  simp [ByteArray.data_append]
set_option maxHeartbeats 400000 in
theorem rput_yes (s : ByteArray) (n z : Nat) (w : World) (hs : s.size ≤ 100000) (h1 : 1 ≤ z) (h7 : z ≤ 7) (hn : n ≤ 9223372036854775807) (hf : M.fitsB n z = true) :
    Calls Try.prog 17 #[.string s, .int .i64 n, .int .i64 z] w fun e w' => e = .returned (.string (s ++ ⟨(M.be n z).toArray⟩)) ∧ Below w.heap.size w w' := by
  have HI := Lib.hid (rfits_any n z w (by omega))
  rw [hf] at HI
  clear hf
  go_enter Try.func17, Try.ntmps17
  go_wp2_with fail
  refine HI.out.mono ?_
  rintro e w1 ⟨rfl, rfl⟩
  go_wp2_with fail
  go_loopw [7, 8, 1] (fun u j v wr => ∃ (i q : Nat) (t : List UInt8), i ≤ z ∧ j = .int .i64 i ∧ v = .int .i64 q ∧ q ≤ 9223372036854775807 ∧ u = .string ⟨t.toArray⟩ ∧ t.length ≤ i ∧ Hid (M.be n z = M.be q (z - i) ++ t) ∧ Below w.heap.size w wr) (fun _ j _ _ => z - (intOf j).toNat)
  case atStart => exact ⟨0, n, [], Nat.zero_le _, rfl, rfl, hn, rfl, Nat.le_refl _, by show _ = _; simp, Below.refl _ _⟩
  case round =>
    obtain ⟨i, q, t, hi, rfl, rfl, hq, rfl, htl, HB, hbw⟩ := hrel
    by_cases hlt : i < z
    · obtain ⟨c, hc⟩ : ∃ c, c = UInt8.ofNat (q % 256) := ⟨_, rfl⟩
      have hcn : (c.toNat : Int) = (q : Int) % 256 := by rw [hc]; simp
      have HS : Hid (M.be q (z - i) ++ t = M.be (q / 256) (z - (i + 1)) ++ (c :: t)) := by
        show _ = _
        have e : z - i = (z - (i + 1)) + 1 := by omega
        rw [e, M.be_step, ← hc]
      have hcv := run_convert_bytes_back (P := Try.prog) (wr.alloc (.cells #[.int .u8 ((q : Int) % 256)] 5)) 37 9 5 ⟨wr.heap.size, 0, none⟩ 1 [c] Try.underlying37 Try.underlying5 Try.underlying9 (fun j hj => by
        have : j = 0 := by simpa using hj
        subst this
        show _ = some (Value.int .u8 (c.toNat : Int))
        rw [hcn]
        exact (Box.new wr 5 #[.int .u8 ((q : Int) % 256)]).cell 0)
      simp only [List.length_singleton] at hcv
      clear hc hcn
      have hb2 := Lib.hid (hbw.alloc hbw.size (.cells #[.int .u8 ((q : Int) % 256)] 5))
      go_wp2_with fail
      go_roundw
      case rel => exact ⟨i + 1, q / 256, c :: t, by omega, by go_num, by go_num, by omega, by simp [cons_bytes], by simp; omega, by show _ = _; rw [HB.out]; exact HS.out, hb2.out⟩
      case measure => simp [intOf]; omega
    · have e : i = z := by omega
      subst e
      go_wp2_with fail
      go_ret
      refine ⟨?_, hbw⟩
      rw [HB.out, Nat.sub_self]
      rfl
end Go.Proofs.Ytoljggleekbbbaa
