/-
  Walks over field's Reader, by its state: Bytes, Num, Left, End.
-/
import Derived.Test.YtoljggleekbbbaaFRead
namespace Go.Proofs.Ytoljggleekbbbaa
open Go.RowKit

theorem bytesF (b : Nat) (s : ByteArray) (t : M.St) (n : Int) (w : World) (hR : RdF w b s t) (ht : t.ok s) :
    Calls Try.prog 24 #[.pointer (some ⟨b, 0, none⟩), .int .i64 n] w fun e w' => e = .returned (.string (M.outB s t n)) ∧ RdF w' b s (M.stB s t n) ∧ w.grownBy w' (some b) := by
  obtain ⟨k, f⟩ := t
  have hk : k ≤ s.size := ht
  have hz := M.ext_size s k hk
  by_cases hf : f = 0
  · subst hf
    by_cases h0 : n < 0
    · refine (bytes_neg b _ n h0 w hR).mono ?_
      rintro e w' ⟨rfl, rfl⟩
      refine ⟨by rw [M.outB, if_neg (by simp; omega)], ?_, grown_set _ _ _ _⟩
      rw [M.stB, if_neg (by simp), if_pos h0]
      exact hR.set 1 _
    · by_cases h1 : (s.size : Int) - k < n
      · refine (bytes_short b _ n (by rw [hz]; omega) w hR).mono ?_
        rintro e w' ⟨rfl, rfl⟩
        refine ⟨by rw [M.outB, if_neg (by simp; omega)], ?_, grown_set _ _ _ _⟩
        rw [M.stB, if_neg (by simp), if_neg h0, if_pos h1]
        exact hR.set 1 _
      · obtain ⟨m, rfl⟩ : ∃ m : Nat, n = m := ⟨n.toNat, by omega⟩
        refine (bytes_ok b _ m (by rw [hz]; omega) w hR).mono ?_
        rintro e w' ⟨rfl, rfl⟩
        refine ⟨?_, ?_, grown_set _ _ _ _⟩
        · rw [M.outB, if_pos (by simp; omega)]
          simp only [Int.toNat_natCast]
          rw [M.ext_ext s k m (by omega)]
        · rw [M.stB, if_neg (by simp), if_neg h0, if_neg h1]
          simp only [Int.toNat_natCast]
          rw [M.ext_rest s k m (by omega)]
          exact hR.set 0 _
  · refine (bytes_failed b _ f n hf w hR).mono ?_
    rintro e w' ⟨rfl, rfl⟩
    refine ⟨by rw [M.outB, if_neg (by simp [hf])], ?_, World.grownBy.refl _ _⟩
    rw [M.stB, if_pos hf]
    exact hR

theorem outB_size (s : ByteArray) (t : M.St) (n : Int) (h : 0 ≤ n) : ((M.outB s t n).size : Int) ≤ n := by
  unfold M.outB
  split
  · rw [ByteArray.size_extract]; omega
  · exact h

theorem take_at (d : ByteArray) (k : Nat) (h : k < d.size) : M.num (d.data.toList.take (k + 1)) = 256 * M.num (d.data.toList.take k) + (d[k]'h).toNat := by
  rw [List.take_succ_eq_append_getElem (by simpa using h), M.num_snoc]
  rfl
theorem num_take_lt (d : ByteArray) (k : Nat) (h : k < 7) (hk : k ≤ d.size) : M.num (d.data.toList.take k) < 281474976710656 := by
  have h1 := M.num_lt k (d.data.toList.take k) (by rw [List.length_take]; exact Nat.min_eq_left hk)
  have : 256 ^ k ≤ 256 ^ 6 := Nat.pow_le_pow_right (by omega) (by omega)
  omega

theorem or_i64 (q c : Nat) (hq : q < 281474976710656) (hc : c < 256) : bits BinOp.or IntKind.i64 ((q : Int) * 256) (c : Int) = ((256 * q + c : Nat) : Int) := by
  have e : ((q : Int) * 256) = ((q * 256 : Nat) : Int) := by omega
  have ha : (BitVec.ofInt 64 ((q * 256 : Nat) : Int)).toNat = q * 256 := by rw [BitVec.ofInt_natCast, BitVec.toNat_ofNat]; exact Nat.mod_eq_of_lt (by omega)
  have hb : (BitVec.ofInt 64 (c : Int)).toNat = c := by rw [BitVec.ofInt_natCast, BitVec.toNat_ofNat]; exact Nat.mod_eq_of_lt (by omega)
  rw [e]
  show IntKind.i64.wrap ((BitVec.ofInt 64 ((q * 256 : Nat) : Int) ||| BitVec.ofInt 64 (c : Int)).toNat : Int) = _
  rw [BitVec.toNat_or, ha, hb, M.shl_or q c hc, IntKind.wrap_i64]
  omega

set_option maxHeartbeats 1000000 in
theorem num_loop (b : Nat) (s : ByteArray) (t : M.St) (n : Int) (h1 : 1 ≤ n) (h7 : n ≤ 7) (w : World) (hR : RdF w b s t) (ht : t.ok s) :
    Calls Try.prog 35 #[.pointer (some ⟨b, 0, none⟩), .int .i64 n] w fun e w' => e = .returned (.int .i64 (M.num (M.outB s t n).data.toList)) ∧ RdF w' b s (M.stB s t n) ∧ w.grownBy w' (some b) := by
  have HC := Lib.hid (bytesF b s t n w hR ht)
  have HS : M.sizeB n = true := by unfold M.sizeB; simp; omega
  have HI := Lib.hid (isSize_any n w (by omega) (by omega))
  have hsz := outB_size s t n (by omega)
  obtain ⟨d, hd⟩ : ∃ d, d = M.outB s t n := ⟨_, rfl⟩
  rw [← hd] at HC hsz
  rw [← hd]
  rw [HS] at HI
  clear hR hd HS
  go_enter Try.func35, Try.ntmps35
  go_wp2_with fail
  refine HI.out.mono ?_
  rintro e w1 ⟨rfl, rfl⟩
  go_wp2_with fail
  refine HC.out.mono ?_
  rintro e w2 ⟨rfl, hR2, hg2⟩
  have X := Lib.hid (And.intro hR2 hg2)
  clear hR2 hg2
  go_wp2_with fail
  go_loop [5, 18] (fun v j => ∃ k : Nat, k ≤ d.size ∧ j = .int .i64 k ∧ v = .int .i64 (M.num (d.data.toList.take k))) (fun _ j => d.size - (intOf j).toNat)
  case atStart => exact ⟨0, Nat.zero_le _, rfl, rfl⟩
  case round =>
    obtain ⟨k, hk, rfl, rfl⟩ := hrel
    by_cases hlt : k < d.size
    · have HT := Lib.hid (take_at d k hlt)
      have hb := num_take_lt d k (by omega) hk
      obtain ⟨c, hc⟩ : ∃ c, c = (d[k]'hlt) := ⟨_, rfl⟩
      have hc8 := c.toNat_lt
      rw [← hc] at HT
      have hix : ∀ h : k < d.size, d[k]'h = c := fun _ => hc.symm
      clear hc
      obtain ⟨q, hq⟩ : ∃ q, q = M.num (d.data.toList.take k) := ⟨_, rfl⟩
      rw [← hq] at HT hb
      rw [← hq]
      clear hq
      go_wp2_with fail
      go_round
      case rel => exact ⟨k + 1, by omega, by go_num, by rw [HT.out, or_i64 q c.toNat hb hc8]⟩
      case measure => simp [intOf]; omega
    · go_wp2_with fail
      go_ret
      have e : k = d.size := by omega
      subst e
      refine ⟨?_, X.out⟩
      rw [List.take_of_length_le (by rw [Array.length_toList]; exact Nat.le_refl _)]
      rfl

set_option maxHeartbeats 400000 in
theorem num_nil (n : Int) (w : World) (h0 : -9223372036854775808 ≤ n) (h9 : n ≤ 9223372036854775807) :
    Calls Try.prog 35 #[.pointer none, .int .i64 n] w fun e w' => e = .returned (.int .i64 0) ∧ w = w' := by
  have HI := Lib.hid (isSize_any n w h0 h9)
  cases hs : M.sizeB n
  · rw [hs] at HI
    clear hs
    go_enter Try.func35, Try.ntmps35
    go_wp2_with fail
    refine HI.out.mono ?_
    rintro e w1 ⟨rfl, rfl⟩
    go_wp2_with fail
    refine (fail_nil 3 w).mono ?_
    rintro e w1 ⟨rfl, rfl⟩
    go_wp2_with fail
    go_ret
    exact ⟨rfl, rfl⟩
  · rw [hs] at HI
    clear hs
    go_enter Try.func35, Try.ntmps35
    go_wp2_with fail
    refine HI.out.mono ?_
    rintro e w1 ⟨rfl, rfl⟩
    go_wp2_with fail
    refine (bytes_nil n w).mono ?_
    rintro e w1 ⟨rfl, rfl⟩
    go_wp2_with fail
    go_loop [5, 18] (fun v j => j = .int .i64 0 ∧ v = .int .i64 0) (fun _ _ => 0)
    case atStart => exact ⟨rfl, rfl⟩
    case round =>
      obtain ⟨rfl, rfl⟩ := hrel
      go_wp2_with fail
      go_ret
      exact ⟨rfl, rfl⟩

theorem num_none (b : Nat) (s : ByteArray) (t : M.St) (n : Int) (h0 : -9223372036854775808 ≤ n) (h9 : n ≤ 9223372036854775807) (hs : M.sizeB n = false) (w : World) (hR : RdF w b s t) :
    Calls Try.prog 35 #[.pointer (some ⟨b, 0, none⟩), .int .i64 n] w fun e w' => e = .returned (.int .i64 0) ∧ RdF w' b s (if t.e ≠ 0 then t else ⟨t.k, 3⟩) ∧ w.grownBy w' (some b) := by
  have HI := Lib.hid (isSize_any n w h0 h9)
  rw [hs] at HI
  obtain ⟨k, f⟩ := t
  have HR := Lib.hid hR
  clear hs hR
  by_cases hf : f = 0
  · subst hf
    go_enter Try.func35, Try.ntmps35
    go_wp2_with fail
    refine HI.out.mono ?_
    rintro e w1 ⟨rfl, rfl⟩
    go_wp2_with fail
    refine (fail_yes b _ 3 w HR.out).mono ?_
    rintro e w1 ⟨rfl, rfl⟩
    have X : Hid (RdF (w.setCell ⟨b, 1, none⟩ (.int .i64 3)) b s ⟨k, 3⟩) := HR.out.set 1 _
    have Y := Lib.hid (grown_set w b 1 (.int .i64 3))
    obtain ⟨w2, hw2⟩ : ∃ w2, w2 = w.setCell ⟨b, 1, none⟩ (.int .i64 3) := ⟨_, rfl⟩
    rw [← hw2] at X Y
    rw [← hw2]
    clear hw2
    go_wp2_with fail
    go_ret
    exact ⟨rfl, X.out, Y.out⟩
  · have HF := Lib.hid hf
    clear hf
    go_enter Try.func35, Try.ntmps35
    go_wp2_with fail
    refine HI.out.mono ?_
    rintro e w1 ⟨rfl, rfl⟩
    go_wp2_with fail
    refine (fail_not b _ f 3 HF.out w HR.out).mono ?_
    rintro e w1 ⟨rfl, rfl⟩
    go_wp2_with fail
    go_ret
    exact ⟨rfl, HR.out, World.grownBy.refl _ _⟩

theorem numF (b : Nat) (s : ByteArray) (t : M.St) (n : Int) (h0 : -9223372036854775808 ≤ n) (h9 : n ≤ 9223372036854775807) (w : World) (hR : RdF w b s t) (ht : t.ok s) :
    Calls Try.prog 35 #[.pointer (some ⟨b, 0, none⟩), .int .i64 n] w fun e w' => e = .returned (.int .i64 (M.outN s t n)) ∧ RdF w' b s (M.stN s t n) ∧ w.grownBy w' (some b) := by
  unfold M.outN M.stN
  by_cases h : 1 ≤ n ∧ n ≤ 7
  · rw [if_pos h, if_pos h]
    exact num_loop b s t n h.1 h.2 w hR ht
  · rw [if_neg h, if_neg h]
    exact num_none b s t n h0 h9 (by unfold M.sizeB; simpa using h) w hR

theorem leftF (b : Nat) (s : ByteArray) (t : M.St) (w : World) (hR : RdF w b s t) (ht : t.ok s) :
    Calls Try.prog 26 #[.pointer (some ⟨b, 0, none⟩)] w fun e w' => e = .returned (.int .i64 (M.left s t)) ∧ w = w' := by
  have h := left_any b _ _ w hR
  rw [M.ext_size s t.k ht] at h
  have e : ((s.size - t.k : Nat) : Int) = M.left s t := by unfold M.left; have : t.k ≤ s.size := ht; omega
  rw [e] at h
  exact h
theorem newF (s : ByteArray) (w : World) :
    Calls Try.prog 23 #[.string s] w fun e w' => e = .returned (.pointer (some ⟨w.heap.size, 0, none⟩)) ∧ RdF w' w.heap.size s ⟨0, 0⟩ ∧ Below w.heap.size w w' := by
  refine (fnew_any s w).mono ?_
  rintro e w' ⟨rfl, rfl⟩
  refine ⟨rfl, ?_, (Below.refl _ _).alloc (Nat.le_refl _) _⟩
  unfold RdF
  rw [M.ext_all]
  exact Box.new _ _ _
end Go.Proofs.Ytoljggleekbbbaa
