/-
  Walks over solderref02's Reader, by its state: Bytes, Num, Left, End.
-/
import Derived.Test.YtdhagdggfhjokaaFRdF
namespace Go.Proofs.Ytdhagdggfhjokaa
open Go.RowKit

/-- A solderref02.Reader in block b of w that has read k of s's bytes and failed with e. -/
def RdR (w : World) (b : Nat) (s : ByteArray) (t : M.St) : Prop := Box w b 32 #[.string s, .int .i64 t.k, .int .i64 t.e]
theorem Box.drewN {w : World} {g : Nat} {t : TypeId} {cs : Array Value} (h : Box w g t cs) (n : Nat) : Box (w.drewN n) g t cs := h
theorem grown_drewN {a w : World} {row : Option Nat} (h : a.grownBy w row) (n : Nat) : a.grownBy (w.drewN n) row := ⟨h.os, h.tape, h.output, h.size, h.block⟩

theorem rbytes_failed (b : Nat) (s : ByteArray) (k : Nat) (f n : Int) (hf : f ≠ 0) (w : World) (hB : Box w b 32 #[.string s, .int .i64 k, .int .i64 f]) :
    Calls Try.prog 15 #[.pointer (some ⟨b, 0, none⟩), .int .i64 n] w fun e w' => e = .returned (.string ⟨#[]⟩) ∧ w = w' := by
  have h1 := hB.cell 2
  have hd : (f != 0) = true := by simpa using hf
  have HB := Lib.hid hB; clear hB hf
  simp at h1
  go_enter Try.func15, Try.ntmps15
  go_wp2_with fail
  go_ret
  exact ⟨rfl, rfl⟩
theorem rbytes_neg (b : Nat) (s : ByteArray) (k : Nat) (n : Int) (hn : n < 0) (w : World) (hB : Box w b 32 #[.string s, .int .i64 k, .int .i64 0]) :
    Calls Try.prog 15 #[.pointer (some ⟨b, 0, none⟩), .int .i64 n] w fun e w' => e = .returned (.string ⟨#[]⟩) ∧ w' = w.setCell ⟨b, 2, none⟩ (.int .i64 3) := by
  have h1 := hB.cell 2
  have h2 := hB.frozen 2
  have HB := Lib.hid hB; clear hB
  simp at h1
  go_enter Try.func15, Try.ntmps15
  go_wp2_with fail
  go_ret
  exact ⟨rfl, rfl⟩
theorem rbytes_short (b : Nat) (s : ByteArray) (k : Nat) (n : Int) (hs : s.size ≤ 100000) (hk : k ≤ s.size) (hn : (s.size : Int) - k < n) (w : World) (hB : Box w b 32 #[.string s, .int .i64 k, .int .i64 0]) :
    Calls Try.prog 15 #[.pointer (some ⟨b, 0, none⟩), .int .i64 n] w fun e w' => e = .returned (.string ⟨#[]⟩) ∧ ∃ m, w' = (w.setCell ⟨b, 2, none⟩ (.int .i64 1)).drewN m := by
  have h0 := hB.cell 0
  have h1 := hB.cell 1
  have h2 := hB.cell 2
  have h3 := hB.frozen 2
  have hn0 : decide (n < 0) = false := by simp; omega
  have hn1 : decide ((s.size : Int) - k < n) = true := by simpa using hn
  have HB := Lib.hid hB; clear hB
  simp at h0 h1 h2
  go_enter Try.func15, Try.ntmps15
  go_wp2_with fail
  go_quiet (fail)
  go_wp2_with fail
  go_ret
  exact ⟨rfl, _, rfl⟩
theorem rbytes_ok (b : Nat) (s : ByteArray) (k m : Nat) (hs : s.size ≤ 100000) (hk : k + m ≤ s.size) (w : World) (hB : Box w b 32 #[.string s, .int .i64 k, .int .i64 0]) :
    Calls Try.prog 15 #[.pointer (some ⟨b, 0, none⟩), .int .i64 m] w fun e w' => e = .returned (.string (s.extract k (k + m))) ∧ Box w' b 32 #[.string s, .int .i64 ((k + m : Nat) : Int), .int .i64 0] ∧ w.grownBy w' (some b) := by
  have h0 := hB.cell 0
  have h1 := hB.cell 1
  have h2 := hB.cell 2
  have h3 := hB.frozen 1
  have hn0 : decide ((m : Int) < 0) = false := by simp
  have hn1 : decide ((s.size : Int) - k < (m : Int)) = false := by simp; omega
  have HB := Lib.hid hB; clear hB
  simp at h0 h1 h2
  go_enter Try.func15, Try.ntmps15
  go_wp2_with fail
  go_quiet (fail)
  go_wp2_with fail
  go_quiet (fail)
  go_wp2_with fail
  go_ret
  refine ⟨rfl, (HB.out.drewN _).set 1 _, ?_⟩
  exact grown_drewN (World.grownBy.trans (grown_drewN (World.grownBy.refl _ _) _) (grown_set _ _ _ _)) _

theorem bytesR (b : Nat) (s : ByteArray) (t : M.St) (n : Int) (hs : s.size ≤ 100000) (w : World) (hR : RdR w b s t) (ht : t.ok s) :
    Calls Try.prog 15 #[.pointer (some ⟨b, 0, none⟩), .int .i64 n] w fun e w' => e = .returned (.string (M.outB s t n)) ∧ RdR w' b s (M.stB s t n) ∧ w.grownBy w' (some b) := by
  obtain ⟨k, f⟩ := t
  have hk : k ≤ s.size := ht
  by_cases hf : f = 0
  · subst hf
    by_cases h0 : n < 0
    · refine (rbytes_neg b s k n h0 w hR).mono ?_
      rintro e w' ⟨rfl, rfl⟩
      refine ⟨by rw [M.outB, if_neg (by simp; omega)], ?_, grown_set _ _ _ _⟩
      rw [M.stB, if_neg (by simp), if_pos h0]
      exact hR.set 2 _
    · by_cases h1 : (s.size : Int) - k < n
      · refine (rbytes_short b s k n hs hk h1 w hR).mono ?_
        rintro e w' ⟨rfl, q, rfl⟩
        refine ⟨by rw [M.outB, if_neg (by simp; omega)], ?_, grown_drewN (grown_set _ _ _ _) _⟩
        rw [M.stB, if_neg (by simp), if_neg h0, if_pos h1]
        exact (hR.set 2 _).drewN q
      · obtain ⟨m, rfl⟩ : ∃ m : Nat, n = m := ⟨n.toNat, by omega⟩
        refine (rbytes_ok b s k m hs (by omega) w hR).mono ?_
        rintro e w' ⟨rfl, hB, hg⟩
        refine ⟨?_, ?_, hg⟩
        · rw [M.outB, if_pos (by simp; omega)]
          simp only [Int.toNat_natCast]
        · rw [M.stB, if_neg (by simp), if_neg h0, if_neg h1]
          simp only [Int.toNat_natCast]
          exact hB
  · refine (rbytes_failed b s k f n hf w hR).mono ?_
    rintro e w' ⟨rfl, rfl⟩
    refine ⟨by rw [M.outB, if_neg (by simp [hf])], ?_, World.grownBy.refl _ _⟩
    rw [M.stB, if_pos hf]
    exact hR

/-- The sum of the loop of solderref02's Num, from the call of Bytes on; d: what Bytes answered. -/
theorem rnum_ok (b : Nat) (s : ByteArray) (t : M.St) (n : Int) (h1 : 1 ≤ n) (h7 : n ≤ 7) (hs : s.size ≤ 100000) (he : t.e = 0) (w : World) (hR : RdR w b s t) (ht : t.ok s) :
    Calls Try.prog 13 #[.pointer (some ⟨b, 0, none⟩), .int .i64 n] w fun e w' => e = .returned (.int .i64 (M.num (M.outB s t n).data.toList)) ∧ RdR w' b s (M.stB s t n) ∧ w.grownBy w' (some b) := by
  have HC := Lib.hid (bytesR b s t n hs w hR ht)
  have hsz := outB_size s t n (by omega)
  obtain ⟨d, hd⟩ : ∃ d, d = M.outB s t n := ⟨_, rfl⟩
  rw [← hd] at HC hsz
  rw [← hd]
  have h2 := hR.cell 2
  simp at h2
  have hm : decide (n < 1) = false := by simp; omega
  have hm7 : decide (7 < n) = false := by simp; omega
  clear hR hd
  have hd1 : (t.e == 0) = true := by simpa using he
  clear he
  go_enter Try.func13, Try.ntmps13
  go_wp2_with fail
  refine HC.out.mono ?_
  rintro e w2 ⟨rfl, hR2, hg2⟩
  have X := Lib.hid (And.intro hR2 hg2)
  clear hR2 hg2 h2 hd1
  go_wp2_with fail
  go_loop [6, 7] (fun v j => ∃ k : Nat, k ≤ d.size ∧ j = .int .i64 k ∧ v = .int .i64 (M.num (d.data.toList.take k))) (fun _ j => d.size - (intOf j).toNat)
  case atStart => exact ⟨0, Nat.zero_le _, rfl, rfl⟩
  case round =>
    obtain ⟨k, hk, rfl, rfl⟩ := hrel
    by_cases hlt : k < d.size
    · have HT := Lib.hid (take_at d k hlt)
      have hb := num_take_lt d k (by omega) hk
      obtain ⟨c, hc⟩ : ∃ c, c = (d[k]'hlt) := ⟨_, rfl⟩
      have hc8 := c.toNat_lt
      rw [← hc] at HT
      have hix : ∀ h : k < d.size, d[k]'h = c := fun _ => hc.symm
      clear hc
      obtain ⟨q, hq⟩ : ∃ q, q = M.num (d.data.toList.take k) := ⟨_, rfl⟩
      rw [← hq] at HT hb
      rw [← hq]
      clear hq
      go_wp2_with fail
      go_round
      case rel => exact ⟨k + 1, by omega, by go_num, by rw [HT.out]; go_num⟩
      case measure => simp [intOf]; omega
    · go_wp2_with fail
      go_ret
      have e : k = d.size := by omega
      subst e
      refine ⟨?_, X.out⟩
      rw [List.take_of_length_le (by rw [Array.length_toList]; exact Nat.le_refl _)]
      rfl

theorem rnum_failed (b : Nat) (s : ByteArray) (k : Nat) (f n : Int) (hf : f ≠ 0) (w : World) (hB : Box w b 32 #[.string s, .int .i64 k, .int .i64 f]) :
    Calls Try.prog 13 #[.pointer (some ⟨b, 0, none⟩), .int .i64 n] w fun e w' => e = .returned (.int .i64 0) ∧ w = w' := by
  have HC := Lib.hid (rbytes_failed b s k f n hf w hB)
  have h2 := hB.cell 2
  have hd : (f == 0) = false := by simpa using hf
  simp at h2
  clear hB hf
  go_enter Try.func13, Try.ntmps13
  go_wp2_with fail
  refine HC.out.mono ?_
  rintro e w2 ⟨rfl, rfl⟩
  go_wp2_with fail
  go_loop [6, 7] (fun v j => j = .int .i64 0 ∧ v = .int .i64 0) (fun _ _ => 0)
  case atStart => exact ⟨rfl, rfl⟩
  case round =>
    obtain ⟨rfl, rfl⟩ := hrel
    go_wp2_with fail
    go_ret
    exact ⟨rfl, rfl⟩
theorem rnum_none (b : Nat) (s : ByteArray) (k : Nat) (n : Int) (hn : ¬ (1 ≤ n ∧ n ≤ 7)) (w : World) (hB : Box w b 32 #[.string s, .int .i64 k, .int .i64 0]) :
    Calls Try.prog 13 #[.pointer (some ⟨b, 0, none⟩), .int .i64 n] w fun e w' => e = .returned (.int .i64 0) ∧ w' = w.setCell ⟨b, 2, none⟩ (.int .i64 3) := by
  have HC := Lib.hid (rbytes_failed b s k 3 n (by omega) (w.setCell ⟨b, 2, none⟩ (.int .i64 3)) (hB.set 2 _))
  have h2 := hB.cell 2
  have h3 := hB.frozen 2
  simp at h2
  clear hB
  by_cases h1 : n < 1
  · clear hn
    go_enter Try.func13, Try.ntmps13
    go_wp2_with fail
    refine HC.out.mono ?_
    rintro e w2 ⟨rfl, rfl⟩
    go_wp2_with fail
    go_loop [6, 7] (fun v j => j = .int .i64 0 ∧ v = .int .i64 0) (fun _ _ => 0)
    case atStart => exact ⟨rfl, rfl⟩
    case round =>
      obtain ⟨rfl, rfl⟩ := hrel
      go_wp2_with fail
      go_ret
      exact ⟨rfl, rfl⟩
  · have h7 : 7 < n := by omega
    have hd1 : decide (n < 1) = false := by simpa using h1
    clear hn h1
    go_enter Try.func13, Try.ntmps13
    go_wp2_with fail
    refine HC.out.mono ?_
    rintro e w2 ⟨rfl, rfl⟩
    go_wp2_with fail
    go_loop [6, 7] (fun v j => j = .int .i64 0 ∧ v = .int .i64 0) (fun _ _ => 0)
    case atStart => exact ⟨rfl, rfl⟩
    case round =>
      obtain ⟨rfl, rfl⟩ := hrel
      go_wp2_with fail
      go_ret
      exact ⟨rfl, rfl⟩

theorem numR (b : Nat) (s : ByteArray) (t : M.St) (n : Int) (hs : s.size ≤ 100000) (w : World) (hR : RdR w b s t) (ht : t.ok s) :
    Calls Try.prog 13 #[.pointer (some ⟨b, 0, none⟩), .int .i64 n] w fun e w' => e = .returned (.int .i64 (M.outN s t n)) ∧ RdR w' b s (M.stN s t n) ∧ w.grownBy w' (some b) := by
  unfold M.outN M.stN
  by_cases he : t.e = 0
  · by_cases h : 1 ≤ n ∧ n ≤ 7
    · rw [if_pos h, if_pos h]
      exact rnum_ok b s t n h.1 h.2 hs he w hR ht
    · rw [if_neg h, if_neg h, if_neg (by simpa using he)]
      obtain ⟨k, f⟩ := t
      simp only at he
      subst he
      refine (rnum_none b s k n h w hR).mono ?_
      rintro e w' ⟨rfl, rfl⟩
      exact ⟨rfl, hR.set 2 _, grown_set _ _ _ _⟩
  · refine (rnum_failed b s t.k t.e n he w hR).mono ?_
    rintro e w' ⟨rfl, rfl⟩
    have e1 : M.outB s t n = ⟨#[]⟩ := by rw [M.outB, if_neg (by simp [he])]
    have e2 : M.stB s t n = t := by rw [M.stB, if_pos he]
    rw [e1, e2]
    refine ⟨by split <;> rfl, ?_, World.grownBy.refl _ _⟩
    rw [if_pos he]
    split <;> exact hR

theorem leftR (b : Nat) (s : ByteArray) (t : M.St) (hs : s.size ≤ 100000) (w : World) (hR : RdR w b s t) (ht : t.ok s) :
    Calls Try.prog 17 #[.pointer (some ⟨b, 0, none⟩)] w fun e w' => e = .returned (.int .i64 (M.left s t)) ∧ ∃ m, w' = w.drewN m := by
  obtain ⟨k, f⟩ := t
  have hk : k ≤ s.size := ht
  have h0 := hR.cell 0
  have h1 := hR.cell 1
  simp at h0 h1
  clear hR ht
  go_enter Try.func17, Try.ntmps17
  go_wp2_with fail
  go_quiet (fail)
  go_wp2_with fail
  go_ret
  exact ⟨rfl, _, rfl⟩

theorem endR (b : Nat) (s : ByteArray) (t : M.St) (w : World) (hR : RdR w b s t) (ht : t.ok s) :
    Calls Try.prog 19 #[.pointer (some ⟨b, 0, none⟩)] w fun e w' => e = .returned (.int .i64 (M.endE s t)) ∧ ∃ m, w' = w.drewN m := by
  obtain ⟨k, f⟩ := t
  have hk : k ≤ s.size := ht
  have h0 := hR.cell 0
  have h1 := hR.cell 1
  have h2 := hR.cell 2
  simp at h0 h1 h2
  clear hR ht
  unfold M.endE
  by_cases hf : f = 0
  · subst hf
    rw [if_neg (by simp)]
    by_cases hlt : k < s.size
    · rw [if_pos hlt]
      have hd : decide ((k : Int) < (s.size : Int)) = true := by simpa using hlt
      go_enter Try.func19, Try.ntmps19
      go_wp2_with fail
      go_quiet (fail)
      go_wp2_with fail
      go_ret
      exact ⟨rfl, _, rfl⟩
    · rw [if_neg hlt]
      have hd : decide ((k : Int) < (s.size : Int)) = false := by simpa using hlt
      have hd2 : decide (k < s.size) = false := by simpa using hlt
      go_enter Try.func19, Try.ntmps19
      go_wp2_with fail
      go_quiet (fail)
      go_wp2_with fail
      go_ret
      exact ⟨rfl, _, rfl⟩
  · rw [if_pos hf]
    have hd : (f == 0) = false := by simpa using hf
    clear hf
    go_enter Try.func19, Try.ntmps19
    go_wp2_with fail
    go_quiet (fail)
    go_wp2_with fail
    go_ret
    exact ⟨rfl, _, rfl⟩
end Go.Proofs.Ytdhagdggfhjokaa
