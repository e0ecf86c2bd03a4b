/-
  Walks over seal.First and seal.Get.
-/
import Derived.Test.YtbmhmoemkkijpaaSPut
import Derived.Handy
namespace Go.Proofs.Ytbmhmoemkkijpaa
open Go.RowKit

/-- What First returns, as a value. -/
def M.Got.vals (g : M.Got) : Value := .tuple #[.int .i64 (g.k : Int), .string g.b, .string g.r, .int .i64 g.e]
/-- What Get returns, as a value. -/
def M.Got.three (g : M.Got) : Value := .tuple #[.int .i64 (g.k : Int), .string g.b, .int .i64 g.e]

theorem M.step1 (s : ByteArray) (h : 7 ≤ s.size) : M.outN s ⟨0, 0⟩ 1 = (M.num (s.extract 0 1).data.toList : Int) ∧ M.stN s ⟨0, 0⟩ 1 = ⟨1, 0⟩ := by
  constructor
  · rw [M.outN, if_pos (by omega), M.outB, if_pos (by refine ⟨rfl, by omega, ?_⟩; simp; omega)]; rfl
  · rw [M.stN, if_pos (by omega), M.stB, if_neg (by simp), if_neg (by omega), if_neg (by simp; omega)]; rfl
theorem M.step2 (s : ByteArray) (h : 7 ≤ s.size) : M.outN s ⟨1, 0⟩ 2 = (M.told s : Int) ∧ M.stN s ⟨1, 0⟩ 2 = ⟨3, 0⟩ := by
  constructor
  · rw [M.outN, if_pos (by omega), M.outB, if_pos (by refine ⟨rfl, by omega, ?_⟩; simp; omega)]; rfl
  · rw [M.stN, if_pos (by omega), M.stB, if_neg (by simp), if_neg (by omega), if_neg (by simp; omega)]; rfl
theorem M.stepB (s : ByteArray) (k n : Nat) (h : k + n ≤ s.size) : M.outB s ⟨k, 0⟩ n = s.extract k (k + n) ∧ M.stB s ⟨k, 0⟩ n = ⟨k + n, 0⟩ := by
  constructor
  · rw [M.outB, if_pos (by refine ⟨rfl, by omega, ?_⟩; show (n : Int) ≤ (s.size : Int) - (k : Int); omega), Int.toNat_natCast]
  · rw [M.stB, if_neg (by simp), if_neg (by omega), if_neg (by show ¬ (s.size : Int) - (k : Int) < (n : Int); omega), Int.toNat_natCast]
theorem M.stepShort (s : ByteArray) (n : Nat) (h : s.size < 7 + n) : M.endE s (M.stB s (M.stB s ⟨3, 0⟩ n) 4) = 1 := by
  have key : (M.stB s (M.stB s ⟨3, 0⟩ n) 4).e = 1 := by
    by_cases h3 : (s.size : Int) - (3 : Nat) < n
    · have e1 : M.stB s ⟨3, 0⟩ n = ⟨3, 1⟩ := by rw [M.stB, if_neg (by simp), if_neg (by omega), if_pos h3]
      rw [e1, M.stB, if_pos (by simp)]
    · have e1 : M.stB s ⟨3, 0⟩ n = ⟨3 + n, 0⟩ := by rw [M.stB, if_neg (by simp), if_neg (by omega), if_neg h3, Int.toNat_natCast]
      rw [e1, M.stB, if_neg (by simp), if_neg (by omega), if_pos (by show (s.size : Int) - ((3 + n : Nat) : Int) < 4; omega)]
  rw [M.endE, key, if_pos (by simp)]

theorem first_tiny (s : ByteArray) (w : World) (h : s.size < 7) :
    Calls Try.prog 12 #[.string s] w fun e w' => e = .returned (M.first s).vals ∧ Below w.heap.size w w' := by
  rw [M.first, if_pos h]
  have hd : decide ((s.size : Int) < 7) = true := by simp; omega
  clear h
  go_enter Try.func12, Try.ntmps12
  go_wp2_with fail
  go_returns
  exact ⟨rfl, Below.refl _ _⟩

set_option maxHeartbeats 1000000 in
theorem first_long (s : ByteArray) (w : World) (h : 7 ≤ s.size) (hl : 600 < M.told s) :
    Calls Try.prog 12 #[.string s] w fun e w' => e = .returned (M.first s).vals ∧ Below w.heap.size w w' := by
  rw [M.first, if_neg (by omega), if_pos hl]
  have hd : decide ((s.size : Int) < 7) = false := by simp; omega
  have ht : decide ((600 : Int) < (M.told s : Int)) = true := by simp; omega
  have k0 : (⟨0, 0⟩ : M.St).ok s := Nat.zero_le _
  have k1 : (⟨1, 0⟩ : M.St).ok s := by show 1 ≤ _; omega
  have C1 := Lib.hid (fun b w hR => numF b s ⟨0, 0⟩ 1 (by omega) (by omega) w hR k0)
  have C2 := Lib.hid (fun b w hR => numF b s ⟨1, 0⟩ 2 (by omega) (by omega) w hR k1)
  rw [(M.step1 s h).1, (M.step1 s h).2] at C1
  rw [(M.step2 s h).1, (M.step2 s h).2] at C2
  obtain ⟨q, hq⟩ : ∃ q, q = M.num (s.extract 0 1).data.toList := ⟨_, rfl⟩
  rw [← hq] at C1
  obtain ⟨n, hn⟩ : ∃ n, n = M.told s := ⟨_, rfl⟩
  rw [← hn] at C2 ht
  clear h hl k0 k1 hq hn
  go_enter Try.func12, Try.ntmps12
  go_wp2_with fail
  refine (newF s w).mono ?_
  rintro e w1 ⟨rfl, hR1, hb1⟩
  have HR1 := Lib.hid hR1
  clear hR1
  obtain ⟨r, hr⟩ : ∃ r, r = w.heap.size := ⟨_, rfl⟩
  have hz : w.heap.size ≤ r := by omega
  rw [← hr] at HR1
  rw [← hr]
  clear hr
  go_wp2_with fail
  refine (C1.out r w1 HR1.out).mono ?_
  rintro e w2 ⟨rfl, hR2, hg2⟩
  have hb2 := below_by hb1 hg2 hz hb1.size
  have HR2 := Lib.hid hR2
  clear hb1 HR1 hR2 hg2
  go_wp2_with fail
  refine (C2.out r w2 HR2.out).mono ?_
  rintro e w3 ⟨rfl, hR3, hg3⟩
  have hb3 := below_by hb2 hg3 hz hb2.size
  have HR3 := Lib.hid hR3
  clear hb2 HR2 hR3 hg3
  go_wp2_with fail
  go_returns
  exact ⟨rfl, hb3⟩

set_option maxHeartbeats 1000000 in
theorem first_short (s : ByteArray) (w : World) (h : 7 ≤ s.size) (hl : M.told s ≤ 600) (hn : s.size < 7 + M.told s) :
    Calls Try.prog 12 #[.string s] w fun e w' => e = .returned (M.first s).vals ∧ Below w.heap.size w w' := by
  rw [M.first, if_neg (by omega), if_neg (by omega), if_pos hn]
  have hd : decide ((s.size : Int) < 7) = false := by simp; omega
  have ht : decide ((600 : Int) < (M.told s : Int)) = false := by simp; omega
  have k0 : (⟨0, 0⟩ : M.St).ok s := Nat.zero_le _
  have k1 : (⟨1, 0⟩ : M.St).ok s := by show 1 ≤ _; omega
  have k3 : (⟨3, 0⟩ : M.St).ok s := by show 3 ≤ _; omega
  have C1 := Lib.hid (fun b w hR => numF b s ⟨0, 0⟩ 1 (by omega) (by omega) w hR k0)
  have C2 := Lib.hid (fun b w hR => numF b s ⟨1, 0⟩ 2 (by omega) (by omega) w hR k1)
  have C3 := Lib.hid (fun b w hR => bytesF b s ⟨3, 0⟩ (M.told s) w hR k3)
  rw [(M.step1 s h).1, (M.step1 s h).2] at C1
  rw [(M.step2 s h).1, (M.step2 s h).2] at C2
  have k4 := M.stB_ok k3 (M.told s)
  have k5 := M.stB_ok k4 4
  have C4 := Lib.hid (fun b w hR => bytesF b s _ 4 w hR k4)
  have C5 := Lib.hid (fun b w hR => endF b s _ w hR k5)
  rw [M.stepShort s (M.told s) hn] at C5
  obtain ⟨q, hq⟩ : ∃ q, q = M.num (s.extract 0 1).data.toList := ⟨_, rfl⟩
  rw [← hq] at C1
  obtain ⟨n, hn'⟩ : ∃ n, n = M.told s := ⟨_, rfl⟩
  rw [← hn'] at C2 C3 C4 C5 ht
  obtain ⟨t4, h4⟩ : ∃ t, t = M.stB s ⟨3, 0⟩ n := ⟨_, rfl⟩
  rw [← h4] at C3 C4 C5
  obtain ⟨t5, h5⟩ : ∃ t, t = M.stB s t4 4 := ⟨_, rfl⟩
  rw [← h5] at C4 C5
  obtain ⟨o3, e3⟩ : ∃ t, t = M.outB s ⟨3, 0⟩ n := ⟨_, rfl⟩
  rw [← e3] at C3
  obtain ⟨o4, e4⟩ : ∃ t, t = M.outB s t4 4 := ⟨_, rfl⟩
  rw [← e4] at C4
  clear h hl hn k0 k1 k3 k4 k5 hq hn' h4 h5 e3 e4
  go_enter Try.func12, Try.ntmps12
  go_wp2_with fail
  refine (newF s w).mono ?_
  rintro e w1 ⟨rfl, hR1, hb1⟩
  have HR1 := Lib.hid hR1
  clear hR1
  obtain ⟨r, hr⟩ : ∃ r, r = w.heap.size := ⟨_, rfl⟩
  have hz : w.heap.size ≤ r := by omega
  have HR : Hid (r = w.heap.size) := hr
  rw [← hr] at HR1
  rw [← hr]
  clear hr
  go_wp2_with fail
  refine (C1.out r w1 HR1.out).mono ?_
  rintro e w2 ⟨rfl, hR2, hg2⟩
  have hb2 := below_by hb1 hg2 hz hb1.size
  have HR2 := Lib.hid hR2
  clear hb1 HR1 hR2 hg2
  go_wp2_with fail
  refine (C2.out r w2 HR2.out).mono ?_
  rintro e w3 ⟨rfl, hR3, hg3⟩
  have hb3 := below_by hb2 hg3 hz hb2.size
  have HR3 := Lib.hid hR3
  clear hb2 HR2 hR3 hg3
  go_wp2_with fail
  refine (C3.out r w3 HR3.out).mono ?_
  rintro e w4 ⟨rfl, hR4, hg4⟩
  have hb4 := below_by hb3 hg4 hz hb3.size
  have HR4 := Lib.hid hR4
  clear hb3 HR3 hR4 hg4
  go_wp2_with fail
  refine (C4.out r w4 HR4.out).mono ?_
  rintro e w5 ⟨rfl, hR5, hg5⟩
  have hb5 := below_by hb4 hg5 hz hb4.size
  have HR5 := Lib.hid hR5
  clear hb4 HR4 hR5 hg5
  go_wp2_with fail
  refine (C5.out r w5 HR5.out).mono ?_
  rintro e w6 ⟨rfl, rfl⟩
  go_wp2_with fail
  go_returns
  exact ⟨rfl, hb5⟩

set_option maxHeartbeats 1000000 in
theorem first_sum (s : ByteArray) (w : World) (h : 7 ≤ s.size) (hl : M.told s ≤ 600) (hn : ¬ s.size < 7 + M.told s) (ht' : ¬ s.extract (3 + M.told s) (7 + M.told s) = M.tail (s.extract 0 (3 + M.told s))) :
    Calls Try.prog 12 #[.string s] w fun e w' => e = .returned (M.first s).vals ∧ Below w.heap.size w w' := by
  rw [M.first, if_neg (by omega), if_neg (by omega), if_neg hn, if_neg ht']
  have hd : decide ((s.size : Int) < 7) = false := by simp; omega
  have ht : decide ((600 : Int) < (M.told s : Int)) = false := by simp; omega
  have k0 : (⟨0, 0⟩ : M.St).ok s := Nat.zero_le _
  have k1 : (⟨1, 0⟩ : M.St).ok s := by show 1 ≤ _; omega
  have k3 : (⟨3, 0⟩ : M.St).ok s := by show 3 ≤ _; omega
  have C1 := Lib.hid (fun b w hR => numF b s ⟨0, 0⟩ 1 (by omega) (by omega) w hR k0)
  have C2 := Lib.hid (fun b w hR => numF b s ⟨1, 0⟩ 2 (by omega) (by omega) w hR k1)
  have C3 := Lib.hid (fun b w hR => bytesF b s ⟨3, 0⟩ (M.told s) w hR k3)
  rw [(M.step1 s h).1, (M.step1 s h).2] at C1
  rw [(M.step2 s h).1, (M.step2 s h).2] at C2
  have k4 : (⟨3 + M.told s, 0⟩ : M.St).ok s := by show 3 + M.told s ≤ _; omega
  have k5 : (⟨7 + M.told s, 0⟩ : M.St).ok s := by show 7 + M.told s ≤ _; omega
  have C4 := Lib.hid (fun b w hR => bytesF b s ⟨3 + M.told s, 0⟩ (4 : Nat) w hR k4)
  have C5 := Lib.hid (fun b w hR => endF b s ⟨7 + M.told s, 0⟩ w hR k5)
  obtain ⟨o3, t3⟩ := M.stepB s 3 (M.told s) (by omega)
  obtain ⟨o4, t4⟩ := M.stepB s (3 + M.told s) 4 (by omega)
  have e7 : 3 + M.told s + 4 = 7 + M.told s := by omega
  rw [e7] at o4 t4
  rw [o3, t3] at C3
  rw [o4, t4] at C4
  have hE : (M.endE s ⟨7 + M.told s, 0⟩ == 1) = false := by unfold M.endE; simp; split <;> simp
  have T1 := Lib.hid (fun w => tailT (s.extract 0 (3 + M.told s)) w (by rw [ByteArray.size_extract]; omega))
  obtain ⟨q, hq⟩ : ∃ q, q = M.num (s.extract 0 1).data.toList := ⟨_, rfl⟩
  rw [← hq] at C1
  obtain ⟨n, hn'⟩ : ∃ n, n = M.told s := ⟨_, rfl⟩
  rw [← hn'] at C2 C3 C4 C5 T1 ht hE ht' hl hn
  have hne : (!((s.extract (3 + n) (7 + n)).toList == (M.tail (s.extract 0 (3 + n))).toList)) = true := by
    rw [Bool.not_eq_true', beq_eq_false_iff_ne]
    intro e
    apply ht'
    rw [ByteArray.toList_eq, ByteArray.toList_eq] at e
    exact M.ba_ext e
  have hx : (3 : Int) + (n : Int) = ((3 + n : Nat) : Int) := by omega
  have hx2 : 3 + n ≤ s.size := by omega
  obtain ⟨x, hx'⟩ : ∃ x, x = M.endE s ⟨7 + n, 0⟩ := ⟨_, rfl⟩
  rw [← hx'] at C5 hE
  obtain ⟨m, hm⟩ : ∃ m, m = 3 + n := ⟨_, rfl⟩
  rw [← hm] at T1 hne hx hx2 C3 C4
  obtain ⟨tl, htl⟩ : ∃ x, x = M.tail (s.extract 0 m) := ⟨_, rfl⟩
  rw [← htl] at T1 hne
  obtain ⟨o, ho⟩ : ∃ x, x = s.extract m (7 + n) := ⟨_, rfl⟩
  rw [← ho] at C4 hne
  have HM := Lib.hid hm
  have HN := Lib.hid hn
  clear h hn k0 k1 k3 k4 k5 hq hn' o3 o4 t3 t4 e7 hx' htl ho hm ht'
  go_enter Try.func12, Try.ntmps12
  go_wp2_with fail
  refine (newF s w).mono ?_
  rintro e w1 ⟨rfl, hR1, hb1⟩
  have HR1 := Lib.hid hR1
  clear hR1
  obtain ⟨r, hr⟩ : ∃ r, r = w.heap.size := ⟨_, rfl⟩
  have hz : w.heap.size ≤ r := by omega
  have HR : Hid (r = w.heap.size) := hr
  rw [← hr] at HR1
  rw [← hr]
  clear hr
  go_wp2_with fail
  refine (C1.out r w1 HR1.out).mono ?_
  rintro e w2 ⟨rfl, hR2, hg2⟩
  have hb2 := below_by hb1 hg2 hz hb1.size
  have HR2 := Lib.hid hR2
  clear hb1 HR1 hR2 hg2
  go_wp2_with fail
  refine (C2.out r w2 HR2.out).mono ?_
  rintro e w3 ⟨rfl, hR3, hg3⟩
  have hb3 := below_by hb2 hg3 hz hb2.size
  have HR3 := Lib.hid hR3
  clear hb2 HR2 hR3 hg3
  go_wp2_with fail
  refine (C3.out r w3 HR3.out).mono ?_
  rintro e w4 ⟨rfl, hR4, hg4⟩
  have hb4 := below_by hb3 hg4 hz hb3.size
  have HR4 := Lib.hid hR4
  clear hb3 HR3 hR4 hg4
  go_wp2_with fail
  refine (C4.out r w4 HR4.out).mono ?_
  rintro e w5 ⟨rfl, hR5, hg5⟩
  have hb5 := below_by hb4 hg5 hz hb4.size
  have HR5 := Lib.hid hR5
  clear hb4 HR4 hR5 hg5
  go_wp2_with fail
  refine (C5.out r w5 HR5.out).mono ?_
  rintro e w6 ⟨rfl, rfl⟩
  go_wp2_with fail
  refine (T1.out w5).mono ?_
  rintro e w6 ⟨rfl, hb6⟩
  have hb6 := hb5.trans (hb6.mono hb5.size)
  go_wp2_with fail
  go_returns
  exact ⟨rfl, hb6⟩

set_option maxHeartbeats 1000000 in
theorem first_good (s : ByteArray) (w : World) (h : 7 ≤ s.size) (hl : M.told s ≤ 600) (hn : ¬ s.size < 7 + M.told s) (ht' : s.extract (3 + M.told s) (7 + M.told s) = M.tail (s.extract 0 (3 + M.told s))) :
    Calls Try.prog 12 #[.string s] w fun e w' => e = .returned (M.first s).vals ∧ Below w.heap.size w w' := by
  rw [M.first, if_neg (by omega), if_neg (by omega), if_neg hn, if_pos ht']
  have hd : decide ((s.size : Int) < 7) = false := by simp; omega
  have ht : decide ((600 : Int) < (M.told s : Int)) = false := by simp; omega
  have k0 : (⟨0, 0⟩ : M.St).ok s := Nat.zero_le _
  have k1 : (⟨1, 0⟩ : M.St).ok s := by show 1 ≤ _; omega
  have k3 : (⟨3, 0⟩ : M.St).ok s := by show 3 ≤ _; omega
  have C1 := Lib.hid (fun b w hR => numF b s ⟨0, 0⟩ 1 (by omega) (by omega) w hR k0)
  have C2 := Lib.hid (fun b w hR => numF b s ⟨1, 0⟩ 2 (by omega) (by omega) w hR k1)
  have C3 := Lib.hid (fun b w hR => bytesF b s ⟨3, 0⟩ (M.told s) w hR k3)
  rw [(M.step1 s h).1, (M.step1 s h).2] at C1
  rw [(M.step2 s h).1, (M.step2 s h).2] at C2
  have k4 : (⟨3 + M.told s, 0⟩ : M.St).ok s := by show 3 + M.told s ≤ _; omega
  have k5 : (⟨7 + M.told s, 0⟩ : M.St).ok s := by show 7 + M.told s ≤ _; omega
  have C4 := Lib.hid (fun b w hR => bytesF b s ⟨3 + M.told s, 0⟩ (4 : Nat) w hR k4)
  have C5 := Lib.hid (fun b w hR => endF b s ⟨7 + M.told s, 0⟩ w hR k5)
  obtain ⟨o3, t3⟩ := M.stepB s 3 (M.told s) (by omega)
  obtain ⟨o4, t4⟩ := M.stepB s (3 + M.told s) 4 (by omega)
  have e7 : 3 + M.told s + 4 = 7 + M.told s := by omega
  rw [e7] at o4 t4
  rw [o3, t3] at C3
  rw [o4, t4] at C4
  have hE : (M.endE s ⟨7 + M.told s, 0⟩ == 1) = false := by unfold M.endE; simp; split <;> simp
  have T1 := Lib.hid (fun w => tailT (s.extract 0 (3 + M.told s)) w (by rw [ByteArray.size_extract]; omega))
  have C6 := Lib.hid (fun b w hR => leftF b s ⟨7 + M.told s, 0⟩ w hR k5)
  have C7 := Lib.hid (fun b w hR => bytesF b s ⟨7 + M.told s, 0⟩ ((s.size - (7 + M.told s) : Nat) : Int) w hR k5)
  obtain ⟨o7, t7⟩ := M.stepB s (7 + M.told s) (s.size - (7 + M.told s)) (by omega)
  have e8 : 7 + M.told s + (s.size - (7 + M.told s)) = s.size := by omega
  have e9 : M.left s ⟨7 + M.told s, 0⟩ = ((s.size - (7 + M.told s) : Nat) : Int) := by unfold M.left; show (s.size : Int) - ((7 + M.told s : Nat) : Int) = _; omega
  rw [e8] at o7 t7
  rw [o7, t7] at C7
  rw [e9] at C6
  obtain ⟨q, hq⟩ : ∃ q, q = M.num (s.extract 0 1).data.toList := ⟨_, rfl⟩
  rw [← hq] at C1
  obtain ⟨n, hn'⟩ : ∃ n, n = M.told s := ⟨_, rfl⟩
  rw [← hn'] at C2 C3 C4 C5 C6 C7 T1 ht hE ht' hl hn
  rw [← ht'] at T1
  rw [← hq, ← hn']
  have hx : (3 : Int) + (n : Int) = ((3 + n : Nat) : Int) := by omega
  have hx2 : 3 + n ≤ s.size := by omega
  obtain ⟨x, hx'⟩ : ∃ x, x = M.endE s ⟨7 + n, 0⟩ := ⟨_, rfl⟩
  rw [← hx'] at C5 hE
  obtain ⟨m, hm⟩ : ∃ m, m = 3 + n := ⟨_, rfl⟩
  rw [← hm] at T1 hx hx2 C3 C4
  rw [← hm]
  obtain ⟨o, ho⟩ : ∃ x, x = s.extract m (7 + n) := ⟨_, rfl⟩
  rw [← ho] at C4 T1
  obtain ⟨lf, hlf⟩ : ∃ x, x = s.size - (7 + n) := ⟨_, rfl⟩
  rw [← hlf] at C6 C7
  have HM := Lib.hid hm
  have HN := Lib.hid hn
  clear h hn k0 k1 k3 k4 k5 hq hn' o3 o4 t3 t4 e7 hx' ho hm ht' o7 t7 e8 e9 hlf
  go_enter Try.func12, Try.ntmps12
  go_wp2_with fail
  refine (newF s w).mono ?_
  rintro e w1 ⟨rfl, hR1, hb1⟩
  have HR1 := Lib.hid hR1
  clear hR1
  obtain ⟨r, hr⟩ : ∃ r, r = w.heap.size := ⟨_, rfl⟩
  have hz : w.heap.size ≤ r := by omega
  have HR : Hid (r = w.heap.size) := hr
  rw [← hr] at HR1
  rw [← hr]
  clear hr
  go_wp2_with fail
  refine (C1.out r w1 HR1.out).mono ?_
  rintro e w2 ⟨rfl, hR2, hg2⟩
  have hb2 := below_by hb1 hg2 hz hb1.size
  have HR2 := Lib.hid hR2
  clear hb1 HR1 hR2 hg2
  go_wp2_with fail
  refine (C2.out r w2 HR2.out).mono ?_
  rintro e w3 ⟨rfl, hR3, hg3⟩
  have hb3 := below_by hb2 hg3 hz hb2.size
  have HR3 := Lib.hid hR3
  clear hb2 HR2 hR3 hg3
  go_wp2_with fail
  refine (C3.out r w3 HR3.out).mono ?_
  rintro e w4 ⟨rfl, hR4, hg4⟩
  have hb4 := below_by hb3 hg4 hz hb3.size
  have HR4 := Lib.hid hR4
  clear hb3 HR3 hR4 hg4
  go_wp2_with fail
  refine (C4.out r w4 HR4.out).mono ?_
  rintro e w5 ⟨rfl, hR5, hg5⟩
  have hb5 := below_by hb4 hg5 hz hb4.size
  have HR5 := Lib.hid hR5
  clear hb4 HR4 hR5 hg5
  go_wp2_with fail
  refine (C5.out r w5 HR5.out).mono ?_
  rintro e w6 ⟨rfl, rfl⟩
  go_wp2_with fail
  refine (T1.out w5).mono ?_
  rintro e w6 ⟨rfl, hb6⟩
  have HR6 : Hid (RdF w6 r s ⟨7 + n, 0⟩) := HR5.out.below hb6 HR5.out.lt
  have hb6 := hb5.trans (hb6.mono hb5.size)
  clear hb5 HR5
  go_wp2_with fail
  refine (C6.out r w6 HR6.out).mono ?_
  rintro e w7 ⟨rfl, rfl⟩
  go_wp2_with fail
  refine (C7.out r w6 HR6.out).mono ?_
  rintro e w7 ⟨rfl, hR7, hg7⟩
  have hb7 := below_by hb6 hg7 hz hb6.size
  clear hR7 hg7 hb6 HR6
  go_wp2_with fail
  go_returns
  exact ⟨rfl, hb7⟩

theorem first_any (s : ByteArray) (w : World) :
    Calls Try.prog 12 #[.string s] w fun e w' => e = .returned (M.first s).vals ∧ Below w.heap.size w w' := by
  by_cases h : s.size < 7
  · exact first_tiny s w h
  · by_cases hl : 600 < M.told s
    · exact first_long s w (by omega) hl
    · by_cases hn : s.size < 7 + M.told s
      · exact first_short s w (by omega) (by omega) hn
      · by_cases ht : s.extract (3 + M.told s) (7 + M.told s) = M.tail (s.extract 0 (3 + M.told s))
        · exact first_good s w (by omega) (by omega) hn ht
        · exact first_sum s w (by omega) (by omega) hn ht
end Go.Proofs.Ytbmhmoemkkijpaa
