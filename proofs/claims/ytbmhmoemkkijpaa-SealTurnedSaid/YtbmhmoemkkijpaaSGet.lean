/-
  Walks over seal.Get, solderref04.First and solderref04.Get.
-/
import Derived.Test.YtbmhmoemkkijpaaSFirst
import Derived.Deep.RegionHeld3
namespace Go.Proofs.Ytbmhmoemkkijpaa
open Go.RowKit

theorem str_some (r : ByteArray) (h : ¬ r.size = 0) : (!r.toList.isEmpty) = true := by
  rw [ByteArray.toList_eq]
  cases e : r.data.toList with
  | nil => exact absurd (by rw [← M.size_list, e]; rfl) h
  | cons _ _ => rfl

theorem get_any (s : ByteArray) (w : World) :
    Calls Try.prog 10 #[.string s] w fun e w' => e = .returned (M.get s).three ∧ Below w.heap.size w w' := by
  have C := Lib.hid (first_any s w)
  unfold M.Got.vals at C
  unfold M.get
  obtain ⟨⟨k, b, r, x⟩, hg⟩ : ∃ g, g = M.first s := ⟨_, rfl⟩
  rw [← hg] at C ⊢
  clear hg
  by_cases hx : x = 0
  · subst hx
    rw [if_neg (by simp)]
    by_cases hr : r.size = 0
    · have e : r = ⟨#[]⟩ := M.of_size0 hr
      subst e
      rw [if_neg (by simp; rfl)]
      clear hr
      go_enter Try.func10, Try.ntmps10
      go_wp2_with fail
      refine C.out.mono ?_
      rintro e w1 ⟨rfl, hb1⟩
      go_wp2_with fail
      go_returns
      exact ⟨rfl, hb1⟩
    · rw [if_pos (by simpa using hr)]
      have hne : (!r.toList.isEmpty) = true := str_some r hr
      clear hr
      go_enter Try.func10, Try.ntmps10
      go_wp2_with fail
      refine C.out.mono ?_
      rintro e w1 ⟨rfl, hb1⟩
      go_wp2_with fail
      go_returns
      exact ⟨rfl, hb1⟩
  · rw [if_pos (by simpa using hx)]
    have hd : (x != 0) = true := by simpa using hx
    clear hx
    go_enter Try.func10, Try.ntmps10
    go_wp2_with fail
    refine C.out.mono ?_
    rintro e w1 ⟨rfl, hb1⟩
    go_wp2_with fail
    go_returns
    exact ⟨rfl, hb1⟩

theorem M.told_at (s : ByteArray) (h : 7 ≤ s.size) : M.told s = 256 * (s[1]'(by omega)).toNat + (s[2]'(by omega)).toNat := by
  have e : (s.extract 1 3).data.toList = [s[1]'(by omega), s[2]'(by omega)] := by
    rw [M.ex_list]
    have l : s.data.toList.length = s.size := M.size_list s
    have h1 : 1 < s.data.toList.length := by omega
    have h2 : 2 < s.data.toList.length := by omega
    rw [List.drop_eq_getElem_cons h1, List.drop_eq_getElem_cons h2]
    rfl
  rw [M.told, e]
  simp [M.num]
theorem M.kind_at (s : ByteArray) (h : 7 ≤ s.size) : M.num (s.extract 0 1).data.toList = (s[0]'(by omega)).toNat := by
  have e : (s.extract 0 1).data.toList = [s[0]'(by omega)] := by
    rw [M.ex_list]
    have l : s.data.toList.length = s.size := M.size_list s
    have h1 : 0 < s.data.toList.length := by omega
    rw [List.drop_eq_getElem_cons h1]
    rfl
  rw [e]
  simp [M.num]

theorem rfirst_tiny (s : ByteArray) (w : World) (h : s.size < 7) :
    Calls Try.prog 13 #[.string s] w fun e w' => e = .returned (M.first s).vals ∧ Below w.heap.size w w' := by
  rw [M.first, if_pos h]
  have hd : decide ((s.size : Int) < 7) = true := by simp; omega
  clear h
  go_enter Try.func13, Try.ntmps13
  go_wp2_with fail
  go_returns
  exact ⟨rfl, Below.refl _ _⟩

set_option maxHeartbeats 1000000 in
theorem rfirst_long (s : ByteArray) (w : World) (h : 7 ≤ s.size) (hl : 600 < M.told s) :
    Calls Try.prog 13 #[.string s] w fun e w' => e = .returned (M.first s).vals ∧ Below w.heap.size w w' := by
  rw [M.first, if_neg (by omega), if_pos hl]
  have hd : decide ((s.size : Int) < 7) = false := by simp; omega
  have hN := M.told_at s h
  obtain ⟨c1, h1⟩ : ∃ c, c = (s[1]'(by omega)) := ⟨_, rfl⟩
  obtain ⟨c2, h2⟩ : ∃ c, c = (s[2]'(by omega)) := ⟨_, rfl⟩
  rw [← h1, ← h2] at hN
  have x1 : ∀ h : 1 < s.size, s[1]'h = c1 := fun _ => h1.symm
  have x2 : ∀ h : 2 < s.size, s[2]'h = c2 := fun _ => h2.symm
  have b1 := c1.toNat_lt
  have b2 := c2.toNat_lt
  clear h1 h2
  obtain ⟨n, hn'⟩ : ∃ n, n = M.told s := ⟨_, rfl⟩
  rw [← hn'] at hN
  rw [← hn'] at hl
  clear hn'
  go_enter Try.func13, Try.ntmps13
  go_wp2_with fail
  go_quiet (fail)
  go_wp2_with fail
  go_returns
  exact ⟨rfl, below_drewN (Below.refl _ _) _⟩

set_option maxHeartbeats 1000000 in
theorem rfirst_short (s : ByteArray) (w : World) (h : 7 ≤ s.size) (hl : M.told s ≤ 600) (hn : s.size < 7 + M.told s) :
    Calls Try.prog 13 #[.string s] w fun e w' => e = .returned (M.first s).vals ∧ Below w.heap.size w w' := by
  rw [M.first, if_neg (by omega), if_neg (by omega), if_pos hn]
  have hd : decide ((s.size : Int) < 7) = false := by simp; omega
  have hN := M.told_at s h
  obtain ⟨c1, h1⟩ : ∃ c, c = (s[1]'(by omega)) := ⟨_, rfl⟩
  obtain ⟨c2, h2⟩ : ∃ c, c = (s[2]'(by omega)) := ⟨_, rfl⟩
  rw [← h1, ← h2] at hN
  have x1 : ∀ h : 1 < s.size, s[1]'h = c1 := fun _ => h1.symm
  have x2 : ∀ h : 2 < s.size, s[2]'h = c2 := fun _ => h2.symm
  have b1 := c1.toNat_lt
  have b2 := c2.toNat_lt
  clear h1 h2
  obtain ⟨n, hn'⟩ : ∃ n, n = M.told s := ⟨_, rfl⟩
  rw [← hn'] at hN
  rw [← hn'] at hl hn
  clear hn'
  go_enter Try.func13, Try.ntmps13
  go_wp2_with fail
  go_quiet (fail)
  have eN : (256 : Int) * (c1.toNat : Int) + (c2.toNat : Int) = (n : Int) := by omega
  rw [eN]
  have d1 : decide ((600 : Int) < (n : Int)) = false := by simp; omega
  have d2 : decide ((s.size : Int) - 7 < (n : Int)) = true := by simp; omega
  clear eN hN
  go_wp2_with fail
  go_returns
  exact ⟨rfl, below_drewN (Below.refl _ _) _⟩

set_option maxHeartbeats 2000000 in
theorem rfirst_sum (s : ByteArray) (w : World) (hs : s.size ≤ 3000) (h : 7 ≤ s.size) (hl : M.told s ≤ 600) (hn : ¬ s.size < 7 + M.told s) (ht' : ¬ s.extract (3 + M.told s) (7 + M.told s) = M.tail (s.extract 0 (3 + M.told s))) :
    Calls Try.prog 13 #[.string s] w fun e w' => e = .returned (M.first s).vals ∧ Below w.heap.size w w' := by
  rw [M.first, if_neg (by omega), if_neg (by omega), if_neg hn, if_neg ht']
  have hd : decide ((s.size : Int) < 7) = false := by simp; omega
  have hN := M.told_at s h
  obtain ⟨c1, h1⟩ : ∃ c, c = (s[1]'(by omega)) := ⟨_, rfl⟩
  obtain ⟨c2, h2⟩ : ∃ c, c = (s[2]'(by omega)) := ⟨_, rfl⟩
  rw [← h1, ← h2] at hN
  have x1 : ∀ h : 1 < s.size, s[1]'h = c1 := fun _ => h1.symm
  have x2 : ∀ h : 2 < s.size, s[2]'h = c2 := fun _ => h2.symm
  have b1 := c1.toNat_lt
  have b2 := c2.toNat_lt
  clear h1 h2
  obtain ⟨n, hn'⟩ : ∃ n, n = M.told s := ⟨_, rfl⟩
  rw [← hn'] at hN
  rw [← hn'] at hl hn ht'
  have T1 := Lib.hid (fun w => rtailT (s.extract 0 (3 + n)) w (by rw [ByteArray.size_extract]; omega))
  have hne : (!((s.extract (3 + n) (7 + n)).toList == (M.tail (s.extract 0 (3 + n))).toList)) = true := by
    rw [Bool.not_eq_true', beq_eq_false_iff_ne]
    intro e
    apply ht'
    rw [ByteArray.toList_eq, ByteArray.toList_eq] at e
    exact M.ba_ext e
  obtain ⟨tl, htl⟩ : ∃ x, x = M.tail (s.extract 0 (3 + n)) := ⟨_, rfl⟩
  rw [← htl] at T1 hne
  obtain ⟨m, hm⟩ : ∃ m, m = 3 + n := ⟨_, rfl⟩
  obtain ⟨m7, hm7⟩ : ∃ m, m = 7 + n := ⟨_, rfl⟩
  rw [← hm] at T1 hne
  rw [← hm7] at hne
  have hx : (3 : Int) + (n : Int) = (m : Int) := by omega
  have hy : (7 : Int) + (n : Int) = (m7 : Int) := by omega
  have hx0 : (0 : Int) ≤ (m : Int) := by omega
  have hx2 : (m : Int) ≤ (s.size : Int) := by omega
  have hy2 : (m7 : Int) ≤ (s.size : Int) := by omega
  have hxy : (m : Int) ≤ (m7 : Int) := by omega
  have wx : IntKind.i64.wrap (m : Int) = (m : Int) := by simp [IntKind.wrap, IntKind.bits, IntKind.signed]; omega
  have wy : IntKind.i64.wrap (m7 : Int) = (m7 : Int) := by simp [IntKind.wrap, IntKind.bits, IntKind.signed]; omega
  have HM := Lib.hid hm
  have HM7 := Lib.hid hm7
  clear hn' ht' htl hm hm7
  go_enter Try.func13, Try.ntmps13
  go_wp2_with fail
  go_quiet (fail)
  have eN : (256 : Int) * (c1.toNat : Int) + (c2.toNat : Int) = (n : Int) := by omega
  rw [eN]
  have d1 : decide ((600 : Int) < (n : Int)) = false := by simp; omega
  have d2 : decide ((s.size : Int) - 7 < (n : Int)) = false := by simp; omega
  clear eN hN x1 x2 b1 b2
  go_wp2_with fail
  go_region_held3 (fun _ => True) (first | trivial)
    (first
      | (go_at_call 18; refine (T1.out _).mono ?_; rintro e w6 ⟨rfl, hb6⟩; have HB6 := Lib.hid hb6; clear hb6))
  go_wp2_with fail
  go_returns
  exact ⟨rfl, by first | exact (below_drewN (Below.refl _ _) _).trans (HB6.out.mono (Nat.le_refl _)) | exact ((below_drewN (Below.refl _ _) _).trans (HB6.out.mono (Nat.le_refl _))).drew⟩

set_option maxHeartbeats 2000000 in
theorem rfirst_good (s : ByteArray) (w : World) (hs : s.size ≤ 3000) (h : 7 ≤ s.size) (hl : M.told s ≤ 600) (hn : ¬ s.size < 7 + M.told s) (ht' : s.extract (3 + M.told s) (7 + M.told s) = M.tail (s.extract 0 (3 + M.told s))) :
    Calls Try.prog 13 #[.string s] w fun e w' => e = .returned (M.first s).vals ∧ Below w.heap.size w w' := by
  rw [M.first, if_neg (by omega), if_neg (by omega), if_neg hn, if_pos ht']
  have hd : decide ((s.size : Int) < 7) = false := by simp; omega
  have hN := M.told_at s h
  obtain ⟨c1, h1⟩ : ∃ c, c = (s[1]'(by omega)) := ⟨_, rfl⟩
  obtain ⟨c2, h2⟩ : ∃ c, c = (s[2]'(by omega)) := ⟨_, rfl⟩
  rw [← h1, ← h2] at hN
  have x1 : ∀ h : 1 < s.size, s[1]'h = c1 := fun _ => h1.symm
  have x2 : ∀ h : 2 < s.size, s[2]'h = c2 := fun _ => h2.symm
  have b1 := c1.toNat_lt
  have b2 := c2.toNat_lt
  clear h1 h2
  obtain ⟨n, hn'⟩ : ∃ n, n = M.told s := ⟨_, rfl⟩
  rw [← hn'] at hN
  rw [← hn'] at hl hn ht'
  have T1 := Lib.hid (fun w => rtailT (s.extract 0 (3 + n)) w (by rw [ByteArray.size_extract]; omega))
  have hQ := M.kind_at s h
  obtain ⟨c0, h0⟩ : ∃ c, c = (s[0]'(by omega)) := ⟨_, rfl⟩
  rw [← h0] at hQ
  have x0 : ∀ h : 0 < s.size, s[0]'h = c0 := fun _ => h0.symm
  have b0 := c0.toNat_lt
  clear h0
  rw [hQ, ← hn']
  rw [← ht'] at T1
  obtain ⟨m, hm⟩ : ∃ m, m = 3 + n := ⟨_, rfl⟩
  obtain ⟨m7, hm7⟩ : ∃ m, m = 7 + n := ⟨_, rfl⟩
  rw [← hm, ← hm7] at T1
  rw [← hm, ← hm7]
  have hx : (3 : Int) + (n : Int) = (m : Int) := by omega
  have hy : (7 : Int) + (n : Int) = (m7 : Int) := by omega
  have hx0 : (0 : Int) ≤ (m : Int) := by omega
  have hx2 : (m : Int) ≤ (s.size : Int) := by omega
  have hy2 : (m7 : Int) ≤ (s.size : Int) := by omega
  have hx3 : (3 : Int) ≤ (m : Int) := by omega
  have hy0 : (0 : Int) ≤ (m7 : Int) := by omega
  have hxy : (m : Int) ≤ (m7 : Int) := by omega
  have wx : IntKind.i64.wrap (m : Int) = (m : Int) := by simp [IntKind.wrap, IntKind.bits, IntKind.signed]; omega
  have wy : IntKind.i64.wrap (m7 : Int) = (m7 : Int) := by simp [IntKind.wrap, IntKind.bits, IntKind.signed]; omega
  have HM := Lib.hid hm
  have HM7 := Lib.hid hm7
  clear hn' ht' hm hm7 hQ
  go_enter Try.func13, Try.ntmps13
  go_wp2_with fail
  go_quiet (fail)
  have eN : (256 : Int) * (c1.toNat : Int) + (c2.toNat : Int) = (n : Int) := by omega
  rw [eN]
  have d1 : decide ((600 : Int) < (n : Int)) = false := by simp; omega
  have d2 : decide ((s.size : Int) - 7 < (n : Int)) = false := by simp; omega
  clear eN hN x1 x2 b1 b2
  go_wp2_with fail
  go_region_held3 (fun _ => True) (first | trivial)
    (first
      | (go_at_call 18; refine (T1.out _).mono ?_; rintro e w6 ⟨rfl, hb6⟩; have HB6 := Lib.hid hb6; clear hb6))
  go_wp2_with fail
  go_quiet (fail)
  go_wp2_with fail
  go_returns
  exact ⟨rfl, by first | exact below_drewN ((below_drewN (Below.refl _ _) _).trans (HB6.out.mono (Nat.le_refl _))) _ | exact below_drewN ((below_drewN (Below.refl _ _) _).trans (HB6.out.mono (Nat.le_refl _))).drew _⟩

theorem rfirst_any (s : ByteArray) (w : World) (hs : s.size ≤ 3000) :
    Calls Try.prog 13 #[.string s] w fun e w' => e = .returned (M.first s).vals ∧ Below w.heap.size w w' := by
  by_cases h : s.size < 7
  · exact rfirst_tiny s w h
  · by_cases hl : 600 < M.told s
    · exact rfirst_long s w (by omega) hl
    · by_cases hn : s.size < 7 + M.told s
      · exact rfirst_short s w (by omega) (by omega) hn
      · by_cases ht : s.extract (3 + M.told s) (7 + M.told s) = M.tail (s.extract 0 (3 + M.told s))
        · exact rfirst_good s w hs (by omega) (by omega) hn ht
        · exact rfirst_sum s w hs (by omega) (by omega) hn ht

theorem rget_any (s : ByteArray) (w : World) (hs : s.size ≤ 3000) :
    Calls Try.prog 11 #[.string s] w fun e w' => e = .returned (M.get s).three ∧ Below w.heap.size w w' := by
  have C := Lib.hid (rfirst_any s w hs)
  unfold M.Got.vals at C
  unfold M.get
  obtain ⟨⟨k, b, r, x⟩, hg⟩ : ∃ g, g = M.first s := ⟨_, rfl⟩
  rw [← hg] at C ⊢
  clear hg
  by_cases hx : x = 0
  · subst hx
    rw [if_neg (by simp)]
    by_cases hr : r.size = 0
    · have e : r = ⟨#[]⟩ := M.of_size0 hr
      subst e
      rw [if_neg (by simp; rfl)]
      clear hr
      go_enter Try.func11, Try.ntmps11
      go_wp2_with fail
      refine C.out.mono ?_
      rintro e w1 ⟨rfl, hb1⟩
      go_wp2_with fail
      go_returns
      exact ⟨rfl, hb1⟩
    · rw [if_pos (by simpa using hr)]
      have hne : (!r.toList.isEmpty) = true := str_some r hr
      clear hr
      go_enter Try.func11, Try.ntmps11
      go_wp2_with fail
      refine C.out.mono ?_
      rintro e w1 ⟨rfl, hb1⟩
      go_wp2_with fail
      go_returns
      exact ⟨rfl, hb1⟩
  · rw [if_pos (by simpa using hx)]
    have hd : (x != 0) = true := by simpa using hx
    clear hx
    go_enter Try.func11, Try.ntmps11
    go_wp2_with fail
    refine C.out.mono ?_
    rintro e w1 ⟨rfl, hb1⟩
    go_wp2_with fail
    go_returns
    exact ⟨rfl, hb1⟩
end Go.Proofs.Ytbmhmoemkkijpaa
