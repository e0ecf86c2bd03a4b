/-
  The rest of solderref01.Read, and the walk over solderlaw01.CountNumbers.
-/
import Derived.Test.YtanaggahdadejaaDoorReadRef
import Derived.Test.YtanaggahdadejaaDoorTextRef
import Derived.Test.YtanaggahdadejaaDoorWorks
namespace Go.Proofs.YtanaggahdadejaaDoor
open Go.RowKit

theorem refRead_nothing (w : World) :
    Calls Tryd.prog 10 #[.string ⟨#[]⟩] w fun e w' => e = .returned (.tuple #[.int .i64 0, .int .i64 4]) ∧ w = w' := by
  go_enter Tryd.func10, Tryd.ntmps10
  go_wp2_with fail
  go_ret2
  exact ⟨rfl, rfl⟩
theorem refRead_empty (s : ByteArray) (h : s.size = 0) (w : World) :
    Calls Tryd.prog 10 #[.string s] w fun e w' => e = .returned (readT s.data.toList) ∧ w = w' := by
  have hl : s.data.toList = [] := List.length_eq_zero_iff.1 (by rw [M.size_list]; exact h)
  have hs : (⟨([] : List UInt8).toArray⟩ : ByteArray) = s := by rw [← hl]
  have hr : readT s.data.toList = .tuple #[.int .i64 0, .int .i64 4] := by
    rw [readT, M.readP_pos_form (l := s.data.toList) (by rw [hl]; simp) (M.nat_nil hl)]
  rw [hr, ← hs]
  exact refRead_nothing w

set_option maxHeartbeats 1000000 in
theorem refRead_lead (s : ByteArray) (h1 : 1 < s.size) (hz : (s[0]'(by omega)).toNat = 48) (w : World) :
    Calls Tryd.prog 10 #[.string s] w fun e w' => e = .returned (readT s.data.toList) ∧ w = w' := by
  have h0 : 0 < s.size := by omega
  have hm1 : (((s[0]'h0).toNat : Int) == 45) = false := by rw [hz]; rfl
  have hm2 : (((s[0]'h0).toNat : Int) == 48) = true := by rw [hz]; rfl
  have hh : ¬ s.data.toList.head? = some 45 := by
    rw [List.head?_eq_getElem?, List.getElem?_eq_getElem (by rw [M.size_list]; exact h0)]
    intro e
    have := Option.some.inj e
    rw [M.list_at s 0 h0] at this
    rw [this] at hz
    revert hz; decide
  have HR := Lib.hid (M.readP_pos_form hh (M.nat_lead (by rw [M.size_list]; exact h1) hz))
  have e1 : ¬ s.toList = [] := by
    intro e
    have := congrArg List.length e
    rw [toList_data, M.size_list] at this
    exact absurd this (by show ¬ s.size = 0; omega)
  have f1 : (!s.toList.isEmpty) = true := by simpa using e1
  have f2 : s.toList.isEmpty = false := by simpa using e1
  have hk : decide ((1 : Int) < (s.size : Int)) = true := decide_eq_true (by omega)
  clear hz hh
  go_enter Tryd.func10, Tryd.ntmps10
  go_wp2_with fail
  go_ret2
  exact ⟨readT_eq HR.out, rfl⟩

theorem neg_cons (s d : ByteArray) (hds : s.extract 1 s.size = d) (h0 : 0 < s.size) (hm : (s[0]'h0).toNat = 45) : s.data.toList = 45 :: d.data.toList := by
  have hdl : d.data.toList = s.data.toList.drop 1 := by rw [← hds, extract_list, List.take_of_length_le (by rw [M.size_list]; omega)]
  have h := List.drop_eq_getElem_cons (l := s.data.toList) (i := 0) (by rw [M.size_list]; exact h0)
  rw [List.drop_zero] at h
  rw [h, hdl, M.list_at s 0 h0]
  congr 1
  exact UInt8.toNat_inj.1 hm

set_option maxHeartbeats 1000000 in
theorem refRead_neg_none (s d : ByteArray) (hds : s.extract 1 s.size = d) (h0 : 0 < s.size) (hm : (s[0]'h0).toNat = 45) (hd : d.size = 0) (w : World) :
    Calls Tryd.prog 10 #[.string s] w fun e w' => e = .returned (readT s.data.toList) ∧ w = w' := by
  have hl : d.data.toList = [] := List.length_eq_zero_iff.1 (by rw [M.size_list]; exact hd)
  have HR := Lib.hid (M.readP_neg_form (M.nat_nil hl))
  rw [← neg_cons s d hds h0 hm] at HR
  have hm1 : (((s[0]'h0).toNat : Int) == 45) = true := by rw [hm]; rfl
  have e1 : d.toList = [] := by rw [toList_data]; exact hl
  have h1 : 1 ≤ s.size := h0
  clear hl hd hm
  go_enter Tryd.func10, Tryd.ntmps10
  go_wp2_with fail
  go_ret2
  exact ⟨readT_eq HR.out, rfl⟩

set_option maxHeartbeats 1000000 in
theorem refRead_neg_lead (s d : ByteArray) (hds : s.extract 1 s.size = d) (h0 : 0 < s.size) (hm : (s[0]'h0).toNat = 45) (h1 : 1 < d.size) (hz : (d[0]'(by omega)).toNat = 48) (w : World) :
    Calls Tryd.prog 10 #[.string s] w fun e w' => e = .returned (readT s.data.toList) ∧ w = w' := by
  have hd0 : 0 < d.size := by omega
  have hm2 : (((d[0]'hd0).toNat : Int) == 48) = true := by rw [hz]; rfl
  have HR := Lib.hid (M.readP_neg_form (M.nat_lead (l := d.data.toList) (by rw [M.size_list]; exact h1) hz))
  rw [← neg_cons s d hds h0 hm] at HR
  have hm1 : (((s[0]'h0).toNat : Int) == 45) = true := by rw [hm]; rfl
  have e1 : ¬ d.toList = [] := by
    intro e
    have := congrArg List.length e
    rw [toList_data, M.size_list] at this
    exact absurd this (by show ¬ d.size = 0; omega)
  have f1 : (!d.toList.isEmpty) = true := by simpa using e1
  have f2 : d.toList.isEmpty = false := by simpa using e1
  have hk : decide ((1 : Int) < (d.size : Int)) = true := decide_eq_true (by omega)
  clear hz hm
  go_enter Tryd.func10, Tryd.ntmps10
  go_wp2_with fail
  go_ret2
  exact ⟨readT_eq HR.out, rfl⟩

set_option maxHeartbeats 1000000 in
theorem refRead_neg_zero (s d : ByteArray) (hds : s.extract 1 s.size = d) (h0 : 0 < s.size) (hm : (s[0]'h0).toNat = 45) (h48 : d.data.toList = [48]) (w : World) :
    Calls Tryd.prog 10 #[.string s] w fun e w' => e = .returned (readT s.data.toList) ∧ w = w' := by
  have hc := neg_cons s d hds h0 hm
  rw [h48] at hc
  have HR := Lib.hid (M.read_minus0 hc)
  have hm1 : (((s[0]'h0).toNat : Int) == 45) = true := by rw [hm]; rfl
  have e0 : d.toList = [48] := by rw [toList_data]; exact h48
  have f0 : (d.toList == [48]) = true := by simpa using e0
  have e1 : ¬ d.toList = [] := by rw [e0]; simp
  have f1 : (!d.toList.isEmpty) = true := by simpa using e1
  have f2 : d.toList.isEmpty = false := by simpa using e1
  have hk : decide ((1 : Int) < (d.size : Int)) = false := by
    have := congrArg List.length h48
    rw [M.size_list] at this
    exact decide_eq_false (by rw [this]; decide)
  clear hm hc h48 e0
  go_enter Tryd.func10, Tryd.ntmps10
  go_wp2_with fail
  go_ret2
  exact ⟨readT_eq HR.out, rfl⟩

theorem refRead_any (s : ByteArray) (hs : s.size ≤ 3000) (w : World) :
    Calls Tryd.prog 10 #[.string s] w fun e w' => e = .returned (readT s.data.toList) ∧ w = w' := by
  by_cases h0 : 0 < s.size
  · by_cases hm : (s[0]'h0).toNat = 45
    · obtain ⟨d, hd⟩ : ∃ d, s.extract 1 s.size = d := ⟨_, rfl⟩
      by_cases hd0 : 0 < d.size
      · by_cases h48 : d.data.toList = [48]
        · exact refRead_neg_zero s d hd h0 hm h48 w
        · by_cases hz : 1 < d.size ∧ (d[0]'hd0).toNat = 48
          · exact refRead_neg_lead s d hd h0 hm hz.1 hz.2 w
          · exact refRead_neg s d hd hs h0 hm hd0 (fun h e => hz ⟨h, e⟩) h48 w
      · exact refRead_neg_none s d hd h0 hm (by omega) w
    · by_cases hz : 1 < s.size ∧ (s[0]'h0).toNat = 48
      · exact refRead_lead s hz.1 hz.2 w
      · exact refRead_pos s s rfl hs h0 hm (fun h e => hz ⟨h, e⟩) w
  · exact refRead_empty s (by omega) w

theorem readT_form (l : List UInt8) : ∃ a b, readT l = .tuple #[.int .i64 a, .int .i64 b] := ⟨_, _, rfl⟩
theorem read_form_is (s : ByteArray) (a b : Int) (hs : s.size ≤ 100000) (h : readT s.data.toList = .tuple #[.int .i64 a, .int .i64 b]) (w : World) (hE : Env w) :
    Calls Tryd.prog 9 #[.string s] w fun e w' => e = .returned (.tuple #[.int .i64 a, .int .i64 b]) ∧ Below w.heap.size w w' := by
  have h1 := read_any s hs w hE
  rw [h] at h1
  exact h1
theorem refRead_is (s : ByteArray) (a b : Int) (hs : s.size ≤ 3000) (h : readT s.data.toList = .tuple #[.int .i64 a, .int .i64 b]) (w : World) :
    Calls Tryd.prog 10 #[.string s] w fun e w' => e = .returned (.tuple #[.int .i64 a, .int .i64 b]) ∧ w = w' := by
  have h1 := refRead_any s hs w
  rw [h] at h1
  exact h1
theorem text_named (n : Int) (t : ByteArray) (h0 : -9223372036854775808 ≤ n) (h1 : n ≤ 9223372036854775807) (ht : t = ⟨(Lib.itoa n).toArray⟩) (w : World) (hE : Env w) :
    Calls Tryd.prog 11 #[.int .i64 n] w fun e w' => e = .returned (.string t) ∧ Below w.heap.size w w' := by
  subst ht; exact text_any n h0 h1 w hE
theorem refText_named (n : Int) (t : ByteArray) (h0 : -9223372036854775808 ≤ n) (h1 : n ≤ 9223372036854775807) (ht : t = ⟨(Lib.itoa n).toArray⟩) (w : World) :
    Calls Tryd.prog 12 #[.int .i64 n] w fun e w' => e = .returned (.string t) ∧ Below w.heap.size w w' := by
  subst ht; exact refText_any n h0 h1 w

set_option maxHeartbeats 2000000 in
theorem countNumbers_walk (n : Int) (h0 : -9223372036854775808 ≤ n) (h1 : n ≤ 9223372036854775807) (s : ByteArray) (w : World) (hE : Env w) :
    Calls Tryd.prog 3 #[.int .i64 n, .string s] w fun e w' => e = .returned (.bool true) ∧ Below w.heap.size w w' := by
  have HE := Lib.hid hE
  clear hE
  have HI := Lib.hid (And.intro h0 h1)
  clear h0 h1
  by_cases hs : s.size ≤ 3000
  · obtain ⟨a, b, hab⟩ := readT_form s.data.toList
    obtain ⟨t, ht⟩ : ∃ t : ByteArray, t = ⟨(Lib.itoa n).toArray⟩ := ⟨_, rfl⟩
    have HAB := Lib.hid hab
    have HT := Lib.hid ht
    clear hab ht
    go_enter Tryd.func3, Tryd.ntmps3
    go_wp2_with fail
    refine (works_any _ HE.out).mono ?_
    rintro e w1 ⟨rfl, hb1⟩
    go_wp2_with fail
    refine (long_no _ _ hs).mono ?_
    rintro e w1 ⟨rfl, rfl⟩
    go_wp2_with fail
    refine (read_form_is s a b (by omega) HAB.out _ (HE.out.below hb1)).mono ?_
    rintro e w2 ⟨rfl, hb2⟩
    have hb2 := hb1.trans (hb2.mono hb1.size)
    clear hb1
    go_wp2_with fail
    refine (refRead_is s a b hs HAB.out _).mono ?_
    rintro e w3 ⟨rfl, rfl⟩
    go_wp2_with fail
    refine (text_named n t HI.out.1 HI.out.2 HT.out _ (HE.out.below hb2)).mono ?_
    rintro e w4 ⟨rfl, hb4⟩
    have hb4 := hb2.trans (hb4.mono hb2.size)
    clear hb2
    go_wp2_with fail
    refine (refText_named n t HI.out.1 HI.out.2 HT.out _).mono ?_
    rintro e w5 ⟨rfl, hb5⟩
    have hb5 := hb4.trans (hb5.mono hb4.size)
    clear hb4
    go_wp2_with fail
    go_ret
    exact ⟨rfl, hb5⟩
  · go_enter Tryd.func3, Tryd.ntmps3
    go_wp2_with fail
    refine (works_any _ HE.out).mono ?_
    rintro e w1 ⟨rfl, hb1⟩
    go_wp2_with fail
    refine (long_yes _ _ hs).mono ?_
    rintro e w1 ⟨rfl, rfl⟩
    go_wp2_with fail
    go_ret
    exact ⟨rfl, hb1⟩
end Go.Proofs.YtanaggahdadejaaDoor
