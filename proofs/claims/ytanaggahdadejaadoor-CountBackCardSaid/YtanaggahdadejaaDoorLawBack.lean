/-
  The walk over solderlaw01.CountBack.
-/
import Derived.Test.YtanaggahdadejaaDoorWorks
import Derived.Test.YtanaggahdadejaaDoorUnhex
namespace Go.Proofs.YtanaggahdadejaaDoor
open Go.RowKit

theorem ba_eta (l : List UInt8) (s : ByteArray) (h : l = s.data.toList) : (⟨l.toArray⟩ : ByteArray) = s := by subst h; rfl

theorem read_is (s : ByteArray) (hs : s.size ≤ 100000) (a b : Int) (h : M.readP s.data.toList = (a, b)) (w : World) (hE : Env w) :
    Calls Tryd.prog 9 #[.string s] w fun e w' => e = .returned (.tuple #[.int .i64 a, .int .i64 b]) ∧ Below w.heap.size w w' := by
  have h1 := read_any s hs w hE
  rw [readT, h] at h1
  exact h1
theorem itoa_small (n : Int) (h0 : -9223372036854775808 ≤ n) (h1 : n ≤ 9223372036854775807) : (⟨(Lib.itoa n).toArray⟩ : ByteArray).size ≤ 100000 := by
  have := Lib.itoa_length_le n h0 h1
  show (Lib.itoa n).toArray.size ≤ _
  simp; omega
theorem read_itoa (n : Int) (h0 : -9223372036854775808 ≤ n) (h1 : n ≤ 9223372036854775807) (w : World) (hE : Env w) :
    Calls Tryd.prog 9 #[.string ⟨(Lib.itoa n).toArray⟩] w fun e w' => e = .returned (.tuple #[.int .i64 n, .int .i64 0]) ∧ Below w.heap.size w w' :=
  read_is _ (itoa_small n h0 h1) n 0 (M.read_text n h0 h1) w hE
theorem text_is (k : Int) (s : ByteArray) (h : M.readP s.data.toList = (k, 0)) (w : World) (hE : Env w) :
    Calls Tryd.prog 11 #[.int .i64 k] w fun e w' => e = .returned (.string s) ∧ Below w.heap.size w w' := by
  obtain ⟨e, h0, h1⟩ := M.text_read h
  have := text_any k h0 h1 w hE
  rw [ba_eta _ s e] at this
  exact this
theorem unhex_hexed (s : ByteArray) (hs : s.size ≤ 50000) (w : World) :
    Calls Tryd.prog 13 #[.string ⟨(M.hexL s.data.toList).toArray⟩] w fun e w' => e = .returned (.tuple #[.string s, .int .i64 0]) ∧ Below w.heap.size w w' := by
  have h1 := unhex_any ⟨(M.hexL s.data.toList).toArray⟩ w (by show (M.hexL s.data.toList).toArray.size ≤ _; have := M.hexL_len s.data.toList; rw [M.size_list] at this; simp; omega)
  have e : unhexT (⟨(M.hexL s.data.toList).toArray⟩ : ByteArray).data.toList = .tuple #[.string s, .int .i64 0] := by
    show unhexT (M.hexL s.data.toList) = _
    rw [unhexT, M.unhex_hex]
  rw [e] at h1
  exact h1
theorem unhex_some (s u : ByteArray) (hs : s.size ≤ 100000) (h : M.unhexL s.data.toList = some u.data.toList) (w : World) :
    Calls Tryd.prog 13 #[.string s] w fun e w' => e = .returned (.tuple #[.string u, .int .i64 0]) ∧ Below w.heap.size w w' := by
  have h1 := unhex_any s w hs
  rw [unhexT, h] at h1
  exact h1
theorem unhex_none (s : ByteArray) (hs : s.size ≤ 100000) (h : M.unhexL s.data.toList = none) (w : World) :
    Calls Tryd.prog 13 #[.string s] w fun e w' => e = .returned (.tuple #[.string ⟨#[]⟩, .int .i64 4]) ∧ Below w.heap.size w w' := by
  have h1 := unhex_any s w hs
  rw [unhexT, h] at h1
  exact h1
theorem hex_is (s u : ByteArray) (hu : u.size ≤ 100000) (h : M.unhexL s.data.toList = some u.data.toList) (w : World) :
    Calls Tryd.prog 15 #[.string u] w fun e w' => e = .returned (.string s) ∧ Below w.heap.size w w' := by
  have h1 := hex_any u w hu
  rw [ba_eta _ s (M.hex_unhex _ _ h)] at h1
  exact h1

set_option maxHeartbeats 2000000 in
theorem countBack_walk (n : Int) (h0 : -9223372036854775808 ≤ n) (h1 : n ≤ 9223372036854775807) (s : ByteArray) (w : World) (hE : Env w) :
    Calls Tryd.prog 6 #[.int .i64 n, .string s] w fun e w' => e = .returned (.bool true) ∧ Below w.heap.size w w' := by
  have HE := Lib.hid hE
  clear hE
  have HI := Lib.hid (And.intro h0 h1)
  clear h0 h1
  by_cases hs : s.size ≤ 3000
  · obtain ⟨t, ht⟩ : ∃ t : ByteArray, t = ⟨(M.hexL s.data.toList).toArray⟩ := ⟨_, rfl⟩
    have hts : t.size = 2 * s.size := by
      rw [ht]; show (M.hexL s.data.toList).toArray.size = _
      have := M.hexL_len s.data.toList; rw [M.size_list] at this; simpa using this
    have HT := Lib.hid ht
    have hle : ((t.size : Int) != 2 * (s.size : Int)) = false := by simp; omega
    clear ht hts
    go_enter Tryd.func6, Tryd.ntmps6
    go_wp2_with fail
    refine (works_any _ HE.out).mono ?_
    rintro e w1 ⟨rfl, hb1⟩
    go_wp2_with fail
    refine (long_no _ _ hs).mono ?_
    rintro e w1 ⟨rfl, rfl⟩
    go_wp2_with fail
    refine (text_any n HI.out.1 HI.out.2 _ (HE.out.below hb1)).mono ?_
    rintro e w2 ⟨rfl, hb2⟩
    have hb2 := hb1.trans (hb2.mono hb1.size)
    clear hb1
    go_wp2_with fail
    refine (read_itoa n HI.out.1 HI.out.2 _ (HE.out.below hb2)).mono ?_
    rintro e w3 ⟨rfl, hb3⟩
    have hb3 := hb2.trans (hb3.mono hb2.size)
    clear hb2
    go_wp2_with fail
    refine (hex_any _ _ (by omega)).mono ?_
    rintro e w4 ⟨rfl, hb4⟩
    have hb4 := hb3.trans (hb4.mono hb3.size)
    clear hb3
    go_wp2_with fail
    refine (unhex_hexed _ (by omega) _).mono ?_
    rintro e w5 ⟨rfl, hb5⟩
    have hb5 := hb4.trans (hb5.mono hb4.size)
    clear hb4
    go_wp2_with fail
    refine (hex_any _ _ (by omega)).mono ?_
    rw [← HT.out]
    rintro e w6 ⟨rfl, hb6⟩
    have hb6 := hb5.trans (hb6.mono hb5.size)
    clear hb5
    go_wp2_with fail
    rcases M.read_ends s.data.toList with ⟨k, hk⟩ | hk | hk
    · have HK := Lib.hid hk
      clear hk
      refine (read_is s (by omega) k 0 HK.out _ (HE.out.below hb6)).mono ?_
      rintro e w7 ⟨rfl, hb7⟩
      have hb7 := hb6.trans (hb7.mono hb6.size)
      clear hb6
      go_wp2_with fail
      cases hu : M.unhexL s.data.toList with
      | none =>
        have HU := Lib.hid hu
        clear hu
        refine (unhex_none s (by omega) HU.out _).mono ?_
        rintro e w8 ⟨rfl, hb8⟩
        have hb8 := hb7.trans (hb8.mono hb7.size)
        clear hb7
        go_wp2_with fail
        refine (text_is k s HK.out _ (HE.out.below hb8)).mono ?_
        rintro e w9 ⟨rfl, hb9⟩
        have hb8 := hb8.trans (hb9.mono hb8.size)
        clear hb9
        go_wp2_with fail
        go_ret
        exact ⟨rfl, hb8⟩
      | some ul =>
        obtain ⟨u, rfl⟩ : ∃ u : ByteArray, ul = u.data.toList := ⟨⟨ul.toArray⟩, rfl⟩
        have hul := M.unhex_len _ _ hu
        rw [M.size_list, M.size_list] at hul
        have hus : u.size ≤ 100000 := by omega
        have HU := Lib.hid hu
        clear hu hul
        refine (unhex_some s u (by omega) HU.out _).mono ?_
        rintro e w8 ⟨rfl, hb8⟩
        have hb8 := hb7.trans (hb8.mono hb7.size)
        clear hb7
        go_wp2_with fail
        refine (text_is k s HK.out _ (HE.out.below hb8)).mono ?_
        rintro e w9 ⟨rfl, hb9⟩
        have hb8 := hb8.trans (hb9.mono hb8.size)
        clear hb9
        go_wp2_with fail
        refine (hex_is s u hus HU.out _).mono ?_
        rintro e w9 ⟨rfl, hb9⟩
        have hb8 := hb8.trans (hb9.mono hb8.size)
        clear hb9
        go_wp2_with fail
        go_ret
        exact ⟨rfl, hb8⟩
    · have HK := Lib.hid hk
      clear hk
      refine (read_is s (by omega) 0 3 HK.out _ (HE.out.below hb6)).mono ?_
      rintro e w7 ⟨rfl, hb7⟩
      have hb7 := hb6.trans (hb7.mono hb6.size)
      clear hb6
      go_wp2_with fail
      cases hu : M.unhexL s.data.toList with
      | none =>
        have HU := Lib.hid hu
        clear hu
        refine (unhex_none s (by omega) HU.out _).mono ?_
        rintro e w8 ⟨rfl, hb8⟩
        have hb8 := hb7.trans (hb8.mono hb7.size)
        clear hb7
        go_wp2_with fail
        go_ret
        exact ⟨rfl, hb8⟩
      | some ul =>
        obtain ⟨u, rfl⟩ : ∃ u : ByteArray, ul = u.data.toList := ⟨⟨ul.toArray⟩, rfl⟩
        have hul := M.unhex_len _ _ hu
        rw [M.size_list, M.size_list] at hul
        have hus : u.size ≤ 100000 := by omega
        have HU := Lib.hid hu
        clear hu hul
        refine (unhex_some s u (by omega) HU.out _).mono ?_
        rintro e w8 ⟨rfl, hb8⟩
        have hb8 := hb7.trans (hb8.mono hb7.size)
        clear hb7
        go_wp2_with fail
        refine (hex_is s u hus HU.out _).mono ?_
        rintro e w9 ⟨rfl, hb9⟩
        have hb8 := hb8.trans (hb9.mono hb8.size)
        clear hb9
        go_wp2_with fail
        go_ret
        exact ⟨rfl, hb8⟩
    · have HK := Lib.hid hk
      clear hk
      refine (read_is s (by omega) 0 4 HK.out _ (HE.out.below hb6)).mono ?_
      rintro e w7 ⟨rfl, hb7⟩
      have hb7 := hb6.trans (hb7.mono hb6.size)
      clear hb6
      go_wp2_with fail
      cases hu : M.unhexL s.data.toList with
      | none =>
        have HU := Lib.hid hu
        clear hu
        refine (unhex_none s (by omega) HU.out _).mono ?_
        rintro e w8 ⟨rfl, hb8⟩
        have hb8 := hb7.trans (hb8.mono hb7.size)
        clear hb7
        go_wp2_with fail
        go_ret
        exact ⟨rfl, hb8⟩
      | some ul =>
        obtain ⟨u, rfl⟩ : ∃ u : ByteArray, ul = u.data.toList := ⟨⟨ul.toArray⟩, rfl⟩
        have hul := M.unhex_len _ _ hu
        rw [M.size_list, M.size_list] at hul
        have hus : u.size ≤ 100000 := by omega
        have HU := Lib.hid hu
        clear hu hul
        refine (unhex_some s u (by omega) HU.out _).mono ?_
        rintro e w8 ⟨rfl, hb8⟩
        have hb8 := hb7.trans (hb8.mono hb7.size)
        clear hb7
        go_wp2_with fail
        refine (hex_is s u hus HU.out _).mono ?_
        rintro e w9 ⟨rfl, hb9⟩
        have hb8 := hb8.trans (hb9.mono hb8.size)
        clear hb9
        go_wp2_with fail
        go_ret
        exact ⟨rfl, hb8⟩
  · go_enter Tryd.func6, Tryd.ntmps6
    go_wp2_with fail
    refine (works_any _ HE.out).mono ?_
    rintro e w1 ⟨rfl, hb1⟩
    go_wp2_with fail
    refine (long_yes _ _ hs).mono ?_
    rintro e w1 ⟨rfl, rfl⟩
    go_wp2_with fail
    go_ret
    exact ⟨rfl, hb1⟩
end Go.Proofs.YtanaggahdadejaaDoor
