/-
  Walk over solderlaw04.SealBack.
-/
import Derived.Test.YtbmhmoemkkijpaaSLaw
namespace Go.Proofs.Ytbmhmoemkkijpaa
open Go.RowKit

set_option maxHeartbeats 2000000 in
theorem back_nn (k : Int) (k0 : -9223372036854775808 ≤ k) (k9 : k ≤ 9223372036854775807) (b m : ByteArray) (w : World) (hs : b.size ≤ 3000) (hm : m.size ≤ 3000) (hp : M.putE k b ≠ 0) (hg : (M.get m).e ≠ 0) :
    Calls Try.prog 5 #[.int .i64 k, .string b, .string m] w fun e w' => e = .returned (.bool true) ∧ Below w.heap.size w w' := by
  have hd : decide ((3000 : Int) < (b.size : Int)) = false := by simp; omega
  have hd2 : decide ((3000 : Int) < (m.size : Int)) = false := by simp; omega
  have C1 := Lib.hid (fun w => sput_any k b w k0 k9)
  rw [M.putE_no k b hp] at C1
  obtain ⟨x, hx⟩ : ∃ x, x = M.putE k b := ⟨_, rfl⟩
  rw [← hx] at C1 hp
  have hxd : (x == 0) = false := by simpa using hp
  clear hp hx
  have C4 := Lib.hid (fun w => get3 m _ rfl w)
  rw [(M.get_no m hg).1, (M.get_no m hg).2] at C4
  obtain ⟨y, hy⟩ : ∃ x, x = (M.get m).e := ⟨_, rfl⟩
  rw [← hy] at C4 hg
  have hyd : (y != 0) = true := by simpa using hg
  clear hg hy
  clear hs hm
  go_enter Try.func5, Try.ntmps5
  go_wp2_with fail
  refine (works_any w).mono ?_
  rintro e w1 ⟨rfl, hb1⟩
  go_wp2_with fail
  refine (C1.out w1).mono ?_
  rintro e w2 ⟨rfl, hb2⟩
  have hb2 := hb1.trans (hb2.mono hb1.size)
  clear hb1
  go_wp2_with fail
  refine (C4.out w2).mono ?_
  rintro e w3 ⟨rfl, hb3⟩
  have hb3 := hb2.trans (hb3.mono hb2.size)
  clear hb2
  go_wp2_with fail
  go_ret
  exact ⟨rfl, hb3⟩

set_option maxHeartbeats 2000000 in
theorem back_ny (k : Int) (k0 : -9223372036854775808 ≤ k) (k9 : k ≤ 9223372036854775807) (b m : ByteArray) (w : World) (hs : b.size ≤ 3000) (hm : m.size ≤ 3000) (hp : M.putE k b ≠ 0) (hg : (M.get m).e = 0) :
    Calls Try.prog 5 #[.int .i64 k, .string b, .string m] w fun e w' => e = .returned (.bool true) ∧ Below w.heap.size w w' := by
  have hd : decide ((3000 : Int) < (b.size : Int)) = false := by simp; omega
  have hd2 : decide ((3000 : Int) < (m.size : Int)) = false := by simp; omega
  have C1 := Lib.hid (fun w => sput_any k b w k0 k9)
  rw [M.putE_no k b hp] at C1
  obtain ⟨x, hx⟩ : ∃ x, x = M.putE k b := ⟨_, rfl⟩
  rw [← hx] at C1 hp
  have hxd : (x == 0) = false := by simpa using hp
  clear hp hx
  have C4 := Lib.hid (fun w => get3 m _ rfl w)
  obtain ⟨g1, g2, g3⟩ := M.get_back m hg
  have C5 := Lib.hid (fun w => sput_yes (M.get m).k (M.get m).b w g1 g2)
  rw [← g3] at C5
  rw [hg] at C4
  obtain ⟨n, hn⟩ : ∃ x, x = (M.get m).k := ⟨_, rfl⟩
  obtain ⟨c, hc⟩ : ∃ x, x = (M.get m).b := ⟨_, rfl⟩
  rw [← hn] at C4 C5
  rw [← hc] at C4 C5
  clear g1 g2 g3 hn hc hg
  clear hs hm
  go_enter Try.func5, Try.ntmps5
  go_wp2_with fail
  refine (works_any w).mono ?_
  rintro e w1 ⟨rfl, hb1⟩
  go_wp2_with fail
  refine (C1.out w1).mono ?_
  rintro e w2 ⟨rfl, hb2⟩
  have hb2 := hb1.trans (hb2.mono hb1.size)
  clear hb1
  go_wp2_with fail
  refine (C4.out w2).mono ?_
  rintro e w3 ⟨rfl, hb3⟩
  have hb3 := hb2.trans (hb3.mono hb2.size)
  clear hb2
  go_wp2_with fail
  refine (C5.out w3).mono ?_
  rintro e w4 ⟨rfl, hb4⟩
  have hb4 := hb3.trans (hb4.mono hb3.size)
  clear hb3
  go_wp2_with fail
  go_ret
  exact ⟨rfl, hb4⟩

set_option maxHeartbeats 2000000 in
theorem back_yn (k : Nat) (b m : ByteArray) (w : World) (hk : k < 256) (hb : b.size ≤ 600) (hm : m.size ≤ 3000) (hg : (M.get m).e ≠ 0) :
    Calls Try.prog 5 #[.int .i64 k, .string b, .string m] w fun e w' => e = .returned (.bool true) ∧ Below w.heap.size w w' := by
  have hd : decide ((3000 : Int) < (b.size : Int)) = false := by simp; omega
  have hd2 : decide ((3000 : Int) < (m.size : Int)) = false := by simp; omega
  have C1 := Lib.hid (fun w => sput_yes k b w hk hb)
  have C2 := Lib.hid (fun w => get3 (M.whole k b) _ (M.get_whole k b hk hb) w)
  have C3 := Lib.hid (fun w => first4 (M.whole k b ++ m) _ (M.first_whole k b m hk hb) w)
  have hwz := M.whole_size k b
  obtain ⟨s, hs'⟩ : ∃ s, s = M.whole k b := ⟨_, rfl⟩
  rw [← hs'] at C1 C2 C3 hwz
  have e1 := str_eq_self b
  have e2 := str_eq_self m
  clear hs'
  have C4 := Lib.hid (fun w => get3 m _ rfl w)
  rw [(M.get_no m hg).1, (M.get_no m hg).2] at C4
  obtain ⟨y, hy⟩ : ∃ x, x = (M.get m).e := ⟨_, rfl⟩
  rw [← hy] at C4 hg
  have hyd : (y != 0) = true := by simpa using hg
  clear hg hy
  go_enter Try.func5, Try.ntmps5
  go_wp2_with fail
  refine (works_any w).mono ?_
  rintro e w1 ⟨rfl, hb1⟩
  go_wp2_with fail
  refine (C1.out w1).mono ?_
  rintro e w2 ⟨rfl, hb2⟩
  have hb2 := hb1.trans (hb2.mono hb1.size)
  clear hb1
  go_wp2_with fail
  refine (C2.out w2).mono ?_
  rintro e w3 ⟨rfl, hb3⟩
  have hb3 := hb2.trans (hb3.mono hb2.size)
  clear hb2
  go_wp2_with fail
  refine (C3.out w3).mono ?_
  rintro e w4 ⟨rfl, hb4⟩
  have hb4 := hb3.trans (hb4.mono hb3.size)
  clear hb3
  go_wp2_with fail
  refine (C4.out w4).mono ?_
  rintro e w5 ⟨rfl, hb5⟩
  have hb5 := hb4.trans (hb5.mono hb4.size)
  clear hb4
  go_wp2_with fail
  go_ret
  exact ⟨rfl, hb5⟩

set_option maxHeartbeats 2000000 in
theorem back_yy (k : Nat) (b m : ByteArray) (w : World) (hk : k < 256) (hb : b.size ≤ 600) (hm : m.size ≤ 3000) (hg : (M.get m).e = 0) :
    Calls Try.prog 5 #[.int .i64 k, .string b, .string m] w fun e w' => e = .returned (.bool true) ∧ Below w.heap.size w w' := by
  have hd : decide ((3000 : Int) < (b.size : Int)) = false := by simp; omega
  have hd2 : decide ((3000 : Int) < (m.size : Int)) = false := by simp; omega
  have C1 := Lib.hid (fun w => sput_yes k b w hk hb)
  have C2 := Lib.hid (fun w => get3 (M.whole k b) _ (M.get_whole k b hk hb) w)
  have C3 := Lib.hid (fun w => first4 (M.whole k b ++ m) _ (M.first_whole k b m hk hb) w)
  have hwz := M.whole_size k b
  obtain ⟨s, hs'⟩ : ∃ s, s = M.whole k b := ⟨_, rfl⟩
  rw [← hs'] at C1 C2 C3 hwz
  have e1 := str_eq_self b
  have e2 := str_eq_self m
  clear hs'
  have C4 := Lib.hid (fun w => get3 m _ rfl w)
  obtain ⟨g1, g2, g3⟩ := M.get_back m hg
  have C5 := Lib.hid (fun w => sput_yes (M.get m).k (M.get m).b w g1 g2)
  rw [← g3] at C5
  rw [hg] at C4
  obtain ⟨n, hn⟩ : ∃ x, x = (M.get m).k := ⟨_, rfl⟩
  obtain ⟨c, hc⟩ : ∃ x, x = (M.get m).b := ⟨_, rfl⟩
  rw [← hn] at C4 C5
  rw [← hc] at C4 C5
  clear g1 g2 g3 hn hc hg
  go_enter Try.func5, Try.ntmps5
  go_wp2_with fail
  refine (works_any w).mono ?_
  rintro e w1 ⟨rfl, hb1⟩
  go_wp2_with fail
  refine (C1.out w1).mono ?_
  rintro e w2 ⟨rfl, hb2⟩
  have hb2 := hb1.trans (hb2.mono hb1.size)
  clear hb1
  go_wp2_with fail
  refine (C2.out w2).mono ?_
  rintro e w3 ⟨rfl, hb3⟩
  have hb3 := hb2.trans (hb3.mono hb2.size)
  clear hb2
  go_wp2_with fail
  refine (C3.out w3).mono ?_
  rintro e w4 ⟨rfl, hb4⟩
  have hb4 := hb3.trans (hb4.mono hb3.size)
  clear hb3
  go_wp2_with fail
  refine (C4.out w4).mono ?_
  rintro e w5 ⟨rfl, hb5⟩
  have hb5 := hb4.trans (hb5.mono hb4.size)
  clear hb4
  go_wp2_with fail
  refine (C5.out w5).mono ?_
  rintro e w6 ⟨rfl, hb6⟩
  have hb6 := hb5.trans (hb6.mono hb5.size)
  clear hb5
  go_wp2_with fail
  go_ret
  exact ⟨rfl, hb6⟩

theorem sealBack_walk (k : Int) (k0 : -9223372036854775808 ≤ k) (k9 : k ≤ 9223372036854775807) (b m : ByteArray) (w : World) :
    Calls Try.prog 5 #[.int .i64 k, .string b, .string m] w fun e w' => e = .returned (.bool true) ∧ Below w.heap.size w w' := by
  by_cases hs : b.size ≤ 3000
  · by_cases hm : m.size ≤ 3000
    · by_cases hp : M.putE k b = 0
      · obtain ⟨n, rfl, h1, h2, _⟩ := M.putE_ok k b hp
        by_cases hg : (M.get m).e = 0
        · exact back_yy n b m w h1 h2 hm hg
        · exact back_yn n b m w h1 h2 hm hg
      · by_cases hg : (M.get m).e = 0
        · exact back_ny k k0 k9 b m w hs hm hp hg
        · exact back_nn k k0 k9 b m w hs hm hp hg
    · have hd : decide ((3000 : Int) < (b.size : Int)) = false := by simp; omega
      have hd2 : decide ((3000 : Int) < (m.size : Int)) = true := by simp; omega
      clear hs hm
      go_enter Try.func5, Try.ntmps5
      go_wp2_with fail
      refine (works_any w).mono ?_
      rintro e w1 ⟨rfl, hb1⟩
      go_wp2_with fail
      go_ret
      exact ⟨rfl, hb1⟩
  · have hd : decide ((3000 : Int) < (b.size : Int)) = true := by simp; omega
    clear hs
    go_enter Try.func5, Try.ntmps5
    go_wp2_with fail
    refine (works_any w).mono ?_
    rintro e w1 ⟨rfl, hb1⟩
    go_wp2_with fail
    go_ret
    exact ⟨rfl, hb1⟩
end Go.Proofs.Ytbmhmoemkkijpaa
