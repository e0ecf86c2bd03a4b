/-
  Walks over solderref03.Tail, solderlaw03.works, solderlaw03.CyclicOf and solderlaw03.CyclicTail.
-/
import Derived.Test.YtngdacnbjdhjaaaCTail
namespace Go.Proofs.Ytngdacnbjdhjaaa
open Go.RowKit

theorem rtail_any (s : ByteArray) (w : World) (hs : s.size ≤ 9223372036854775807) :
    Calls Try.prog 11 #[.string s] w fun e w' => e = .returned (.string ⟨(M.tl (M.of s.data.toList)).toArray⟩) ∧ Below w.heap.size w w' := by
  have HC := Lib.hid (rof_any s w hs)
  have hl := M.of_lt s.data.toList
  obtain ⟨q, hq⟩ : ∃ q, q = M.of s.data.toList := ⟨_, rfl⟩
  rw [← hq] at HC hl
  rw [← hq]
  clear hq
  have hcv := bytes_back w _ 4 (M.tl q) rfl (tl_at q hl _ rfl)
  have hb := Lib.hid ((Below.refl w.heap.size w).alloc (Nat.le_refl _) (.cells #[.int .u8 ((q : Int) % 256), .int .u8 ((q : Int) / 256 % 256), .int .u8 ((q : Int) / 65536 % 256), .int .u8 ((q : Int) / 16777216)] 5))
  obtain ⟨b, hb'⟩ : ∃ b, b = M.tl q := ⟨_, rfl⟩
  rw [← hb'] at hcv
  rw [← hb']
  clear hb'
  have e3 : (q : Int) / 16777216 % 256 = (q : Int) / 16777216 := by omega
  go_enter Try.func11, Try.ntmps11
  go_wp2_with fail
  refine HC.out.mono ?_
  rintro e w1 ⟨rfl, rfl⟩
  go_wp2_with fail
  go_ret
  exact ⟨rfl, hb.out⟩

theorem works_any (w : World) : Calls Try.prog 7 #[] w fun e w' => e = .returned (.bool true) ∧ w = w' := by
  have C1 := Lib.hid (of_any ⟨#[49, 50, 51, 52, 53, 54, 55, 56, 57]⟩ w (by show 9 ≤ _; omega))
  have C2 := Lib.hid (of_any ⟨#[]⟩ w (by show 0 ≤ _; omega))
  have q1 : M.of [49, 50, 51, 52, 53, 54, 55, 56, 57] = 3421780262 := by decide +kernel
  have q2 : M.of [] = 0 := by decide +kernel
  simp only [q1, q2] at C1 C2
  clear q1 q2
  go_enter Try.func7, Try.ntmps7
  go_wp2_with fail
  refine C1.out.mono ?_
  rintro e w1 ⟨rfl, rfl⟩
  go_wp2_with fail
  refine C2.out.mono ?_
  rintro e w1 ⟨rfl, rfl⟩
  go_wp2_with fail
  go_ret
  exact ⟨rfl, rfl⟩

theorem str_eq_self (s : ByteArray) : (s.toList == s.toList) = true := by simp
theorem cyclicOf_walk (s : ByteArray) (w : World) :
    Calls Try.prog 3 #[.string s] w fun e w' => e = .returned (.bool true) ∧ Below w.heap.size w w' := by
  by_cases hs : s.size ≤ 3000
  · have hd : decide ((3000 : Int) < (s.size : Int)) = false := by simp; omega
    go_enter Try.func3, Try.ntmps3
    go_wp2_with fail
    refine (works_any w).mono ?_
    rintro e w1 ⟨rfl, rfl⟩
    go_wp2_with fail
    refine (of_any s w (by omega)).mono ?_
    rintro e w1 ⟨rfl, rfl⟩
    go_wp2_with fail
    refine (rof_any s w (by omega)).mono ?_
    rintro e w1 ⟨rfl, rfl⟩
    go_wp2_with fail
    refine (tail_any s w (by omega)).mono ?_
    rintro e w1 ⟨rfl, hb1⟩
    obtain ⟨p, hp⟩ : ∃ p : ByteArray, p = ⟨(M.tl (M.of s.data.toList)).toArray⟩ := ⟨_, rfl⟩
    rw [← hp]
    have HP := Lib.hid hp
    clear hp
    go_wp2_with fail
    refine (rtail_any s w1 (by omega)).mono ?_
    rintro e w2 ⟨rfl, hb2⟩
    rw [← HP.out]
    have hb2' := hb1.trans (hb2.mono hb1.size)
    clear hb1 hb2
    go_wp2_with fail
    go_ret
    exact ⟨rfl, hb2'⟩
  · have hd : decide ((3000 : Int) < (s.size : Int)) = true := by simp; omega
    go_enter Try.func3, Try.ntmps3
    go_wp2_with fail
    refine (works_any w).mono ?_
    rintro e w1 ⟨rfl, rfl⟩
    go_wp2_with fail
    go_ret
    exact ⟨rfl, Below.refl _ _⟩

theorem tail_sum (s : ByteArray) : M.of (s ++ (⟨(M.tl (M.of s.data.toList)).toArray⟩ : ByteArray)).data.toList = 558161692 := by
  rw [ByteArray.data_append, Array.toList_append]
  exact M.of_tail _
theorem cyclicTail_walk (s : ByteArray) (w : World) :
    Calls Try.prog 5 #[.string s] w fun e w' => e = .returned (.bool true) ∧ Below w.heap.size w w' := by
  by_cases hs : s.size ≤ 3000
  · have hd : decide ((3000 : Int) < (s.size : Int)) = false := by simp; omega
    go_enter Try.func5, Try.ntmps5
    go_wp2_with fail
    refine (works_any w).mono ?_
    rintro e w1 ⟨rfl, rfl⟩
    go_wp2_with fail
    refine (tail_any s w (by omega)).mono ?_
    rintro e w1 ⟨rfl, hb1⟩
    have HT := Lib.hid (tail_sum s)
    have HU := Lib.hid (fun w1 => tail_any s w1 (by omega))
    obtain ⟨p, hp⟩ : ∃ p : ByteArray, p = ⟨(M.tl (M.of s.data.toList)).toArray⟩ := ⟨_, rfl⟩
    have hp4 : p.size = 4 := by rw [hp]; rfl
    rw [← hp] at HT HU
    rw [← hp]
    clear hp
    go_wp2_with fail
    refine (of_any (s ++ p) w1 (by rw [ByteArray.size_append]; omega)).mono ?_
    rintro e w2 ⟨rfl, rfl⟩
    rw [HT.out]
    go_wp2_with fail
    refine (HU.out w1).mono ?_
    rintro e w2 ⟨rfl, hb2⟩
    have hb2' := hb1.trans (hb2.mono hb1.size)
    clear hb1 hb2
    go_wp2_with fail
    go_ret
    exact ⟨rfl, hb2'⟩
  · have hd : decide ((3000 : Int) < (s.size : Int)) = true := by simp; omega
    go_enter Try.func5, Try.ntmps5
    go_wp2_with fail
    refine (works_any w).mono ?_
    rintro e w1 ⟨rfl, rfl⟩
    go_wp2_with fail
    go_ret
    exact ⟨rfl, Below.refl _ _⟩
end Go.Proofs.Ytngdacnbjdhjaaa
