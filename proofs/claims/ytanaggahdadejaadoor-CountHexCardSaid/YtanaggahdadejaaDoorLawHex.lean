/-
  The walk over solderlaw01.CountHex.
-/
import Derived.Test.YtanaggahdadejaaDoorWorks
import Derived.Test.YtanaggahdadejaaDoorHexRef
namespace Go.Proofs.YtanaggahdadejaaDoor
open Go.RowKit

theorem unhexT_form (l : List UInt8) : ∃ u e, unhexT l = .tuple #[.string u, .int .i64 e] := by
  unfold unhexT
  split <;> exact ⟨_, _, rfl⟩
theorem unhex_is (s u : ByteArray) (x : Int) (hs : s.size ≤ 100000) (h : unhexT s.data.toList = .tuple #[.string u, .int .i64 x]) (w : World) :
    Calls Tryd.prog 13 #[.string s] w fun e w' => e = .returned (.tuple #[.string u, .int .i64 x]) ∧ Below w.heap.size w w' := by
  have h1 := unhex_any s w hs
  rw [h] at h1
  exact h1
theorem refUnhex_is (s u : ByteArray) (x : Int) (hs : s.size ≤ 100000) (h : unhexT s.data.toList = .tuple #[.string u, .int .i64 x]) (w : World) :
    Calls Tryd.prog 14 #[.string s] w fun e w' => e = .returned (.tuple #[.string u, .int .i64 x]) ∧ Below w.heap.size w w' := by
  have h1 := refUnhex_any s w hs
  rw [h] at h1
  exact h1
theorem hex_named (s t : ByteArray) (hs : s.size ≤ 100000) (h : t = ⟨(M.hexL s.data.toList).toArray⟩) (w : World) :
    Calls Tryd.prog 15 #[.string s] w fun e w' => e = .returned (.string t) ∧ Below w.heap.size w w' := by
  subst h; exact hex_any s w hs
theorem refHex_named (s t : ByteArray) (hs : s.size ≤ 100000) (h : t = ⟨(M.hexL s.data.toList).toArray⟩) (w : World) :
    Calls Tryd.prog 16 #[.string s] w fun e w' => e = .returned (.string t) ∧ Below w.heap.size w w' := by
  subst h; exact refHex_any s w hs

set_option maxHeartbeats 2000000 in
theorem countHex_walk (s t : ByteArray) (w : World) (hE : Env w) :
    Calls Tryd.prog 4 #[.string s, .string t] w fun e w' => e = .returned (.bool true) ∧ Below w.heap.size w w' := by
  have HE := Lib.hid hE
  clear hE
  by_cases hs : s.size ≤ 3000
  · by_cases ht : t.size ≤ 3000
    · obtain ⟨u, x, hu⟩ := unhexT_form t.data.toList
      obtain ⟨d, hd⟩ : ∃ d : ByteArray, d = ⟨(M.hexL s.data.toList).toArray⟩ := ⟨_, rfl⟩
      have HU := Lib.hid hu
      have HD := Lib.hid hd
      clear hu hd
      go_enter Tryd.func4, Tryd.ntmps4
      go_wp2_with fail
      refine (works_any _ HE.out).mono ?_
      rintro e w1 ⟨rfl, hb1⟩
      go_wp2_with fail
      refine (long_no _ _ hs).mono ?_
      rintro e w1 ⟨rfl, rfl⟩
      go_wp2_with fail
      refine (long_no _ _ ht).mono ?_
      rintro e w1 ⟨rfl, rfl⟩
      go_wp2_with fail
      refine (unhex_is t u x (by omega) HU.out _).mono ?_
      rintro e w2 ⟨rfl, hb2⟩
      have hb2 := hb1.trans (hb2.mono hb1.size)
      clear hb1
      go_wp2_with fail
      refine (refUnhex_is t u x (by omega) HU.out _).mono ?_
      rintro e w3 ⟨rfl, hb3⟩
      have hb3 := hb2.trans (hb3.mono hb2.size)
      clear hb2
      go_wp2_with fail
      refine (hex_named s d (by omega) HD.out _).mono ?_
      rintro e w4 ⟨rfl, hb4⟩
      have hb4 := hb3.trans (hb4.mono hb3.size)
      clear hb3
      go_wp2_with fail
      refine (refHex_named s d (by omega) HD.out _).mono ?_
      rintro e w5 ⟨rfl, hb5⟩
      have hb5 := hb4.trans (hb5.mono hb4.size)
      clear hb4
      go_wp2_with fail
      go_ret
      exact ⟨rfl, hb5⟩
    · go_enter Tryd.func4, Tryd.ntmps4
      go_wp2_with fail
      refine (works_any _ HE.out).mono ?_
      rintro e w1 ⟨rfl, hb1⟩
      go_wp2_with fail
      refine (long_no _ _ hs).mono ?_
      rintro e w1 ⟨rfl, rfl⟩
      go_wp2_with fail
      refine (long_yes _ _ ht).mono ?_
      rintro e w1 ⟨rfl, rfl⟩
      go_wp2_with fail
      go_ret
      exact ⟨rfl, hb1⟩
  · go_enter Tryd.func4, Tryd.ntmps4
    go_wp2_with fail
    refine (works_any _ HE.out).mono ?_
    rintro e w1 ⟨rfl, hb1⟩
    go_wp2_with fail
    refine (long_yes _ _ hs).mono ?_
    rintro e w1 ⟨rfl, rfl⟩
    go_wp2_with fail
    go_ret
    exact ⟨rfl, hb1⟩
end Go.Proofs.YtanaggahdadejaaDoor
