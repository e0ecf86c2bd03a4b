/-
  Walks over solderlaw01.works and solderlaw01.long.
-/
import Derived.Test.YtanaggahdadejaaDoorWordsRef
import Derived.Test.YtanaggahdadejaaDoorHex
import Derived.Test.YtanaggahdadejaaDoorNat
namespace Go.Proofs.YtanaggahdadejaaDoor
open Go.RowKit

theorem long_no (s : ByteArray) (w : World) (hs : s.size ≤ 3000) : Calls Tryd.prog 8 #[.string s] w fun e w' => e = .returned (.bool false) ∧ w = w' := by
  have h : decide ((3000 : Int) < (s.size : Int)) = false := by simp; omega
  go_enter Tryd.func8, Tryd.ntmps8
  go_wp2_with fail
  go_ret
  exact ⟨rfl, rfl⟩
theorem long_yes (s : ByteArray) (w : World) (hs : ¬ s.size ≤ 3000) : Calls Tryd.prog 8 #[.string s] w fun e w' => e = .returned (.bool true) ∧ w = w' := by
  have h : decide ((3000 : Int) < (s.size : Int)) = true := by simp; omega
  go_enter Tryd.func8, Tryd.ntmps8
  go_wp2_with fail
  go_ret
  exact ⟨rfl, rfl⟩

theorem itoa_m12 : Lib.itoa (-12) = [45, 49, 50] := by
  show 45 :: Lib.decDigits 12 = _
  rw [Lib.decDigits_two (by omega) (by omega)]
  rfl
theorem read_m12 (w : World) (hE : Env w) :
    Calls Tryd.prog 9 #[.string ⟨#[45, 49, 50]⟩] w fun e w' => e = .returned (.tuple #[.int .i64 (-12), .int .i64 0]) ∧ Below w.heap.size w w' := by
  have h := read_any ⟨#[45, 49, 50]⟩ (by decide) w hE
  have e : readT (⟨#[45, 49, 50]⟩ : ByteArray).data.toList = .tuple #[.int .i64 (-12), .int .i64 0] := by
    have : M.readP [45, 49, 50] = (-12, 0) := by decide
    show readT [45, 49, 50] = _
    rw [readT, this]
  rw [e] at h
  exact h
theorem text_m12 (w : World) (hE : Env w) :
    Calls Tryd.prog 11 #[.int .i64 (-12)] w fun e w' => e = .returned (.string ⟨#[45, 49, 50]⟩) ∧ Below w.heap.size w w' := by
  have h := text_any (-12) (by omega) (by omega) w hE
  rw [itoa_m12] at h
  exact h
theorem hex_00ff (w : World) :
    Calls Tryd.prog 15 #[.string ⟨#[0, 255]⟩] w fun e w' => e = .returned (.string ⟨#[48, 48, 102, 102]⟩) ∧ Below w.heap.size w w' := by
  have h := hex_any ⟨#[0, 255]⟩ w (by decide)
  have e : M.hexL (⟨#[0, 255]⟩ : ByteArray).data.toList = [48, 48, 102, 102] := by decide
  rw [e] at h
  exact h
theorem words_abc (w : World) :
    Calls Tryd.prog 17 #[.string ⟨#[32, 32, 97, 32, 32, 98, 99, 32]⟩] w fun e w' => ∃ v, e = .returned v ∧ w'.ownsRow w.heap.size 9 1 v 2 [S [97], S [98, 99]] ∧ Below w.heap.size w w' := by
  have h := words_any ⟨#[32, 32, 97, 32, 32, 98, 99, 32]⟩ w (by decide)
  have e : M.words (⟨#[32, 32, 97, 32, 32, 98, 99, 32]⟩ : ByteArray).data.toList = [[97], [98, 99]] := by decide
  rw [e] at h
  exact h

set_option maxHeartbeats 1000000 in
theorem works_any (w : World) (hE : Env w) : Calls Tryd.prog 7 #[] w fun e w' => e = .returned (.bool true) ∧ Below w.heap.size w w' := by
  have HE := Lib.hid hE
  clear hE
  go_enter Tryd.func7, Tryd.ntmps7
  go_wp2_with fail
  refine (read_m12 _ HE.out).mono ?_
  rintro e w1 ⟨rfl, hb1⟩
  go_wp2_with fail
  refine (text_m12 _ (HE.out.below hb1)).mono ?_
  rintro e w2 ⟨rfl, hb2⟩
  have hb2 := hb1.trans (hb2.mono hb1.size)
  go_wp2_with fail
  refine (hex_00ff _).mono ?_
  rintro e w3 ⟨rfl, hb3⟩
  have hb3 := hb2.trans (hb3.mono hb2.size)
  go_wp2_with fail
  refine (words_abc _).mono ?_
  rintro e w4 ⟨v, rfl, hown, hb4⟩
  have hb4 := hb3.trans (hb4.mono hb3.size)
  have HO := Lib.hid hown
  clear hown
  have h2 : (w4.alloc (.cells #[.string ⟨#[97]⟩, .string ⟨#[98, 99]⟩] 9)).ownsRow 0 9 1 (.slice (some ⟨w4.heap.size, 0, none⟩) 2 2) 2 [S [97], S [98, 99]] :=
    ⟨rfl, .inr ⟨w4.heap.size, 2, _, rfl, Nat.zero_le _, heap_alloc_new w4 _, Nat.le_refl _, by unfold maxLen; omega, rfl, rfl⟩⟩
  have H2 := Lib.hid h2
  clear h2
  go_wp2_with fail
  refine (same_any [[97], [98, 99]] w3.heap.size 0 v _ _ (by decide) (HO.out.alloc _) H2.out).mono ?_
  rintro e w5 ⟨rfl, hb5⟩
  have hb5 : Below w.heap.size w w5 := (hb4.alloc hb4.size _).trans (hb5.mono (by have := hb4.size; simp; omega))
  go_wp2_with fail
  go_ret
  exact ⟨rfl, hb5⟩
end Go.Proofs.YtanaggahdadejaaDoor
