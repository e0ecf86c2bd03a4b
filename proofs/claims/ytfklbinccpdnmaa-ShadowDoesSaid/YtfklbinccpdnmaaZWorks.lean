/-
  A walk over solderlaw13.works.
-/
import Derived.Test.YtfklbinccpdnmaaZSk
namespace Go.Proofs.Ytfklbinccpdnmaa
open Go.RowKit Go.Maps

set_option maxHeartbeats 1000000 in
theorem works13_any (w : World) : Calls Try.prog 6 #[] w fun e w' => e = .returned (.bool true) ∧ Below w.heap.size w w' := by
  have H0 := Lib.hid (sk_new w w (Below.refl _ w))
  have HP : Hid (∀ y b L K (x : Int), Sk 53 w y b L K → L.length ≤ 100000 → Calls Try.prog 8 #[.pointer (some ⟨b, 0, none⟩), .int .i64 3, .int .i64 x] y fun e w' => e = .returned (.tuple #[]) ∧ Sk 53 w w' b (M.ins 3 (.int .i64 x) L) K) :=
    fun y b L K x h hl => sk_put h 3 _ (by decide) hl
  have HK : Hid (∀ y b L K, Sk 53 w y b L K → L.length + K.length ≤ 100000 → Calls Try.prog 10 #[.pointer (some ⟨b, 0, none⟩)] y fun e w' => e = .returned (.tuple #[]) ∧ Sk 53 w w' b [] (M.puts L K)) :=
    fun y b L K h hl => sk_keep h hl
  have HB : Hid (∀ y b L K, Sk 53 w y b L K → Calls Try.prog 12 #[.pointer (some ⟨b, 0, none⟩)] y fun e w' => e = .returned (.tuple #[]) ∧ Sk 53 w w' b [] K) :=
    fun y b L K h => sk_back h
  have HG6 : Hid (∀ y b, Sk 53 w y b [(3, .int .i64 6)] [(3, .int .i64 5)] → Calls Try.prog 14 #[.pointer (some ⟨b, 0, none⟩), .int .i64 3] y fun e w' => e = .returned (.tuple #[.int .i64 6, .bool true]) ∧ w' = y) :=
    fun y b h => sk_get h 3 (by decide)
  have HG5 : Hid (∀ y b, Sk 53 w y b [] [(3, .int .i64 5)] → Calls Try.prog 14 #[.pointer (some ⟨b, 0, none⟩), .int .i64 3] y fun e w' => e = .returned (.tuple #[.int .i64 5, .bool true]) ∧ w' = y) :=
    fun y b h => sk_get h 3 (by decide)
  have HL : Hid (∀ y b, Sk 53 w y b [] [(3, .int .i64 5)] → Calls Try.prog 16 #[.pointer (some ⟨b, 0, none⟩)] y fun e w' => e = .returned (.int .i64 0) ∧ w' = y) :=
    fun y b h => sk_loose h
  obtain ⟨b, hb⟩ : ∃ b, b = w.heap.size := ⟨_, rfl⟩
  rw [← hb] at H0
  have HBB := Lib.hid hb
  clear hb
  go_enter Try.func6, Try.ntmps6
  go_wp2_with fail
  refine H0.out.mono ?_
  rintro e w1 ⟨rfl, h1, -⟩
  have H1 := Lib.hid h1
  clear h1 H0
  go_wp2_with fail
  refine (HP.out _ _ _ _ 5 H1.out (by simp)).mono ?_
  rintro e w2 ⟨rfl, h2⟩
  have H2 : Hid (Sk 53 w w2 b [(3, .int .i64 5)] []) := h2
  clear h2 H1
  go_wp2_with fail
  refine (HK.out _ _ _ _ H2.out (by simp)).mono ?_
  rintro e w3 ⟨rfl, h3⟩
  have H3 : Hid (Sk 53 w w3 b [] [(3, .int .i64 5)]) := h3
  clear h3 H2
  go_wp2_with fail
  refine (HP.out _ _ _ _ 6 H3.out (by simp)).mono ?_
  rintro e w4 ⟨rfl, h4⟩
  have H4 : Hid (Sk 53 w w4 b [(3, .int .i64 6)] [(3, .int .i64 5)]) := h4
  clear h4 H3
  go_wp2_with fail
  refine (HG6.out _ _ H4.out).mono ?_
  rintro e w5 ⟨rfl, rfl⟩
  go_wp2_with fail
  refine (HB.out _ _ _ _ H4.out).mono ?_
  rintro e w6 ⟨rfl, h6⟩
  have H6 := Lib.hid h6
  clear h6 H4
  go_wp2_with fail
  refine (HG5.out _ _ H6.out).mono ?_
  rintro e w7 ⟨rfl, rfl⟩
  go_wp2_with fail
  refine (HL.out _ _ H6.out).mono ?_
  rintro e w8 ⟨rfl, rfl⟩
  go_wp2_with fail
  go_ret
  exact ⟨rfl, H6.out.low⟩
end Go.Proofs.Ytfklbinccpdnmaa
