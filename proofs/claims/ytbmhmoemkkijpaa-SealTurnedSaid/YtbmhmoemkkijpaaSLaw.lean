/-
  Walks over solderlaw04.works, SealPuts and SealGets.
-/
import Derived.Test.YtbmhmoemkkijpaaSGet
namespace Go.Proofs.Ytbmhmoemkkijpaa
open Go.RowKit

theorem get3 (s : ByteArray) (g : M.Got) (e : M.get s = g) (w : World) :
    Calls Try.prog 10 #[.string s] w fun x w' => x = .returned (.tuple #[.int .i64 (g.k : Int), .string g.b, .int .i64 g.e]) ∧ Below w.heap.size w w' := by
  subst e
  exact get_any s w
theorem first4 (s : ByteArray) (g : M.Got) (e : M.first s = g) (w : World) :
    Calls Try.prog 12 #[.string s] w fun x w' => x = .returned (.tuple #[.int .i64 (g.k : Int), .string g.b, .string g.r, .int .i64 g.e]) ∧ Below w.heap.size w w' := by
  subst e
  exact first_any s w

set_option maxHeartbeats 1000000 in
theorem works_any (w : World) : Calls Try.prog 7 #[] w fun e w' => e = .returned (.bool true) ∧ Below w.heap.size w w' := by
  have hz := M.whole_size 5 ⟨#[97, 98]⟩
  have C1 := Lib.hid (fun w => sput_yes 5 ⟨#[97, 98]⟩ w (by omega) (by decide))
  have C2 := Lib.hid (fun w => get3 (M.whole 5 ⟨#[97, 98]⟩) _ (M.get_whole 5 ⟨#[97, 98]⟩ (by omega) (by decide)) w)
  obtain ⟨s, hs⟩ : ∃ s, s = M.whole 5 ⟨#[97, 98]⟩ := ⟨_, rfl⟩
  rw [← hs] at C1 C2 hz
  have hz9 : s.size = 9 := hz
  clear hz hs
  go_enter Try.func7, Try.ntmps7
  go_wp2_with fail
  refine (C1.out w).mono ?_
  rintro e w1 ⟨rfl, hb1⟩
  go_wp2_with fail
  refine (C2.out w1).mono ?_
  rintro e w2 ⟨rfl, hb2⟩
  have hb2 := hb1.trans (hb2.mono hb1.size)
  clear hb1
  go_wp2_with fail
  go_ret
  exact ⟨rfl, hb2⟩

set_option maxHeartbeats 1000000 in
theorem sealPuts_walk (k : Int) (k0 : -9223372036854775808 ≤ k) (k9 : k ≤ 9223372036854775807) (b : ByteArray) (w : World) :
    Calls Try.prog 3 #[.int .i64 k, .string b] w fun e w' => e = .returned (.bool true) ∧ Below w.heap.size w w' := by
  by_cases hs : b.size ≤ 3000
  · have hd : decide ((3000 : Int) < (b.size : Int)) = false := by simp; omega
    have C1 := Lib.hid (fun w => sput_any k b w k0 k9)
    have C2 := Lib.hid (fun w => rsput_any k b w)
    obtain ⟨p, hp⟩ : ∃ p, p = M.putB k b := ⟨_, rfl⟩
    obtain ⟨x, hx⟩ : ∃ x, x = M.putE k b := ⟨_, rfl⟩
    rw [← hp, ← hx] at C1 C2
    clear hp hx hs
    go_enter Try.func3, Try.ntmps3
    go_wp2_with fail
    refine (works_any w).mono ?_
    rintro e w1 ⟨rfl, hb1⟩
    go_wp2_with fail
    refine (C1.out w1).mono ?_
    rintro e w2 ⟨rfl, hb2⟩
    have hb2 := hb1.trans (hb2.mono hb1.size)
    clear hb1
    go_wp2_with fail
    refine (C2.out w2).mono ?_
    rintro e w3 ⟨rfl, hb3⟩
    have hb3 := hb2.trans (hb3.mono hb2.size)
    clear hb2
    go_wp2_with fail
    go_ret
    exact ⟨rfl, hb3⟩
  · have hd : decide ((3000 : Int) < (b.size : Int)) = true := by simp; omega
    clear hs
    go_enter Try.func3, Try.ntmps3
    go_wp2_with fail
    refine (works_any w).mono ?_
    rintro e w1 ⟨rfl, hb1⟩
    go_wp2_with fail
    go_ret
    exact ⟨rfl, hb1⟩

set_option maxHeartbeats 1000000 in
theorem sealGets_walk (s : ByteArray) (w : World) :
    Calls Try.prog 4 #[.string s] w fun e w' => e = .returned (.bool true) ∧ Below w.heap.size w w' := by
  by_cases hs : s.size ≤ 3000
  · have hd : decide ((3000 : Int) < (s.size : Int)) = false := by simp; omega
    have C1 := Lib.hid (fun w => get_any s w)
    have C2 := Lib.hid (fun w => rget_any s w hs)
    have C3 := Lib.hid (fun w => first_any s w)
    have C4 := Lib.hid (fun w => rfirst_any s w hs)
    unfold M.Got.three at C1 C2
    unfold M.Got.vals at C3 C4
    obtain ⟨⟨k, b, r, x⟩, hg⟩ : ∃ g, g = M.first s := ⟨_, rfl⟩
    obtain ⟨⟨l, c, t, y⟩, hh⟩ : ∃ g, g = M.get s := ⟨_, rfl⟩
    rw [← hh] at C1 C2
    rw [← hg] at C3 C4
    clear hh hg hs
    go_enter Try.func4, Try.ntmps4
    go_wp2_with fail
    refine (works_any w).mono ?_
    rintro e w1 ⟨rfl, hb1⟩
    go_wp2_with fail
    refine (C1.out w1).mono ?_
    rintro e w2 ⟨rfl, hb2⟩
    have hb2 := hb1.trans (hb2.mono hb1.size)
    clear hb1
    go_wp2_with fail
    refine (C2.out w2).mono ?_
    rintro e w3 ⟨rfl, hb3⟩
    have hb3 := hb2.trans (hb3.mono hb2.size)
    clear hb2
    go_wp2_with fail
    refine (C3.out w3).mono ?_
    rintro e w4 ⟨rfl, hb4⟩
    have hb4 := hb3.trans (hb4.mono hb3.size)
    clear hb3
    go_wp2_with fail
    refine (C4.out w4).mono ?_
    rintro e w5 ⟨rfl, hb5⟩
    have hb5 := hb4.trans (hb5.mono hb4.size)
    clear hb4
    go_wp2_with fail
    go_ret
    exact ⟨rfl, hb5⟩
  · have hd : decide ((3000 : Int) < (s.size : Int)) = true := by simp; omega
    clear hs
    go_enter Try.func4, Try.ntmps4
    go_wp2_with fail
    refine (works_any w).mono ?_
    rintro e w1 ⟨rfl, hb1⟩
    go_wp2_with fail
    go_ret
    exact ⟨rfl, hb1⟩
end Go.Proofs.Ytbmhmoemkkijpaa
