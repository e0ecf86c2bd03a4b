/-
  Walks over entry.Check and solderref17.Check.
-/
import Derived.Test.YtoljggleekbbbaaNMath
namespace Go.Proofs.Ytoljggleekbbbaa
open Go.RowKit

/-- An entry, by value. -/
abbrev Ev (a b s : Int) : Value := .agg #[.int .i64 a, .int .i64 b, .int .i64 s]
abbrev Ec (a b s : Int) : Obj := .cells #[.int .i64 a, .int .i64 b, .int .i64 s] 25
theorem nb1 (w : World) (o1 : Obj) : Below w.heap.size w (w.alloc o1) := (Below.refl w.heap.size w).alloc (Nat.le_refl _) o1
def M.eerr (a b s : Int) : Int := if M.emay1 a b s = true then 0 else 3
theorem M.eerr_ok {a b s : Int} (h : M.emay1 a b s = true) : M.eerr a b s = 0 := if_pos h
theorem M.eerr_no {a b s : Int} (h : ¬ M.emay1 a b s = true) : M.eerr a b s = 3 := if_neg h
theorem M.eerr_right {a b s : Int} (h : M.rightB a b = false) : M.eerr a b s = 3 := M.eerr_no (by unfold M.emay1; rw [h]; simp)
theorem M.eerr_slot {a b s : Int} (h : M.rightB a b = true) : M.eerr a b s = if -1 ≤ s ∧ s < 8 then 0 else 3 := by
  unfold M.eerr M.emay1
  rw [h]
  simp

set_option maxHeartbeats 1000000 in
theorem echeck_any (a b s : Int) (w : World) : Calls Try.prog 9 #[Ev a b s] w fun en w' => en = .returned (.int .i64 (M.eerr a b s)) ∧ Below w.heap.size w w' := by
  have C0 := Lib.hid (fun x => right_any a b x)
  have HB := Lib.hid (nb1 w (Ec a b s))
  have HX : Hid (Box (w.alloc (Ec a b s)) w.heap.size 25 #[.int .i64 a, .int .i64 b, .int .i64 s]) := Box.new _ _ _
  cases h : M.rightB a b
  · rw [M.eerr_right h]
    rw [h] at C0
    clear h
    go_enter Try.func9, Try.ntmps9
    go_wp2_with fail
    refine (C0.out _).mono ?_
    rintro en w1 ⟨rfl, hb1⟩
    have HB1 := Lib.hid (HB.out.trans (hb1.mono HB.out.size))
    clear hb1
    go_wp2_with fail
    go_ret
    exact ⟨rfl, HB1.out⟩
  · rw [M.eerr_slot h]
    rw [h] at C0
    clear h
    have hc : (s < -1) ∨ (-1 ≤ s ∧ 8 ≤ s) ∨ (-1 ≤ s ∧ s < 8) := by omega
    obtain ⟨E, hE⟩ : ∃ E : Int, E = if -1 ≤ s ∧ s < 8 then 0 else 3 := ⟨_, rfl⟩
    rw [← hE]
    have HE := Lib.hid hE
    clear hE
    rcases hc with h1 | ⟨h1, h2⟩ | ⟨h1, h2⟩
    all_goals
      go_enter Try.func9, Try.ntmps9
      go_wp2_with fail
      refine (C0.out _).mono ?_
      rintro en w1 ⟨rfl, hb1⟩
      have HX1 := Lib.hid (HX.out.below hb1 HX.out.lt)
      have HB1 := Lib.hid (HB.out.trans (hb1.mono HB.out.size))
      clear hb1
      have c2 := (HX1.out.cell 2).trans (rfl : _ = some (Value.int .i64 s))
      clear HX1
      go_wp2_with fail
      go_ret
      refine ⟨?_, HB1.out⟩
      rw [HE.out]
      first | (rw [if_pos (by omega)]; rfl) | (rw [if_neg (by omega)]; rfl)

set_option maxHeartbeats 1000000 in
theorem recheck_any (a b s : Int) (w : World) : Calls Try.prog 10 #[Ev a b s] w fun en w' => en = .returned (.int .i64 (M.eerr a b s)) ∧ Below w.heap.size w w' := by
  have C0 := Lib.hid (fun x => rright_any a b x)
  have HB := Lib.hid (nb1 w (Ec a b s))
  have HX : Hid (Box (w.alloc (Ec a b s)) w.heap.size 25 #[.int .i64 a, .int .i64 b, .int .i64 s]) := Box.new _ _ _
  cases h : M.rightB a b
  · rw [M.eerr_right h]
    rw [h] at C0
    clear h
    go_enter Try.func10, Try.ntmps10
    go_wp2_with fail
    refine (C0.out _).mono ?_
    rintro en w1 ⟨rfl, hb1⟩
    have HB1 := Lib.hid (HB.out.trans (hb1.mono HB.out.size))
    clear hb1
    go_wp2_with fail
    go_ret
    exact ⟨rfl, HB1.out⟩
  · rw [M.eerr_slot h]
    rw [h] at C0
    clear h
    have hc : (s < -1) ∨ (-1 ≤ s ∧ 8 ≤ s) ∨ (-1 ≤ s ∧ s < 8) := by omega
    obtain ⟨E, hE⟩ : ∃ E : Int, E = if -1 ≤ s ∧ s < 8 then 0 else 3 := ⟨_, rfl⟩
    rw [← hE]
    have HE := Lib.hid hE
    clear hE
    rcases hc with h1 | ⟨h1, h2⟩ | ⟨h1, h2⟩
    all_goals
      go_enter Try.func10, Try.ntmps10
      go_wp2_with fail
      refine (C0.out _).mono ?_
      rintro en w1 ⟨rfl, hb1⟩
      have HX1 := Lib.hid (HX.out.below hb1 HX.out.lt)
      have HB1 := Lib.hid (HB.out.trans (hb1.mono HB.out.size))
      clear hb1
      have c2 := (HX1.out.cell 2).trans (rfl : _ = some (Value.int .i64 s))
      clear HX1
      go_wp2_with fail
      go_ret
      refine ⟨?_, HB1.out⟩
      rw [HE.out]
      first | (rw [if_pos (by omega)]; rfl) | (rw [if_neg (by omega)]; rfl)

end Go.Proofs.Ytoljggleekbbbaa
