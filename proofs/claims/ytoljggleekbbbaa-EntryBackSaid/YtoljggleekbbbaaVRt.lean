/-
  Walks over vector.Right and solderref05.Right.
-/
import Derived.Test.YtoljggleekbbbaaVMath
import Derived.Test.YtoljggleekbbbaaHeld
namespace Go.Proofs.Ytoljggleekbbbaa
open Go.RowKit

theorem ret_b {a b : Bool} (h : a = b) : Ending.returned (.bool a) = .returned (.bool b) := by rw [h]
theorem ret_i {k : IntKind} {a b : Int} (h : a = b) : Ending.returned (.int k a) = .returned (.int k b) := by rw [h]
theorem isValue_any (n : Int) (w : World) : Calls Try.prog 33 #[.int .i64 n] w fun e w' => e = .returned (.bool (M.valB n)) ∧ w = w' := by
  obtain ⟨r, hr⟩ : ∃ r, M.valB n = r := ⟨_, rfl⟩
  rw [hr]
  have h := hr
  unfold M.valB at h
  by_cases h1 : 0 ≤ n
  · by_cases h2 : n ≤ 1125899906842624
    · have e : r = true := by rw [← h]; simp; omega
      subst e
      clear h hr
      go_enter Try.func33, Try.ntmps33
      go_wp2_with fail
      go_ret
      exact ⟨rfl, rfl⟩
    · have e : r = false := by rw [← h]; simp; omega
      subst e
      have d2 : decide (n ≤ 1125899906842624) = false := by simpa using h2
      clear h hr h2
      go_enter Try.func33, Try.ntmps33
      go_wp2_with fail
      go_ret
      exact ⟨rfl, rfl⟩
  · have e : r = false := by rw [← h]; simp; omega
    subst e
    have d1 : decide (0 ≤ n) = false := by simpa using h1
    clear h hr h1
    go_enter Try.func33, Try.ntmps33
    go_wp2_with fail
    go_ret
    exact ⟨rfl, rfl⟩
theorem cell_of {W x : World} {p : Addr} {u : Value} (hb : Below W.heap.size W x) (h : W.cell? p = some u) : x.cell? p = some u :=
  (hb.cell (World.block_lt_of_cell? W _ h)).trans h
theorem right_any (a b : Int) (w : World) :
    Calls Try.prog 21 #[.agg #[.int .i64 a, .int .i64 b]] w fun e w' => e = .returned (.bool (M.rightB a b)) ∧ Below w.heap.size w w' := by
  have HB := Lib.hid ((Below.refl w.heap.size w).alloc (Nat.le_refl _) (.cells #[.int .i64 a, .int .i64 b] 23))
  have C1 := Lib.hid (fun x => isValue_any a x)
  have C2 := Lib.hid (fun x => isValue_any b x)
  unfold M.rightB
  obtain ⟨r, hr⟩ : ∃ r, M.valB a = r := ⟨_, rfl⟩
  obtain ⟨s, hs⟩ : ∃ r, M.valB b = r := ⟨_, rfl⟩
  rw [hr] at C1 ⊢
  rw [hs] at C2 ⊢
  clear hr hs
  cases r
  · go_enter Try.func21, Try.ntmps21
    go_wp2_with fail
    refine (C1.out _).mono ?_
    rintro e w1 ⟨rfl, rfl⟩
    go_wp2_with fail
    go_ret
    exact ⟨rfl, HB.out⟩
  · go_enter Try.func21, Try.ntmps21
    go_wp2_with fail
    refine (C1.out _).mono ?_
    rintro e w1 ⟨rfl, rfl⟩
    go_wp2_with fail
    refine (C2.out _).mono ?_
    rintro e w1 ⟨rfl, rfl⟩
    go_wp2_with fail
    go_ret
    exact ⟨rfl, HB.out⟩
set_option maxHeartbeats 400000 in
theorem rright_any (a b : Int) (w : World) :
    Calls Try.prog 22 #[.agg #[.int .i64 a, .int .i64 b]] w fun e w' => e = .returned (.bool (M.rightB a b)) ∧ Below w.heap.size w w' := by
  have HB := Lib.hid ((Below.refl w.heap.size w).alloc (Nat.le_refl _) (.cells #[.int .i64 a, .int .i64 b] 23))
  obtain ⟨r, hr⟩ : ∃ r, M.rightB a b = r := ⟨_, rfl⟩
  rw [hr]
  have h := hr
  unfold M.rightB M.valB at h
  by_cases h1 : 0 ≤ a
  · by_cases h2 : a ≤ 1125899906842624
    · by_cases h3 : 0 ≤ b
      · by_cases h4 : b ≤ 1125899906842624
        · have e : r = true := by rw [← h]; simp [h1, h2, h3, h4]
          subst e
          clear h hr
          go_enter Try.func22, Try.ntmps22
          go_wp2_with fail
          go_ret
          exact ⟨rfl, HB.out⟩
        · have e : r = false := by rw [← h]; simp [h1, h2, h3, h4]
          subst e
          have d4 : decide (b ≤ 1125899906842624) = false := by simpa using h4
          clear h hr h4
          go_enter Try.func22, Try.ntmps22
          go_wp2_with fail
          go_ret
          exact ⟨rfl, HB.out⟩
      · have e : r = false := by rw [← h]; simp [h1, h2, h3]
        subst e
        have d3 : decide (0 ≤ b) = false := by simpa using h3
        clear h hr h3
        go_enter Try.func22, Try.ntmps22
        go_wp2_with fail
        go_ret
        exact ⟨rfl, HB.out⟩
    · have e : r = false := by rw [← h]; simp [h1, h2]
      subst e
      have d2 : decide (a ≤ 1125899906842624) = false := by simpa using h2
      clear h hr h2
      go_enter Try.func22, Try.ntmps22
      go_wp2_with fail
      go_ret
      exact ⟨rfl, HB.out⟩
  · have e : r = false := by rw [← h]; simp [h1]
    subst e
    have d1 : decide (0 ≤ a) = false := by simpa using h1
    clear h hr h1
    go_enter Try.func22, Try.ntmps22
    go_wp2_with fail
    go_ret
    exact ⟨rfl, HB.out⟩
end Go.Proofs.Ytoljggleekbbbaa
