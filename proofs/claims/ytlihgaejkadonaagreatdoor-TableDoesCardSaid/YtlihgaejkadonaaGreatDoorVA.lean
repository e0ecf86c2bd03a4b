/-
  Whether a vector may be. No program in this text. Walks over vector.Right and solderref05.Right. Walks over vector.Put and solderref05.Put.
-/
import Derived.Test.YtlihgaejkadonaaGreatDoorMP
import Derived.Test.YtlihgaejkadonaaGreatDoorMA
import Derived.Laws.RangeAny
namespace Go.Proofs.YtlihgaejkadonaaGreatDoor.M

/-- Whether a side may have come so far. -/
def valB (n : Int) : Bool := decide (0 ≤ n ∧ n ≤ 1125899906842624)
/-- Whether a vector may be. -/
def rightB (a b : Int) : Bool := valB a && valB b
end Go.Proofs.YtlihgaejkadonaaGreatDoor.M
namespace Go.Proofs.YtlihgaejkadonaaGreatDoor
open Go.RowKit

theorem ret_b {a b : Bool} (h : a = b) : Ending.returned (.bool a) = .returned (.bool b) := by rw [h]
theorem ret_i {k : IntKind} {a b : Int} (h : a = b) : Ending.returned (.int k a) = .returned (.int k b) := by rw [h]
theorem isValue_any (n : Int) (w : World) : Calls Tryz.prog 111 #[.int .i64 n] w fun e w' => e = .returned (.bool (M.valB n)) ∧ w = w' := by
  obtain ⟨r, hr⟩ : ∃ r, M.valB n = r := ⟨_, rfl⟩
  rw [hr]
  have h := hr
  unfold M.valB at h
  by_cases h1 : 0 ≤ n
  · by_cases h2 : n ≤ 1125899906842624
    · have e : r = true := by rw [← h]; simp; omega
      subst e
      clear h hr
      go_enter Tryz.func111, Tryz.ntmps111
      go_wp2_with fail
      go_ret
      exact ⟨rfl, rfl⟩
    · have e : r = false := by rw [← h]; simp; omega
      subst e
      have d2 : decide (n ≤ 1125899906842624) = false := by simpa using h2
      clear h hr h2
      go_enter Tryz.func111, Tryz.ntmps111
      go_wp2_with fail
      go_ret
      exact ⟨rfl, rfl⟩
  · have e : r = false := by rw [← h]; simp; omega
    subst e
    have d1 : decide (0 ≤ n) = false := by simpa using h1
    clear h hr h1
    go_enter Tryz.func111, Tryz.ntmps111
    go_wp2_with fail
    go_ret
    exact ⟨rfl, rfl⟩
theorem cell_of {W x : World} {p : Addr} {u : Value} (hb : Below W.heap.size W x) (h : W.cell? p = some u) : x.cell? p = some u :=
  (hb.cell (World.block_lt_of_cell? W _ h)).trans h
theorem right_any (a b : Int) (w : World) :
    Calls Tryz.prog 68 #[.agg #[.int .i64 a, .int .i64 b]] w fun e w' => e = .returned (.bool (M.rightB a b)) ∧ Below w.heap.size w w' := by
  have HB := Lib.hid ((Below.refl w.heap.size w).alloc (Nat.le_refl _) (.cells #[.int .i64 a, .int .i64 b] 39))
  have C1 := Lib.hid (fun x => isValue_any a x)
  have C2 := Lib.hid (fun x => isValue_any b x)
  unfold M.rightB
  obtain ⟨r, hr⟩ : ∃ r, M.valB a = r := ⟨_, rfl⟩
  obtain ⟨s, hs⟩ : ∃ r, M.valB b = r := ⟨_, rfl⟩
  rw [hr] at C1 ⊢
  rw [hs] at C2 ⊢
  clear hr hs
  cases r
  · go_enter Tryz.func68, Tryz.ntmps68
    go_wp2_with fail
    refine (C1.out _).mono ?_
    rintro e w1 ⟨rfl, rfl⟩
    go_wp2_with fail
    go_ret
    exact ⟨rfl, HB.out⟩
  · go_enter Tryz.func68, Tryz.ntmps68
    go_wp2_with fail
    refine (C1.out _).mono ?_
    rintro e w1 ⟨rfl, rfl⟩
    go_wp2_with fail
    refine (C2.out _).mono ?_
    rintro e w1 ⟨rfl, rfl⟩
    go_wp2_with fail
    go_ret
    exact ⟨rfl, HB.out⟩
set_option maxHeartbeats 400000 in
theorem rright_any (a b : Int) (w : World) :
    Calls Tryz.prog 32 #[.agg #[.int .i64 a, .int .i64 b]] w fun e w' => e = .returned (.bool (M.rightB a b)) ∧ Below w.heap.size w w' := by
  have HB := Lib.hid ((Below.refl w.heap.size w).alloc (Nat.le_refl _) (.cells #[.int .i64 a, .int .i64 b] 39))
  obtain ⟨r, hr⟩ : ∃ r, M.rightB a b = r := ⟨_, rfl⟩
  rw [hr]
  have h := hr
  unfold M.rightB M.valB at h
  by_cases h1 : 0 ≤ a
  · by_cases h2 : a ≤ 1125899906842624
    · by_cases h3 : 0 ≤ b
      · by_cases h4 : b ≤ 1125899906842624
        · have e : r = true := by rw [← h]; simp [h1, h2, h3, h4]
          subst e
          clear h hr
          go_enter Tryz.func32, Tryz.ntmps32
          go_wp2_with fail
          go_ret
          exact ⟨rfl, HB.out⟩
        · have e : r = false := by rw [← h]; simp [h1, h2, h3, h4]
          subst e
          have d4 : decide (b ≤ 1125899906842624) = false := by simpa using h4
          clear h hr h4
          go_enter Tryz.func32, Tryz.ntmps32
          go_wp2_with fail
          go_ret
          exact ⟨rfl, HB.out⟩
      · have e : r = false := by rw [← h]; simp [h1, h2, h3]
        subst e
        have d3 : decide (0 ≤ b) = false := by simpa using h3
        clear h hr h3
        go_enter Tryz.func32, Tryz.ntmps32
        go_wp2_with fail
        go_ret
        exact ⟨rfl, HB.out⟩
    · have e : r = false := by rw [← h]; simp [h1, h2]
      subst e
      have d2 : decide (a ≤ 1125899906842624) = false := by simpa using h2
      clear h hr h2
      go_enter Tryz.func32, Tryz.ntmps32
      go_wp2_with fail
      go_ret
      exact ⟨rfl, HB.out⟩
  · have e : r = false := by rw [← h]; simp [h1]
    subst e
    have d1 : decide (0 ≤ a) = false := by simpa using h1
    clear h hr h1
    go_enter Tryz.func32, Tryz.ntmps32
    go_wp2_with fail
    go_ret
    exact ⟨rfl, HB.out⟩
end Go.Proofs.YtlihgaejkadonaaGreatDoor
namespace Go.Proofs.YtlihgaejkadonaaGreatDoor
open Go.RowKit

theorem M.putS_size (s : ByteArray) (n z : Int) : (M.putS s n z).size ≤ s.size + 7 := by
  unfold M.putS
  split
  · rename_i h
    obtain ⟨a, b, rfl, rfl, h1, h7, _⟩ := M.fits_nat h
    simp only [Int.toNat_natCast, ByteArray.size_append]
    have : (⟨(M.be a b).toArray⟩ : ByteArray).size = b := by show (M.be a b).toArray.size = b; simp [M.be_len]
    omega
  · omega
/-- What Put answers. -/
def M.vput (s : ByteArray) (a b : Int) : ByteArray := M.putS (M.putS s a 7) b 7
theorem ret_s {a b : ByteArray} (h : a = b) : Ending.returned (.string a) = .returned (.string b) := by rw [h]
/-- The cells of one vector. -/
theorem one_cells (w : World) (a b : Int) (t : TypeId) : ∀ y, Below (w.alloc (.cells #[.int .i64 a, .int .i64 b] t)).heap.size (w.alloc (.cells #[.int .i64 a, .int .i64 b] t)) y →
    y.cell? ⟨w.heap.size, 0, none⟩ = some (.int .i64 a) ∧ y.cell? ⟨w.heap.size, 1, none⟩ = some (.int .i64 b) := by
  intro y hb
  refine ⟨cell_of hb ?_, cell_of hb ?_⟩ <;> simp [go_sem]
theorem vput_any (s : ByteArray) (a b : Int) (w : World) (hs : s.size ≤ 50000) (ha : a ≤ 9223372036854775807) (hb : b ≤ 9223372036854775807) :
    Calls Tryz.prog 62 #[.string s, .agg #[.int .i64 a, .int .i64 b]] w fun e w' => e = .returned (.string (M.vput s a b)) ∧ Below w.heap.size w w' := by
  have HB := Lib.hid ((Below.refl w.heap.size w).alloc (Nat.le_refl _) (.cells #[.int .i64 a, .int .i64 b] 39))
  have HS := Lib.hid (one_cells w a b 39)
  have hz := M.putS_size s a 7
  go_enter Tryz.func62, Tryz.ntmps62
  go_wp2_with fail
  obtain ⟨W, hW⟩ : ∃ W, W = w.alloc (.cells #[.int .i64 a, .int .i64 b] 39) := ⟨_, rfl⟩
  rw [← hW] at HS HB
  rw [← hW]
  clear hW
  have hb0 : Below W.heap.size W W := Below.refl _ _
  have hS0 := HS.out W hb0
  go_region_held3 (fun x => x.cell? ⟨w.heap.size, 0, none⟩ = some (.int .i64 a) ∧ x.cell? ⟨w.heap.size, 1, none⟩ = some (.int .i64 b)) (first | assumption) (first | (go_at_call 61; refine (Held.call HS (by first | assumption | exact Below.drew (by assumption)) (put_any _ _ 7 _ (by omega) (by omega) (by omega) (by omega))).mono ?_; rintro e w1 ⟨rfl, hb1, hS1⟩))
  have hB := Lib.hid (HB.out.trans (hb1.mono HB.out.size))
  go_wp2_with fail
  go_ret
  exact ⟨rfl, hB.out⟩
end Go.Proofs.YtlihgaejkadonaaGreatDoor
