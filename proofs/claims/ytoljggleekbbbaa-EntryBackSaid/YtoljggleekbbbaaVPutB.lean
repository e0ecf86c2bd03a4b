/-
  Walks over vector.Put and solderref05.Put.
-/
import Derived.Test.YtoljggleekbbbaaVRt
import Derived.Test.YtoljggleekbbbaaFPutF
namespace Go.Proofs.Ytoljggleekbbbaa
open Go.RowKit

theorem M.putS_size (s : ByteArray) (n z : Int) : (M.putS s n z).size ≤ s.size + 7 := by
  unfold M.putS
  split
  · rename_i h
    obtain ⟨a, b, rfl, rfl, h1, h7, _⟩ := M.fits_nat h
    simp only [Int.toNat_natCast, ByteArray.size_append]
    have : (⟨(M.be a b).toArray⟩ : ByteArray).size = b := by show (M.be a b).toArray.size = b; simp [M.be_len]
    omega
  · omega
/-- What Put answers. -/
def M.vput (s : ByteArray) (a b : Int) : ByteArray := M.putS (M.putS s a 7) b 7
theorem ret_s {a b : ByteArray} (h : a = b) : Ending.returned (.string a) = .returned (.string b) := by rw [h]
/-- The cells of one vector. -/
theorem one_cells (w : World) (a b : Int) (t : TypeId) : ∀ y, Below (w.alloc (.cells #[.int .i64 a, .int .i64 b] t)).heap.size (w.alloc (.cells #[.int .i64 a, .int .i64 b] t)) y →
    y.cell? ⟨w.heap.size, 0, none⟩ = some (.int .i64 a) ∧ y.cell? ⟨w.heap.size, 1, none⟩ = some (.int .i64 b) := by
  intro y hb
  refine ⟨cell_of hb ?_, cell_of hb ?_⟩ <;> simp [go_sem]
theorem vput_any (s : ByteArray) (a b : Int) (w : World) (hs : s.size ≤ 50000) (ha : a ≤ 9223372036854775807) (hb : b ≤ 9223372036854775807) :
    Calls Try.prog 14 #[.string s, .agg #[.int .i64 a, .int .i64 b]] w fun e w' => e = .returned (.string (M.vput s a b)) ∧ Below w.heap.size w w' := by
  have HB := Lib.hid ((Below.refl w.heap.size w).alloc (Nat.le_refl _) (.cells #[.int .i64 a, .int .i64 b] 23))
  have HS := Lib.hid (one_cells w a b 23)
  have hz := M.putS_size s a 7
  go_enter Try.func14, Try.ntmps14
  go_wp2_with fail
  obtain ⟨W, hW⟩ : ∃ W, W = w.alloc (.cells #[.int .i64 a, .int .i64 b] 23) := ⟨_, rfl⟩
  rw [← hW] at HS HB
  rw [← hW]
  clear hW
  have hb0 : Below W.heap.size W W := Below.refl _ _
  have hS0 := HS.out W hb0
  go_region_held3 (fun x => x.cell? ⟨w.heap.size, 0, none⟩ = some (.int .i64 a) ∧ x.cell? ⟨w.heap.size, 1, none⟩ = some (.int .i64 b)) (first | assumption) (first | (go_at_call 13; refine (Held.call HS (by first | assumption | exact Below.drew (by assumption)) (put_any _ _ 7 _ (by omega) (by omega) (by omega) (by omega))).mono ?_; rintro e w1 ⟨rfl, hb1, hS1⟩))
  have hB := Lib.hid (HB.out.trans (hb1.mono HB.out.size))
  go_wp2_with fail
  go_ret
  exact ⟨rfl, hB.out⟩
theorem rvput_any (s : ByteArray) (a b : Int) (w : World) (hs : s.size ≤ 50000) (ha : a ≤ 9223372036854775807) (hb : b ≤ 9223372036854775807) :
    Calls Try.prog 18 #[.string s, .agg #[.int .i64 a, .int .i64 b]] w fun e w' => e = .returned (.string (M.vput s a b)) ∧ Below w.heap.size w w' := by
  have HB := Lib.hid ((Below.refl w.heap.size w).alloc (Nat.le_refl _) (.cells #[.int .i64 a, .int .i64 b] 23))
  have HS := Lib.hid (one_cells w a b 23)
  have hz := M.putS_size s a 7
  go_enter Try.func18, Try.ntmps18
  go_wp2_with fail
  obtain ⟨W, hW⟩ : ∃ W, W = w.alloc (.cells #[.int .i64 a, .int .i64 b] 23) := ⟨_, rfl⟩
  rw [← hW] at HS HB
  rw [← hW]
  clear hW
  have hb0 : Below W.heap.size W W := Below.refl _ _
  have hS0 := HS.out W hb0
  go_region_held3 (fun x => x.cell? ⟨w.heap.size, 0, none⟩ = some (.int .i64 a) ∧ x.cell? ⟨w.heap.size, 1, none⟩ = some (.int .i64 b)) (first | assumption) (first | (go_at_call 17; refine (Held.call HS (by first | assumption | exact Below.drew (by assumption)) (rput_any _ _ 7 _ (by omega) (by omega))).mono ?_; rintro e w1 ⟨rfl, hb1, hS1⟩))
  have hB := Lib.hid (HB.out.trans (hb1.mono HB.out.size))
  go_wp2_with fail
  go_ret
  exact ⟨rfl, hB.out⟩
end Go.Proofs.Ytoljggleekbbbaa
