/-
  Walks over vector.Put and vector.Text, and solderref05's like.
-/
import Derived.Test.YtlmnmiomfhgcdaaDoorVCov
import Derived.Test.YtlmnmiomfhgcdaaDoorFPutF
import Derived.Test.YtlmnmiomfhgcdaaDoorText
import Derived.Test.YtlmnmiomfhgcdaaDoorTextRef
namespace Go.Proofs.YtlmnmiomfhgcdaaDoor
open Go.RowKit

theorem M.putS_size (s : ByteArray) (n z : Int) : (M.putS s n z).size ≤ s.size + 7 := by
  unfold M.putS
  split
  · rename_i h
    obtain ⟨a, b, rfl, rfl, h1, h7, _⟩ := M.fits_nat h
    simp only [Int.toNat_natCast, ByteArray.size_append]
    have : (⟨(M.be a b).toArray⟩ : ByteArray).size = b := by show (M.be a b).toArray.size = b; simp [M.be_len]
    omega
  · omega
theorem M.itS_size (n : Int) (h0 : -9223372036854775808 ≤ n) (h1 : n ≤ 9223372036854775807) : (M.itS n).size ≤ 21 := by
  show (Lib.itoa n).toArray.size ≤ 21
  rw [Lib.itoa]
  split
  · have h2 := Lib.decDigits_length n.natAbs
    have h3 := Lib.nDigits_le20 n.natAbs (by omega)
    simp; omega
  · have h2 := Lib.decDigits_length n.toNat
    have h3 := Lib.nDigits_le20 n.toNat (by omega)
    simp; omega
/-- What Put answers. -/
def M.vput (s : ByteArray) (a b : Int) : ByteArray := M.putS (M.putS s a 7) b 7
/-- What Text answers. -/
def M.vtext (a b : Int) : ByteArray := M.itS a ++ (⟨#[46]⟩ : ByteArray) ++ M.itS b
theorem ret_s {a b : ByteArray} (h : a = b) : Ending.returned (.string a) = .returned (.string b) := by rw [h]

/-- The cells of one vector. -/
theorem one_cells (w : World) (a b : Int) (t : TypeId) : ∀ y, Below (w.alloc (.cells #[.int .i64 a, .int .i64 b] t)).heap.size (w.alloc (.cells #[.int .i64 a, .int .i64 b] t)) y →
    y.cell? ⟨w.heap.size, 0, none⟩ = some (.int .i64 a) ∧ y.cell? ⟨w.heap.size, 1, none⟩ = some (.int .i64 b) := by
  intro y hb
  refine ⟨cell_of hb ?_, cell_of hb ?_⟩ <;> simp [go_sem]

theorem vput_any (s : ByteArray) (a b : Int) (w : World) (hs : s.size ≤ 50000) (ha : a ≤ 9223372036854775807) (hb : b ≤ 9223372036854775807) :
    Calls Tryd.prog 16 #[.string s, .agg #[.int .i64 a, .int .i64 b]] w fun e w' => e = .returned (.string (M.vput s a b)) ∧ Below w.heap.size w w' := by
  have HB := Lib.hid ((Below.refl w.heap.size w).alloc (Nat.le_refl _) (.cells #[.int .i64 a, .int .i64 b] 23))
  have HS := Lib.hid (one_cells w a b 23)
  have hz := M.putS_size s a 7
  go_enter Tryd.func16, Tryd.ntmps16
  go_wp2_with fail
  obtain ⟨W, hW⟩ : ∃ W, W = w.alloc (.cells #[.int .i64 a, .int .i64 b] 23) := ⟨_, rfl⟩
  rw [← hW] at HS HB
  rw [← hW]
  clear hW
  have hb0 : Below W.heap.size W W := Below.refl _ _
  have hS0 := HS.out W hb0
  go_region_held3 (fun x => x.cell? ⟨w.heap.size, 0, none⟩ = some (.int .i64 a) ∧ x.cell? ⟨w.heap.size, 1, none⟩ = some (.int .i64 b)) (first | assumption) (first | (go_at_call 25; refine (Held.call HS (by first | assumption | exact Below.drew (by assumption)) (put_any _ _ 7 _ (by omega) (by omega) (by omega) (by omega))).mono ?_; rintro e w1 ⟨rfl, hb1, hS1⟩))
  have hB := Lib.hid (HB.out.trans (hb1.mono HB.out.size))
  go_wp2_with fail
  go_ret
  exact ⟨rfl, hB.out⟩
theorem rvput_any (s : ByteArray) (a b : Int) (w : World) (hs : s.size ≤ 50000) (ha : a ≤ 9223372036854775807) (hb : b ≤ 9223372036854775807) :
    Calls Tryd.prog 17 #[.string s, .agg #[.int .i64 a, .int .i64 b]] w fun e w' => e = .returned (.string (M.vput s a b)) ∧ Below w.heap.size w w' := by
  have HB := Lib.hid ((Below.refl w.heap.size w).alloc (Nat.le_refl _) (.cells #[.int .i64 a, .int .i64 b] 23))
  have HS := Lib.hid (one_cells w a b 23)
  have hz := M.putS_size s a 7
  go_enter Tryd.func17, Tryd.ntmps17
  go_wp2_with fail
  obtain ⟨W, hW⟩ : ∃ W, W = w.alloc (.cells #[.int .i64 a, .int .i64 b] 23) := ⟨_, rfl⟩
  rw [← hW] at HS HB
  rw [← hW]
  clear hW
  have hb0 : Below W.heap.size W W := Below.refl _ _
  have hS0 := HS.out W hb0
  go_region_held3 (fun x => x.cell? ⟨w.heap.size, 0, none⟩ = some (.int .i64 a) ∧ x.cell? ⟨w.heap.size, 1, none⟩ = some (.int .i64 b)) (first | assumption) (first | (go_at_call 26; refine (Held.call HS (by first | assumption | exact Below.drew (by assumption)) (rput_any _ _ 7 _ (by omega) (by omega))).mono ?_; rintro e w1 ⟨rfl, hb1, hS1⟩))
  have hB := Lib.hid (HB.out.trans (hb1.mono HB.out.size))
  go_wp2_with fail
  go_ret
  exact ⟨rfl, hB.out⟩

theorem add_is (x y : ByteArray) (h : x.size + y.size ≤ 9223372036854775807) : Op.stringOp .add x y = pure (.string (x ++ y)) := by
  have : ¬ ((x.size + y.size : Nat) : Int) > IntKind.i64.max := by show ¬ _ > (9223372036854775807 : Int); omega
  simp only [Op.stringOp, if_neg this]
theorem refTextT (n : Int) (h0 : -9223372036854775808 ≤ n) (h1 : n ≤ 9223372036854775807) (w : World) :
    Calls Tryd.prog 28 #[.int .i64 n] w fun e w' => e = .returned (.string (M.itS n)) ∧ Below w.heap.size w w' := refText_any n h0 h1 w

theorem vtext_any (a b : Int) (a0 : -9223372036854775808 ≤ a) (a9 : a ≤ 9223372036854775807) (b0 : -9223372036854775808 ≤ b) (b9 : b ≤ 9223372036854775807) (w : World) (hE : TabE w) :
    Calls Tryd.prog 18 #[.agg #[.int .i64 a, .int .i64 b]] w fun e w' => e = .returned (.string (M.vtext a b)) ∧ Below w.heap.size w w' := by
  have HB := Lib.hid ((Below.refl w.heap.size w).alloc (Nat.le_refl _) (.cells #[.int .i64 a, .int .i64 b] 23))
  have HS : Hid (∀ y, Below (w.alloc (.cells #[.int .i64 a, .int .i64 b] 23)).heap.size (w.alloc (.cells #[.int .i64 a, .int .i64 b] 23)) y → y.cell? ⟨w.heap.size, 0, none⟩ = some (.int .i64 a) ∧ y.cell? ⟨w.heap.size, 1, none⟩ = some (.int .i64 b) ∧ TabE y) :=
    fun y h => ⟨(one_cells w a b _ y h).1, (one_cells w a b _ y h).2, (hE.below HB.out).below h⟩
  have ha := M.itS_size a a0 a9
  have hb := M.itS_size b b0 b9
  have q1 := add_is (M.itS a) (⟨#[46]⟩ : ByteArray) (by have : (⟨#[46]⟩ : ByteArray).size = 1 := rfl; omega)
  have q2 := add_is (M.itS a ++ (⟨#[46]⟩ : ByteArray)) (M.itS b) (by have : (⟨#[46]⟩ : ByteArray).size = 1 := rfl; rw [ByteArray.size_append]; omega)
  clear hE
  go_enter Tryd.func18, Tryd.ntmps18
  go_wp2_with fail
  obtain ⟨W, hW⟩ : ∃ W, W = w.alloc (.cells #[.int .i64 a, .int .i64 b] 23) := ⟨_, rfl⟩
  rw [← hW] at HS HB
  rw [← hW]
  clear hW
  have hb0 : Below W.heap.size W W := Below.refl _ _
  obtain ⟨hS0, hS2, hE0⟩ := HS.out W hb0
  go_region_held3 (fun x => x.cell? ⟨w.heap.size, 0, none⟩ = some (.int .i64 a) ∧ x.cell? ⟨w.heap.size, 1, none⟩ = some (.int .i64 b)) (first | assumption | exact ⟨by assumption, by assumption⟩) (first | (go_at_call 27; refine (Held.call HS (by first | assumption | exact Below.drew (by assumption)) (textT _ (by omega) (by omega) _ (by first | assumption | exact (show TabE _ from HS.out _ (by first | assumption | exact Below.drew (by assumption)) |>.2.2)))).mono ?_; rintro e w1 ⟨rfl, hb1, hS1, hS2, hE1⟩))
  have hB := Lib.hid (HB.out.trans (hb1.mono HB.out.size))
  go_wp2_with fail
  go_ret
  exact ⟨rfl, hB.out⟩
theorem rvtext_any (a b : Int) (a0 : -9223372036854775808 ≤ a) (a9 : a ≤ 9223372036854775807) (b0 : -9223372036854775808 ≤ b) (b9 : b ≤ 9223372036854775807) (w : World) :
    Calls Tryd.prog 19 #[.agg #[.int .i64 a, .int .i64 b]] w fun e w' => e = .returned (.string (M.vtext a b)) ∧ Below w.heap.size w w' := by
  have HB := Lib.hid ((Below.refl w.heap.size w).alloc (Nat.le_refl _) (.cells #[.int .i64 a, .int .i64 b] 23))
  have HS := Lib.hid (one_cells w a b 23)
  have ha := M.itS_size a a0 a9
  have hb := M.itS_size b b0 b9
  have q1 := add_is (M.itS a) (⟨#[46]⟩ : ByteArray) (by have : (⟨#[46]⟩ : ByteArray).size = 1 := rfl; omega)
  have q2 := add_is (M.itS a ++ (⟨#[46]⟩ : ByteArray)) (M.itS b) (by have : (⟨#[46]⟩ : ByteArray).size = 1 := rfl; rw [ByteArray.size_append]; omega)
  go_enter Tryd.func19, Tryd.ntmps19
  go_wp2_with fail
  obtain ⟨W, hW⟩ : ∃ W, W = w.alloc (.cells #[.int .i64 a, .int .i64 b] 23) := ⟨_, rfl⟩
  rw [← hW] at HS HB
  rw [← hW]
  clear hW
  have hb0 : Below W.heap.size W W := Below.refl _ _
  have hS0 := HS.out W hb0
  go_region_held3 (fun x => x.cell? ⟨w.heap.size, 0, none⟩ = some (.int .i64 a) ∧ x.cell? ⟨w.heap.size, 1, none⟩ = some (.int .i64 b)) (first | assumption) (first | (go_at_call 28; refine (Held.call HS (by first | assumption | exact Below.drew (by assumption)) (refTextT _ (by omega) (by omega) _)).mono ?_; rintro e w1 ⟨rfl, hb1, hS1⟩))
  have hB := Lib.hid (HB.out.trans (hb1.mono HB.out.size))
  go_wp2_with fail
  go_ret
  exact ⟨rfl, hB.out⟩
end Go.Proofs.YtlmnmiomfhgcdaaDoor
