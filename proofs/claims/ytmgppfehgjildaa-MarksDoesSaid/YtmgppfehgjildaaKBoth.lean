/-
  The two sets of solderlaw07.MarksDoes side by side: each call of one leaves the other as it was.
-/
import Derived.Test.YtmgppfehgjildaaKNone
import Derived.Test.YtmgppfehgjildaaKRefPut
import Derived.Test.YtmgppfehgjildaaKRefBytes
namespace Go.Proofs.Ytmgppfehgjildaa
open Go.RowKit

/-- A set of the program in block a with the numbers fa; the document's in block b with the numbers fb; all of them are new since W. -/
def Both (W : World) (a b m : Nat) (fa fb : Nat → Bool) (x : World) : Prop :=
  ∃ g c, Set x a m fa ∧ RSet x b g c m fb ∧ Below W.heap.size W x ∧ W.heap.size ≤ a ∧ W.heap.size ≤ b ∧ W.heap.size ≤ g ∧ a ≠ b ∧ g ≠ a

section
variable {W : World} {a b m : Nat} {fa fb : Nat → Bool} {x : World}
theorem Both.drewN (h : Both W a b m fa fb x) (n : Nat) : Both W a b m fa fb (x.drewN n) := by
  obtain ⟨g, c, h1, h2, h3, h4⟩ := h
  exact ⟨g, c, h1.drewN n, h2.drewN n, below_drewN h3 n, h4⟩
theorem Both.drew (h : Both W a b m fa fb x) : Both W a b m fa fb x.drew := h.drewN 1
theorem Both.low (h : Both W a b m fa fb x) : Below W.heap.size W x := by
  obtain ⟨g, c, h1, h2, h3, h4⟩ := h
  exact h3
theorem Both.below {y : World} (h : Both W a b m fa fb x) (hb : Below x.heap.size x y) : Both W a b m fa fb y := by
  obtain ⟨g, c, h1, h2, h3, h4⟩ := h
  exact ⟨g, c, h1.below hb h1.box.lt, h2.below hb, h3.trans (hb.mono h3.size), h4⟩
theorem Both.le (h : Both W a b m fa fb x) : m ≤ 1000 := by
  obtain ⟨g, c, h1, _⟩ := h
  exact h1.le

theorem Both.putA {y : World} {f' : Nat → Bool} (h : Both W a b m fa fb x) (hS : Set y a m f') (hk : Kept (fun k => k = a) x y) : Both W a b m f' fb y := by
  obtain ⟨g, c, h1, h2, h3, h4, h5, h6, h7, h8⟩ := h
  exact ⟨g, c, hS, h2.kept hk (fun e => h7 e.symm) h8, h3.trans (hk.below h3.size (fun k hk e => by omega)), h4, h5, h6, h7, h8⟩
theorem aAdd (i : Int) (h : Both W a b m fa fb x) :
    Calls Try.prog 10 #[.pointer (some ⟨a, 0, none⟩), .int .i64 i] x fun e y => e = .returned (.bool (M.putB m fa i true)) ∧ Both W a b m (M.putI m fa i true) fb y := by
  have h' := h
  obtain ⟨g, c, h1, _⟩ := h
  refine (add_any i x h1).mono ?_
  rintro e y ⟨he, hS, hk⟩
  exact ⟨by rw [he, M.putB_true], h'.putA hS hk⟩
theorem aRemove (i : Int) (h : Both W a b m fa fb x) :
    Calls Try.prog 12 #[.pointer (some ⟨a, 0, none⟩), .int .i64 i] x fun e y => e = .returned (.bool (M.putB m fa i false)) ∧ Both W a b m (M.putI m fa i false) fb y := by
  have h' := h
  obtain ⟨g, c, h1, _⟩ := h
  refine (remove_any i x h1).mono ?_
  rintro e y ⟨he, hS, hk⟩
  exact ⟨by rw [he, M.putB_false h1.low], h'.putA hS hk⟩
theorem bPut (i : Int) (v : Bool) (h : Both W a b m fa fb x) :
    Calls Try.prog 11 #[.pointer (some ⟨b, 0, none⟩), .int .i64 i, .bool v] x fun e y => e = .returned (.bool (M.putB m fb i v)) ∧ Both W a b m fa (M.putI m fb i v) y := by
  obtain ⟨g, c, h1, h2, h3, h4, h5, h6, h7, h8⟩ := h
  refine (refPut_any i v x h2).mono ?_
  rintro e y ⟨he, ⟨g', c', hR, hg⟩, hk⟩
  have hal := h1.box.lt
  have hz := h3.size
  exact ⟨he, g', c', h1.kept hk h7, hR, h3.trans (hk.below h3.size (fun k hk e => by omega)), h4, h5, by omega, h7, by omega⟩
theorem aNext (i : Int) (h : Both W a b m fa fb x) :
    Calls Try.prog 13 #[.pointer (some ⟨a, 0, none⟩), .int .i64 i] x fun e y => e = .returned (.tuple #[.int .i64 (M.num (M.next m fa i)), .bool (M.next m fa i).isSome]) ∧ Both W a b m fa fb y := by
  have h' := h
  obtain ⟨g, c, h1, _⟩ := h
  exact (next_n i x h1.n).mono fun e y ⟨he, hb⟩ => ⟨he, h'.below hb⟩
theorem bNext (i : Int) (h : Both W a b m fa fb x) :
    Calls Try.prog 14 #[.pointer (some ⟨b, 0, none⟩), .int .i64 i] x fun e y => e = .returned (.tuple #[.int .i64 (M.num (M.next m fb i)), .bool (M.next m fb i).isSome]) ∧ Both W a b m fa fb y := by
  have h' := h
  obtain ⟨g, c, _, h2, _⟩ := h
  exact (refNext_any i x h2).mono fun e y ⟨he, hb⟩ => ⟨he, h'.below hb⟩
theorem aFree (h : Both W a b m fa fb x) :
    Calls Try.prog 15 #[.pointer (some ⟨a, 0, none⟩)] x fun e y => e = .returned (.tuple #[.int .i64 (M.num (M.free m fa)), .bool (M.free m fa).isSome]) ∧ Both W a b m fa fb y := by
  have h' := h
  obtain ⟨g, c, h1, _⟩ := h
  exact (free_n x h1.n).mono fun e y ⟨he, n, hn⟩ => ⟨he, by rw [hn]; exact h'.drewN n⟩
theorem bFree (h : Both W a b m fa fb x) :
    Calls Try.prog 16 #[.pointer (some ⟨b, 0, none⟩)] x fun e y => e = .returned (.tuple #[.int .i64 (M.num (M.free m fb)), .bool (M.free m fb).isSome]) ∧ Both W a b m fa fb y := by
  have h' := h
  obtain ⟨g, c, _, h2, _⟩ := h
  exact (refFree_any x h2).mono fun e y ⟨he, hn⟩ => ⟨he, by rw [hn]; exact h'⟩
theorem aHas (i : Int) (h : Both W a b m fa fb x) :
    Calls Try.prog 17 #[.pointer (some ⟨a, 0, none⟩), .int .i64 i] x fun e y => e = .returned (.bool (M.hasI fa i)) ∧ ∃ n, y = x.drewN n := by
  obtain ⟨g, c, h1, _⟩ := h
  exact has_n i x h1.n
theorem bHas (i : Int) (h : Both W a b m fa fb x) :
    Calls Try.prog 18 #[.pointer (some ⟨b, 0, none⟩), .int .i64 i] x fun e y => e = .returned (.bool (M.hasI fb i)) ∧ y = x := by
  obtain ⟨g, c, _, h2, _⟩ := h
  exact refHas_any i x h2
theorem bAll (h : Both W a b m fa fb x) :
    Calls Try.prog 19 #[.pointer (some ⟨b, 0, none⟩)] x fun e y => (∃ v, e = .returned v ∧ Ints y v (M.nums m fb)) ∧ Both W a b m fa fb y := by
  have h' := h
  obtain ⟨g, c, _, h2, _⟩ := h
  exact (refAll_any x h2).mono fun e y ⟨he, hb⟩ => ⟨he, h'.below hb⟩
end
end Go.Proofs.Ytmgppfehgjildaa
