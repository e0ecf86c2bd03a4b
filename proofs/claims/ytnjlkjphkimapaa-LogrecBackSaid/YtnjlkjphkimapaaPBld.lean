/-
  Steps of Put; a strings.Builder; walk over logrec.tail.
-/
import Derived.Test.YtnjlkjphkimapaaPChk
import Derived.Test.YtnjlkjphkimapaaCTail
import Derived.Test.YtnjlkjphkimapaaShelf
import Derived.Shelf.Strings.Builder1
namespace Go.Proofs.Ytnjlkjphkimapaa
open Go.RowKit Go.Deep

theorem tail11 (s : ByteArray) (w : World) (hs : s.size ≤ 100000) : Calls Try.prog 37 #[.string s] w fun e w' => e = .returned (.string (M.tail s)) ∧ Below w.heap.size w w' := tail_any s w (by omega)
theorem rtail11 (s : ByteArray) (w : World) (hs : s.size ≤ 100000) : Calls Try.prog 25 #[.string s] w fun e w' => e = .returned (.string (M.tail s)) ∧ Below w.heap.size w w' := rtail_any s w (by omega)
theorem tail2 (h d : ByteArray) (w : World) (hh : h.size ≤ 1000) (hd : d.size ≤ 10000) : Calls Try.prog 22 #[.string h, .string d] w fun e w' => e = .returned (.string (M.tail (h ++ d))) ∧ Below w.heap.size w w' := by
  have HC := Lib.hid (fun x => tail11 (h ++ d) x (by rw [ByteArray.size_append]; omega))
  obtain ⟨s, hs⟩ : ∃ s, s = M.tail (h ++ d) := ⟨_, rfl⟩
  rw [← hs] at HC ⊢
  clear hs
  go_enter Try.func22, Try.ntmps22
  go_wp2_with fail
  refine (HC.out _).mono ?_
  rintro e w1 ⟨rfl, hb⟩
  go_wp2_with fail
  go_ret
  exact ⟨rfl, hb⟩

theorem M.fitsQ (n : Int) : M.fitsB n 6 = decide (¬ (n < 0 ∨ 281474976710656 ≤ n)) := by
  unfold M.fitsB
  have e : (256 : Int) ^ (6 : Int).toNat = 281474976710656 := by decide
  rw [e, Bool.eq_iff_iff, decide_eq_true_eq, decide_eq_true_eq]
  omega
theorem M.fits1 {n : Int} (h0 : 0 ≤ n) (h1 : n < 256) : M.fitsB n 1 = true := by
  unfold M.fitsB
  have e : (256 : Int) ^ (1 : Int).toNat = 256 := by decide
  rw [e, decide_eq_true_eq]
  omega
theorem M.fits2' {n : Int} (h0 : 0 ≤ n) (h1 : n < 1000) : M.fitsB n 2 = true := by
  unfold M.fitsB
  have e : (256 : Int) ^ (2 : Int).toNat = 65536 := by decide
  rw [e, decide_eq_true_eq]
  omega
theorem M.putS_ok {s : ByteArray} {n z : Int} (h : M.fitsB n z = true) : M.putS s n z = s ++ M.bytes n.toNat z.toNat := by rw [M.putS, if_pos h]; rfl
theorem M.put_next (a : Nat → Int) (q n k : Nat) (h : 0 ≤ a k ∧ a k < 1000) : M.putS (M.head a q n k) (a k) 2 = M.head a q n (k + 1) := by
  rw [M.putS_ok (M.fits2' h.1 h.2)]; rfl
/-- The text that Put begins with. -/
theorem M.put_start (a : Nat → Int) (q : Int) (n : Nat) (hq : 0 ≤ q ∧ q < 281474976710656) (hn : n ≤ 16) :
    ∃ s1 : ByteArray, M.putS ⟨#[82]⟩ q 6 = s1 ∧ s1.size ≤ 100 ∧ M.putS s1 n 1 = M.head a q.toNat n 0 := by
  refine ⟨_, rfl, ?_, ?_⟩
  · rw [M.putS_ok (by rw [M.fitsQ]; simp; omega), ByteArray.size_append, M.bytes_size, M.R_size]; decide
  · rw [M.putS_ok (M.fits1 (by omega) (by omega)), M.putS_ok (by rw [M.fitsQ]; simp; omega)]; rfl
/-- The steps of Put. -/
theorem M.put_steps (a : Nat → Int) (q n : Nat) (h : ∀ i, i < n → 0 ≤ a i ∧ a i < 1000) (hn : n ≤ 16) :
    (∀ k, k < n → ∀ y : World, Calls Try.prog 18 #[.string (M.head a q n k), .int .i64 (a k), .int .i64 2] y fun e y' => e = .returned (.string (M.head a q n (k + 1))) ∧ Below y.heap.size y y')
    ∧ (∀ k, k < n → ∀ y : World, Calls Try.prog 23 #[.string (M.head a q n k), .int .i64 (a k), .int .i64 2] y fun e y' => e = .returned (.string (M.head a q n (k + 1))) ∧ Below y.heap.size y y') := by
  refine ⟨fun k hk y => ?_, fun k hk y => ?_⟩
  · have := h k hk
    rw [← M.put_next a q n k this]
    exact put_any _ _ _ _ (by rw [M.head_size]; omega) (by omega) (by decide) (by decide)
  · have := h k hk
    rw [← M.put_next a q n k this]
    exact rput_any _ _ _ _ (by rw [M.head_size]; omega) (by omega)

/-- A builder in block b, made behind B, that has these bytes. -/
def Bld (B b : Nat) (s : ByteArray) (y : World) : Prop := Lib.IsBuilder 46 5 B b (Lib.byteCells s.data.toList) y
theorem Bld.below {B b : Nat} {s : ByteArray} {y z : World} (h : Bld B b s y) (hb : Below y.heap.size y z) : Bld B b s z := by
  have key : ∀ p, Lib.BuilderAt 46 5 B b p (Lib.byteCells s.data.toList) y → Lib.BuilderAt 46 5 B b p (Lib.byteCells s.data.toList) z := by
    rintro p ⟨h1, v, h2, h3, h4⟩
    have hlt := lt_of_block h2
    refine ⟨h1, v, (hb.block b hlt).trans h2, ?_, h4⟩
    refine ⟨h3.1, ?_⟩
    rcases h3.2 with e | ⟨g, cap, cur, e, hg, hbk, hr⟩
    · exact Or.inl e
    · exact Or.inr ⟨g, cap, cur, e, hg, (hb.block g (lt_of_block hbk)).trans hbk, hr⟩
  exact h.elim (fun x => Or.inl (key _ x)) (fun x => Or.inr (key _ x))
theorem Bld.new (y : World) : Bld y.heap.size y.heap.size ⟨#[]⟩ (y.alloc (.cells #[.pointer none, .slice none 0 0] 46)) := Lib.fresh_isBuilder _ _ _
theorem Bld.mono {B B' b : Nat} {s : ByteArray} {y : World} (h : Bld B b s y) (hB : B' ≤ B) : Bld B' b s y := by
  have key : ∀ p, Lib.BuilderAt 46 5 B b p (Lib.byteCells s.data.toList) y → Lib.BuilderAt 46 5 B' b p (Lib.byteCells s.data.toList) y := by
    rintro p ⟨h1, v, h2, h3, h4⟩
    refine ⟨by omega, v, h2, ⟨h3.1, ?_⟩, h4⟩
    rcases h3.2 with e | ⟨g, cap, cur, e, hg, hr⟩
    · exact Or.inl e
    · exact Or.inr ⟨g, cap, cur, e, by omega, hr⟩
  exact h.elim (fun x => Or.inl (key _ x)) (fun x => Or.inr (key _ x))
/-- The shelf's own laying of WriteString falls (its structure names a type that no body of this closure names): out of Repeat's laying. -/
theorem write_any (B b : Nat) (bs : List Value) (s : ByteArray) (w : World) (h : Lib.IsBuilder 46 5 B b bs w) (hlen : bs.length + s.size ≤ 140737488355328) (hBw : B ≤ w.heap.size) :
    Calls Try.prog 19 #[.pointer (some ⟨b, 0, none⟩), .string s] w fun e w' => e = .returned (.tuple #[.int .i64 s.size, .nilIface]) ∧ (Lib.BuilderAt 46 5 B b (.pointer (some ⟨b, 0, none⟩)) (bs ++ Lib.strCells s) w' ∧ Below B w w') :=
  Any.Builder_WriteString { Try.lays105 with } Try.Builder_Extra_105 B b bs s w h hlen hBw
theorem Bld.write {B b : Nat} {s : ByteArray} {y : World} (h : Bld B b s y) (hB : B ≤ y.heap.size) (u : ByteArray) (hs : s.size + u.size ≤ 1000000) :
    Calls Try.prog 19 #[.pointer (some ⟨b, 0, none⟩), .string u] y fun e y' => e = .returned (.tuple #[.int .i64 u.size, .nilIface]) ∧ Bld B b (s ++ u) y' ∧ Below B y y' := by
  refine (write_any B b _ u y h (by simp [Lib.byteCells]; omega) hB).mono ?_
  rintro e y' ⟨h1, h2, h3⟩
  refine ⟨h1, Or.inr ?_, h3⟩
  have e1 : Lib.byteCells s.data.toList ++ Lib.strCells u = Lib.byteCells (s ++ u).data.toList := by
    rw [M.app_list, Lib.byteCells, Lib.strCells, Lib.byteCells, List.map_append]
  rw [e1] at h2
  exact h2
theorem Bld.read {B b : Nat} {s : ByteArray} {y : World} (h : Bld B b s y) (hB : B ≤ y.heap.size) :
    Calls Try.prog 20 #[.pointer (some ⟨b, 0, none⟩)] y fun e y' => e = .returned (.string s) ∧ Below B y y' := Try.Builder_String_any B b s.data.toList y h hB
end Go.Proofs.Ytnjlkjphkimapaa
