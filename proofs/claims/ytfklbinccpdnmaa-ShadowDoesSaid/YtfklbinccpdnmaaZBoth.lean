/-
  The code's shadow and the document's, both in memory: what each call makes of them.
-/
import Derived.Test.YtfklbinccpdnmaaZROps
import Derived.Test.YtfklbinccpdnmaaZSame
import Derived.Test.YtfklbinccpdnmaaZSk
import Derived.Shelf.Abstract
namespace Go.Proofs.Ytfklbinccpdnmaa
open Go.RowKit Go.Maps Go.Shelf

/-- The code's shadow in block a, with L over K, the document's in block b, with L' over K'; both are new since w. -/
def Bo13 (w y : World) (a b : Nat) (L K L' K' : List (Int × Int)) : Prop :=
  ∃ P kv lv, Sh 53 y a P (M.vals13 L) (M.vals13 K) ∧ RSh y b kv lv K' L' ∧ (∀ k, P k → w.heap.size ≤ k) ∧ ¬ P b ∧ (∀ k, kv.ownBlock = some k → ¬ P k) ∧ (∀ k, lv.ownBlock = some k → ¬ P k) ∧ w.heap.size ≤ b ∧ Below w.heap.size w y
section
variable {w y y' : World} {a b : Nat} {L K L' K' : List (Int × Int)}
theorem Bo13.low (h : Bo13 w y a b L K L' K') : Below w.heap.size w y := let ⟨_, _, _, _, _, _, _, _, _, _, h⟩ := h; h
theorem Bo13.beside (h : Bo13 w y a b L K L' K') (hb : Below y.heap.size y y') : Bo13 w y' a b L K L' K' := by
  obtain ⟨P, kv, lv, h1, h2, p1, p2, p3, p4, p5, p6⟩ := h
  have hk : Kept (fun _ => False) y y' := Kept.of_below hb _
  exact ⟨P, kv, lv, h1.kept hk (fun _ _ => id), h2.moved hk id (fun _ _ => id) (fun _ _ => id), p1, p2, p3, p4, p5, p6.trans (hb.mono p6.size)⟩
theorem Bo13.drewN (h : Bo13 w y a b L K L' K') (n : Nat) : Bo13 w (y.drewN n) a b L K L' K' := h.beside (below_drewN (Below.refl _ y) n)
/-- A call of the code's shadow. -/
theorem Bo13.astep {P : Nat → Prop} {kv lv : Value} {L1 K1 : List (Int × Int)} (h2 : RSh y b kv lv K' L') (p1 : ∀ k, P k → w.heap.size ≤ k) (p2 : ¬ P b) (p3 : ∀ k, kv.ownBlock = some k → ¬ P k) (p4 : ∀ k, lv.ownBlock = some k → ¬ P k) (p5 : w.heap.size ≤ b) (p6 : Below w.heap.size w y)
    (hs : Sh 53 y' a (M.plus13 P y.heap.size) (M.vals13 L1) (M.vals13 K1)) (hk : Kept P y y') : Bo13 w y' a b L1 K1 L' K' := by
  have hz := p6.size
  have hbl := h2.box.lt
  exact ⟨_, kv, lv, hs, h2.moved hk p2 p3 p4, fun k e => e.elim (p1 k) (fun e => Nat.le_trans hz e), fun e => e.elim p2 (fun e => by omega), fun k e e' => e'.elim (p3 k e) (fun e' => by have := (h2.kept.lt k e).2; omega),
    fun k e e' => e'.elim (p4 k e) (fun e' => by have := (h2.loose.lt k e).2; omega), p5, p6.trans (hk.below hz (fun k hk e => by have := p1 k e; omega))⟩
/-- A call of the document's shadow. -/
theorem Bo13.bstep {P : Nat → Prop} {kv lv kv' lv' : Value} {L1 K1 : List (Int × Int)} (h1 : Sh 53 y a P (M.vals13 L) (M.vals13 K)) (p1 : ∀ k, P k → w.heap.size ≤ k) (p2 : ¬ P b) (p3 : ∀ k, kv.ownBlock = some k → ¬ P k) (p4 : ∀ k, lv.ownBlock = some k → ¬ P k) (p5 : w.heap.size ≤ b) (p6 : Below w.heap.size w y)
    (hs : RSh y' b kv' lv' K1 L1) (hk : Kept (fun k => k = b) y y') (q1 : ∀ k, kv'.ownBlock = some k → kv.ownBlock = some k ∨ y.heap.size ≤ k) (q2 : ∀ k, lv'.ownBlock = some k → lv.ownBlock = some k ∨ y.heap.size ≤ k) : Bo13 w y' a b L K L1 K1 := by
  have h1' : Sh 53 y a (fun k => P k ∧ k < y.heap.size) (M.vals13 L) (M.vals13 K) := h1.mono (fun k hk h => ⟨h, hk⟩)
  exact ⟨_, kv', lv', h1'.kept hk (fun k h e => p2 (by rw [← e]; exact h.1)), hs, fun k h => p1 k h.1, fun h => p2 h.1, fun k e h => (q1 k e).elim (fun e => p3 k e h.1) (fun e => by have := h.2; omega), fun k e h => (q2 k e).elim (fun e => p4 k e h.1) (fun e => by have := h.2; omega), p5,
    p6.trans (hk.below p6.size (fun k hk e => by omega))⟩

theorem M.vals13_ins (k n : Int) (T : List (Int × Int)) : M.ins k (Value.int .i64 n) (M.vals13 T) = M.vals13 (M.ins k n T) := M.ins_map (Value.int .i64) k n T
theorem M.vals13_puts (L K : List (Int × Int)) : M.puts (M.vals13 L) (M.vals13 K) = M.vals13 (M.puts L K) := M.puts_map (Value.int .i64) L K
theorem M.vals13_get (k : Int) (L K : List (Int × Int)) : M.get13 k (M.vals13 L) (M.vals13 K) = (M.get13 k L K).map (Value.int .i64) := M.get_map (Value.int .i64) k L K

theorem Bo13.aput (h : Bo13 w y a b L K L' K') (k n : Int) (hw : (Lit.int .i64 k).wf = true) (hl : L.length ≤ 100000) :
    Calls Try.prog 8 #[.pointer (some ⟨a, 0, none⟩), .int .i64 k, .int .i64 n] y fun e w' => e = .returned (.tuple #[]) ∧ Bo13 w w' a b (M.ins k n L) K L' K' := by
  obtain ⟨P, kv, lv, h1, h2, p1, p2, p3, p4, p5, p6⟩ := h
  refine (put13_any y h1 k (.int .i64 n) hw (by rw [M.vals13_len]; exact hl)).mono ?_
  rintro e w' ⟨rfl, hs, hk⟩
  rw [M.vals13_ins] at hs
  exact ⟨rfl, Bo13.astep h2 p1 p2 p3 p4 p5 p6 hs hk⟩
theorem Bo13.akeep (h : Bo13 w y a b L K L' K') (hl : L.length + K.length ≤ 100000) :
    Calls Try.prog 10 #[.pointer (some ⟨a, 0, none⟩)] y fun e w' => e = .returned (.tuple #[]) ∧ Bo13 w w' a b [] (M.puts L K) L' K' := by
  obtain ⟨P, kv, lv, h1, h2, p1, p2, p3, p4, p5, p6⟩ := h
  refine (keep_any y h1 (by rw [M.vals13_len, M.vals13_len]; exact hl)).mono ?_
  rintro e w' ⟨rfl, hs, hk⟩
  rw [M.vals13_puts] at hs
  exact ⟨rfl, Bo13.astep (L1 := []) h2 p1 p2 p3 p4 p5 p6 hs hk⟩
theorem Bo13.aback (h : Bo13 w y a b L K L' K') :
    Calls Try.prog 12 #[.pointer (some ⟨a, 0, none⟩)] y fun e w' => e = .returned (.tuple #[]) ∧ Bo13 w w' a b [] K L' K' := by
  obtain ⟨P, kv, lv, h1, h2, p1, p2, p3, p4, p5, p6⟩ := h
  refine (back_any y h1).mono ?_
  rintro e w' ⟨rfl, hs, hk⟩
  exact ⟨rfl, Bo13.astep (L1 := []) h2 p1 p2 p3 p4 p5 p6 (hs.mono (fun _ _ h => Or.inl h)) hk⟩
theorem Bo13.aclear (h : Bo13 w y a b L K L' K') :
    Calls Try.prog 13 #[.pointer (some ⟨a, 0, none⟩)] y fun e w' => e = .returned (.tuple #[]) ∧ Bo13 w w' a b L [] L' K' := by
  obtain ⟨P, kv, lv, h1, h2, p1, p2, p3, p4, p5, p6⟩ := h
  refine (clear_any y h1).mono ?_
  rintro e w' ⟨rfl, hs, hk⟩
  exact ⟨rfl, Bo13.astep (K1 := []) h2 p1 p2 p3 p4 p5 p6 (hs.mono (fun _ _ h => Or.inl h)) hk⟩
theorem Bo13.aget (h : Bo13 w y a b L K L' K') (k : Int) (hw : (Lit.int .i64 k).wf = true) :
    Calls Try.prog 14 #[.pointer (some ⟨a, 0, none⟩), .int .i64 k] y fun e w' => e = .returned (.tuple #[.int .i64 ((M.get13 k L K).getD 0), .bool (M.get13 k L K).isSome]) ∧ w' = y := by
  obtain ⟨P, kv, lv, h1, -⟩ := h
  have hg := get13_any y h1 k hw
  rw [M.vals13_get, Option.isSome_map] at hg
  have e1 : ((M.get13 k L K).map (Value.int .i64)).getD (.int .i64 0) = .int .i64 ((M.get13 k L K).getD 0) := by cases M.get13 k L K <;> rfl
  rw [e1] at hg
  exact hg
theorem Bo13.aloose (h : Bo13 w y a b L K L' K') :
    Calls Try.prog 16 #[.pointer (some ⟨a, 0, none⟩)] y fun e w' => e = .returned (.int .i64 (L.length : Nat)) ∧ w' = y := by
  obtain ⟨P, kv, lv, h1, -⟩ := h
  have hg := loose_any y h1
  rw [M.vals13_len] at hg
  exact hg
theorem Bo13.bput (h : Bo13 w y a b L K L' K') (k n : Int) (hl : L'.length ≤ 100000) :
    Calls Try.prog 9 #[.pointer (some ⟨b, 0, none⟩), .agg #[.int .i64 k, .int .i64 n]] y fun e w' => e = .returned (.tuple #[]) ∧ Bo13 w w' a b L K (M.ins k n L') K' := by
  obtain ⟨P, kv, lv, h1, h2, p1, p2, p3, p4, p5, p6⟩ := h
  refine (rput13_any y h2 k n hl).mono ?_
  rintro e w' ⟨rfl, lv', hs, hk, ho⟩
  exact ⟨rfl, Bo13.bstep h1 p1 p2 p3 p4 p5 p6 hs hk (fun _ e => Or.inl e) (fun k e => Or.inr (ho k e))⟩
theorem Bo13.bkeep (h : Bo13 w y a b L K L' K') (hl : L'.length + K'.length ≤ 100000) :
    Calls Try.prog 11 #[.pointer (some ⟨b, 0, none⟩)] y fun e w' => e = .returned (.tuple #[]) ∧ Bo13 w w' a b L K [] (M.puts L' K') := by
  obtain ⟨P, kv, lv, h1, h2, p1, p2, p3, p4, p5, p6⟩ := h
  refine (rkeep13_any y h2 hl).mono ?_
  rintro e w' ⟨rfl, kv', hs, hk, ho⟩
  exact ⟨rfl, Bo13.bstep h1 p1 p2 p3 p4 p5 p6 hs hk ho (fun k e => by simp [Value.ownBlock] at e)⟩
theorem Bo13.bget (h : Bo13 w y a b L K L' K') (k : Int) (hl : L'.length ≤ 100000) (hkl : K'.length ≤ 100000) :
    Calls Try.prog 15 #[.pointer (some ⟨b, 0, none⟩), .int .i64 k] y fun e w' => e = .returned (.tuple #[.int .i64 ((M.get13 k L' K').getD 0), .bool (M.get13 k L' K').isSome]) ∧ w' = y := by
  obtain ⟨P, kv, lv, h1, h2, -⟩ := h
  exact rget13_any y h2 k hl hkl
/-- b.Loose = nil. -/
theorem Bo13.bback (h : Bo13 w y a b L K L' K') : ∃ lv, y.cell? ⟨b, 1, none⟩ = some lv ∧ y.frozen? ⟨b, 1, none⟩ = false ∧ Hid (Bo13 w (y.setCell ⟨b, 1, none⟩ (.slice none 0 0)) a b L K [] K') := by
  obtain ⟨P, kv, lv, h1, h2, p1, p2, p3, p4, p5, p6⟩ := h
  obtain ⟨f1, c1, H⟩ := h2.set1 (Kept.refl _ y) (Things.nil y) (fun k e => by simp [Value.ownBlock] at e)
  exact ⟨lv, c1, f1, Bo13.bstep h1 p1 p2 p3 p4 p5 p6 H.1 H.2 (fun _ e => Or.inl e) (fun k e => by simp [Value.ownBlock] at e)⟩
/-- b.Kept = nil. -/
theorem Bo13.bclear (h : Bo13 w y a b L K L' K') : ∃ kv, y.cell? ⟨b, 0, none⟩ = some kv ∧ y.frozen? ⟨b, 0, none⟩ = false ∧ Hid (Bo13 w (y.setCell ⟨b, 0, none⟩ (.slice none 0 0)) a b L K L' []) := by
  obtain ⟨P, kv, lv, h1, h2, p1, p2, p3, p4, p5, p6⟩ := h
  obtain ⟨f1, c1, H⟩ := h2.set0 (Kept.refl _ y) (Things.nil y) (fun k e => by simp [Value.ownBlock] at e)
  exact ⟨kv, c1, f1, Bo13.bstep h1 p1 p2 p3 p4 p5 p6 H.1 H.2 (fun k e => by simp [Value.ownBlock] at e) (fun _ e => Or.inl e)⟩
/-- b.Loose, b.Kept. -/
theorem Bo13.cells (h : Bo13 w y a b L K L' K') : ∃ A c A' c', y.cell? ⟨b, 1, none⟩ = some (.slice A L'.length c) ∧ y.cell? ⟨b, 0, none⟩ = some (.slice A' K'.length c') := by
  obtain ⟨P, kv, lv, h1, h2, -⟩ := h
  obtain ⟨A, c, e, _⟩ := owns_shape13 h2.loose
  obtain ⟨A', c', e', _⟩ := owns_shape13 h2.kept
  subst e e'
  exact ⟨A, c, A', c', h2.c1, h2.c0⟩
/-- Both are made. -/
theorem Bo13.new (w y : World) (hy : Below w.heap.size w y) : Calls Try.prog 7 #[] y fun e w' => ∃ a, e = .returned (.pointer (some ⟨a, 0, none⟩)) ∧ Bo13 w (w'.alloc (.cells #[.slice none 0 0, .slice none 0 0] 29)) a w'.heap.size [] [] [] [] := by
  refine (new13_any y).mono ?_
  rintro e w' ⟨rfl, h1, h2⟩
  have hz := hy.size
  have hz2 := h2.size
  have h1' : Sh 53 w' y.heap.size (fun k => y.heap.size ≤ k ∧ k < w'.heap.size) (M.vals13 []) (M.vals13 []) := h1.mono (fun k hk h => ⟨h, hk⟩)
  have hk : Kept (fun _ => False) w' (w'.alloc (.cells #[.slice none 0 0, .slice none 0 0] 29)) := (Kept.refl _ w').alloc _
  exact ⟨_, rfl, _, .slice none 0 0, .slice none 0 0, h1'.kept hk (fun _ _ => id), ⟨Box.new _ _ _, Things.nil _, Things.nil _, fun k e => by simp [Value.ownBlock] at e, fun k e => by simp [Value.ownBlock] at e⟩,
    fun k h => Nat.le_trans hz h.1, fun h => by have := h.2; omega, fun k e => by simp [Value.ownBlock] at e, fun k e => by simp [Value.ownBlock] at e, Nat.le_trans hz hz2, (hy.trans (h2.mono hz)).alloc (by omega) _⟩

/-- What the code's shadow tells is what the document's has. -/
theorem Bo13.sameFresh (h : Bo13 w y a b L K L K') {fb : Nat} {v : Value} (hp : y.cell? ⟨fb, 0, none⟩ = some (.pointer (some ⟨a, 0, none⟩))) (hv : y.cell? ⟨b, 1, none⟩ = some v) (q : Int) (hl : L.length ≤ 100000) :
    Calls Try.prog 17 #[.func (.func 30) #[] #[.pointer (some ⟨fb, 0, none⟩)], v, .int .i64 q] y fun e w' => e = .returned (.bool true) ∧ Below y.heap.size y w' := by
  obtain ⟨P, kv, lv, h1, h2, -⟩ := h
  obtain rfl : lv = v := by have := h2.c1.symm.trans hv; injection this
  have hfl := World.block_lt_of_cell? y _ hp
  exact same13_any _ _ (enters_of Try.func30 (by kernel_rfl) rfl) y h2.loose (fun z S N W Q hT _ _ hb => fresh1_told z (h1.kept (Kept.of_below hb (fun _ => False)) (fun _ _ => id)) ((hb.cell (p := ⟨fb, 0, none⟩) hfl).trans hp) hT hl)
theorem Bo13.sameKept (h : Bo13 w y a b L K L' K) {fb : Nat} {v : Value} (hp : y.cell? ⟨fb, 0, none⟩ = some (.pointer (some ⟨a, 0, none⟩))) (hv : y.cell? ⟨b, 0, none⟩ = some v) (q : Int) (hl : K.length ≤ 100000) :
    Calls Try.prog 17 #[.func (.func 32) #[] #[.pointer (some ⟨fb, 0, none⟩)], v, .int .i64 q] y fun e w' => e = .returned (.bool true) ∧ Below y.heap.size y w' := by
  obtain ⟨P, kv, lv, h1, h2, -⟩ := h
  obtain rfl : kv = v := by have := h2.c0.symm.trans hv; injection this
  have hfl := World.block_lt_of_cell? y _ hp
  exact same13_any _ _ (enters_of Try.func32 (by kernel_rfl) rfl) y h2.kept (fun z S N W Q hT _ _ hb => kept1_told z (h1.kept (Kept.of_below hb (fun _ => False)) (fun _ _ => id)) ((hb.cell (p := ⟨fb, 0, none⟩) hfl).trans hp) hT hl)
end
end Go.Proofs.Ytfklbinccpdnmaa
