/-
  Walks over solderlaw13.same and its function, over shadow.walk, Fresh's and Kept's functions where they tell it things.
-/
import Derived.Test.YtfklbinccpdnmaaZMore
import Derived.Deep.OwnRows
import Derived.Laws.StructEq
namespace Go.Proofs.Ytfklbinccpdnmaa
open Go.RowKit Go.Maps

/-- The cells of things. -/
def M.tcells : List (Int × Int) → List Value
  | [] => []
  | p :: L => .int .i64 p.1 :: .int .i64 p.2 :: M.tcells L
theorem M.tcells_app (L L' : List (Int × Int)) : M.tcells (L ++ L') = M.tcells L ++ M.tcells L' := by
  induction L with
  | nil => rfl
  | cons q L ih => simp [M.tcells, ih]
theorem M.tcells_len (L : List (Int × Int)) : (M.tcells L).length = L.length * 2 := by
  induction L with
  | nil => rfl
  | cons q L ih => simp [M.tcells, ih]; omega
theorem M.tcells_at {L : List (Int × Int)} {i : Nat} (h : i < L.length) : (M.tcells L)[i * 2]? = some (.int .i64 (L[i]'h).1) ∧ (M.tcells L)[i * 2 + 1]? = some (.int .i64 (L[i]'h).2) := by
  induction L generalizing i with
  | nil => simp at h
  | cons q L ih =>
    cases i with
    | zero => exact ⟨rfl, rfl⟩
    | succ i =>
      have := ih (by simpa using h)
      rw [show (i + 1) * 2 = i * 2 + 2 by omega, show i * 2 + 2 + 1 = (i * 2 + 1) + 2 by omega]
      simpa [M.tcells] using this
/-- v is a slice of these things. -/
abbrev Things (w : World) (v : Value) (T : List (Int × Int)) : Prop := w.ownsRow 0 35 2 v T.length (M.tcells T)
theorem Kept.owns13 {P : Nat → Prop} {w w' : World} (hk : Kept P w w') {B : Nat} {t : TypeId} {z n : Nat} {v : Value} {xs : List Value} (h : w.ownsRow B t z v n xs) (hp : ∀ k, v.ownBlock = some k → ¬ P k) : w'.ownsRow B t z v n xs := by
  refine ⟨h.1, ?_⟩
  rcases h.2 with h | ⟨g, cap, cur, e, h1, h2, h3⟩
  · exact Or.inl h
  · exact Or.inr ⟨g, cap, cur, e, h1, (hk.block g (lt_of_block h2) (hp g (by rw [e]; rfl))).trans h2, h3⟩
theorem owns_shape13 {w : World} {B : Nat} {t : TypeId} {z n : Nat} {v : Value} {xs : List Value} (h : w.ownsRow B t z v n xs) : ∃ (A : Option Addr) (c : Nat), v = .slice A n c ∧ n ≤ c := by
  rcases h.2 with ⟨e, hn⟩ | ⟨g, cap, cur, e, _, _, h3, _⟩
  · exact ⟨none, 0, by rw [e, hn], by omega⟩
  · exact ⟨_, cap, e, h3⟩
theorem Things.nil (w : World) : Things w (.slice none 0 0) [] := ⟨rfl, Or.inl ⟨rfl, rfl⟩⟩
theorem Things.at_ {w : World} {v : Value} {T : List (Int × Int)} (h : Things w v T) {j : Nat} (hj : j < T.length) : ∃ g cap, v = .slice (some ⟨g, 0, none⟩) T.length cap ∧ T.length ≤ cap ∧ w.cell? ⟨g, j * 2, none⟩ = some (.int .i64 (T[j]'hj).1) ∧ w.cell? ⟨g, j * 2 + 1, none⟩ = some (.int .i64 (T[j]'hj).2) := by
  rcases h.2 with ⟨_, hn⟩ | ⟨g, cap, cur, e, _, _, h3, _⟩
  · omega
  · subst e
    obtain ⟨a1, a2⟩ := M.tcells_at hj
    have c1 := h.cells (g := g) rfl _ _ a1
    have c2 := h.cells (g := g) rfl _ _ a2
    rw [blk_add] at c1 c2
    exact ⟨g, cap, rfl, h3, c1, c2⟩

/-- What the told function holds: whether all was the same, how many were told, what is wanted, how many it takes at most. -/
structure Told13 (w : World) (S N W Q : Nat) (v : Value) (T : List (Int × Int)) (q : Int) (j : Nat) : Prop where
  same : Box w S 4 #[.bool true]
  num : Box w N 3 #[.int .i64 (j : Nat)]
  want : w.cell? ⟨W, 0, none⟩ = some v
  things : Things w v T
  most : w.cell? ⟨Q, 0, none⟩ = some (.int .i64 q)
  sn : S ≠ N
  apart : S ≠ W ∧ N ≠ W ∧ S ≠ Q ∧ N ≠ Q
  own : ∀ k, v.ownBlock = some k → k ≠ S ∧ k ≠ N
theorem Told13.kept {P : Nat → Prop} {w w' : World} {S N W Q : Nat} {v : Value} {T : List (Int × Int)} {q : Int} {j : Nat} (h : Told13 w S N W Q v T q j) (hk : Kept P w w') (h1 : ¬ P S) (h2 : ¬ P N) (h3 : ¬ P W) (h4 : ¬ P Q) (h5 : ∀ k, v.ownBlock = some k → ¬ P k) : Told13 w' S N W Q v T q j :=
  ⟨hk.box h.same h1, hk.box h.num h2, hk.cell h.want h3, hk.owns13 h.things h5, hk.cell h.most h4, h.sn, h.apart, h.own⟩

theorem eql_thing (a b : Int) (w : World) : (binOp .eql 35 (.agg #[.int .i64 a, .int .i64 b]) (.agg #[.int .i64 a, .int .i64 b])).run Try.prog w = .ok (.bool true) w := by
  have u3 := Try.underlying3
  have a3 := Try.isAgg3
  have z3 := Try.sizeOf3
  have hS : Try.prog.underlying 35 = some (.struct (Try.prog.fieldsOf 35)) := by kernel_rfl
  have hp : Try.prog.stoodInHeld 35 = false := by kernel_rfl
  rw [run_eql_struct, show (10000 : Nat) = 9999 + 1 from rfl, run_equalIn_agg w 9999 35 _ _ hS hp]
  simp only [Program.fieldsOf, Try.underlying35]
  go_simp

set_option maxHeartbeats 1000000 in
theorem told13_any (w : World) {S N W Q : Nat} {v : Value} {T : List (Int × Int)} {q : Int} {j : Nat} (h : Told13 w S N W Q v T q j) (hj : j < T.length) (hl : T.length ≤ 100000) :
    Calls Try.prog 29 #[.int .i64 (T[j]'hj).1, .int .i64 (T[j]'hj).2, .pointer (some ⟨S, 0, none⟩), .pointer (some ⟨N, 0, none⟩), .pointer (some ⟨W, 0, none⟩), .pointer (some ⟨Q, 0, none⟩)] w fun e w' => e = .returned (.bool (decide ((j : Int) + 1 < q))) ∧
      Told13 w' S N W Q v T q (j + 1) ∧ Kept (fun k => k = S ∨ k = N) w w' := by
  have s0 := (h.same.cell 0).trans (rfl : _ = some (Value.bool true))
  have fs := h.same.frozen 0
  have n0 := (h.num.cell 0).trans (rfl : _ = some (Value.int .i64 (j : Nat)))
  have fn := h.num.frozen 0
  have w0 := h.want
  have q0 := h.most
  obtain ⟨g, cap, e, hc, t0, t1⟩ := h.things.at_ hj
  have hown := h.own
  rw [e] at w0
  obtain ⟨a1, a2, a3, a4⟩ := h.apart
  have hsn := h.sn
  have HX : Hid (Told13 ((w.setCell ⟨S, 0, none⟩ (.bool true)).setCell ⟨N, 0, none⟩ (.int .i64 ((j : Int) + 1))) S N W Q v T q (j + 1) ∧ Kept (fun k => k = S ∨ k = N) w ((w.setCell ⟨S, 0, none⟩ (.bool true)).setCell ⟨N, 0, none⟩ (.int .i64 ((j : Int) + 1)))) := by
    have hk : Kept (fun k => k = S ∨ k = N) w ((w.setCell ⟨S, 0, none⟩ (.bool true)).setCell ⟨N, 0, none⟩ (.int .i64 ((j : Int) + 1))) :=
      Kept.set (Kept.set (P := fun k => k = S ∨ k = N) (Kept.refl _ w) (fun _ => Or.inl rfl) 0 _) (fun _ => Or.inr rfl) 0 _
    refine ⟨⟨?_, ?_, hk.cell h.want (fun e => e.elim (fun e => a1 e.symm) (fun e => a2 e.symm)), hk.owns13 h.things (fun k e e' => e'.elim (hown k e).1 (hown k e).2), hk.cell h.most (fun e => e.elim (fun e => a3 e.symm) (fun e => a4 e.symm)), hsn, ⟨a1, a2, a3, a4⟩, hown⟩, hk⟩
    · have h1 := h.same.set 0 (.bool true)
      have h2 : Box ((w.setCell ⟨S, 0, none⟩ (.bool true)).setCell ⟨N, 0, none⟩ (.int .i64 ((j : Int) + 1))) S 4 (#[Value.bool true].setIfInBounds 0 (.bool true)) := (Below.heap_setCell _ _ _ _ (by simpa using hsn)).trans h1
      simpa using h2
    · have h1 : Box (w.setCell ⟨S, 0, none⟩ (.bool true)) N 3 #[.int .i64 (j : Nat)] := (Below.heap_setCell _ _ _ _ (by simpa using Ne.symm hsn)).trans h.num
      simpa using h1.set 0 (.int .i64 ((j : Int) + 1))
  have n1 : (w.setCell ⟨S, 0, none⟩ (.bool true)).cell? ⟨N, 0, none⟩ = some (.int .i64 (j : Nat)) := (cell_set_other (p := ⟨N, 0, none⟩) (Ne.symm hsn)).trans n0
  have q1 : ((w.setCell ⟨S, 0, none⟩ (.bool true)).setCell ⟨N, 0, none⟩ (.int .i64 ((j : Int) + 1))).cell? ⟨Q, 0, none⟩ = some (.int .i64 q) := HX.out.1.most
  have n2 : ((w.setCell ⟨S, 0, none⟩ (.bool true)).setCell ⟨N, 0, none⟩ (.int .i64 ((j : Int) + 1))).cell? ⟨N, 0, none⟩ = some (.int .i64 ((j : Int) + 1)) := (HX.out.1.num.cell 0).trans (by simp)
  obtain ⟨x, hx⟩ : ∃ x, x = (T[j]'hj).1 := ⟨_, rfl⟩
  obtain ⟨y, hy⟩ : ∃ x, x = (T[j]'hj).2 := ⟨_, rfl⟩
  obtain ⟨n, hn⟩ : ∃ n, n = T.length := ⟨_, rfl⟩
  rw [← hx] at t0
  rw [← hy] at t1
  rw [← hn] at w0 hl hc
  rw [← hx, ← hy]
  have hlt' : (j : Int) < (n : Int) := by omega
  have hj0 : (0 : Int) ≤ (j : Int) := by omega
  have heq := eql_thing x y
  clear h hx hy hn hown e a1 a2 a3 a4
  go_enter Try.func29, Try.ntmps29
  go_wp2_with fail
  go_ret
  exact ⟨rfl, HX.out⟩
end Go.Proofs.Ytfklbinccpdnmaa
