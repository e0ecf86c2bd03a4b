/-
  The document's things in rising order: the mathematics of solderref13, and rows that are cut. No function of the program in this text.
-/
import Derived.Test.YtfklbinccpdnmaaZTold
namespace Go.Proofs.Ytfklbinccpdnmaa
open Go.RowKit Go.Maps

theorem M.ins_same {α : Type} {a : Int} {x : α} : ∀ {T : List (Int × α)} {k : Nat}, (∀ i (hi : i < T.length), i < k → (T[i]'hi).1 < a) → ∀ hk : k < T.length, (T[k]'hk).1 = a → M.ins a x T = T.take k ++ (a, x) :: T.drop (k + 1)
  | [], k, _, hk, _ => absurd hk (by simp)
  | q :: L, 0, _, _, h => by
    have h : q.1 = a := h
    simp [M.ins, h]
  | q :: L, k + 1, h1, hk, h => by
    have hq : q.1 < a := h1 0 (by simp) (by omega)
    have := M.ins_same (x := x) (T := L) (k := k) (fun i hi hik => h1 (i + 1) (by simpa using hi) (by omega)) (by simpa using hk) (by simpa using h)
    simp [M.ins, hq, this]
theorem M.ins_other {α : Type} {a : Int} {x : α} : ∀ {T : List (Int × α)} {k : Nat}, (∀ i (hi : i < T.length), i < k → (T[i]'hi).1 < a) → k ≤ T.length → (∀ hk : k < T.length, a < (T[k]'hk).1) → M.ins a x T = T.take k ++ (a, x) :: T.drop k
  | [], k, _, hk, _ => by
    have : k = 0 := by simpa using hk
    subst this
    rfl
  | q :: L, 0, _, _, h => by
    have h : a < q.1 := h (by simp)
    simp only [M.ins, List.take_zero, List.drop_zero, List.nil_append]
    rw [if_neg (by omega), if_neg (by omega)]
  | q :: L, k + 1, h1, hk, h => by
    have hq : q.1 < a := h1 0 (by simp) (by omega)
    have := M.ins_other (x := x) (T := L) (k := k) (fun i hi hik => h1 (i + 1) (by simpa using hi) (by omega)) (by simpa using hk) (fun hk' => h (Nat.succ_lt_succ hk'))
    simp [M.ins, hq, this]
theorem M.find_not {α : Type} {a : Int} : ∀ {T : List (Int × α)}, (∀ i (hi : i < T.length), ¬ (T[i]'hi).1 = a) → M.find a T = none
  | [], _ => rfl
  | q :: L, h => by
    rw [M.find, if_neg (show ¬ q.1 = a from h 0 (by simp)), M.find_not (fun i hi => h (i + 1) (by simpa using hi))]
theorem M.find_first {α : Type} {a : Int} : ∀ {T : List (Int × α)} {k : Nat}, (∀ i (hi : i < T.length), i < k → ¬ (T[i]'hi).1 = a) → ∀ hk : k < T.length, (T[k]'hk).1 = a → M.find a T = some (T[k]'hk).2
  | [], k, _, hk, _ => absurd hk (by simp)
  | q :: L, 0, _, _, h => by
    have h : q.1 = a := h
    simp [M.find, h]
  | q :: L, k + 1, h1, hk, h => by
    rw [M.find, if_neg (show ¬ q.1 = a from h1 0 (by simp) (by omega)), M.find_first (T := L) (k := k) (fun i hi hik => h1 (i + 1) (by simpa using hi) (by omega)) (by simpa using hk) (by simpa using h)]
    simp

theorem M.tcells_take : ∀ (T : List (Int × Int)) (k : Nat), M.tcells (T.take k) = (M.tcells T).take (k * 2)
  | [], k => by simp [M.tcells]
  | q :: L, 0 => by simp [M.tcells]
  | q :: L, k + 1 => by
    have := M.tcells_take L k
    rw [show (k + 1) * 2 = k * 2 + 1 + 1 by omega]
    simp [M.tcells, this]
theorem M.tcells_drop : ∀ (T : List (Int × Int)) (k : Nat), M.tcells (T.drop k) = (M.tcells T).drop (k * 2)
  | [], k => by simp [M.tcells]
  | q :: L, 0 => by simp [M.tcells]
  | q :: L, k + 1 => by
    have := M.tcells_drop L k
    rw [show (k + 1) * 2 = k * 2 + 1 + 1 by omega]
    simp [M.tcells, this]
theorem M.tcells_one : ∀ (T : List (Int × Int)), ∀ u ∈ M.tcells T, u.oneCell' = true
  | [], _, h => by simp [M.tcells] at h
  | p :: L, u, h => by
    rw [M.tcells] at h
    rcases List.mem_cons.1 h with rfl | h
    · rfl
    · rcases List.mem_cons.1 h with rfl | h
      · rfl
      · exact M.tcells_one L u h

/-- The front of an owned row. -/
theorem owns_cut {w : World} {B : Nat} {t : TypeId} {z n g cap k : Nat} {xs : List Value} (h : w.ownsRow B t z (.slice (some ⟨g, 0, none⟩) n cap) n xs) (hk : k ≤ n) : w.ownsRow B t z (.slice (some ⟨g, 0, none⟩) k cap) k (xs.take (k * z)) := by
  have hm : k * z ≤ n * z := Nat.mul_le_mul_right _ hk
  rcases h.2 with ⟨e, _⟩ | ⟨g', cap', cur, e, h1, h2, h3, h4, h5, h6⟩
  · cases e
  · refine ⟨by rw [List.length_take, h.1]; omega, Or.inr ⟨g', cap', cur, ?_, h1, h2, by omega, h4, h5, ?_⟩⟩
    · injection e with e1 e2 e3
      rw [e1, e3]
    · rw [← h6, List.take_take, Nat.min_eq_left hm]
end Go.Proofs.Ytfklbinccpdnmaa
