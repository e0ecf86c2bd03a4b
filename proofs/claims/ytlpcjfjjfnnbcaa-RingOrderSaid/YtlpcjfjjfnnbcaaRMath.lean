/-
  Lists that lie in slots which are gone round: the mathematics of layer 6. No function of the program in this text.
-/
namespace Go.Proofs.Ytlpcjfjjfnnbcaa.M

/-- The things L lie in the slots ss from f on; behind the last slot comes the first one again. -/
structure Lies {α : Type} (ss : List α) (f : Nat) (L : List α) : Prop where
  le : L.length ≤ ss.length
  f0 : ss.length = 0 → f = 0
  f1 : 0 < ss.length → f < ss.length
  at_ : ∀ i (h : i < L.length), ss[(f + i) % ss.length]? = some (L[i]'h)

theorem Lies.nil {α : Type} : Lies ([] : List α) 0 [] := ⟨Nat.le_refl _, fun _ => rfl, fun h => absurd h (by simp), fun i h => absurd h (by simp)⟩

theorem mod_ne {n f i j : Nat} (hi : i < n) (hj : j < n) (hij : i ≠ j) : (f + i) % n ≠ (f + j) % n := by
  intro e
  apply hij
  have hn : 0 < n := by omega
  have h1 := Nat.mod_add_div (f + i) n
  have h2 := Nat.mod_add_div (f + j) n
  rw [e] at h1
  have h3 : f + i + n * ((f + j) / n) = f + j + n * ((f + i) / n) := by omega
  rcases Nat.lt_trichotomy ((f + i) / n) ((f + j) / n) with h | h | h
  · obtain ⟨d, hd⟩ := Nat.exists_eq_add_of_lt h
    rw [hd, show (f + i) / n + d + 1 = (f + i) / n + (d + 1) by omega, Nat.mul_add] at h3
    have : n * 1 ≤ n * (d + 1) := Nat.mul_le_mul_left n (by omega)
    omega
  · rw [h] at h3
    omega
  · obtain ⟨d, hd⟩ := Nat.exists_eq_add_of_lt h
    rw [hd, show (f + j) / n + d + 1 = (f + j) / n + (d + 1) by omega, Nat.mul_add] at h3
    have : n * 1 ≤ n * (d + 1) := Nat.mul_le_mul_left n (by omega)
    omega

theorem Lies.push {α : Type} {ss : List α} {f : Nat} {L : List α} (h : Lies ss f L) (hl : L.length < ss.length) (x : α) : Lies (ss.set ((f + L.length) % ss.length) x) f (L ++ [x]) := by
  refine ⟨by simp; omega, fun e => h.f0 (by simpa using e), fun e => by simpa using h.f1 (by simpa using e), fun i hi => ?_⟩
  rw [List.length_append] at hi
  simp only [List.length_cons, List.length_nil] at hi
  rw [List.length_set]
  by_cases e : i = L.length
  · subst e
    rw [List.getElem?_set_self (Nat.mod_lt _ (by omega))]
    simp
  · rw [List.getElem?_set_ne (mod_ne (by omega) (by omega) (by omega))]
    rw [h.at_ i (by omega)]
    simp [List.getElem_append_left (show i < L.length by omega)]

theorem Lies.pop {α : Type} {ss : List α} {f : Nat} {x : α} {L : List α} (h : Lies ss f (x :: L)) (z : α) : Lies (ss.set f z) ((f + 1) % ss.length) L := by
  have hl := h.le
  simp only [List.length_cons] at hl
  have hf := h.f1 (by omega)
  refine ⟨by rw [List.length_set]; omega, fun e => by rw [List.length_set] at e; omega, fun _ => by rw [List.length_set]; exact Nat.mod_lt _ (by omega), fun i hi => ?_⟩
  rw [List.length_set]
  have e : ((f + 1) % ss.length + i) % ss.length = (f + (i + 1)) % ss.length := by
    rw [Nat.mod_add_mod]
    congr 1
    omega
  rw [e, List.getElem?_set_ne, h.at_ (i + 1) (by simpa using hi)]
  · simp
  · have := mod_ne (n := ss.length) (f := f) (i := 0) (j := i + 1) (by omega) (by omega) (by omega)
    rwa [Nat.add_zero, Nat.mod_eq_of_lt hf] at this

theorem Lies.grown {α : Type} (L : List α) (z : α) (n : Nat) (hn : 0 < n) (hl : L.length ≤ n) : Lies (L ++ List.replicate (n - L.length) z) 0 L := by
  have hz : (L ++ List.replicate (n - L.length) z).length = n := by simp; omega
  refine ⟨by rw [hz]; exact hl, fun _ => rfl, fun _ => by rw [hz]; exact hn, fun i hi => ?_⟩
  rw [hz, Nat.zero_add, Nat.mod_eq_of_lt (by omega), List.getElem?_append_left hi, List.getElem?_eq_getElem hi]

theorem take_step {α : Type} (L : List α) (z : α) (n k : Nat) (hk : k < L.length) (hn : L.length ≤ n) : (L.take k ++ List.replicate (n - k) z).set k (L[k]'hk) = L.take (k + 1) ++ List.replicate (n - (k + 1)) z := by
  have e : n - k = (n - (k + 1)) + 1 := by omega
  have l : (L.take k).length = k := by rw [List.length_take]; omega
  rw [List.set_append_right _ _ (by omega), l, Nat.sub_self, e, List.replicate_succ, List.set_cons_zero, List.take_succ_eq_append_getElem hk, List.append_assoc]
  rfl
theorem take_here {α : Type} (L : List α) (z : α) (n k : Nat) (hk : k < L.length) (hn : L.length ≤ n) : (L.take k ++ List.replicate (n - k) z)[k]? = some z := by
  have l : (L.take k).length = k := by rw [List.length_take]; omega
  rw [List.getElem?_append_right (by omega), l, Nat.sub_self, List.getElem?_replicate, if_pos (by omega)]

/-- How many more are asked for at most: held from 0 to 1000. -/
def most (n : Int) : Nat := if n < 0 then 0 else if 1000 < n then 1000 else n.toNat
theorem most_le (n : Int) : most n ≤ 1000 := by unfold most; split <;> (try split) <;> omega

/-- How many are dropped. -/
def few (n : Int) (len : Nat) : Nat := if n < 0 then 0 else if (len : Int) < n then len else n.toNat
theorem few_le (n : Int) (len : Nat) : few n len ≤ len := by unfold few; split <;> (try split) <;> omega
end Go.Proofs.Ytlpcjfjjfnnbcaa.M
