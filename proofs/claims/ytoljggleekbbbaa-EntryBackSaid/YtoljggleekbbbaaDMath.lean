/-
  Sectors, writes that wait, and what survives: the mathematics of layer 8. No function of the program in this text.
-/
import Derived.Maps.OwnSet
namespace Go.Proofs.Ytoljggleekbbbaa.M
open Go.Maps

/-- What a disk is: what is sure, what waits, in order, the calls, those that fail, the one at which it goes down, whether it is down. -/
structure D where
  S : List ByteArray
  L : List (Nat × ByteArray)
  ops : Nat
  fails : List Int
  da : Int
  dn : Bool

/-- A sector of bytes 0. -/
def zero : ByteArray := ⟨Array.replicate 64 0⟩
theorem zero_size : zero.size = 64 := rfl

/-- The last write of a sector among those that wait. -/
def seen0 (L : List (Nat × ByteArray)) (k : Nat) : Option ByteArray := L.foldl (fun o p => if p.1 = k then some p.2 else o) none
theorem seen0_nil (k : Nat) : seen0 [] k = none := rfl
theorem seen0_snoc (L : List (Nat × ByteArray)) (p : Nat × ByteArray) (k : Nat) : seen0 (L ++ [p]) k = if p.1 = k then some p.2 else seen0 L k := by
  simp [seen0, List.foldl_append]
/-- What is seen of a sector. -/
def seen (S : List ByteArray) (L : List (Nat × ByteArray)) (k : Nat) : ByteArray := (seen0 L k).getD (S.getD k ByteArray.empty)

/-- What is sure once i of the writes were settled, of which those survive that f tells. -/
def rounds (f : Nat → Bool) (S : List ByteArray) (L : List (Nat × ByteArray)) : Nat → List ByteArray
  | 0 => S
  | i + 1 => match L[i]? with
    | some p => if f i then (rounds f S L i).set p.1 p.2 else rounds f S L i
    | none => rounds f S L i
theorem rounds_yes {f : Nat → Bool} {S : List ByteArray} {L : List (Nat × ByteArray)} {i : Nat} {p : Nat × ByteArray} (h : L[i]? = some p) (hf : f i = true) : rounds f S L (i + 1) = (rounds f S L i).set p.1 p.2 := by
  simp [rounds, h, hf]
theorem rounds_no {f : Nat → Bool} {S : List ByteArray} {L : List (Nat × ByteArray)} {i : Nat} {p : Nat × ByteArray} (h : L[i]? = some p) (hf : f i = false) : rounds f S L (i + 1) = rounds f S L i := by
  simp [rounds, h, hf]
theorem rounds_len (f : Nat → Bool) (S : List ByteArray) (L : List (Nat × ByteArray)) (i : Nat) : (rounds f S L i).length = S.length := by
  induction i with
  | zero => rfl
  | succ i ih =>
    unfold rounds
    split
    · split
      · rw [List.length_set, ih]
      · exact ih
    · exact ih
theorem rounds_mem {f : Nat → Bool} {S : List ByteArray} {L : List (Nat × ByteArray)} {Q : ByteArray → Prop} (hS : ∀ s ∈ S, Q s) (hL : ∀ p ∈ L, Q p.2) (i : Nat) : ∀ s ∈ rounds f S L i, Q s := by
  induction i with
  | zero => exact hS
  | succ i ih =>
    unfold rounds
    split
    · rename_i p hp
      split
      · intro s hs
        rcases List.mem_or_eq_of_mem_set hs with h | h
        · exact ih s h
        · rw [h]; exact hL p (List.mem_of_getElem? hp)
      · exact ih
    · exact ih
/-- Of each sector one of the writes is there, or what was sure. -/
theorem rounds_one (f : Nat → Bool) (S : List ByteArray) (L : List (Nat × ByteArray)) (i k : Nat) (hk : k < S.length) :
    ∃ s, (rounds f S L i)[k]? = some s ∧ (S[k]? = some s ∨ ∃ p ∈ L, p.1 = k ∧ p.2 = s) := by
  induction i with
  | zero => exact ⟨S[k], by simp [rounds, hk], Or.inl (by simp [hk])⟩
  | succ i ih =>
    unfold rounds
    split
    · rename_i p hp
      split
      · by_cases e : p.1 = k
        · refine ⟨p.2, ?_, Or.inr ⟨p, List.mem_of_getElem? hp, e, rfl⟩⟩
          rw [e, List.getElem?_set_self (by rw [rounds_len]; exact hk)]
        · rw [List.getElem?_set_ne e]
          exact ih
      · exact ih
    · exact ih
/-- Where all survive, what was seen is sure. -/
theorem rounds_all (S : List ByteArray) (L : List (Nat × ByteArray)) (k : Nat) (hk : k < S.length) (i : Nat) (hi : i ≤ L.length) :
    (rounds (fun _ => true) S L i)[k]? = some (seen S (L.take i) k) := by
  induction i with
  | zero => simp [rounds, seen, seen0, hk]
  | succ i ih =>
    have hlt : i < L.length := by omega
    have hp : L[i]? = some L[i] := List.getElem?_eq_getElem hlt
    rw [rounds_yes hp rfl, List.take_succ_eq_append_getElem hlt, seen, seen0_snoc]
    by_cases e : (L[i]).1 = k
    · rw [if_pos e, e, List.getElem?_set_self (by rw [rounds_len]; exact hk)]
      rfl
    · rw [if_neg e, List.getElem?_set_ne e]
      exact ih (by omega)

/-- The map tells of each sector that waits the place of its last write. -/
def MapIs (m : DataW Unit) (L : List (Nat × ByteArray)) : Prop :=
  IsMap m ∧ ∀ k : Nat, (Maps.has m (.int .i64 k) = false ∧ seen0 L k = none) ∨
    ∃ (i : Nat) (p : Nat × ByteArray), Maps.has m (.int .i64 k) = true ∧ m.atKey (.int .i64 k) (.lit (.int .i64 0)) = .lit (.int .i64 (i : Nat)) ∧ L[i]? = some p ∧ seen0 L k = some p.2
theorem MapIs.nil : MapIs (.map []) [] := ⟨isMap_empty, fun _ => Or.inl ⟨rfl, rfl⟩⟩
theorem MapIs.put {m : DataW Unit} {L : List (Nat × ByteArray)} (h : MapIs m L) (k : Nat) (s : ByteArray) : MapIs (m.put (.int .i64 k) (.lit (.int .i64 (L.length : Nat)))) (L ++ [(k, s)]) := by
  refine ⟨h.1.put _ _, fun j => ?_⟩
  by_cases e : k = j
  · subst e
    refine Or.inr ⟨L.length, (k, s), has_put_same h.1 (show WideAt.IsKeyLit (.int _ _) from trivial) _, atKey_put_same h.1 (show WideAt.IsKeyLit (.int _ _) from trivial) _ _, by simp, by rw [seen0_snoc, if_pos rfl]⟩
  · have hne : (Lit.int .i64 (j : Int)) ≠ Lit.int .i64 (k : Int) := by
      intro e'
      injection e' with _ e'
      omega
    rw [has_put_other hne, atKey_put_other hne, seen0_snoc, if_neg e]
    rcases h.2 j with h | ⟨i, p, h1, h2, h3, h4⟩
    · exact Or.inl h
    · exact Or.inr ⟨i, p, h1, h2, by rw [List.getElem?_append_left (List.getElem?_eq_some_iff.1 h3).1]; exact h3, h4⟩

/-- The cells of writes. -/
def cells : List (Nat × ByteArray) → List Value
  | [] => []
  | p :: L => .int .i64 (p.1 : Nat) :: .string p.2 :: cells L
theorem cells_snoc (L : List (Nat × ByteArray)) (p : Nat × ByteArray) : cells (L ++ [p]) = cells L ++ [.int .i64 (p.1 : Nat), .string p.2] := by
  induction L with
  | nil => rfl
  | cons q L ih => simp [cells, ih]
theorem cells_len (L : List (Nat × ByteArray)) : (cells L).length = L.length * 2 := by
  induction L with
  | nil => rfl
  | cons q L ih => simp [cells, ih]; omega
theorem cells_at {L : List (Nat × ByteArray)} {i : Nat} {p : Nat × ByteArray} (h : L[i]? = some p) : (cells L)[i * 2]? = some (.int .i64 (p.1 : Nat)) ∧ (cells L)[i * 2 + 1]? = some (.string p.2) := by
  induction L generalizing i with
  | nil => simp at h
  | cons q L ih =>
    cases i with
    | zero =>
      simp at h
      subst h
      exact ⟨rfl, rfl⟩
    | succ i =>
      simp at h
      have := ih h
      rw [show (i + 1) * 2 = i * 2 + 2 by omega, show i * 2 + 2 + 1 = (i * 2 + 1) + 2 by omega]
      simpa [cells] using this

/-- What holds of every disk. -/
structure Inv (d : D) : Prop where
  many : d.S.length ≤ 1000
  sure : ∀ s ∈ d.S, s.size = 64
  lies : ∀ p ∈ d.L, p.1 < d.S.length
  wide : ∀ p ∈ d.L, p.2.size = 64
  some_ : d.L.length ≤ d.ops
theorem Inv.seen {d : D} (h : Inv d) {k : Nat} (hk : k < d.S.length) : (seen d.S d.L k).size = 64 := by
  have hg : ∀ L : List (Nat × ByteArray), (∀ p ∈ L, p.2.size = 64) → ∀ o : Option ByteArray, (∀ s, o = some s → s.size = 64) → ∀ s, L.foldl (fun o p => if p.1 = k then some p.2 else o) o = some s → s.size = 64 := by
    intro L
    induction L with
    | nil => intro _ o ho s hs; exact ho s hs
    | cons p L ih =>
      intro hL o ho s hs
      refine ih (fun q hq => hL q (List.mem_cons_of_mem _ hq)) _ ?_ s hs
      intro t ht
      simp only at ht
      split at ht
      · injection ht with ht; rw [← ht]; exact hL p (List.mem_cons_self ..)
      · exact ho t ht
  unfold M.seen
  cases e : seen0 d.L k with
  | none =>
    simp only [Option.getD_none]
    rw [show d.S.getD k ByteArray.empty = d.S[k] by simp [hk]]
    exact h.sure _ (List.getElem_mem hk)
  | some s => exact hg d.L h.wide none (fun _ h => by cases h) s e
end Go.Proofs.Ytoljggleekbbbaa.M
