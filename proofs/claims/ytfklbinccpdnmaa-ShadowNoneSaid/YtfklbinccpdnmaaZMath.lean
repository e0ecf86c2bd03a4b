/-
  Things at places in rising order, and maps that hold them: the mathematics of layer 13. No function of the program in this text.
-/
import Derived.Maps.Range
import Derived.Maps.RangeWalk
namespace Go.Proofs.Ytfklbinccpdnmaa.M
open Go.Maps

/-- Things and one more at a place, in the place of the one there. -/
def ins {α : Type} (k : Int) (x : α) : List (Int × α) → List (Int × α)
  | [] => [(k, x)]
  | p :: L => if p.1 < k then p :: ins k x L else if p.1 = k then (k, x) :: L else (k, x) :: p :: L
/-- The thing at a place. -/
def find {α : Type} (k : Int) : List (Int × α) → Option α
  | [] => none
  | p :: L => if p.1 = k then some p.2 else find k L
/-- Many things, one by one. -/
def puts {α : Type} (L K : List (Int × α)) : List (Int × α) := L.foldl (fun K p => ins p.1 p.2 K) K
/-- The loose one, else the one that stays. -/
def get13 {α : Type} (k : Int) (L K : List (Int × α)) : Option α := (find k L).or (find k K)
def Rising {α : Type} (L : List (Int × α)) : Prop := L.Pairwise (fun p q => p.1 < q.1)

theorem mem_ins {α : Type} {k : Int} {x : α} {p : Int × α} : ∀ {L : List (Int × α)}, p ∈ ins k x L → p = (k, x) ∨ p ∈ L
  | [], h => by simp [ins] at h; exact Or.inl h
  | q :: L, h => by
    unfold ins at h
    split at h
    · rcases List.mem_cons.1 h with h | h
      · exact Or.inr (by rw [h]; exact List.mem_cons_self ..)
      · exact (mem_ins h).imp id (List.mem_cons_of_mem _)
    · split at h
      · exact (List.mem_cons.1 h).imp id (List.mem_cons_of_mem _)
      · exact (List.mem_cons.1 h).imp id id
theorem Rising.ins {α : Type} {k : Int} {x : α} : ∀ {L : List (Int × α)}, Rising L → Rising (ins k x L)
  | [], _ => by simp [M.ins, Rising]
  | q :: L, h => by
    obtain ⟨h1, h2⟩ := List.pairwise_cons.1 h
    unfold M.ins
    split
    · rename_i hq
      refine List.pairwise_cons.2 ⟨fun p hp => ?_, Rising.ins h2⟩
      rcases mem_ins hp with rfl | hp
      · exact hq
      · exact h1 p hp
    · split
      · rename_i hq
        exact List.pairwise_cons.2 ⟨fun p hp => by have := h1 p hp; rw [hq] at this; exact this, h2⟩
      · rename_i hq hq'
        refine List.pairwise_cons.2 ⟨fun p hp => ?_, h⟩
        rcases List.mem_cons.1 hp with rfl | hp
        · show k < p.1
          omega
        · have := h1 p hp
          show k < p.1
          omega
theorem find_low {α : Type} {k : Int} : ∀ {L : List (Int × α)}, (∀ p ∈ L, k < p.1) → find k L = none
  | [], _ => rfl
  | q :: L, h => by
    have h1 := h q (List.mem_cons_self ..)
    have h2 : ∀ p ∈ L, k < p.1 := fun p hp => h p (List.mem_cons_of_mem _ hp)
    rw [find, if_neg (show ¬ q.1 = k by omega), find_low h2]
theorem find_ins_same {α : Type} (k : Int) (x : α) : ∀ L : List (Int × α), find k (ins k x L) = some x
  | [] => by simp [ins, find]
  | q :: L => by
    unfold ins
    split
    · rename_i hq
      rw [find, if_neg (show ¬ q.1 = k by omega)]
      exact find_ins_same k x L
    · split <;> simp [find]
theorem find_ins_other {α : Type} {k j : Int} (x : α) (h : k ≠ j) : ∀ L : List (Int × α), find j (ins k x L) = find j L
  | [] => by simp [ins, find, h]
  | q :: L => by
    unfold ins
    split
    · rw [find, find, find_ins_other x h L]
    · split
      · rename_i hq
        rw [find, find, if_neg h, if_neg (show ¬ q.1 = j by omega)]
      · rw [find, if_neg h]
theorem length_ins {α : Type} (k : Int) (x : α) : ∀ {L : List (Int × α)}, Rising L → (ins k x L).length = if (find k L).isSome then L.length else L.length + 1
  | [], _ => by simp [ins, find]
  | q :: L, h => by
    obtain ⟨h1, h2⟩ := List.pairwise_cons.1 h
    unfold ins
    split
    · rename_i hq
      rw [find, if_neg (show ¬ q.1 = k by omega), List.length_cons, length_ins k x h2]
      split <;> simp
    · split
      · rename_i hq
        simp [find, hq]
      · rename_i hq hq'
        have hn : find k L = none := find_low (fun p hp => by have := h1 p hp; omega)
        simp [find, hq', hn]
theorem ins_le {α : Type} (k : Int) (x : α) : ∀ L : List (Int × α), (ins k x L).length ≤ L.length + 1
  | [] => by simp [ins]
  | q :: L => by
    have := ins_le k x L
    unfold ins
    split
    · simp; exact this
    · split <;> simp
theorem ins_map {α β : Type} (f : α → β) (k : Int) (x : α) : ∀ L : List (Int × α), ins k (f x) (L.map (fun p => (p.1, f p.2))) = (ins k x L).map (fun p => (p.1, f p.2))
  | [] => rfl
  | q :: L => by
    simp only [List.map_cons, ins]
    split
    · simp [ins_map f k x L]
    · split <;> simp
theorem find_map {α β : Type} (f : α → β) (k : Int) : ∀ L : List (Int × α), find k (L.map (fun p => (p.1, f p.2))) = (find k L).map f
  | [] => rfl
  | q :: L => by
    simp only [List.map_cons, find]
    split
    · rfl
    · exact find_map f k L
theorem puts_map {α β : Type} (f : α → β) : ∀ L K : List (Int × α), puts (L.map (fun p => (p.1, f p.2))) (K.map (fun p => (p.1, f p.2))) = (puts L K).map (fun p => (p.1, f p.2))
  | [], _ => rfl
  | q :: L, K => by
    have := puts_map f L (ins q.1 q.2 K)
    simp only [puts, List.map_cons, List.foldl_cons] at *
    rw [ins_map f q.1 q.2 K]
    exact this
theorem get_map {α β : Type} (f : α → β) (k : Int) (L K : List (Int × α))   : get13 k (L.map (fun p => (p.1, f p.2))) (K.map (fun p => (p.1, f p.2))) = (get13 k L K).map f := by
  unfold get13
  rw [find_map, find_map]
  cases find k L <;> rfl
theorem puts_len {α : Type} : ∀ L K : List (Int × α), (puts L K).length ≤ L.length + K.length
  | [], K => by simp [puts]
  | q :: L, K => by
    have h1 := puts_len L (ins q.1 q.2 K)
    have h2 := ins_le q.1 q.2 K
    simp only [puts, List.foldl_cons, List.length_cons] at *
    omega
theorem puts_snoc {α : Type} (L K : List (Int × α)) (p : Int × α) : puts (L ++ [p]) K = ins p.1 p.2 (puts L K) := by simp [puts]
theorem find_mem {α : Type} {k : Int} {x : α} : ∀ {L : List (Int × α)}, find k L = some x → (k, x) ∈ L
  | [], h => by simp [find] at h
  | q :: L, h => by
    unfold find at h
    split at h
    · rename_i hq
      injection h with h
      rw [← hq, ← h]
      exact List.mem_cons_self ..
    · exact List.mem_cons_of_mem _ (find_mem h)
theorem find_of_mem {α : Type} {p : Int × α} : ∀ {L : List (Int × α)}, Rising L → p ∈ L → find p.1 L = some p.2
  | [], _, h => by simp at h
  | q :: L, hr, h => by
    obtain ⟨h1, h2⟩ := List.pairwise_cons.1 hr
    rcases List.mem_cons.1 h with rfl | h
    · simp [find]
    · have := h1 p h
      rw [find, if_neg (show ¬ q.1 = p.1 by omega)]
      exact find_of_mem h2 h

/-- How an element is read: as itself. -/
def tok (v : Value) : Option (DataW Value × List MemPlace) := some (.held v, [])

/-- A map that holds just these things. -/
structure MapHas (D : DataW Value) (L : List (Int × Value)) : Prop where
  tidy : Tidy D
  up : Rising L
  wf : ∀ p ∈ L, (Lit.int .i64 p.1).wf = true
  has : ∀ k : Int, Maps.has D (.int .i64 k) = (find k L).isSome
  at_ : ∀ (k : Int) x, find k L = some x → ∀ z, D.atKey (.int .i64 k) z = .held x
  size : Maps.size D = L.length
theorem MapHas.nil : MapHas (.map []) [] := ⟨tidy_empty, List.Pairwise.nil, fun _ h => by simp at h, fun _ => rfl, fun _ _ h => by simp [find] at h, rfl⟩
theorem MapHas.put {D : DataW Value} {L : List (Int × Value)} (h : MapHas D L) {k : Int} (x : Value) (hw : (Lit.int .i64 k).wf = true) : MapHas (D.put (.int .i64 k) (.held x)) (ins k x L) := by
  have hne : ∀ j : Int, k ≠ j → (Lit.int .i64 (j : Int)) ≠ Lit.int .i64 (k : Int) := fun j hj e => by
    injection e with _ e
    exact hj e.symm
  refine ⟨h.tidy.put (show WideAt.IsKeyLit (.int _ _) from trivial) _, h.up.ins, fun p hp => ?_, fun j => ?_, fun j y hj z => ?_, ?_⟩
  · rcases mem_ins hp with rfl | hp
    · exact hw
    · exact h.wf p hp
  · by_cases e : k = j
    · subst e
      rw [has_put_same h.tidy.isMap (show WideAt.IsKeyLit (.int _ _) from trivial), find_ins_same]
      rfl
    · rw [has_put_other (hne j e), find_ins_other x e]
      exact h.has j
  · by_cases e : k = j
    · subst e
      rw [find_ins_same] at hj
      injection hj with hj
      rw [atKey_put_same h.tidy.isMap (show WideAt.IsKeyLit (.int _ _) from trivial), hj]
    · rw [find_ins_other x e] at hj
      rw [atKey_put_other (hne j e)]
      exact h.at_ j y hj z
  · rw [size_put h.tidy, h.size, length_ins k x h.up, h.has k]

/-- The places met so far: none twice; one is there just where the map has it and it is no longer to come. -/
def Coll (D : DataW Value) (left : Lit → Bool) (ss : List Int) : Prop := ss.Nodup ∧ ∀ x : Int, x ∈ ss ↔ (Maps.has D (.int .i64 x) = true ∧ left (.int .i64 x) = false)
theorem Coll.start (D : DataW Value) : Coll D (Maps.has D) [] := ⟨List.nodup_nil, fun x => by cases Maps.has D (.int .i64 x) <;> simp⟩
theorem Coll.step {D : DataW Value} {left : Lit → Bool} {ss : List Int} (h : Coll D left ss) {x : Int} {y : DataW Value} (hlk : left (.int .i64 x) = true) (hat : ∀ zd, D.atKey (.int .i64 x) zd = y) : Coll D (fun z => left z && !z.sameKey (.int .i64 x)) (ss ++ [x]) := by
  have hhas : Maps.has D (.int .i64 x) = true := has_true_of_atKey hat
  have hnew : x ∉ ss := fun hx => by have := ((h.2 x).1 hx).2; rw [hlk] at this; cases this
  refine ⟨List.nodup_append.2 ⟨h.1, by simp, fun a ha b hb => by simp at hb; subst hb; exact fun e => hnew (e ▸ ha)⟩, fun y => ?_⟩
  by_cases hy : y = x
  · subst hy; simp [hhas, Lit.sameKey]
  · simp [h.2 y, hy, Lit.sameKey]
theorem Coll.done {D : DataW Value} {left : Lit → Bool} {ss : List Int} {L : List (Int × Value)} (h : Coll D left ss) (hD : MapHas D L) (hl : ∀ kl, left kl = false) :
    ss.length = L.length ∧ ss.mergeSort (fun x y => decide (x ≤ y)) = L.map (·.1) := by
  have hp : ss.Perm (L.map (·.1)) := by
    refine (List.perm_ext_iff_of_nodup h.1 ?_).2 fun x => ?_
    · exact List.pairwise_map.2 (hD.up.imp (fun hlt => by omega))
    · rw [h.2 x, hl, hD.has x]
      constructor
      · rintro ⟨hs, _⟩
        obtain ⟨y, hy⟩ := Option.isSome_iff_exists.1 hs
        exact List.mem_map.2 ⟨_, find_mem hy, rfl⟩
      · intro hx
        obtain ⟨p, hp, rfl⟩ := List.mem_map.1 hx
        rw [find_of_mem hD.up hp]
        exact ⟨rfl, rfl⟩
  have tr : ∀ a b c : Int, decide (a ≤ b) = true → decide (b ≤ c) = true → decide (a ≤ c) = true := fun a b c h1 h2 => by simp at *; omega
  have to : ∀ a b : Int, (decide (a ≤ b) || decide (b ≤ a)) = true := fun a b => by simp; omega
  refine ⟨by simpa using hp.length_eq, ?_⟩
  refine List.Perm.eq_of_pairwise (le := fun a b => decide (a ≤ b) = true) (fun a b _ _ h1 h2 => by simp at *; omega) (List.pairwise_mergeSort tr to ss) ?_ ((List.mergeSort_perm ss _).trans hp)
  exact List.pairwise_map.2 (hD.up.imp (fun hlt => by simp; omega))
end Go.Proofs.Ytfklbinccpdnmaa.M
