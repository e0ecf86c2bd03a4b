/-
  Things at places in rising order, and maps that hold them: the mathematics of layer 13. No function of the program in this text. Maps from places to things in memory, as lists in rising order; shadows in memory. No function of the program in this text. A closure that is ranged over, by a body that always goes on, where the iterator makes memory of its own: what such a loop comes to. No function of the program in this text. Walks over maps.Clone and shadow.risingPlaces, at things that are strings. Walks over shadow.with, New, Put, Get, Loose, Back, Clear, Fresh and Kept, at things that are strings. Walks over shadow.Clear and Kept, at things that are strings; what Put, Get, Loose, Back and Clear do of a shadow that is none.
-/
import Derived.Test.YtmgchfjfkdkaoaaGreatDoorMA
import Derived.Test.YtmgchfjfkdkaoaaGreatDoorShelf
import Derived.Maps.Range
import Derived.Maps.RangeWalk
import Derived.Maps.OwnOps
import Derived.Maps.OwnSet
import Derived.BigQuiet
import Derived.Deep.QuietTactic
import Derived.Handy
import Derived.RangeFuncNested
import Derived.RangeFuncBound
import Derived.RangeFuncCalls
import Derived.RangeFuncLeaves
import Derived.OrdersIn
import Derived.OrdersHeld
import Derived.Deep.RegionHeld
import Derived.TacticsIn
import Derived.Shelf.SlMaps.Clone
import Derived.Sort.OwnSortedInts
import Derived.Laws.IdiomRangeMap
namespace Go.Proofs.YtmgchfjfkdkaoaaGreatDoor.M
open Go.Maps

/-- Things and one more at a place, in the place of the one there. -/
def ins {α : Type} (k : Int) (x : α) : List (Int × α) → List (Int × α)
  | [] => [(k, x)]
  | p :: L => if p.1 < k then p :: ins k x L else if p.1 = k then (k, x) :: L else (k, x) :: p :: L
/-- The thing at a place. -/
def find {α : Type} (k : Int) : List (Int × α) → Option α
  | [] => none
  | p :: L => if p.1 = k then some p.2 else find k L
/-- Many things, one by one. -/
def puts {α : Type} (L K : List (Int × α)) : List (Int × α) := L.foldl (fun K p => ins p.1 p.2 K) K
/-- The loose one, else the one that stays. -/
def get13 {α : Type} (k : Int) (L K : List (Int × α)) : Option α := (find k L).or (find k K)
def Rising {α : Type} (L : List (Int × α)) : Prop := L.Pairwise (fun p q => p.1 < q.1)

theorem mem_ins {α : Type} {k : Int} {x : α} {p : Int × α} : ∀ {L : List (Int × α)}, p ∈ ins k x L → p = (k, x) ∨ p ∈ L
  | [], h => by simp [ins] at h; exact Or.inl h
  | q :: L, h => by
    unfold ins at h
    split at h
    · rcases List.mem_cons.1 h with h | h
      · exact Or.inr (by rw [h]; exact List.mem_cons_self ..)
      · exact (mem_ins h).imp id (List.mem_cons_of_mem _)
    · split at h
      · exact (List.mem_cons.1 h).imp id (List.mem_cons_of_mem _)
      · exact (List.mem_cons.1 h).imp id id
theorem Rising.ins {α : Type} {k : Int} {x : α} : ∀ {L : List (Int × α)}, Rising L → Rising (ins k x L)
  | [], _ => by simp [M.ins, Rising]
  | q :: L, h => by
    obtain ⟨h1, h2⟩ := List.pairwise_cons.1 h
    unfold M.ins
    split
    · rename_i hq
      refine List.pairwise_cons.2 ⟨fun p hp => ?_, Rising.ins h2⟩
      rcases mem_ins hp with rfl | hp
      · exact hq
      · exact h1 p hp
    · split
      · rename_i hq
        exact List.pairwise_cons.2 ⟨fun p hp => by have := h1 p hp; rw [hq] at this; exact this, h2⟩
      · rename_i hq hq'
        refine List.pairwise_cons.2 ⟨fun p hp => ?_, h⟩
        rcases List.mem_cons.1 hp with rfl | hp
        · show k < p.1
          omega
        · have := h1 p hp
          show k < p.1
          omega
theorem find_low {α : Type} {k : Int} : ∀ {L : List (Int × α)}, (∀ p ∈ L, k < p.1) → find k L = none
  | [], _ => rfl
  | q :: L, h => by
    have h1 := h q (List.mem_cons_self ..)
    have h2 : ∀ p ∈ L, k < p.1 := fun p hp => h p (List.mem_cons_of_mem _ hp)
    rw [find, if_neg (show ¬ q.1 = k by omega), find_low h2]
theorem find_ins_same {α : Type} (k : Int) (x : α) : ∀ L : List (Int × α), find k (ins k x L) = some x
  | [] => by simp [ins, find]
  | q :: L => by
    unfold ins
    split
    · rename_i hq
      rw [find, if_neg (show ¬ q.1 = k by omega)]
      exact find_ins_same k x L
    · split <;> simp [find]
theorem find_ins_other {α : Type} {k j : Int} (x : α) (h : k ≠ j) : ∀ L : List (Int × α), find j (ins k x L) = find j L
  | [] => by simp [ins, find, h]
  | q :: L => by
    unfold ins
    split
    · rw [find, find, find_ins_other x h L]
    · split
      · rename_i hq
        rw [find, find, if_neg h, if_neg (show ¬ q.1 = j by omega)]
      · rw [find, if_neg h]
theorem length_ins {α : Type} (k : Int) (x : α) : ∀ {L : List (Int × α)}, Rising L → (ins k x L).length = if (find k L).isSome then L.length else L.length + 1
  | [], _ => by simp [ins, find]
  | q :: L, h => by
    obtain ⟨h1, h2⟩ := List.pairwise_cons.1 h
    unfold ins
    split
    · rename_i hq
      rw [find, if_neg (show ¬ q.1 = k by omega), List.length_cons, length_ins k x h2]
      split <;> simp
    · split
      · rename_i hq
        simp [find, hq]
      · rename_i hq hq'
        have hn : find k L = none := find_low (fun p hp => by have := h1 p hp; omega)
        simp [find, hq', hn]
theorem ins_le {α : Type} (k : Int) (x : α) : ∀ L : List (Int × α), (ins k x L).length ≤ L.length + 1
  | [] => by simp [ins]
  | q :: L => by
    have := ins_le k x L
    unfold ins
    split
    · simp; exact this
    · split <;> simp
theorem ins_map {α β : Type} (f : α → β) (k : Int) (x : α) : ∀ L : List (Int × α), ins k (f x) (L.map (fun p => (p.1, f p.2))) = (ins k x L).map (fun p => (p.1, f p.2))
  | [] => rfl
  | q :: L => by
    simp only [List.map_cons, ins]
    split
    · simp [ins_map f k x L]
    · split <;> simp
theorem find_map {α β : Type} (f : α → β) (k : Int) : ∀ L : List (Int × α), find k (L.map (fun p => (p.1, f p.2))) = (find k L).map f
  | [] => rfl
  | q :: L => by
    simp only [List.map_cons, find]
    split
    · rfl
    · exact find_map f k L
theorem puts_map {α β : Type} (f : α → β) : ∀ L K : List (Int × α), puts (L.map (fun p => (p.1, f p.2))) (K.map (fun p => (p.1, f p.2))) = (puts L K).map (fun p => (p.1, f p.2))
  | [], _ => rfl
  | q :: L, K => by
    have := puts_map f L (ins q.1 q.2 K)
    simp only [puts, List.map_cons, List.foldl_cons] at *
    rw [ins_map f q.1 q.2 K]
    exact this
theorem get_map {α β : Type} (f : α → β) (k : Int) (L K : List (Int × α))   : get13 k (L.map (fun p => (p.1, f p.2))) (K.map (fun p => (p.1, f p.2))) = (get13 k L K).map f := by
  unfold get13
  rw [find_map, find_map]
  cases find k L <;> rfl
theorem puts_len {α : Type} : ∀ L K : List (Int × α), (puts L K).length ≤ L.length + K.length
  | [], K => by simp [puts]
  | q :: L, K => by
    have h1 := puts_len L (ins q.1 q.2 K)
    have h2 := ins_le q.1 q.2 K
    simp only [puts, List.foldl_cons, List.length_cons] at *
    omega
theorem puts_snoc {α : Type} (L K : List (Int × α)) (p : Int × α) : puts (L ++ [p]) K = ins p.1 p.2 (puts L K) := by simp [puts]
theorem find_mem {α : Type} {k : Int} {x : α} : ∀ {L : List (Int × α)}, find k L = some x → (k, x) ∈ L
  | [], h => by simp [find] at h
  | q :: L, h => by
    unfold find at h
    split at h
    · rename_i hq
      injection h with h
      rw [← hq, ← h]
      exact List.mem_cons_self ..
    · exact List.mem_cons_of_mem _ (find_mem h)
theorem find_of_mem {α : Type} {p : Int × α} : ∀ {L : List (Int × α)}, Rising L → p ∈ L → find p.1 L = some p.2
  | [], _, h => by simp at h
  | q :: L, hr, h => by
    obtain ⟨h1, h2⟩ := List.pairwise_cons.1 hr
    rcases List.mem_cons.1 h with rfl | h
    · simp [find]
    · have := h1 p h
      rw [find, if_neg (show ¬ q.1 = p.1 by omega)]
      exact find_of_mem h2 h

/-- How an element is read: as itself. -/
def tok (v : Value) : Option (DataW Value × List MemPlace) := some (.held v, [])

/-- A map that holds just these things. -/
structure MapHas (D : DataW Value) (L : List (Int × Value)) : Prop where
  tidy : Tidy D
  up : Rising L
  wf : ∀ p ∈ L, (Lit.int .i64 p.1).wf = true
  has : ∀ k : Int, Maps.has D (.int .i64 k) = (find k L).isSome
  at_ : ∀ (k : Int) x, find k L = some x → ∀ z, D.atKey (.int .i64 k) z = .held x
  size : Maps.size D = L.length
theorem MapHas.nil : MapHas (.map []) [] := ⟨tidy_empty, List.Pairwise.nil, fun _ h => by simp at h, fun _ => rfl, fun _ _ h => by simp [find] at h, rfl⟩
theorem MapHas.put {D : DataW Value} {L : List (Int × Value)} (h : MapHas D L) {k : Int} (x : Value) (hw : (Lit.int .i64 k).wf = true) : MapHas (D.put (.int .i64 k) (.held x)) (ins k x L) := by
  have hne : ∀ j : Int, k ≠ j → (Lit.int .i64 (j : Int)) ≠ Lit.int .i64 (k : Int) := fun j hj e => by
    injection e with _ e
    exact hj e.symm
  refine ⟨h.tidy.put (show WideAt.IsKeyLit (.int _ _) from trivial) _, h.up.ins, fun p hp => ?_, fun j => ?_, fun j y hj z => ?_, ?_⟩
  · rcases mem_ins hp with rfl | hp
    · exact hw
    · exact h.wf p hp
  · by_cases e : k = j
    · subst e
      rw [has_put_same h.tidy.isMap (show WideAt.IsKeyLit (.int _ _) from trivial), find_ins_same]
      rfl
    · rw [has_put_other (hne j e), find_ins_other x e]
      exact h.has j
  · by_cases e : k = j
    · subst e
      rw [find_ins_same] at hj
      injection hj with hj
      rw [atKey_put_same h.tidy.isMap (show WideAt.IsKeyLit (.int _ _) from trivial), hj]
    · rw [find_ins_other x e] at hj
      rw [atKey_put_other (hne j e)]
      exact h.at_ j y hj z
  · rw [size_put h.tidy, h.size, length_ins k x h.up, h.has k]

/-- The places met so far: none twice; one is there just where the map has it and it is no longer to come. -/
def Coll (D : DataW Value) (left : Lit → Bool) (ss : List Int) : Prop := ss.Nodup ∧ ∀ x : Int, x ∈ ss ↔ (Maps.has D (.int .i64 x) = true ∧ left (.int .i64 x) = false)
theorem Coll.start (D : DataW Value) : Coll D (Maps.has D) [] := ⟨List.nodup_nil, fun x => by cases Maps.has D (.int .i64 x) <;> simp⟩
theorem Coll.step {D : DataW Value} {left : Lit → Bool} {ss : List Int} (h : Coll D left ss) {x : Int} {y : DataW Value} (hlk : left (.int .i64 x) = true) (hat : ∀ zd, D.atKey (.int .i64 x) zd = y) : Coll D (fun z => left z && !z.sameKey (.int .i64 x)) (ss ++ [x]) := by
  have hhas : Maps.has D (.int .i64 x) = true := has_true_of_atKey hat
  have hnew : x ∉ ss := fun hx => by have := ((h.2 x).1 hx).2; rw [hlk] at this; cases this
  refine ⟨List.nodup_append.2 ⟨h.1, by simp, fun a ha b hb => by simp at hb; subst hb; exact fun e => hnew (e ▸ ha)⟩, fun y => ?_⟩
  by_cases hy : y = x
  · subst hy; simp [hhas, Lit.sameKey]
  · simp [h.2 y, hy, Lit.sameKey]
theorem Coll.done {D : DataW Value} {left : Lit → Bool} {ss : List Int} {L : List (Int × Value)} (h : Coll D left ss) (hD : MapHas D L) (hl : ∀ kl, left kl = false) :
    ss.length = L.length ∧ ss.mergeSort (fun x y => decide (x ≤ y)) = L.map (·.1) := by
  have hp : ss.Perm (L.map (·.1)) := by
    refine (List.perm_ext_iff_of_nodup h.1 ?_).2 fun x => ?_
    · exact List.pairwise_map.2 (hD.up.imp (fun hlt => by omega))
    · rw [h.2 x, hl, hD.has x]
      constructor
      · rintro ⟨hs, _⟩
        obtain ⟨y, hy⟩ := Option.isSome_iff_exists.1 hs
        exact List.mem_map.2 ⟨_, find_mem hy, rfl⟩
      · intro hx
        obtain ⟨p, hp, rfl⟩ := List.mem_map.1 hx
        rw [find_of_mem hD.up hp]
        exact ⟨rfl, rfl⟩
  have tr : ∀ a b c : Int, decide (a ≤ b) = true → decide (b ≤ c) = true → decide (a ≤ c) = true := fun a b c h1 h2 => by simp at *; omega
  have tot : ∀ a b : Int, (decide (a ≤ b) || decide (b ≤ a)) = true := fun a b => by simp; omega
  refine ⟨by simpa using hp.length_eq, ?_⟩
  refine List.Perm.eq_of_pairwise (le := fun a b => decide (a ≤ b) = true) (fun a b _ _ h1 h2 => by simp at *; omega) (List.pairwise_mergeSort tr tot ss) ?_ ((List.mergeSort_perm ss _).trans hp)
  exact List.pairwise_map.2 (hD.up.imp (fun hlt => by simp; omega))
end Go.Proofs.YtmgchfjfkdkaoaaGreatDoor.M
namespace Go.Proofs.YtmgchfjfkdkaoaaGreatDoor
open Go.RowKit Go.Maps
set_option maxRecDepth 100000

theorem key13 : Keyed Tryz.prog 3 := int_keyed Tryz.underlying3

theorem owns_tight {w : World} {b n : Nat} {D : DataW Value} (h : w.ownsMap Tryz.prog 3 M.tok b n D) : w.ownsMap Tryz.prog 3 M.tok b (Maps.size D) D := by
  obtain ⟨es, clock, hb, F, hs, hD⟩ := h
  refine ⟨es, clock, hb, F, ?_, hD⟩
  rw [hD]
  simp [Maps.size, length_sorted]
theorem Kept.owned {P : Nat → Prop} {w w' : World} (hk : Kept P w w') {b n : Nat} {D : DataW Value} (h : w.ownsMap Tryz.prog 3 M.tok b n D) (hp : ¬ P b) : w'.ownsMap Tryz.prog 3 M.tok b n D := by
  have hlt := h.lt
  obtain ⟨es, clock, hb, F, hs, hD⟩ := h
  exact ⟨es, clock, (hk.block b hlt hp).trans hb, F, hs, hD⟩

/-- A map, nil or not, that holds these things. -/
def MapV (w : World) (o : Option Nat) (L : List (Int × Value)) : Prop :=
  (o = none ∧ L = []) ∨ ∃ b D, o = some b ∧ w.ownsMap Tryz.prog 3 M.tok b L.length D ∧ M.MapHas D L
theorem MapV.kept {P : Nat → Prop} {w w' : World} {o : Option Nat} {L : List (Int × Value)} (h : MapV w o L) (hk : Kept P w w') (hp : ∀ k, o = some k → ¬ P k) : MapV w' o L :=
  h.imp id (fun ⟨b, D, e, h1, h2⟩ => ⟨b, D, e, hk.owned h1 (hp b e), h2⟩)
theorem MapV.lt {w : World} {o : Option Nat} {L : List (Int × Value)} (h : MapV w o L) {k : Nat} (e : o = some k) : k < w.heap.size := by
  rcases h with ⟨h, _⟩ | ⟨b, D, h, h1, _⟩
  · rw [h] at e; cases e
  · rw [h] at e; cases e; exact h1.lt
theorem MapV.nil (w : World) : MapV w none [] := Or.inl ⟨rfl, rfl⟩
theorem MapV.up {w : World} {o : Option Nat} {L : List (Int × Value)} (h : MapV w o L) : M.Rising L := by
  rcases h with ⟨_, rfl⟩ | ⟨_, _, _, _, h⟩
  · exact List.Pairwise.nil
  · exact h.up
theorem MapV.wf {w : World} {o : Option Nat} {L : List (Int × Value)} (h : MapV w o L) : ∀ p ∈ L, (Lit.int .i64 p.1).wf = true := by
  rcases h with ⟨_, rfl⟩ | ⟨_, _, _, _, h⟩
  · exact fun _ hp => by simp at hp
  · exact h.wf
theorem MapV.drewN {w : World} {o : Option Nat} {L : List (Int × Value)} (h : MapV w o L) (n : Nat) : MapV (w.drewN n) o L := h.kept ((Kept.refl (fun _ => False) w).drewN n) (fun _ _ => id)

/-- What is found in a map, nil or not. -/
theorem MapV.look {w : World} {o : Option Nat} {L : List (Int × Value)} (h : MapV w o L) {t e : TypeId} (ht : Tryz.prog.underlying t = some (.map 3 e)) {z : Value} (hz : (zeroValue e).run Tryz.prog w = .ok z w) {k : Int} (hw : (Lit.int .i64 k).wf = true) :
    (Instr.lookup t (.map o) (.int .i64 k) true).run Tryz.prog w = .ok (.tuple #[(M.find k L).getD z, .bool (M.find k L).isSome]) w := by
  have hk : keyOf Tryz.prog 3 (.int .i64 k) = some (.int .i64 k) := keyOf_int_mk Tryz.underlying3 hw
  rcases h with ⟨rfl, rfl⟩ | ⟨b, D, rfl, hown, hD⟩
  · exact Maps.look_nil true key13 ht hz hk
  · obtain ⟨v, ps, hrun, hv⟩ := hown.look_ok key13 ht hz (zd := .held z) (zp := []) rfl hk
    rw [hrun, hD.has k]
    have hv' : (DataW.held v, ([] : List MemPlace)) = (D.atKey (.int .i64 k) (.held z), ps) := Option.some.inj hv
    injection hv' with hv' _
    cases hf : M.find k L with
    | none =>
      have hh := hD.has k
      rw [hf] at hh
      rw [atKey_of_not_has hh] at hv'
      injection hv' with hv'
      rw [hv']
      rfl
    | some x =>
      rw [hD.at_ k x hf] at hv'
      injection hv' with hv'
      rw [hv']
      rfl
/-- The thing at a place that is there. -/
theorem MapV.look1 {w : World} {o : Option Nat} {L : List (Int × Value)} (h : MapV w o L) {t e : TypeId} (ht : Tryz.prog.underlying t = some (.map 3 e)) {z : Value} (hz : (zeroValue e).run Tryz.prog w = .ok z w) {k : Int} {x : Value} (hf : M.find k L = some x) :
    (Instr.lookup t (.map o) (.int .i64 k) false).run Tryz.prog w = .ok x w := by
  rcases h with ⟨rfl, rfl⟩ | ⟨b, D, rfl, hown, hD⟩
  · cases hf
  · have hk : keyOf Tryz.prog 3 (.int .i64 k) = some (.int .i64 k) := keyOf_int_mk Tryz.underlying3 (hD.wf _ (M.find_mem hf))
    obtain ⟨v, ps, hrun, hv⟩ := hown.lookup key13 ht hz (zd := .held z) (zp := []) rfl hk
    rw [hrun]
    have hv' : (DataW.held v, ([] : List MemPlace)) = (D.atKey (.int .i64 k) (.held z), ps) := Option.some.inj hv
    injection hv' with hv' _
    rw [hD.at_ k x hf] at hv'
    injection hv' with hv'
    rw [hv']
/-- How many things a map has, nil or not. -/
theorem MapV.len {w : World} {o : Option Nat} {L : List (Int × Value)} (h : MapV w o L) {t e : TypeId} (ht : Tryz.prog.underlying t = some (.map 3 e)) (ty : TypeId) :
    (Builtin.len_ #[t] ty #[.map o]).run Tryz.prog w = .ok (.int .i64 (L.length : Nat)) w := by
  rcases h with ⟨rfl, rfl⟩ | ⟨b, D, rfl, hown, hD⟩
  · exact Maps.len_nil ht ty
  · rw [hown.len ht ty, hD.size]

/-- A shadow in block b of w: its maps. -/
structure ShAt (T : TypeId) (w : World) (b : Nat) (lo so : Option Nat) (L K : List (Int × Value)) : Prop where
  box : Box w b T #[.map lo, .map so]
  loose : MapV w lo L
  stays : MapV w so K
  lb : ∀ k, lo = some k → k ≠ b
  sb : ∀ k, so = some k → k ≠ b
  ls : ∀ k, lo = some k → so ≠ some k
section
variable {T : TypeId} {w w' : World} {b : Nat} {lo so : Option Nat} {L K : List (Int × Value)}
theorem ShAt.kept {P : Nat → Prop} (h : ShAt T w b lo so L K) (hk : Kept P w w') (hb : ¬ P b) (h1 : ∀ k, lo = some k → ¬ P k) (h2 : ∀ k, so = some k → ¬ P k) : ShAt T w' b lo so L K :=
  ⟨hk.box h.box hb, h.loose.kept hk h1, h.stays.kept hk h2, h.lb, h.sb, h.ls⟩
theorem ShAt.c0 (h : ShAt T w b lo so L K) : w.cell? ⟨b, 0, none⟩ = some (.map lo) := by simpa using h.box.cell 0
theorem ShAt.c1 (h : ShAt T w b lo so L K) : w.cell? ⟨b, 1, none⟩ = some (.map so) := by simpa using h.box.cell 1
/-- The loose ones are stored anew. -/
theorem ShAt.set0 {o : Option Nat} {M : List (Int × Value)} (h : ShAt T w b lo so L K) (hk : Kept (fun k => lo = some k) w w') (hm : MapV w' o M) (hn : ∀ k, o = some k → lo = some k ∨ w.heap.size ≤ k) :
    w'.cell? ⟨b, 0, none⟩ = some (.map lo) ∧ w'.frozen? ⟨b, 0, none⟩ = false ∧ Hid (ShAt T (w'.setCell ⟨b, 0, none⟩ (.map o)) b o so M K ∧ Kept (fun k => k = b ∨ lo = some k) w (w'.setCell ⟨b, 0, none⟩ (.map o))) := by
  have hbl := h.box.lt
  have hB : Box w' b T #[.map lo, .map so] := hk.box h.box (fun e => h.lb b e rfl)
  have hks : Kept (fun k => k = b) w' (w'.setCell ⟨b, 0, none⟩ (.map o)) := Kept.set (P := fun k => k = b) (Kept.refl _ w') (fun _ => rfl) 0 _
  have hne : ∀ k, o = some k → k ≠ b := fun k e => (hn k e).elim (fun e => h.lb k e) (fun e => by omega)
  refine ⟨by simpa using hB.cell 0, hB.frozen 0, ⟨by simpa using hB.set 0 (.map o), hm.kept hks hne, (h.stays.kept hk (fun k e e' => h.ls k e' e)).kept hks (fun k e => h.sb k e), hne, h.sb, fun k e e' => ?_⟩, ?_⟩
  · rcases hn k e with e1 | e1
    · exact h.ls k e1 e'
    · have := h.stays.lt e'; omega
  · exact (hk.mono (fun _ _ e => Or.inr e)).trans (hks.mono (fun _ _ e => Or.inl e))
/-- Those that stay are stored anew. -/
theorem ShAt.set1 {o : Option Nat} {M : List (Int × Value)} (h : ShAt T w b lo so L K) (hk : Kept (fun k => so = some k) w w') (hm : MapV w' o M) (hn : ∀ k, o = some k → so = some k ∨ w.heap.size ≤ k) :
    w'.cell? ⟨b, 1, none⟩ = some (.map so) ∧ w'.frozen? ⟨b, 1, none⟩ = false ∧ Hid (ShAt T (w'.setCell ⟨b, 1, none⟩ (.map o)) b lo o L M ∧ Kept (fun k => k = b ∨ so = some k) w (w'.setCell ⟨b, 1, none⟩ (.map o))) := by
  have hbl := h.box.lt
  have hB : Box w' b T #[.map lo, .map so] := hk.box h.box (fun e => h.sb b e rfl)
  have hks : Kept (fun k => k = b) w' (w'.setCell ⟨b, 1, none⟩ (.map o)) := Kept.set (P := fun k => k = b) (Kept.refl _ w') (fun _ => rfl) 1 _
  have hne : ∀ k, o = some k → k ≠ b := fun k e => (hn k e).elim (fun e => h.sb k e) (fun e => by omega)
  refine ⟨by simpa using hB.cell 1, hB.frozen 1, ⟨by simpa using hB.set 1 (.map o), (h.loose.kept hk (fun k e e' => h.ls k e e')).kept hks (fun k e => h.lb k e), hm.kept hks hne, h.lb, hne, fun k e e' => ?_⟩, ?_⟩
  · rcases hn k e' with e1 | e1
    · exact h.ls k e e1
    · have := h.loose.lt e; omega
  · exact (hk.mono (fun _ _ e => Or.inr e)).trans (hks.mono (fun _ _ e => Or.inl e))
end

/-- A shadow in block b of w; all its blocks are among P. -/
def Sh (T : TypeId) (w : World) (b : Nat) (P : Nat → Prop) (L K : List (Int × Value)) : Prop :=
  ∃ lo so, ShAt T w b lo so L K ∧ P b ∧ (∀ k, lo = some k → P k) ∧ ∀ k, so = some k → P k
section
variable {T : TypeId} {w w' : World} {b : Nat} {P Q : Nat → Prop} {L K : List (Int × Value)}
theorem Sh.kept (h : Sh T w b P L K) (hk : Kept Q w w') (hpq : ∀ k, P k → ¬ Q k) : Sh T w' b P L K := by
  obtain ⟨lo, so, h, p1, p2, p3⟩ := h
  exact ⟨lo, so, h.kept hk (hpq _ p1) (fun k e => hpq _ (p2 k e)) (fun k e => hpq _ (p3 k e)), p1, p2, p3⟩
theorem Sh.mono (h : Sh T w b P L K) (hpq : ∀ k, k < w.heap.size → P k → Q k) : Sh T w b Q L K := by
  obtain ⟨lo, so, h, p1, p2, p3⟩ := h
  exact ⟨lo, so, h, hpq _ h.box.lt p1, fun k e => hpq _ (h.loose.lt e) (p2 k e), fun k e => hpq _ (h.stays.lt e) (p3 k e)⟩
theorem Sh.lt (h : Sh T w b P L K) : b < w.heap.size := let ⟨_, _, h, _⟩ := h; h.box.lt
theorem Sh.drewN (h : Sh T w b P L K) (n : Nat) : Sh T (w.drewN n) b P L K := h.kept ((Kept.refl (fun _ => False) w).drewN n) (fun _ _ => id)
end
def M.plus13 (P : Nat → Prop) (n : Nat) : Nat → Prop := fun k => P k ∨ n ≤ k
end Go.Proofs.YtmgchfjfkdkaoaaGreatDoor
namespace Go.Proofs.YtmgchfjfkdkaoaaGreatDoor
open Go.RowKit

/-- The body of a round goes on; the two blocks of the loop are as they were; I holds. -/
def goesOn13 (B : Nat) (W : World) (I : World → Prop) : Exit → Act → World → Prop
  | .normal, _, W' => W.heap.size ≤ W'.heap.size ∧ W'.heap[B]? = W.heap[B]? ∧ W'.heap[B + 1]? = W.heap[B + 1]? ∧ I W'
  | _, _, _ => False

/-- The record of the loop. -/
def recOf13 (w : World) (a : Act) (fn : FuncId) (ps : Array Tmp) (assign body : Code) (s : LoopState) : Loop :=
  { state := s, pending := none, fn := fn, tmps := a.tmps, params := ps, assign := assign, body := body, defers := w.heap.size }

theorem range_grow {m : Nat} {P : Program} {g : Operand} {ps : Array Tmp} {assign body : Code} {Q : Exit → Act → World → Prop} {a : Act} {w : World} {gf : Nat} {lb : Array Value}
    (hg : a.eval g = .func (.func gf) #[] lb) (eg : ∀ args w, (callFunc gf args).run P w = .ok (.enter gf args) w) (N : Nat) (args : (k : Nat) → k < N → Array Value) (hps : ∀ k hk, (args k hk).size = ps.size)
    (I0 : World → Prop) (I : Nat → World → Nat → World → Prop) (h0 : ∀ o o', I0 ((w.alloc o).alloc o'))
    (hst : ∀ W X, I0 W → w.heap.size + 2 ≤ W.heap.size → Below W.heap.size W X → I W.heap.size X 0 X)
    (hIp : ∀ s X k W l o, I s X k W → w.heap.size ≤ l → l < w.heap.size + 2 → w.heap.size + 2 ≤ s → I s X k (W.putObj l o)) (a₁ : (k : Nat) → k < N → Act)
    (hit : ∀ (l : Nat) (J0 : World → Prop) (J : Nat → World → Nat → World → Prop), (∀ W, J0 W → I0 W) → (∀ W X, J0 W → Below W.heap.size W X → J W.heap.size X 0 X) → (∀ s X k W, J s X k W → I s X k W) →
      (∀ s X k (hk : k < N) W, J s X k W → YieldAt Fence.wide m P l (args k hk) W fun e W' => e = .returned (.bool true) ∧ J s X (k + 1) W') → ∀ W, J0 W →
      CallsIn Fence.wide (m + 2) P gf (#[.func (.yield l) #[] #[]] ++ lb) W fun e W' => (∃ v, e = .returned v) ∧ ∃ s X, J s X N W')
    (hassign : ∀ (l k : Nat) (hk : k < N) (W : World) (K : Act → World → Prop), K (a₁ k hk) W →
      assign.wpIn (Fence.wide.inRound l) m P (Exit.then K (fun _ _ _ => False)) { tmps := (ps.zip (args k hk)).foldl (fun t (p, v) => t.setIfInBounds p v) a.tmps, defers := [] } W)
    (hbody : ∀ (l s : Nat) (X : World) (k : Nat) (hk : k < N) (W : World), w.heap.size + 2 ≤ s → I s X k W → body.wpIn (Fence.wide.inRound l) m P (goesOn13 w.heap.size W (I s X (k + 1))) (a₁ k hk) W)
    (hdone : ∀ (s : Nat) (X W : World), I s X N W → w.heap.size + 2 ≤ s → W.heap[w.heap.size]? = some (.deferred (some [])) → Q .normal { a with defers := { target := .collected w.heap.size, args := #[] } :: a.defers } W) :
    (Code.rangeFunc g ps assign body).wpIn Fence.wide (m + 3) P Q a w := by
  refine wpIn_rangeFunc ?_
  intro fn _
  obtain ⟨R, hRR⟩ : ∃ R, R = recOf13 w a fn ps assign body := ⟨_, rfl⟩
  obtain ⟨W1, hW1⟩ : ∃ W1, W1 = (w.alloc (.deferred (some []))).alloc (.loop (R .ready)) := ⟨_, rfl⟩
  have hl1 : W1.heap[w.heap.size + 1]? = some (.loop (R .ready)) := by
    rw [hW1]
    have := World.alloc_heap_new (w.alloc (.deferred (some []))) (.loop (R .ready))
    rwa [World.size_alloc] at this
  have hd1 : W1.heap[w.heap.size]? = some (.deferred (some [])) := by
    rw [hW1]
    exact (Below.heap_alloc _ _ _ (by simp)).trans (World.alloc_heap_new w _)
  have hi1 : I0 W1 := by rw [hW1]; exact h0 _ _
  refine ⟨w.heap.size + 1, [{ target := .collected w.heap.size, args := #[] }], W1, { target := .fn (.func gf) lb, args := #[.func (.yield (w.heap.size + 1)) #[] #[]] }, W1, gf,
    #[.func (.yield (w.heap.size + 1)) #[] #[]] ++ lb, W1, ?_, ?_, fun _ _ => trivial, ?_, fun h => absurd h (by simp [Fence.wide]), ?_⟩
  · rw [hW1, hRR]
    exact run_enterLoop_outer _ _ _ _ _
  · simp only [resolve, hg]
    simp [go_sem]
  · simp [invoke, go_sem, eg]
  · refine (hit (w.heap.size + 1) (fun W => I0 W ∧ W.heap[w.heap.size + 1]? = some (.loop (R .ready)) ∧ W.heap[w.heap.size]? = some (.deferred (some [])))
      (fun s X k W => I s X k W ∧ W.heap[w.heap.size + 1]? = some (.loop (R .ready)) ∧ W.heap[w.heap.size]? = some (.deferred (some [])) ∧ w.heap.size + 2 ≤ s)
      (fun _ h => h.1) ?_ (fun _ _ _ _ h => h.1) ?_ W1 ⟨hi1, hl1, hd1⟩).mono ?_
    · rintro W X ⟨hi, hl, hd⟩ hb
      have hlt : w.heap.size + 1 < W.heap.size := (Array.getElem?_eq_some_iff.1 hl).1
      exact ⟨hst W X hi (by omega) hb, (hb.block _ hlt).trans hl, (hb.block _ (by omega)).trans hd, by omega⟩
    · rintro s X k hk W ⟨hi, hl, hd, hs⟩
      have hy := run_yield (P := P) (args := args k hk) hl (by rw [hRR]; exact hps k hk)
      rw [hRR] at hy
      refine ⟨fn, _, assign, body, hy, roundIn_of_wpIn trivial (hassign _ k hk W _ ⟨_, run_beginRound hl (by rw [hRR]; rfl), ?_⟩)⟩
      have hlt : w.heap.size + 1 < W.heap.size := (Array.getElem?_eq_some_iff.1 hl).1
      refine wpIn_mono (hbody _ s X k hk _ hs (hIp s X k _ _ _ hi (by omega) (by omega) hs)) ?_
      intro e a3 W3 hp
      cases e with
      | normal =>
        obtain ⟨hz, hk0, hk1, hi3⟩ := hp
        rw [World.putObj_size] at hz
        have hl3 : W3.heap[w.heap.size + 1]? = some (.loop { R .ready with state := .busy }) := hk1.trans (World.putObj_heap_same hlt)
        have hd3 : W3.heap[w.heap.size]? = some (.deferred (some [])) := hk0.trans ((World.putObj_heap_other (by omega)).trans hd)
        refine ⟨_, _, run_endRound (P := P) none hl3, ?_⟩
        refine ⟨rfl, hIp s X _ _ _ _ hi3 (by omega) (by omega) hs, ?_, ?_, hs⟩
        · rw [World.putObj_heap_same (by omega), hRR]
          rfl
        · exact (World.putObj_heap_other (by omega)).trans hd3
      | ret => exact hp.elim
      | exit _ => exact hp.elim
      | goto _ => exact hp.elim
      | panic _ => exact hp.elim
      | outgrown => exact hp.elim
    · rintro e W2 ⟨⟨v, rfl⟩, s, X, hi, hl, hd, hs⟩
      have hend := run_endLoop (P := P) hl (by rw [hRR]; simp [recOf13])
      have hpn : (R .ready).pending = none := by rw [hRR]; rfl
      rw [hpn] at hend
      exact ⟨none, _, hend, hdone s X _ (hIp s X _ _ _ _ hi (by omega) (by omega) hs) hs ((World.putObj_heap_other (by omega)).trans hd)⟩

/-- What an operation comes to outside of all fences it comes to in a round of a loop, too. -/
theorem uponIn_of_upon {l n : Nat} {P : Program} {o : Oper} {a : Act} {K : Act → World → Prop} {Q : Exit → Act → World → Prop} {r : Result Next} (h : o.upon P a K Q r) : o.uponIn (Fence.wide.inRound l) n P a K Q r := by
  cases r with
  | ok x w =>
    cases x with
    | value v => exact h
    | skip => exact h
    | defer d => exact h
    | enter f args =>
      have h' : CallsIn Fence.wide (n - 1) P f args w _ := callsIn_wide.2 h
      exact ⟨fun e => absurd e (by simp [Fence.wide]), h'.1, h'.2⟩
    | row row args => exact ⟨fun e => absurd e (by simp [Fence.wide]), fun c cs _ => let ⟨v, w', r, s⟩ := h c cs; ⟨v, w', r, stepsIn_wide.2 s⟩⟩
    | _ => exact h.elim
  | halt x w =>
    cases x with
    | panic v => exact h
    | _ => exact h.elim
theorem wpOpIn_of_wpOp {l n i : Nat} {P : Program} {ops : Array Oper} {Q : Exit → Act → World → Prop} {K K' : Act → World → Prop} {a : Act} {w : World} (hd : ∀ o, ops[i]? = some o → ∀ c, o.op ≠ .defer c) (hL : ∀ a w, ¬ Q .outgrown a w)
    (hK : ∀ a w, K a w → K' a w) (h : wpOp P ops Q i K a w) : wpOpIn (Fence.wide.inRound l) n P ops Q i K' a w := by
  have h := wpOp_mono hK h
  unfold wpOp at h
  unfold wpOpIn
  cases ho : ops[i]? with
  | none => rw [ho] at h; exact h
  | some o =>
    rw [ho] at h
    simp only at h ⊢
    split
    · rename_i hw
      rw [if_pos hw] at h
      rcases h with h | ⟨_, a₀, w₀, hq⟩
      · refine ⟨fun _ _ => trivial, ?_⟩
        rw [show (Fence.wide.inRound l).round = some l from rfl, Oper.semAt_some l a.eval o (hd o ho)]
        exact uponIn_of_upon h
      · exact absurd hq (hL a₀ w₀)
    · rename_i hw
      rw [if_neg hw] at h
      exact ⟨fun _ _ => trivial, h⟩
theorem wpAnyIn_of_wpAny {l n : Nat} {P : Program} {md : Region.Mode} {ops : Array Oper} {Q : Exit → Act → World → Prop} (hd : ∀ (i : Nat) o, ops[i]? = some o → ∀ c, o.op ≠ .defer c) (hL : ∀ a w, ¬ Q .outgrown a w) :
    ∀ (fuel : Nat) (listed : Array Bool) (a : Act) (w : World), wpAny P md ops Q fuel listed a w → wpAnyIn (Fence.wide.inRound l) n P md ops Q fuel listed a w
  | 0, _, _, _, h => h
  | fuel + 1, _, _, _, h => ⟨h.1, fun i hi => wpOpIn_of_wpOp (hd i) hL (fun a' w' h' => wpAnyIn_of_wpAny hd hL fuel _ a' w' h') (h.2 i hi)⟩
/-- No operation puts a call off. -/
def noDefer (o : Oper) : Bool := match o.op with | .defer _ => false | _ => true
theorem noDefer_all {ops : Array Oper} (h : ops.all noDefer = true) (i : Nat) (o : Oper) (ho : ops[i]? = some o) (c : _) : o.op ≠ .defer c := by
  intro e
  obtain ⟨hi, rfl⟩ := Array.getElem?_eq_some_iff.1 ho
  have := (Array.all_eq_true.1 h) i hi
  simp [noDefer, e] at this
/-- A region that draws its order, in a round of a loop: by the steps that serve outside. -/
theorem region_round {l n id : Nat} {P : Program} {ops : Array Oper} {Q : Exit → Act → World → Prop} {a : Act} {w : World} (S : World → Prop) (hm : P.follows .mixedOrders = true) (hd : ops.all noDefer = true) (hL : ∀ a w, ¬ Q .outgrown a w) (hS : S w.drew)
    (h : S w.drew → wpAnyH P .any ops Q S ops.size (Array.replicate ops.size false) a w.drew) : (Code.region id ops true).wpIn (Fence.wide.inRound l) n P Q a w :=
  wpIn_region_any hm (wpAnyIn_of_wpAny (noDefer_all hd) hL _ _ _ _ (wpAny_of_held _ _ _ _ (h hS)))
end Go.Proofs.YtmgchfjfkdkaoaaGreatDoor
namespace Go.Proofs.YtmgchfjfkdkaoaaGreatDoor.Q
open Go.RowKit Go.Maps Go.Sort
set_option maxRecDepth 100000

theorem info13 : (Tryz.prog.info? 3).map (fun i => (i.zero, i.size, i.bytes)) = some (some (.int .i64 0), 1, 8) := by kernel_rfl

/-- A copy of a map, or nil. -/
theorem clone_any (w : World) {o : Option Nat} {L : List (Int × Value)} (h : MapV w o L) :
    Calls Tryz.prog 135 #[.map o] w fun e w' => ∃ o', e = .returned (.map o') ∧ MapV w' o' L ∧ Below w.heap.size w w' ∧ ∀ k, o' = some k → w.heap.size ≤ k := by
  rcases h with ⟨rfl, rfl⟩ | ⟨b, D, rfl, hown, hD⟩
  · have hq := fun w => run_eql_map_nil_sl (P := Tryz.prog) w 126 _ _ none Tryz.underlying126
    go_enter Tryz.func135, Tryz.ntmps135
    go_wp2_with fail
    go_ret
    exact ⟨none, rfl, MapV.nil _, Below.refl _ _, fun _ e => by cases e⟩
  · have hq := fun w => run_eql_map_nil_sl (P := Tryz.prog) w 126 _ _ (some b) Tryz.underlying126
    have hlt := hown.lt
    obtain ⟨es, clock, hb, F, hs, hDD⟩ := hown
    have HX : Hid (MapV (w.alloc (.map es clock)) (some w.heap.size) L ∧ Below w.heap.size w (w.alloc (.map es clock))) :=
      ⟨Or.inr ⟨_, D, rfl, ⟨es, clock, (MapKept.heap_alloc w _).1, F, hs, hDD⟩, hD⟩, (Below.refl _ w).alloc (Nat.le_refl _) _⟩
    clear F hs hDD hD
    go_enter Tryz.func135, Tryz.ntmps135
    go_wp2_with fail
    rw [run_callFunc_extern Tryz.func152 (by kernel_rfl) (by kernel_rfl) (by kernel_rfl) (e := Extern.MapsClone.clone) (by kernel_rfl), run_maps_clone_sl w 126 hb]
    simp only [Result.andThen]
    rw [Oper.upon_value]
    go_wp2_with fail
    rw [run_typeAssert_map_sl _ 126 20 _ _ _ Tryz.underlying126]
    simp only [Result.andThen]
    rw [Oper.upon_value]
    go_wp2_with fail
    go_ret
    exact ⟨_, rfl, HX.out.1, HX.out.2, fun k e => by cases e; exact Nat.le_refl _⟩

/-- The places of things, in order. -/
def M.ks (L : List (Int × Value)) : List Value := (L.map (·.1)).map (Value.int .i64)
theorem M.ks_len (L : List (Int × Value)) : (M.ks L).length = L.length := by simp [M.ks]
theorem M.ks_at (L : List (Int × Value)) (i : Nat) (hi : i < L.length) : (M.ks L)[i]? = some (.int .i64 (L[i]'hi).1) := by
  simp [M.ks, hi]

set_option maxHeartbeats 2000000 in
theorem places_some (w : World) {b : Nat} {D : DataW Value} {L : List (Int × Value)} (hown : w.ownsMap Tryz.prog 3 M.tok b L.length D) (hD : M.MapHas D L) (hl : L.length ≤ 100000) :
    Calls Tryz.prog 136 #[.map (some b)] w fun e w' => ∃ g cap, e = .returned (.slice (some ⟨g, 0, none⟩) L.length cap) ∧
      w'.ownsRow w.heap.size 3 1 (.slice (some ⟨g, 0, none⟩) L.length cap) L.length (M.ks L) ∧ Below w.heap.size w w' := by
  obtain ⟨i0, hi, hz0, hz1, hz2⟩ := info_parts info13
  have hbl := hown.lt
  have hsz := hD.size
  have hmax : Maps.size D ≤ maxLen := by rw [hsz]; unfold maxLen; omega
  have hl' : Maps.size D ≤ 100000 := by omega
  have HD := Lib.hid hD
  obtain ⟨n, hn⟩ : ∃ n, n = L.length := ⟨_, rfl⟩
  rw [← hn] at hown hsz hl
  rw [← hn]
  have HN := Lib.hid hn
  have HZ := Lib.hid hsz
  clear hD hn hsz
  go_enter Tryz.func136, Tryz.ntmps136
  go_wp2_with (first
    | (at_len; refine wpList_len_own _ rfl _ 126 rfl 3 _ Tryz.underlying126 _ b n _ rfl hown ?_)
    | (at_make; refine wpList_make_own _ rfl _ _ 63 rfl w.heap.size 3 i0 (.int .i64 0) 1 Tryz.underlying63 hi hz0 hz1 _ _ _ (Maps.size D) rfl rfl rfl (by rw [hz2]; omega) hmax (Nat.le_refl _) ?_; intro w1 hrow1 hg1)
    | (at_range; refine wpList_range_own _ rfl _ 126 rfl 3 _ key13 Tryz.underlying126 _ b n _ rfl (hown.kept hg1 (by simp)) ?_; intro w0 hrg0 hg0 hs0)
    | fail)
  go_frame
  go_loopw [3] (fun v wr => ∃ (left : Lit → Bool) (cnt : Nat) (ss : List Int), wr.ranges Tryz.prog 3 M.tok b w1.heap.size n D left cnt ∧ ss.length + cnt ≤ Maps.size D ∧
      wr.ownsRow w.heap.size 3 1 v ss.length (ss.map (Value.int .i64)) ∧ v ≠ .slice none 0 0 ∧ M.Coll D left ss ∧ Below w.heap.size w wr)
    (fun _ wr => wr.rangeLeft b w1.heap.size)
  case atStart =>
    exact ⟨_, _, [], hrg0, by simp, hrow1.kept hg0 (Or.inr (by simp [Value.ownBlock])), by simp, M.Coll.start D,
      ((Below.refl _ _).grown hg1 (Nat.le_refl _) (fun j hj => by cases hj)).grown hg0 hg1.size (fun j hj => by cases hj)⟩
  case round =>
    obtain ⟨left, cnt, ss, hrg, hcs, hrow, hnn, hC, hnx⟩ := hrel
    go_wp2_with (first
      | (at_next; refine wpList_next_ranges _ rfl _ rfl 3 key13 M.tok (Value.int .i64) (fun v : Value => v) (fun key kl hk => by obtain ⟨x, hx, _⟩ := Maps.keyOf_int_inv Tryz.underlying3 hk; exact ⟨x, hx⟩) (fun v y _ => ⟨v, rfl⟩) b w1.heap.size n _ _ _ rfl hrg ?_ ?_)
      | fail)
    · intro hc0 hl0
      rcases hrow.2 with ⟨hnil, _⟩ | ⟨g, cap, cur, rfl, hbase, hb, h1, h2, h3, h4⟩
      · exact absurd hnil hnn
      obtain ⟨d1, d2⟩ := hC.done HD.out hl0
      have hH : Holds (Value.int .i64) wr g 0 ss.toArray := holds_of_blockI hb (by simpa using h4)
      have hgl : g < wr.heap.size := (Array.getElem?_eq_some_iff.1 hb).1
      have hc := Tryz.slices_Sort_int g 0 cap ss wr hH hgl (by omega)
      have e1 : ss.length = n := by rw [d1, HN.out]
      have HR : Hid (∀ nn os, (grow (putRow (Value.int .i64) (Sort.ahead wr nn) g 0 (ss.mergeSort fun x y => decide (x ≤ y)).toArray) os).ownsRow w.heap.size 3 1 (.slice (some ⟨g, 0, none⟩) n cap) n (M.ks L)) := by
        intro nn os
        have := ownsRow_sortedI (n := nn) (os := os) (ts := ss.mergeSort fun x y => decide (x ≤ y)) (by simp) hbase hb h1 h2 h3
        rw [d2, e1] at this
        rw [d2]
        exact this
      have HB : Hid (∀ nn os, Below w.heap.size w (grow (putRow (Value.int .i64) (Sort.ahead wr nn) g 0 (ss.mergeSort fun x y => decide (x ≤ y)).toArray) os)) := fun nn os => hnx.grown (grownBy_sortedI _) hnx.size (fun j hj => by cases hj; exact hbase)
      rw [e1] at hc
      rw [e1]
      clear d1 d2 e1
      go_wp2_with (go_at_call 153; refine hc.mono ?_; rintro e w' ⟨rfl, nn, os, rfl⟩)
      go_ret
      exact ⟨g, cap, rfl, HR.out nn os, HB.out nn os⟩
    · intro x c kl yd yp w2 cnt2 hkey hlk hv hat hrg2 hlt hg2 hs2 hen
      obtain ⟨x', ex, rfl, _⟩ := Maps.keyOf_int_inv Tryz.underlying3 hkey
      obtain rfl : x = x' := by injection ex
      have hrow2 := hrow.kept hg2 (Or.inr (row_ne_iter hrow hrg).symm)
      clear hs2
      go_wp2_with (first
        | (at_builtin; refine wpList_append_own _ rfl _ _ 63 rfl w.heap.size 3 i0 (.int .i64 0) 1 8 Tryz.underlying63 hi hz0 hz1 hz2 rfl (by decide) _ _ _ rfl (hrow2.alloc _) ⟨w2.heap.size, 0, none⟩ 1 1 [.int .i64 x] rfl rfl (cell_one_new _ _ _) (by simp [Value.oneCell']) (by unfold maxLen at *; omega) (by omega) (by have := hnx.size; have := hg2.size; simp; omega) ?_; intro v' w3 hown' hg3 hnil3; go_frame)
        | fail)
      have hrg3 := (hrg2.alloc _).kept hg3 (row_ne_low hrow2 hbl) (row_ne_iter hrow2 hrg2)
      go_roundw
      case rel =>
        refine ⟨_, cnt2, ss ++ [x], hrg3, by simp; omega, by simpa using hown', fun hv' => by have := (hnil3.1 hv').2; omega, hC.step hlk hat, ?_⟩
        exact ((hnx.grown hg2 hnx.size (fun j hj => by cases hj; exact hg1.size)).alloc (by have := hnx.size; have := hg2.size; omega) _).grown hg3 (by have := hnx.size; have := hg2.size; simp; omega) (fun j hj => (hrow2.lt j hj).1)
      case measure => rw [hrg3.left_eq, hrg.left_eq]; exact hlt

set_option maxHeartbeats 1000000 in
theorem places_nil (w : World) :
    Calls Tryz.prog 136 #[.map none] w fun e w' => ∃ g cap, e = .returned (.slice (some ⟨g, 0, none⟩) 0 cap) ∧
      w'.ownsRow w.heap.size 3 1 (.slice (some ⟨g, 0, none⟩) 0 cap) 0 [] ∧ Below w.heap.size w w' := by
  obtain ⟨i0, hi, hz0, hz1, hz2⟩ := info_parts info13
  go_enter Tryz.func136, Tryz.ntmps136
  go_wp2_with (first
    | (at_make; refine wpList_make_own _ rfl _ _ 63 rfl w.heap.size 3 i0 (.int .i64 0) 1 Tryz.underlying63 hi hz0 hz1 _ _ _ 0 rfl rfl rfl (by omega) (Nat.zero_le _) (Nat.le_refl _) ?_; intro w1 hrow1 hg1
       have hrg := run_range_nilMap (P := Tryz.prog) w1 126 3 _ Tryz.underlying126
       have hnx : ∀ ty, (Instr.next (.pointer (some ⟨w1.heap.size, 0, none⟩)) false ty).run Tryz.prog (w1.alloc (.mapIter none 0 #[] 0)) = _ := fun ty => run_next_nilMap _ ty 0 0 #[])
    | fail)
  refine wp_loop_rounds 1 ?_
  rw [rounds_succ]
  have hrow2 := hrow1.alloc (.mapIter none 0 #[] 0)
  rcases hrow2.2 with ⟨hnil, _⟩ | ⟨g, cap, cur, hv, hbase, hb, h1, h2, h3, h4⟩
  · cases hnil
  cases hv
  have hc := Tryz.slices_Sort_int_none (some ⟨w.heap.size, 0, none⟩) 0 (w1.alloc (.mapIter none 0 #[] 0))
  have HX : Hid (Below w.heap.size w (w1.alloc (.mapIter none 0 #[] 0))) := ((Below.refl _ _).grown hg1 (Nat.le_refl _) (fun j hj => by cases hj)).alloc hg1.size _
  have HR := Lib.hid hrow2
  clear hrow2 hrow1 hb h1 h2 h3 h4
  go_wp2_with (go_at_call 153; refine hc.mono ?_; rintro e w' ⟨rfl, rfl⟩)
  go_ret
  exact ⟨_, _, rfl, HR.out, HX.out⟩

theorem places_any (w : World) {o : Option Nat} {L : List (Int × Value)} (h : MapV w o L) (hl : L.length ≤ 100000) :
    Calls Tryz.prog 136 #[.map o] w fun e w' => ∃ g cap, e = .returned (.slice (some ⟨g, 0, none⟩) L.length cap) ∧
      w'.ownsRow w.heap.size 3 1 (.slice (some ⟨g, 0, none⟩) L.length cap) L.length (M.ks L) ∧ Below w.heap.size w w' := by
  rcases h with ⟨rfl, rfl⟩ | ⟨b, D, rfl, hown, hD⟩
  · exact places_nil w
  · exact places_some w hown hD hl
end Go.Proofs.YtmgchfjfkdkaoaaGreatDoor.Q
namespace Go.Proofs.YtmgchfjfkdkaoaaGreatDoor.Q
open Go.RowKit Go.Maps
set_option maxRecDepth 100000

theorem zeroE13 (w : World) : (zeroValue 9).run Tryz.prog w = .ok (.string ⟨#[]⟩) w := by kernel_rfl

set_option maxHeartbeats 1000000 in
theorem with_any (w : World) {o : Option Nat} {L : List (Int × Value)} (h : MapV w o L) (k : Int) (x : Value) (hw : (Lit.int .i64 k).wf = true) (hl : L.length ≤ 100000) :
    Calls Tryz.prog 113 #[.map o, .int .i64 k, x] w fun e w' => ∃ b, e = .returned (.map (some b)) ∧ MapV w' (some b) (M.ins k x L) ∧ Kept (fun j => o = some j) w w' ∧ (o = some b ∨ w.heap.size ≤ b) := by
  have hkey : keyOf Tryz.prog 3 (.int .i64 k) = some (.int .i64 k) := keyOf_int_mk Tryz.underlying3 hw
  have hmm := @run_makeMap Tryz.prog
  rcases h with ⟨rfl, rfl⟩ | ⟨b, D, rfl, hown, hD⟩
  · have hq := fun w => run_eql_map_nil_sl (P := Tryz.prog) w 126 _ _ none Tryz.underlying126
    have HO : Hid ((w.alloc (.map #[] 0)).ownsMap Tryz.prog 3 M.tok w.heap.size 0 (.map [])) := World.ownsMap_made w _ _ _
    have HB : Hid (Kept (fun _ => False) w (w.alloc (.map #[] 0))) := (Kept.refl _ w).alloc _
    go_enter Tryz.func113, Tryz.ntmps113
    go_wp2_with (first
      | (at_mapUpdate
         refine wpList_mapUpdate_own _ rfl _ _ _ 126 rfl 3 _ key13 Tryz.underlying126 M.tok w.heap.size 0 (.map []) rfl HO.out (by decide) _ _ _ rfl rfl hkey (.held x) [] rfl ?_
         intro w1 hown1 hgrow1)
      | fail)
    go_ret
    have hD1 := M.MapHas.nil.put x hw
    refine ⟨_, rfl, Or.inr ⟨_, _, rfl, ?_, hD1⟩, HB.out.grown hgrow1 (fun j e hj => by injection e with e; omega) |>.mono (fun _ _ e => e.elim), Or.inr (Nat.le_refl _)⟩
    have := owns_tight hown1
    rwa [hD1.size] at this
  · have hq := fun w => run_eql_map_nil_sl (P := Tryz.prog) w 126 _ _ (some b) Tryz.underlying126
    have HO := Lib.hid hown
    have HM : Hid (L.length < maxLen) := by unfold maxLen; show L.length < _; omega
    obtain ⟨n, hn⟩ : ∃ n, n = L.length := ⟨_, rfl⟩
    rw [← hn] at HO HM
    clear hown hl hn
    go_enter Tryz.func113, Tryz.ntmps113
    go_wp2_with (first
      | (at_mapUpdate
         refine wpList_mapUpdate_own _ rfl _ _ _ 126 rfl 3 _ key13 Tryz.underlying126 M.tok b n D rfl HO.out HM.out _ _ _ rfl rfl hkey (.held x) [] rfl ?_
         intro w1 hown1 hgrow1)
      | fail)
    go_ret
    have hD1 := hD.put x hw
    refine ⟨_, rfl, Or.inr ⟨_, _, rfl, ?_, hD1⟩, (Kept.refl _ w).grown hgrow1 (fun j e _ => e), Or.inl rfl⟩
    have := owns_tight hown1
    rwa [hD1.size] at this

theorem new13_any (w : World) : Calls Tryz.prog 39 #[] w fun e w' => e = .returned (.pointer (some ⟨w.heap.size, 0, none⟩)) ∧ Sh 128 w' w.heap.size (fun k => w.heap.size ≤ k) [] [] ∧ Below w.heap.size w w' := by
  have HX : Hid (Sh 128 (w.alloc (.cells #[.map none, .map none] 128)) w.heap.size (fun k => w.heap.size ≤ k) [] [] ∧ Below w.heap.size w (w.alloc (.cells #[.map none, .map none] 128))) :=
    ⟨⟨none, none, ⟨Box.new _ _ _, MapV.nil _, MapV.nil _, fun _ e => (by cases e), fun _ e => (by cases e), fun _ e => (by cases e)⟩, Nat.le_refl _, fun _ e => (by cases e), fun _ e => (by cases e)⟩, (Below.refl _ w).alloc (Nat.le_refl _) _⟩
  go_enter Tryz.func39, Tryz.ntmps39
  go_wp2_with fail
  go_ret
  exact ⟨rfl, HX.out⟩

section
variable {b : Nat} {P : Nat → Prop} {L K : List (Int × Value)}
set_option maxHeartbeats 1000000 in
theorem put13_any (w : World) (h : Sh 128 w b P L K) (k : Int) (x : Value) (hw : (Lit.int .i64 k).wf = true) (hl : L.length ≤ 100000) :
    Calls Tryz.prog 82 #[.pointer (some ⟨b, 0, none⟩), .int .i64 k, x] w fun e w' => e = .returned (.tuple #[]) ∧ Sh 128 w' b (M.plus13 P w.heap.size) (M.ins k x L) K ∧ Kept P w w' := by
  obtain ⟨lo, so, h, p1, p2, p3⟩ := h
  have c0 := h.c0
  have HW := Lib.hid (with_any w h.loose k x hw hl)
  have HS := Lib.hid (fun w' (o : Option Nat) M h1 h2 h3 => h.set0 (w' := w') (o := o) (M := M) h1 h2 h3)
  clear h
  go_enter Tryz.func82, Tryz.ntmps82
  go_wp2_with fail
  refine HW.out.mono ?_
  rintro e w1 ⟨o, rfl, hm, hk, ho⟩
  obtain ⟨y0, y1, HY⟩ := HS.out w1 (some o) _ hk hm (fun j e => by injection e with e; subst e; exact ho)
  have HO := Lib.hid ho
  clear hm hk ho c0 HW HS
  go_wp2_with fail
  go_end0
  exact ⟨rfl, ⟨_, _, HY.out.1, Or.inl p1, fun j e => by injection e with e; subst e; exact HO.out.imp (fun e => p2 _ e) id, fun j e => Or.inl (p3 j e)⟩, HY.out.2.mono (fun j _ e => e.elim (fun e => by rw [e]; exact p1) (fun e => p2 j e))⟩

set_option maxHeartbeats 1000000 in
theorem get13_any (w : World) (h : Sh 128 w b P L K) (k : Int) (hw : (Lit.int .i64 k).wf = true) :
    Calls Tryz.prog 83 #[.pointer (some ⟨b, 0, none⟩), .int .i64 k] w fun e w' => e = .returned (.tuple #[(M.get13 k L K).getD (.string ⟨#[]⟩), .bool (M.get13 k L K).isSome]) ∧ w' = w := by
  obtain ⟨lo, so, h, -⟩ := h
  have c0 := h.c0
  have c1 := h.c1
  have l0 := h.loose.look Tryz.underlying126 (zeroE13 w) hw
  have l1 := h.stays.look Tryz.underlying126 (zeroE13 w) hw
  unfold M.get13
  clear h
  cases hf : M.find k L with
  | some x =>
    rw [hf] at l0
    simp only [Option.getD_some, Option.isSome_some, Option.some_or] at l0 ⊢
    clear l1 hf
    go_enter Tryz.func83, Tryz.ntmps83
    go_wp2_with fail
    go_ret2
    exact ⟨rfl, rfl⟩
  | none =>
    rw [hf] at l0
    simp only [Option.getD_none, Option.isSome_none, Option.none_or] at l0 ⊢
    obtain ⟨y, hy⟩ : ∃ y, y = (M.find k K).getD (.string ⟨#[]⟩) := ⟨_, rfl⟩
    obtain ⟨i, hi⟩ : ∃ i, i = (M.find k K).isSome := ⟨_, rfl⟩
    rw [← hy, ← hi] at l1
    rw [← hy, ← hi]
    clear hf hy hi
    go_enter Tryz.func83, Tryz.ntmps83
    go_wp2_with fail
    go_ret2
    exact ⟨rfl, rfl⟩

theorem loose_any (w : World) (h : Sh 128 w b P L K) :
    Calls Tryz.prog 59 #[.pointer (some ⟨b, 0, none⟩)] w fun e w' => e = .returned (.int .i64 (L.length : Nat)) ∧ w' = w := by
  obtain ⟨lo, so, h, -⟩ := h
  have c0 := h.c0
  have l0 := fun ty => h.loose.len Tryz.underlying126 ty
  clear h
  go_enter Tryz.func59, Tryz.ntmps59
  go_wp2_with fail
  go_ret
  exact ⟨rfl, rfl⟩

theorem fresh_any (p : Option Addr) (w : World) :
    Calls Tryz.prog 95 #[.pointer p] w fun e w' => e = .returned (.func (.func 131) #[] #[.pointer (some ⟨w.heap.size, 0, none⟩)]) ∧ w' = w.alloc (.cells #[.pointer p] 60) := by
  go_enter Tryz.func95, Tryz.ntmps95
  go_wp2_with fail
  go_ret
  exact ⟨rfl, rfl⟩
end
end Go.Proofs.YtmgchfjfkdkaoaaGreatDoor.Q
namespace Go.Proofs.YtmgchfjfkdkaoaaGreatDoor.Q
open Go.RowKit Go.Maps
set_option maxRecDepth 100000
section
variable {b : Nat} {P : Nat → Prop} {L K : List (Int × Value)}
theorem clear_any (w : World) (h : Sh 128 w b P L K) :
    Calls Tryz.prog 63 #[.pointer (some ⟨b, 0, none⟩)] w fun e w' => e = .returned (.tuple #[]) ∧ Sh 128 w' b P L [] ∧ Kept P w w' := by
  obtain ⟨lo, so, h, p1, p2, p3⟩ := h
  have c1 := h.c1
  obtain ⟨-, f1, HY⟩ := h.set1 (o := none) (M := []) (Kept.refl _ w) (MapV.nil w) (fun _ e => by cases e)
  clear h
  go_enter Tryz.func63, Tryz.ntmps63
  go_wp2_with fail
  go_end0
  exact ⟨rfl, ⟨_, _, HY.out.1, p1, p2, fun _ e => (by cases e)⟩, HY.out.2.mono (fun j _ e => e.elim (fun e => by rw [e]; exact p1) (fun e => p3 j e))⟩
end
theorem kept_any (p : Option Addr) (w : World) :
    Calls Tryz.prog 62 #[.pointer p] w fun e w' => e = .returned (.func (.func 99) #[] #[.pointer (some ⟨w.heap.size, 0, none⟩)]) ∧ w' = w.alloc (.cells #[.pointer p] 60) := by
  go_enter Tryz.func62, Tryz.ntmps62
  go_wp2_with fail
  go_ret
  exact ⟨rfl, rfl⟩
theorem put13_nil (k : Int) (x : Value) (w : World) : Calls Tryz.prog 82 #[.pointer none, .int .i64 k, x] w fun e w' => e = .returned (.tuple #[]) ∧ w' = w := by
  go_enter Tryz.func82, Tryz.ntmps82
  go_wp2_with fail
  go_end0
  exact ⟨rfl, rfl⟩
theorem get13_nil (k : Int) (w : World) : Calls Tryz.prog 83 #[.pointer none, .int .i64 k] w fun e w' => e = .returned (.tuple #[.string ⟨#[]⟩, .bool false]) ∧ w' = w := by
  go_enter Tryz.func83, Tryz.ntmps83
  go_wp2_with fail
  go_ret2
  exact ⟨rfl, rfl⟩
theorem loose_nil (w : World) : Calls Tryz.prog 59 #[.pointer none] w fun e w' => e = .returned (.int .i64 0) ∧ w' = w := by
  go_enter Tryz.func59, Tryz.ntmps59
  go_wp2_with fail
  go_ret
  exact ⟨rfl, rfl⟩
theorem clear_nil (w : World) : Calls Tryz.prog 63 #[.pointer none] w fun e w' => e = .returned (.tuple #[]) ∧ w' = w := by
  go_enter Tryz.func63, Tryz.ntmps63
  go_wp2_with fail
  go_end0
  exact ⟨rfl, rfl⟩
theorem keep_nil (w : World) : Calls Tryz.prog 97 #[.pointer none] w fun e w' => e = .returned (.tuple #[]) ∧ Below w.heap.size w w' := by
  have HX : Hid (Below w.heap.size w (w.alloc (.cells #[.pointer none] 60))) := (Below.refl _ w).alloc (Nat.le_refl _) _
  go_enter Tryz.func97, Tryz.ntmps97
  go_wp2_with fail
  exact bodyPost_ret (results_none rfl _ _ _) rfl ⟨rfl, HX.out⟩
theorem fresh1_nil (sb : Nat) (f : Nat) (cap : Array Value) (w : World) (hc : w.cell? ⟨sb, 0, none⟩ = some (.pointer none)) : Calls Tryz.prog 131 #[.func (.func f) #[] cap, .pointer (some ⟨sb, 0, none⟩)] w fun e w' => e = .returned (.tuple #[]) ∧ w' = w := by
  go_enter Tryz.func131, Tryz.ntmps131
  go_wp2_with fail
  go_end0
  exact ⟨rfl, rfl⟩
theorem kept1_nil (sb : Nat) (f : Nat) (cap : Array Value) (w : World) (hc : w.cell? ⟨sb, 0, none⟩ = some (.pointer none)) : Calls Tryz.prog 99 #[.func (.func f) #[] cap, .pointer (some ⟨sb, 0, none⟩)] w fun e w' => e = .returned (.tuple #[]) ∧ w' = w := by
  go_enter Tryz.func99, Tryz.ntmps99
  go_wp2_with fail
  go_end0
  exact ⟨rfl, rfl⟩
end Go.Proofs.YtmgchfjfkdkaoaaGreatDoor.Q
