/-
  Maps from places to things in memory, as lists in rising order; shadows in memory. No function of the program in this text.
-/
import Derived.Test.YtfklbinccpdnmaaKept
import Derived.Test.YtfklbinccpdnmaaZMath
import Derived.Maps.OwnOps
import Derived.Maps.OwnSet
import Derived.BigQuiet
import Derived.Deep.QuietTactic
import Derived.Handy
namespace Go.Proofs.Ytfklbinccpdnmaa
open Go.RowKit Go.Maps

theorem key13 : Keyed Try.prog 3 := int_keyed Try.underlying3

theorem owns_tight {w : World} {b n : Nat} {D : DataW Value} (h : w.ownsMap Try.prog 3 M.tok b n D) : w.ownsMap Try.prog 3 M.tok b (Maps.size D) D := by
  obtain ⟨es, clock, hb, F, hs, hD⟩ := h
  refine ⟨es, clock, hb, F, ?_, hD⟩
  rw [hD]
  simp [Maps.size, length_sorted]
theorem Kept.owned {P : Nat → Prop} {w w' : World} (hk : Kept P w w') {b n : Nat} {D : DataW Value} (h : w.ownsMap Try.prog 3 M.tok b n D) (hp : ¬ P b) : w'.ownsMap Try.prog 3 M.tok b n D := by
  have hlt := h.lt
  obtain ⟨es, clock, hb, F, hs, hD⟩ := h
  exact ⟨es, clock, (hk.block b hlt hp).trans hb, F, hs, hD⟩

/-- A map, nil or not, that holds these things. -/
def MapV (w : World) (o : Option Nat) (L : List (Int × Value)) : Prop :=
  (o = none ∧ L = []) ∨ ∃ b D, o = some b ∧ w.ownsMap Try.prog 3 M.tok b L.length D ∧ M.MapHas D L
theorem MapV.kept {P : Nat → Prop} {w w' : World} {o : Option Nat} {L : List (Int × Value)} (h : MapV w o L) (hk : Kept P w w') (hp : ∀ k, o = some k → ¬ P k) : MapV w' o L :=
  h.imp id (fun ⟨b, D, e, h1, h2⟩ => ⟨b, D, e, hk.owned h1 (hp b e), h2⟩)
theorem MapV.lt {w : World} {o : Option Nat} {L : List (Int × Value)} (h : MapV w o L) {k : Nat} (e : o = some k) : k < w.heap.size := by
  rcases h with ⟨h, _⟩ | ⟨b, D, h, h1, _⟩
  · rw [h] at e; cases e
  · rw [h] at e; cases e; exact h1.lt
theorem MapV.nil (w : World) : MapV w none [] := Or.inl ⟨rfl, rfl⟩
theorem MapV.up {w : World} {o : Option Nat} {L : List (Int × Value)} (h : MapV w o L) : M.Rising L := by
  rcases h with ⟨_, rfl⟩ | ⟨_, _, _, _, h⟩
  · exact List.Pairwise.nil
  · exact h.up
theorem MapV.wf {w : World} {o : Option Nat} {L : List (Int × Value)} (h : MapV w o L) : ∀ p ∈ L, (Lit.int .i64 p.1).wf = true := by
  rcases h with ⟨_, rfl⟩ | ⟨_, _, _, _, h⟩
  · exact fun _ hp => by simp at hp
  · exact h.wf
theorem MapV.drewN {w : World} {o : Option Nat} {L : List (Int × Value)} (h : MapV w o L) (n : Nat) : MapV (w.drewN n) o L := h.kept ((Kept.refl (fun _ => False) w).drewN n) (fun _ _ => id)

/-- What is found in a map, nil or not. -/
theorem MapV.look {w : World} {o : Option Nat} {L : List (Int × Value)} (h : MapV w o L) {t e : TypeId} (ht : Try.prog.underlying t = some (.map 3 e)) {z : Value} (hz : (zeroValue e).run Try.prog w = .ok z w) {k : Int} (hw : (Lit.int .i64 k).wf = true) :
    (Instr.lookup t (.map o) (.int .i64 k) true).run Try.prog w = .ok (.tuple #[(M.find k L).getD z, .bool (M.find k L).isSome]) w := by
  have hk : keyOf Try.prog 3 (.int .i64 k) = some (.int .i64 k) := keyOf_int_mk Try.underlying3 hw
  rcases h with ⟨rfl, rfl⟩ | ⟨b, D, rfl, hown, hD⟩
  · exact Maps.look_nil true key13 ht hz hk
  · obtain ⟨v, ps, hrun, hv⟩ := hown.look_ok key13 ht hz (zd := .held z) (zp := []) rfl hk
    rw [hrun, hD.has k]
    have hv' : (DataW.held v, ([] : List MemPlace)) = (D.atKey (.int .i64 k) (.held z), ps) := Option.some.inj hv
    injection hv' with hv' _
    cases hf : M.find k L with
    | none =>
      have hh := hD.has k
      rw [hf] at hh
      rw [atKey_of_not_has hh] at hv'
      injection hv' with hv'
      rw [hv']
      rfl
    | some x =>
      rw [hD.at_ k x hf] at hv'
      injection hv' with hv'
      rw [hv']
      rfl
/-- The thing at a place that is there. -/
theorem MapV.look1 {w : World} {o : Option Nat} {L : List (Int × Value)} (h : MapV w o L) {t e : TypeId} (ht : Try.prog.underlying t = some (.map 3 e)) {z : Value} (hz : (zeroValue e).run Try.prog w = .ok z w) {k : Int} {x : Value} (hf : M.find k L = some x) :
    (Instr.lookup t (.map o) (.int .i64 k) false).run Try.prog w = .ok x w := by
  rcases h with ⟨rfl, rfl⟩ | ⟨b, D, rfl, hown, hD⟩
  · cases hf
  · have hk : keyOf Try.prog 3 (.int .i64 k) = some (.int .i64 k) := keyOf_int_mk Try.underlying3 (hD.wf _ (M.find_mem hf))
    obtain ⟨v, ps, hrun, hv⟩ := hown.lookup key13 ht hz (zd := .held z) (zp := []) rfl hk
    rw [hrun]
    have hv' : (DataW.held v, ([] : List MemPlace)) = (D.atKey (.int .i64 k) (.held z), ps) := Option.some.inj hv
    injection hv' with hv' _
    rw [hD.at_ k x hf] at hv'
    injection hv' with hv'
    rw [hv']
/-- How many things a map has, nil or not. -/
theorem MapV.len {w : World} {o : Option Nat} {L : List (Int × Value)} (h : MapV w o L) {t e : TypeId} (ht : Try.prog.underlying t = some (.map 3 e)) (ty : TypeId) :
    (Builtin.len_ #[t] ty #[.map o]).run Try.prog w = .ok (.int .i64 (L.length : Nat)) w := by
  rcases h with ⟨rfl, rfl⟩ | ⟨b, D, rfl, hown, hD⟩
  · exact Maps.len_nil ht ty
  · rw [hown.len ht ty, hD.size]

/-- A shadow in block b of w: its maps. -/
structure ShAt (T : TypeId) (w : World) (b : Nat) (lo so : Option Nat) (L K : List (Int × Value)) : Prop where
  box : Box w b T #[.map lo, .map so]
  loose : MapV w lo L
  stays : MapV w so K
  lb : ∀ k, lo = some k → k ≠ b
  sb : ∀ k, so = some k → k ≠ b
  ls : ∀ k, lo = some k → so ≠ some k
section
variable {T : TypeId} {w w' : World} {b : Nat} {lo so : Option Nat} {L K : List (Int × Value)}
theorem ShAt.kept {P : Nat → Prop} (h : ShAt T w b lo so L K) (hk : Kept P w w') (hb : ¬ P b) (h1 : ∀ k, lo = some k → ¬ P k) (h2 : ∀ k, so = some k → ¬ P k) : ShAt T w' b lo so L K :=
  ⟨hk.box h.box hb, h.loose.kept hk h1, h.stays.kept hk h2, h.lb, h.sb, h.ls⟩
theorem ShAt.c0 (h : ShAt T w b lo so L K) : w.cell? ⟨b, 0, none⟩ = some (.map lo) := by simpa using h.box.cell 0
theorem ShAt.c1 (h : ShAt T w b lo so L K) : w.cell? ⟨b, 1, none⟩ = some (.map so) := by simpa using h.box.cell 1
/-- The loose ones are stored anew. -/
theorem ShAt.set0 {o : Option Nat} {M : List (Int × Value)} (h : ShAt T w b lo so L K) (hk : Kept (fun k => lo = some k) w w') (hm : MapV w' o M) (hn : ∀ k, o = some k → lo = some k ∨ w.heap.size ≤ k) :
    w'.cell? ⟨b, 0, none⟩ = some (.map lo) ∧ w'.frozen? ⟨b, 0, none⟩ = false ∧ Hid (ShAt T (w'.setCell ⟨b, 0, none⟩ (.map o)) b o so M K ∧ Kept (fun k => k = b ∨ lo = some k) w (w'.setCell ⟨b, 0, none⟩ (.map o))) := by
  have hbl := h.box.lt
  have hB : Box w' b T #[.map lo, .map so] := hk.box h.box (fun e => h.lb b e rfl)
  have hks : Kept (fun k => k = b) w' (w'.setCell ⟨b, 0, none⟩ (.map o)) := Kept.set (P := fun k => k = b) (Kept.refl _ w') (fun _ => rfl) 0 _
  have hne : ∀ k, o = some k → k ≠ b := fun k e => (hn k e).elim (fun e => h.lb k e) (fun e => by omega)
  refine ⟨by simpa using hB.cell 0, hB.frozen 0, ⟨by simpa using hB.set 0 (.map o), hm.kept hks hne, (h.stays.kept hk (fun k e e' => h.ls k e' e)).kept hks (fun k e => h.sb k e), hne, h.sb, fun k e e' => ?_⟩, ?_⟩
  · rcases hn k e with e1 | e1
    · exact h.ls k e1 e'
    · have := h.stays.lt e'; omega
  · exact (hk.mono (fun _ _ e => Or.inr e)).trans (hks.mono (fun _ _ e => Or.inl e))
/-- Those that stay are stored anew. -/
theorem ShAt.set1 {o : Option Nat} {M : List (Int × Value)} (h : ShAt T w b lo so L K) (hk : Kept (fun k => so = some k) w w') (hm : MapV w' o M) (hn : ∀ k, o = some k → so = some k ∨ w.heap.size ≤ k) :
    w'.cell? ⟨b, 1, none⟩ = some (.map so) ∧ w'.frozen? ⟨b, 1, none⟩ = false ∧ Hid (ShAt T (w'.setCell ⟨b, 1, none⟩ (.map o)) b lo o L M ∧ Kept (fun k => k = b ∨ so = some k) w (w'.setCell ⟨b, 1, none⟩ (.map o))) := by
  have hbl := h.box.lt
  have hB : Box w' b T #[.map lo, .map so] := hk.box h.box (fun e => h.sb b e rfl)
  have hks : Kept (fun k => k = b) w' (w'.setCell ⟨b, 1, none⟩ (.map o)) := Kept.set (P := fun k => k = b) (Kept.refl _ w') (fun _ => rfl) 1 _
  have hne : ∀ k, o = some k → k ≠ b := fun k e => (hn k e).elim (fun e => h.sb k e) (fun e => by omega)
  refine ⟨by simpa using hB.cell 1, hB.frozen 1, ⟨by simpa using hB.set 1 (.map o), (h.loose.kept hk (fun k e e' => h.ls k e e')).kept hks (fun k e => h.lb k e), hm.kept hks hne, h.lb, hne, fun k e e' => ?_⟩, ?_⟩
  · rcases hn k e' with e1 | e1
    · exact h.ls k e e1
    · have := h.loose.lt e; omega
  · exact (hk.mono (fun _ _ e => Or.inr e)).trans (hks.mono (fun _ _ e => Or.inl e))
end

/-- A shadow in block b of w; all its blocks are among P. -/
def Sh (T : TypeId) (w : World) (b : Nat) (P : Nat → Prop) (L K : List (Int × Value)) : Prop :=
  ∃ lo so, ShAt T w b lo so L K ∧ P b ∧ (∀ k, lo = some k → P k) ∧ ∀ k, so = some k → P k
section
variable {T : TypeId} {w w' : World} {b : Nat} {P Q : Nat → Prop} {L K : List (Int × Value)}
theorem Sh.kept (h : Sh T w b P L K) (hk : Kept Q w w') (hpq : ∀ k, P k → ¬ Q k) : Sh T w' b P L K := by
  obtain ⟨lo, so, h, p1, p2, p3⟩ := h
  exact ⟨lo, so, h.kept hk (hpq _ p1) (fun k e => hpq _ (p2 k e)) (fun k e => hpq _ (p3 k e)), p1, p2, p3⟩
theorem Sh.mono (h : Sh T w b P L K) (hpq : ∀ k, k < w.heap.size → P k → Q k) : Sh T w b Q L K := by
  obtain ⟨lo, so, h, p1, p2, p3⟩ := h
  exact ⟨lo, so, h, hpq _ h.box.lt p1, fun k e => hpq _ (h.loose.lt e) (p2 k e), fun k e => hpq _ (h.stays.lt e) (p3 k e)⟩
theorem Sh.lt (h : Sh T w b P L K) : b < w.heap.size := let ⟨_, _, h, _⟩ := h; h.box.lt
theorem Sh.drewN (h : Sh T w b P L K) (n : Nat) : Sh T (w.drewN n) b P L K := h.kept ((Kept.refl (fun _ => False) w).drewN n) (fun _ _ => id)
end
def M.plus13 (P : Nat → Prop) (n : Nat) : Nat → Prop := fun k => P k ∨ n ≤ k
end Go.Proofs.Ytfklbinccpdnmaa
