/-
  What is kept of a world, where calls write some blocks; a function value is not nil. No function of the program in this text.
-/
import Derived.Test.YtoljggleekbbbaaBox
import Derived.Deep.LoopGhost
namespace Go.Proofs.Ytoljggleekbbbaa
open Go.RowKit

/-- Of w all is kept in w' but the blocks of which P speaks. -/
structure Kept (P : Nat → Prop) (w w' : World) : Prop where
  os : w'.os = w.os
  tape : w'.tape = w.tape
  output : w'.output = w.output
  size : w.heap.size ≤ w'.heap.size
  block : ∀ k, k < w.heap.size → ¬ P k → w'.heap[k]? = w.heap[k]?
theorem Kept.refl (P : Nat → Prop) (w : World) : Kept P w w := ⟨rfl, rfl, rfl, Nat.le_refl _, fun _ _ _ => rfl⟩
theorem Kept.trans {P : Nat → Prop} {a b c : World} (h : Kept P a b) (k : Kept P b c) : Kept P a c :=
  ⟨k.os.trans h.os, k.tape.trans h.tape, k.output.trans h.output, Nat.le_trans h.size k.size, fun i hi hp => (k.block i (Nat.lt_of_lt_of_le hi h.size) hp).trans (h.block i hi hp)⟩
theorem Kept.mono {P Q : Nat → Prop} {a b : World} (h : Kept P a b) (hq : ∀ k, k < a.heap.size → P k → Q k) : Kept Q a b :=
  ⟨h.os, h.tape, h.output, h.size, fun i hi hp => h.block i hi (fun e => hp (hq i hi e))⟩
/-- Two steps; what the second one turns is new, or turned by the first. -/
theorem Kept.next {P Q : Nat → Prop} {a b c : World} (h : Kept P a b) (k : Kept Q b c) (hq : ∀ i, i < a.heap.size → Q i → P i) : Kept P a c :=
  ⟨k.os.trans h.os, k.tape.trans h.tape, k.output.trans h.output, Nat.le_trans h.size k.size, fun i hi hp => (k.block i (Nat.lt_of_lt_of_le hi h.size) (fun e => hp (hq i hi e))).trans (h.block i hi hp)⟩
theorem Kept.drewN {P : Nat → Prop} {a b : World} (h : Kept P a b) (n : Nat) : Kept P a (b.drewN n) := ⟨h.os, h.tape, h.output, h.size, h.block⟩
theorem Kept.drew {P : Nat → Prop} {a b : World} (h : Kept P a b) : Kept P a b.drew := ⟨h.os, h.tape, h.output, h.size, h.block⟩
theorem Kept.set {P : Nat → Prop} {a b : World} (h : Kept P a b) {g : Nat} (hg : g < a.heap.size → P g) (i : Nat) (u : Value) : Kept P a (b.setCell ⟨g, i, none⟩ u) :=
  ⟨h.os, h.tape, h.output, by simpa [World.setCell] using h.size, fun k hk hp => (Below.heap_setCell b ⟨g, i, none⟩ u k (fun e => hp (by simp only at e; subst e; exact hg hk))).trans (h.block k hk hp)⟩
theorem Kept.alloc {P : Nat → Prop} {a b : World} (h : Kept P a b) (o : Obj) : Kept P a (b.alloc o) :=
  ⟨h.os, h.tape, h.output, by have := h.size; simp; omega, fun k hk hp => (Below.heap_alloc b o k (Nat.lt_of_lt_of_le hk h.size)).trans (h.block k hk hp)⟩
theorem Kept.grown {P : Nat → Prop} {a b c : World} {row : Option Nat} (h : Kept P a b) (hg : b.grownBy c row) (hr : ∀ k, row = some k → k < a.heap.size → P k) : Kept P a c :=
  ⟨hg.os.trans h.os, hg.tape.trans h.tape, hg.output.trans h.output, Nat.le_trans h.size hg.size, fun k hk hp =>
    (hg.block k (Nat.lt_of_lt_of_le hk h.size) (fun e => hp (hr k e.symm hk))).trans (h.block k hk hp)⟩
theorem Kept.below {P : Nat → Prop} {a b : World} (h : Kept P a b) {B : Nat} (hB : B ≤ a.heap.size) (hp : ∀ k, k < B → ¬ P k) : Below B a b :=
  ⟨h.os, h.tape, h.output, h.size, fun k hk => h.block k (Nat.lt_of_lt_of_le hk hB) (hp k hk)⟩
theorem Kept.of_below {w w' : World} (h : Below w.heap.size w w') (P : Nat → Prop) : Kept P w w' := ⟨h.os, h.tape, h.output, h.size, fun k hk _ => h.block k hk⟩
theorem Kept.box {P : Nat → Prop} {w w' : World} (h : Kept P w w') {g : Nat} {t : TypeId} {cs : Array Value} (hB : Box w g t cs) (hp : ¬ P g) : Box w' g t cs :=
  (h.block g hB.lt hp).trans hB
theorem Kept.cell {P : Nat → Prop} {w w' : World} (h : Kept P w w') {p : Addr} {v : Value} (hc : w.cell? p = some v) (hp : ¬ P p.block) : w'.cell? p = some v :=
  (World.cell?_of_block (h.block p.block (World.block_lt_of_cell? w _ hc) hp)).trans hc
theorem cell_set_other {w : World} {g i : Nat} {u : Value} {p : Addr} (h : p.block ≠ g) : (w.setCell ⟨g, i, none⟩ u).cell? p = w.cell? p := World.cell?_of_block (Below.heap_setCell w ⟨g, i, none⟩ u p.block h)

theorem quiet_more {P : Program} {f : FuncId} {args : Array Value} {w : World} {n : Nat} {v : Value}
    (h : Calls P f args (w.drewN n) fun e w' => e = .returned v ∧ ∃ m, w' = (w.drewN n).drewN m) : Calls P f args (w.drewN n) fun e w'' => e = .returned v ∧ ∃ m, w'' = w.drewN m :=
  h.mono fun _ _ ⟨he, m, hm⟩ => ⟨he, n + m, by rw [hm]; simp [World.drewN, Nat.add_assoc]⟩

theorem quiet_same {P : Program} {f : FuncId} {args : Array Value} {w : World} {n : Nat} {v : Value}
    (h : Calls P f args (w.drewN n) fun e w' => e = .returned v ∧ w' = w.drewN n) : Calls P f args (w.drewN n) fun e w'' => e = .returned v ∧ ∃ m, w'' = w.drewN m :=
  h.mono fun _ _ ⟨he, hm⟩ => ⟨he, n, hm⟩
theorem equalIn_fn {P : Program} (w : World) (d : Nat) (t : TypeId) {ps rs : Array TypeId} {v : Bool} (f : Fn) (a b : Array Value) (h : P.underlying t = some (.func ps rs v)) : (Op.equalIn (d + 1) t (.func f a b) .nilFunc).run P w = .ok false w := by
  simp [Op.equalIn, run_underlying h]
theorem eql_fn {P : Program} (w : World) (t : TypeId) {ps rs : Array TypeId} {v : Bool} (f : Fn) (a b : Array Value) (h : P.underlying t = some (.func ps rs v)) : (binOp .eql t (.func f a b) .nilFunc).run P w = .ok (.bool false) w := by
  have e : (Op.equal t (.func f a b) .nilFunc).run P w = .ok false w := equalIn_fn w 9999 t f a b h
  simp [binOp, e]
end Go.Proofs.Ytoljggleekbbbaa
