/-
  Blocks of the heap, known whole, and what is kept of them; no function of the program in this text. What is kept of a world, where calls write some blocks; a function value is not nil. No function of the program in this text. Plain mathematics for layer 3 (cyclic): the division of bytes, bit by bit; that it is linear and turns no two numbers into one. No program in this text. Plain mathematics for layer 2 (field): a number's bytes, highest ahead; the number that bytes are; what a reader's state comes to. No program in this text. Plain mathematics for layer 4 (seal): bytes of a kind with their tail behind; what stands in any bytes; that each of both turns the other one back. No program in this text. Sectors, writes that wait, and what survives: the mathematics of layer 8. No function of the program in this text. string(make([]byte, n)): n bytes 0. No function of the program in this text. A row of bytes that is read and written; four bytes as an argument; bytes that are other ones within four in a row. Walk over field.isSize. Walks over field's Reader: fail, New, Bytes, Num, Left, End. Walks over field's Reader, by its state: Bytes, Num, Left, End. Walks over field.Fits, field.Put, solderref02.Fits and solderref02.Put. Walks over field.Put. Walks over cyclic.divideByte, cyclic.extend and cyclic.Of. Walks over cyclic.Tail, solderref03.Of, solderref03.Tail and solderlaw03.works. Walks over region.Pad and solderref09.Pad. A reader beside the box of a call's result: Bytes and Num where enough bytes are left. Plain mathematics for layer 11 (logrec): transactions, their records, what a record says. No program in this text.
-/
import Derived.Test.YtmgchfjfkdkaoaaGreatDoorProg
import Derived.Test.YtmgchfjfkdkaoaaGreatDoorShelf
import Derived.WalkKit
import Derived.WalkSpells
import Derived.WalkSmall
import Derived.Lib.OthersKept
import Derived.Lib.Hide
import Derived.Deep.LoopGhost
import Derived.Laws.RangeAny
import Derived.Maps.OwnSet
import Derived.Laws.IdiomStrings
import Derived.Deep.OwnRows
import Derived.Laws.IdiomArrays
import Derived.Deep.SlicePairs
import Derived.BigQuiet
import Derived.Deep.QuietTactic
import Derived.Laws.BitsAllLaws
import Derived.Lib.UnsafeStr
import Derived.ChangeOld
import Derived.ProofKit
import Derived.OpenShut
import Derived.Handy
namespace Go.Proofs.YtmgchfjfkdkaoaaGreatDoor
open Go.RowKit

/-- A block that is just these cells, none frozen. -/
def Box (w : World) (g : Nat) (t : TypeId) (cs : Array Value) : Prop := w.heap[g]? = some (.cells cs t (0, 0))
theorem Box.lt {w : World} {g : Nat} {t : TypeId} {cs : Array Value} (h : Box w g t cs) : g < w.heap.size := lt_of_block h
theorem Box.cell {w : World} {g : Nat} {t : TypeId} {cs : Array Value} (h : Box w g t cs) (i : Nat) : w.cell? ⟨g, i, none⟩ = cs[i]? := cell_of_row w g i cs t (0, 0) h
theorem Box.frozen {w : World} {g : Nat} {t : TypeId} {cs : Array Value} (h : Box w g t cs) (i : Nat) : w.frozen? ⟨g, i, none⟩ = false := by
  have h' : w.heap[g]? = some (.cells cs t (0, 0)) := h
  simp [World.frozen?, h']
theorem Box.set {w : World} {g : Nat} {t : TypeId} {cs : Array Value} (h : Box w g t cs) (i : Nat) (u : Value) : Box (w.setCell ⟨g, i, none⟩ u) g t (cs.setIfInBounds i u) := by
  have h' : w.heap[g]? = some (.cells cs t (0, 0)) := h
  show (w.setCell ⟨g, i, none⟩ u).heap[g]? = _
  simp [World.setCell, Array.getElem?_modify, h']
theorem Box.kept {w w' : World} {g b : Nat} {t : TypeId} {cs : Array Value} (h : Box w g t cs) (hg : w.grownBy w' (some b)) (hne : g ≠ b) : Box w' g t cs :=
  (hg.block g h.lt (fun e => hne (by injection e))).trans h
theorem Box.below {w w' : World} {g B : Nat} {t : TypeId} {cs : Array Value} (h : Box w g t cs) (hb : Below B w w') (hg : g < B) : Box w' g t cs := (hb.block g hg).trans h
theorem Box.new (w : World) (t : TypeId) (cs : Array Value) : Box (w.alloc (.cells cs t)) w.heap.size t cs := heap_alloc_new w _
theorem grown_set (w : World) (b i : Nat) (u : Value) : w.grownBy (w.setCell ⟨b, i, none⟩ u) (some b) :=
  ⟨rfl, rfl, rfl, by simp [World.setCell], fun k _ hne => Below.heap_setCell w _ u k (fun e => hne (by rw [e]))⟩
theorem below_by {B b : Nat} {w w1 w2 : World} (h : Below B w w1) (hg : w1.grownBy w2 (some b)) (hB : B ≤ b) (hs : B ≤ w1.heap.size) : Below B w w2 :=
  h.grown hg hs (fun k e => by injection e with e; omega)
theorem cell_kept {w w' : World} {b : Nat} {p : Addr} {u : Value} (h : w.cell? p = some u) (hg : w.grownBy w' (some b)) (hne : p.block ≠ b) : w'.cell? p = some u :=
  (World.cell?_of_block (hg.block p.block (World.block_lt_of_cell? w _ h) (fun e => hne (by injection e)))).trans h
theorem blk_add (g j : Nat) : (⟨g, 0, none⟩ : Addr).add j = ⟨g, j, none⟩ := by
  unfold Addr.add
  split
  · simp_all
  · simp
theorem below_drewN {B : Nat} {a w : World} (h : Below B a w) (n : Nat) : Below B a (w.drewN n) := by
  induction n with
  | zero => exact h
  | succ n ih => exact ih.drew
theorem str_eq_self (s : ByteArray) : (s.toList == s.toList) = true := by simp
end Go.Proofs.YtmgchfjfkdkaoaaGreatDoor
namespace Go.Proofs.YtmgchfjfkdkaoaaGreatDoor
open Go.RowKit

/-- Of w all is kept in w' but the blocks of which P speaks. -/
structure Kept (P : Nat → Prop) (w w' : World) : Prop where
  os : w'.os = w.os
  tape : w'.tape = w.tape
  output : w'.output = w.output
  size : w.heap.size ≤ w'.heap.size
  block : ∀ k, k < w.heap.size → ¬ P k → w'.heap[k]? = w.heap[k]?
theorem Kept.refl (P : Nat → Prop) (w : World) : Kept P w w := ⟨rfl, rfl, rfl, Nat.le_refl _, fun _ _ _ => rfl⟩
theorem Kept.trans {P : Nat → Prop} {a b c : World} (h : Kept P a b) (k : Kept P b c) : Kept P a c :=
  ⟨k.os.trans h.os, k.tape.trans h.tape, k.output.trans h.output, Nat.le_trans h.size k.size, fun i hi hp => (k.block i (Nat.lt_of_lt_of_le hi h.size) hp).trans (h.block i hi hp)⟩
theorem Kept.mono {P Q : Nat → Prop} {a b : World} (h : Kept P a b) (hq : ∀ k, k < a.heap.size → P k → Q k) : Kept Q a b :=
  ⟨h.os, h.tape, h.output, h.size, fun i hi hp => h.block i hi (fun e => hp (hq i hi e))⟩
/-- Two steps; what the second one turns is new, or turned by the first. -/
theorem Kept.next {P Q : Nat → Prop} {a b c : World} (h : Kept P a b) (k : Kept Q b c) (hq : ∀ i, i < a.heap.size → Q i → P i) : Kept P a c :=
  ⟨k.os.trans h.os, k.tape.trans h.tape, k.output.trans h.output, Nat.le_trans h.size k.size, fun i hi hp => (k.block i (Nat.lt_of_lt_of_le hi h.size) (fun e => hp (hq i hi e))).trans (h.block i hi hp)⟩
theorem Kept.drewN {P : Nat → Prop} {a b : World} (h : Kept P a b) (n : Nat) : Kept P a (b.drewN n) := ⟨h.os, h.tape, h.output, h.size, h.block⟩
theorem Kept.drew {P : Nat → Prop} {a b : World} (h : Kept P a b) : Kept P a b.drew := ⟨h.os, h.tape, h.output, h.size, h.block⟩
theorem Kept.set {P : Nat → Prop} {a b : World} (h : Kept P a b) {g : Nat} (hg : g < a.heap.size → P g) (i : Nat) (u : Value) : Kept P a (b.setCell ⟨g, i, none⟩ u) :=
  ⟨h.os, h.tape, h.output, by simpa [World.setCell] using h.size, fun k hk hp => (Below.heap_setCell b ⟨g, i, none⟩ u k (fun e => hp (by simp only at e; subst e; exact hg hk))).trans (h.block k hk hp)⟩
theorem Kept.alloc {P : Nat → Prop} {a b : World} (h : Kept P a b) (o : Obj) : Kept P a (b.alloc o) :=
  ⟨h.os, h.tape, h.output, by have := h.size; simp; omega, fun k hk hp => (Below.heap_alloc b o k (Nat.lt_of_lt_of_le hk h.size)).trans (h.block k hk hp)⟩
theorem Kept.grown {P : Nat → Prop} {a b c : World} {row : Option Nat} (h : Kept P a b) (hg : b.grownBy c row) (hr : ∀ k, row = some k → k < a.heap.size → P k) : Kept P a c :=
  ⟨hg.os.trans h.os, hg.tape.trans h.tape, hg.output.trans h.output, Nat.le_trans h.size hg.size, fun k hk hp =>
    (hg.block k (Nat.lt_of_lt_of_le hk h.size) (fun e => hp (hr k e.symm hk))).trans (h.block k hk hp)⟩
theorem Kept.below {P : Nat → Prop} {a b : World} (h : Kept P a b) {B : Nat} (hB : B ≤ a.heap.size) (hp : ∀ k, k < B → ¬ P k) : Below B a b :=
  ⟨h.os, h.tape, h.output, h.size, fun k hk => h.block k (Nat.lt_of_lt_of_le hk hB) (hp k hk)⟩
theorem Kept.of_below {w w' : World} (h : Below w.heap.size w w') (P : Nat → Prop) : Kept P w w' := ⟨h.os, h.tape, h.output, h.size, fun k hk _ => h.block k hk⟩
theorem Kept.box {P : Nat → Prop} {w w' : World} (h : Kept P w w') {g : Nat} {t : TypeId} {cs : Array Value} (hB : Box w g t cs) (hp : ¬ P g) : Box w' g t cs :=
  (h.block g hB.lt hp).trans hB
theorem Kept.cell {P : Nat → Prop} {w w' : World} (h : Kept P w w') {p : Addr} {v : Value} (hc : w.cell? p = some v) (hp : ¬ P p.block) : w'.cell? p = some v :=
  (World.cell?_of_block (h.block p.block (World.block_lt_of_cell? w _ hc) hp)).trans hc
theorem cell_set_other {w : World} {g i : Nat} {u : Value} {p : Addr} (h : p.block ≠ g) : (w.setCell ⟨g, i, none⟩ u).cell? p = w.cell? p := World.cell?_of_block (Below.heap_setCell w ⟨g, i, none⟩ u p.block h)

theorem quiet_more {P : Program} {f : FuncId} {args : Array Value} {w : World} {n : Nat} {v : Value}
    (h : Calls P f args (w.drewN n) fun e w' => e = .returned v ∧ ∃ m, w' = (w.drewN n).drewN m) : Calls P f args (w.drewN n) fun e w'' => e = .returned v ∧ ∃ m, w'' = w.drewN m :=
  h.mono fun _ _ ⟨he, m, hm⟩ => ⟨he, n + m, by rw [hm]; simp [World.drewN, Nat.add_assoc]⟩

theorem quiet_same {P : Program} {f : FuncId} {args : Array Value} {w : World} {n : Nat} {v : Value}
    (h : Calls P f args (w.drewN n) fun e w' => e = .returned v ∧ w' = w.drewN n) : Calls P f args (w.drewN n) fun e w'' => e = .returned v ∧ ∃ m, w'' = w.drewN m :=
  h.mono fun _ _ ⟨he, hm⟩ => ⟨he, n, hm⟩
theorem equalIn_fn {P : Program} (w : World) (d : Nat) (t : TypeId) {ps rs : Array TypeId} {v : Bool} (f : Fn) (a b : Array Value) (h : P.underlying t = some (.func ps rs v)) : (Op.equalIn (d + 1) t (.func f a b) .nilFunc).run P w = .ok false w := by
  simp [Op.equalIn, run_underlying h]
theorem eql_fn {P : Program} (w : World) (t : TypeId) {ps rs : Array TypeId} {v : Bool} (f : Fn) (a b : Array Value) (h : P.underlying t = some (.func ps rs v)) : (binOp .eql t (.func f a b) .nilFunc).run P w = .ok (.bool false) w := by
  have e : (Op.equal t (.func f a b) .nilFunc).run P w = .ok false w := equalIn_fn w 9999 t f a b h
  simp [binOp, e]
end Go.Proofs.YtmgchfjfkdkaoaaGreatDoor
namespace Go.Proofs.YtmgchfjfkdkaoaaGreatDoor.M

/-- One bit of the division. -/
def step (n : Nat) : Nat := if n % 2 = 1 then (n / 2) ^^^ 3988292384 else n / 2
/-- So many bits of it. -/
def steps : Nat → Nat → Nat
  | 0, n => n
  | k + 1, n => step (steps k n)
/-- A byte more. -/
def absorb (n : Nat) (c : UInt8) : Nat := steps 8 (n ^^^ c.toNat)
/-- Bytes more. -/
def run (n : Nat) (l : List UInt8) : Nat := l.foldl absorb n
/-- The sum of bytes. -/
def of (l : List UInt8) : Nat := run 4294967295 l ^^^ 4294967295
/-- The number that bytes are, the lowest ahead. -/
def le : List UInt8 → Nat
  | [] => 0
  | c :: l => c.toNat ^^^ (le l <<< 8)
/-- A number's four bytes, the lowest ahead. -/
def tl (c : Nat) : List UInt8 := [UInt8.ofNat (c % 256), UInt8.ofNat (c / 256 % 256), UInt8.ofNat (c / 65536 % 256), UInt8.ofNat (c / 16777216 % 256)]

theorem xor_lt {a b : Nat} (ha : a < 4294967296) (hb : b < 4294967296) : a ^^^ b < 4294967296 := Nat.xor_lt_two_pow (n := 32) ha hb
theorem step_lt {n : Nat} (h : n < 4294967296) : step n < 4294967296 := by
  unfold step
  split
  · exact xor_lt (by omega) (by omega)
  · omega
theorem steps_lt {n : Nat} (h : n < 4294967296) : ∀ k, steps k n < 4294967296
  | 0 => h
  | k + 1 => step_lt (steps_lt h k)
theorem absorb_lt {n : Nat} (h : n < 4294967296) (c : UInt8) : absorb n c < 4294967296 :=
  steps_lt (xor_lt h (by have := c.toNat_lt; omega)) 8
theorem run_lt {n : Nat} (h : n < 4294967296) (l : List UInt8) : run n l < 4294967296 := by
  induction l generalizing n with
  | nil => exact h
  | cons c l ih => exact ih (absorb_lt h c)
theorem of_lt (l : List UInt8) : of l < 4294967296 := xor_lt (run_lt (by omega) l) (by omega)

theorem half_xor (a b : Nat) : (a ^^^ b) / 2 = a / 2 ^^^ b / 2 := by
  have := Nat.shiftRight_xor_distrib (a := a) (b := b) (i := 1)
  simpa [Nat.shiftRight_eq_div_pow] using this
theorem odd_xor (a b : Nat) : (a ^^^ b) % 2 = (a + b) % 2 := by
  have h := Nat.xor_mod_two_pow (a := a) (b := b) (n := 1)
  simp only [Nat.pow_one] at h
  have ha : a % 2 = 0 ∨ a % 2 = 1 := by omega
  have hb : b % 2 = 0 ∨ b % 2 = 1 := by omega
  rcases ha with ha | ha <;> rcases hb with hb | hb <;> rw [h, ha, hb] <;> simp <;> omega
theorem xor_left (a b c : Nat) : a ^^^ (b ^^^ c) = b ^^^ (a ^^^ c) := by rw [← Nat.xor_assoc, Nat.xor_comm a b, Nat.xor_assoc]
theorem step_xor (a b : Nat) : step (a ^^^ b) = step a ^^^ step b := by
  unfold step
  rw [half_xor, odd_xor]
  have ha : a % 2 = 0 ∨ a % 2 = 1 := by omega
  have hb : b % 2 = 0 ∨ b % 2 = 1 := by omega
  rcases ha with ha | ha <;> rcases hb with hb | hb
  · rw [if_neg (by omega), if_neg (by omega), if_neg (by omega)]
  · rw [if_pos (by omega), if_neg (by omega), if_pos (by omega), Nat.xor_assoc]
  · rw [if_pos (by omega), if_pos (by omega), if_neg (by omega)]
    rw [Nat.xor_assoc, Nat.xor_assoc, Nat.xor_comm (b / 2)]
  · rw [if_neg (by omega), if_pos (by omega), if_pos (by omega)]
    have e : (a / 2 ^^^ 3988292384) ^^^ (b / 2 ^^^ 3988292384) = (a / 2 ^^^ b / 2) ^^^ (3988292384 ^^^ 3988292384) := by
      rw [Nat.xor_assoc, Nat.xor_assoc, xor_left 3988292384]
    rw [e]
    simp
theorem steps_xor (a b : Nat) : ∀ k, steps k (a ^^^ b) = steps k a ^^^ steps k b
  | 0 => rfl
  | k + 1 => by rw [steps, steps_xor a b k, step_xor]; rfl
theorem steps_add (n j : Nat) : ∀ k, steps (k + j) n = steps k (steps j n)
  | 0 => by simp [steps]
  | k + 1 => by rw [Nat.succ_add, steps, steps_add n j k]; rfl
theorem step_shl (n k : Nat) : step (n <<< (k + 1)) = n <<< k := by
  unfold step
  rw [Nat.shiftLeft_succ]
  rw [if_neg (by omega)]
  omega
theorem steps_shl (n j : Nat) : ∀ k, steps k (n <<< (k + j)) = n <<< j
  | 0 => by simp [steps]
  | k + 1 => by
    have e : k + 1 + j = k + (j + 1) := by omega
    rw [steps, e, steps_shl n (j + 1) k, step_shl]
theorem run_le (l : List UInt8) (n : Nat) : run n l = steps (8 * l.length) (n ^^^ le l) := by
  induction l generalizing n with
  | nil => simp [run, le, steps]
  | cons c l ih =>
    have e : run n (c :: l) = run (absorb n c) l := rfl
    rw [e, ih]
    have e2 : 8 * (c :: l).length = 8 * l.length + 8 := by simp; omega
    rw [e2, steps_add]
    congr 1
    have e3 : steps 8 (le l <<< 8) = le l := by have := steps_shl (le l) 0 8; simpa using this
    have e4 : n ^^^ le (c :: l) = (n ^^^ c.toNat) ^^^ (le l <<< 8) := by rw [le, Nat.xor_assoc]
    rw [e4, steps_xor, e3]
    rfl
theorem run_app (n : Nat) (a b : List UInt8) : run n (a ++ b) = run (run n a) b := by simp [run]
theorem run_snoc (n : Nat) (a : List UInt8) (c : UInt8) : run n (a ++ [c]) = absorb (run n a) c := by simp [run]

theorem low_high (c : Nat) : c % 256 ^^^ ((c / 256) <<< 8) = c := by
  apply Nat.eq_of_testBit_eq
  intro i
  have h1 : c % 256 = c % 2 ^ 8 := rfl
  have h2 : c / 256 = c >>> 8 := (Nat.shiftRight_eq_div_pow c 8).symm
  rw [h1, h2, Nat.testBit_xor, Nat.testBit_mod_two_pow, Nat.testBit_shiftLeft, Nat.testBit_shiftRight]
  by_cases h : i < 8
  · have h' : ¬ (8 ≤ i) := by omega
    simp [h, h']
  · have e : 8 + (i - 8) = i := by omega
    simp [h, e]; omega
theorem le_tl (c : Nat) (h : c < 4294967296) : le (tl c) = c := by
  have e3 : c / 16777216 % 256 = c / 16777216 := Nat.mod_eq_of_lt (by omega)
  have d2 : c / 65536 = c / 256 / 256 := by omega
  have d3 : c / 16777216 = c / 256 / 256 / 256 := by omega
  simp only [tl, le, UInt8.toNat_ofNat', Nat.reducePow, Nat.mod_mod, Nat.zero_shiftLeft, Nat.xor_zero]
  rw [e3, d3]
  have k2 := low_high (c / 256 / 256)
  have k1 := low_high (c / 256)
  have k0 := low_high c
  rw [d2, k2, k1, k0]
theorem tl_len (c : Nat) : (tl c).length = 4 := rfl

theorem xor_turn (a : Nat) : (a ^^^ 4294967295) ^^^ 4294967295 = a := by
  rw [Nat.xor_assoc]
  simp
theorem of_tail (l : List UInt8) : of (l ++ tl (of l)) = 558161692 := by
  rw [of, run_app, run_le, le_tl _ (of_lt l)]
  have e : run 4294967295 l ^^^ of l = 4294967295 := by
    rw [of, ← Nat.xor_assoc]
    simp
  rw [e, tl_len]
  decide +kernel

theorem step_zero {n : Nat} (h : n < 4294967296) (hs : step n = 0) : n = 0 := by
  unfold step at hs
  split at hs
  · have : n / 2 = 3988292384 := by
      have e := congrArg (fun x => x ^^^ 3988292384) hs
      simpa [Nat.xor_assoc] using e
    omega
  · omega
theorem steps_zero {n : Nat} (h : n < 4294967296) : ∀ k, steps k n = 0 → n = 0
  | 0, e => e
  | k + 1, e => steps_zero h k (step_zero (steps_lt h k) e)
theorem eq_of_xor {a b : Nat} (h : a ^^^ b = 0) : a = b := by
  have e := congrArg (fun x => x ^^^ b) h
  simpa [Nat.xor_assoc] using e
theorem steps_inj {a b : Nat} (ha : a < 4294967296) (hb : b < 4294967296) (k : Nat) (h : steps k a = steps k b) : a = b := by
  apply eq_of_xor
  apply steps_zero (xor_lt ha hb) k
  rw [steps_xor, h]
  simp
theorem absorb_inj {a b : Nat} (ha : a < 4294967296) (hb : b < 4294967296) (c : UInt8) (h : absorb a c = absorb b c) : a = b := by
  have hc : c.toNat < 4294967296 := by have := c.toNat_lt; omega
  have e := steps_inj (xor_lt ha hc) (xor_lt hb hc) 8 h
  have e2 := congrArg (fun x => x ^^^ c.toNat) e
  simpa [Nat.xor_assoc] using e2
theorem run_inj (l : List UInt8) : ∀ {a b : Nat}, a < 4294967296 → b < 4294967296 → run a l = run b l → a = b := by
  induction l with
  | nil => intro a b _ _ h; exact h
  | cons c l ih => intro a b ha hb h; exact absorb_inj ha hb c (ih (absorb_lt ha c) (absorb_lt hb c) h)

theorem le_lt (l : List UInt8) : le l < 2 ^ (8 * l.length) := by
  induction l with
  | nil => simp [le]
  | cons c l ih =>
    have e : 8 * (c :: l).length = 8 * l.length + 8 := by simp; omega
    rw [e, le]
    apply Nat.xor_lt_two_pow
    · have := c.toNat_lt
      have h2 : 2 ^ 8 ≤ 2 ^ (8 * l.length + 8) := Nat.pow_le_pow_right (by omega) (by omega)
      omega
    · rw [Nat.shiftLeft_eq, Nat.pow_add]
      exact Nat.mul_lt_mul_of_pos_right ih (by omega)
theorem le_mod (c : UInt8) (l : List UInt8) : le (c :: l) % 256 = c.toNat := by
  have := c.toNat_lt
  have h := Nat.xor_mod_two_pow (a := c.toNat) (b := le l <<< 8) (n := 8)
  have e : (le l <<< 8) % 2 ^ 8 = 0 := by rw [Nat.shiftLeft_eq]; omega
  rw [e] at h
  rw [le]
  simp at h
  omega
theorem le_div (c : UInt8) (l : List UInt8) : le (c :: l) / 256 = le l := by
  have := c.toNat_lt
  have h := Nat.shiftRight_xor_distrib (a := c.toNat) (b := le l <<< 8) (i := 8)
  rw [← le, Nat.shiftLeft_shiftRight, Nat.shiftRight_eq_div_pow, Nat.shiftRight_eq_div_pow] at h
  have e : c.toNat / 2 ^ 8 = 0 := by omega
  rw [e] at h
  simpa using h
theorem le_inj : ∀ (a b : List UInt8), a.length = b.length → le a = le b → a = b
  | [], [], _, _ => rfl
  | [], _ :: _, h, _ => by simp at h
  | _ :: _, [], h, _ => by simp at h
  | c :: a, d :: b, h, e => by
    have e1 : c.toNat = d.toNat := by rw [← le_mod c a, ← le_mod d b, e]
    have e2 : le a = le b := by rw [← le_div c a, ← le_div d b, e]
    rw [UInt8.toNat_inj.mp e1, le_inj a b (by simpa using h) e2]
theorem run_short {n : Nat} (hn : n < 4294967296) (a b : List UInt8) (hl : a.length = b.length) (h4 : a.length ≤ 4) (h : run n a = run n b) : a = b := by
  rw [run_le, run_le, ← hl] at h
  have hp : 2 ^ (8 * a.length) ≤ 4294967296 := by
    have : 2 ^ (8 * a.length) ≤ 2 ^ 32 := Nat.pow_le_pow_right (by omega) (by omega)
    simpa using this
  have ha := le_lt a
  have hb := le_lt b
  rw [← hl] at hb
  have e := steps_inj (xor_lt hn (by omega)) (xor_lt hn (by omega)) _ h
  have e2 := congrArg (fun x => n ^^^ x) e
  have e3 : le a = le b := by
    simp only [← Nat.xor_assoc, Nat.xor_self, Nat.zero_xor] at e2
    exact e2
  exact le_inj a b hl e3
/-- Bytes that are other ones only within four in a row have another sum. -/
theorem of_near (p a b q : List UInt8) (hl : a.length = b.length) (h4 : a.length ≤ 4) (h : of (p ++ a ++ q) = of (p ++ b ++ q)) : p ++ a ++ q = p ++ b ++ q := by
  have e : run 4294967295 (p ++ a ++ q) = run 4294967295 (p ++ b ++ q) := by
    have e2 := congrArg (fun x => x ^^^ 4294967295) h
    unfold of at e2
    simpa only [xor_turn] using e2
  rw [run_app, run_app, run_app, run_app] at e
  have hp : run 4294967295 p < 4294967296 := run_lt (by omega) p
  have e3 := run_inj q (run_lt hp a) (run_lt hp b) e
  rw [run_short hp a b hl h4 e3]
end Go.Proofs.YtmgchfjfkdkaoaaGreatDoor.M
namespace Go.Proofs.YtmgchfjfkdkaoaaGreatDoor.M

/-- n's bytes, size of them, the highest ahead. -/
def be : Nat → Nat → List UInt8
  | _, 0 => []
  | n, s + 1 => be (n / 256) s ++ [UInt8.ofNat (n % 256)]
/-- The number that bytes are. -/
def num (l : List UInt8) : Nat := l.foldl (fun a c => 256 * a + c.toNat) 0

theorem num_snoc (l : List UInt8) (c : UInt8) : num (l ++ [c]) = 256 * num l + c.toNat := by simp [num]
theorem num_nil : num [] = 0 := rfl
theorem be_len : ∀ (s n : Nat), (be n s).length = s
  | 0, _ => rfl
  | s + 1, n => by simp [be, be_len s]
theorem num_be : ∀ (s n : Nat), n < 256 ^ s → num (be n s) = n
  | 0, n, h => by simp at h; subst h; rfl
  | s + 1, n, h => by
    rw [be, num_snoc, num_be s (n / 256) (by rw [Nat.pow_succ] at h; omega)]
    simp
    omega
theorem num_lt : ∀ (k : Nat) (l : List UInt8), l.length = k → num l < 256 ^ k
  | 0, l, h => by rw [List.eq_nil_of_length_eq_zero h]; simp [num]
  | k + 1, l, h => by
    have hne : l ≠ [] := by intro e; subst e; simp at h
    obtain ⟨d, c, rfl⟩ : ∃ d c, l = d ++ [c] := ⟨l.dropLast, l.getLast hne, (List.dropLast_concat_getLast hne).symm⟩
    rw [num_snoc, Nat.pow_succ]
    have := num_lt k d (by simpa using h)
    have := c.toNat_lt
    omega
theorem be_step (n s : Nat) (t : List UInt8) : be n (s + 1) ++ t = be (n / 256) s ++ (UInt8.ofNat (n % 256) :: t) := by simp [be]

theorem shl_or (a c : Nat) (h : c < 256) : (a * 256) ||| c = 256 * a + c := by
  have := Nat.shiftLeft_add_eq_or_of_lt (i := 8) (b := c) (by simpa using h) a
  rw [Nat.shiftLeft_eq] at this
  have e : a * 2 ^ 8 = a * 256 := rfl
  rw [e] at this
  omega

/-- Whether a number has so many bytes. -/
def fitsB (n size : Int) : Bool := decide (1 ≤ size ∧ size ≤ 7 ∧ 0 ≤ n ∧ n < 256 ^ size.toNat)
def sizeB (size : Int) : Bool := decide (1 ≤ size ∧ size ≤ 7)

/-- A reader's state: how many bytes are read, and what it has failed with. -/
structure St where
  k : Nat
  e : Int
def St.ok (s : ByteArray) (t : St) : Prop := t.k ≤ s.size
/-- What Bytes answers. -/
def outB (s : ByteArray) (t : St) (n : Int) : ByteArray :=
  if t.e = 0 ∧ 0 ≤ n ∧ n ≤ (s.size : Int) - t.k then s.extract t.k (t.k + n.toNat) else ⟨#[]⟩
/-- What becomes of the state at Bytes. -/
def stB (s : ByteArray) (t : St) (n : Int) : St :=
  if t.e ≠ 0 then t else if n < 0 then ⟨t.k, 3⟩ else if (s.size : Int) - t.k < n then ⟨t.k, 1⟩ else ⟨t.k + n.toNat, 0⟩
/-- What Num answers. -/
def outN (s : ByteArray) (t : St) (n : Int) : Int := if 1 ≤ n ∧ n ≤ 7 then (num (outB s t n).data.toList : Int) else 0
/-- What becomes of the state at Num. -/
def stN (s : ByteArray) (t : St) (n : Int) : St := if 1 ≤ n ∧ n ≤ 7 then stB s t n else if t.e ≠ 0 then t else ⟨t.k, 3⟩
def left (s : ByteArray) (t : St) : Int := (s.size : Int) - t.k
def endE (s : ByteArray) (t : St) : Int := if t.e ≠ 0 then t.e else if t.k < s.size then 2 else 0

theorem stB_ok {s : ByteArray} {t : St} (h : t.ok s) (n : Int) : (stB s t n).ok s := by
  unfold St.ok at h ⊢
  unfold stB
  repeat' split
  all_goals (first | exact h | (show _ + _ ≤ _; omega))
theorem stN_ok {s : ByteArray} {t : St} (h : t.ok s) (n : Int) : (stN s t n).ok s := by
  unfold stN
  split
  · exact stB_ok h n
  · split <;> exact h

theorem ext_ext (s : ByteArray) (k n : Nat) (_h : k + n ≤ s.size) : (s.extract k s.size).extract 0 n = s.extract k (k + n) := by
  rw [ByteArray.extract_extract]
  simp only [Nat.add_zero]
  congr 1
  omega
theorem ext_rest (s : ByteArray) (k n : Nat) (_h : k + n ≤ s.size) : (s.extract k s.size).extract n (s.extract k s.size).size = s.extract (k + n) s.size := by
  rw [ByteArray.extract_extract, ByteArray.size_extract]
  congr 1
  omega
theorem ext_size (s : ByteArray) (k : Nat) (_h : k ≤ s.size) : (s.extract k s.size).size = s.size - k := by
  rw [ByteArray.size_extract]
  omega
theorem ext_all (s : ByteArray) : s.extract 0 s.size = s := by
  apply ByteArray.ext
  simp
end Go.Proofs.YtmgchfjfkdkaoaaGreatDoor.M
namespace Go.Proofs.YtmgchfjfkdkaoaaGreatDoor
theorem M.out_mid (S p m q : ByteArray) (n : Int) (e : S = p ++ m ++ q) (k : Nat) (hk : k = p.size) (hn : n = (m.size : Int)) : M.outB S ⟨k, 0⟩ n = m ∧ M.stB S ⟨k, 0⟩ n = ⟨k + m.size, 0⟩ := by
  subst hk hn e
  have hz : (p ++ m ++ q).size = p.size + m.size + q.size := by simp [ByteArray.size_append]
  constructor
  · rw [M.outB, if_pos ⟨rfl, by omega, by simp only [hz]; omega⟩]
    apply ByteArray.ext
    simp only [ByteArray.data_extract, ByteArray.data_append, Int.toNat_natCast]
    apply Array.ext'
    have h1 : p.size = p.data.toList.length := rfl
    have h2 : m.size = m.data.toList.length := rfl
    rw [Array.toList_extract, List.extract_eq_take_drop, Nat.add_sub_cancel_left, Array.toList_append, Array.toList_append, List.append_assoc, h1, h2, List.drop_left, List.take_left]
  · rw [M.stB, if_neg (by simp), if_neg (by omega), if_neg (by simp only [hz]; omega)]
    simp only [Int.toNat_natCast]
theorem M.num_mid (S p m q : ByteArray) (n : Int) (a z : Nat) (e : S = p ++ m ++ q) (k : Nat) (hk : k = p.size) (hm : m = ⟨(M.be a z).toArray⟩) (hn : n = (z : Int)) (h1 : 1 ≤ z) (h7 : z ≤ 7) (ha : a < 256 ^ z) : M.outN S ⟨k, 0⟩ n = a ∧ M.stN S ⟨k, 0⟩ n = ⟨k + z, 0⟩ := by
  have hs : m.size = z := by rw [hm]; show (M.be a z).toArray.size = z; simp [M.be_len]
  obtain ⟨o1, o2⟩ := M.out_mid S p m q n e k hk (by rw [hs]; exact hn)
  subst hn
  constructor
  · rw [M.outN, if_pos (by omega), o1, hm]
    rw [M.num_be z a ha]
  · rw [M.stN, if_pos (by omega), o2, hs]
end Go.Proofs.YtmgchfjfkdkaoaaGreatDoor
namespace Go.Proofs.YtmgchfjfkdkaoaaGreatDoor.M

theorem ba_ext {a b : ByteArray} (h : a.data.toList = b.data.toList) : a = b := ByteArray.ext (Array.ext' h)
theorem app_list (a b : ByteArray) : (a ++ b).data.toList = a.data.toList ++ b.data.toList := by rw [ByteArray.data_append, Array.toList_append]
theorem ex_list (s : ByteArray) (i j : Nat) : (s.extract i j).data.toList = (s.data.toList.drop i).take (j - i) := by
  rw [ByteArray.data_extract, Array.toList_extract, List.extract_eq_take_drop]
theorem size_list (s : ByteArray) : s.data.toList.length = s.size := rfl
theorem mk_size (l : List UInt8) : (⟨l.toArray⟩ : ByteArray).size = l.length := by show l.toArray.size = _; simp
theorem ex_mid (s p m q : ByteArray) (i j : Nat) (e : s = p ++ m ++ q) (hi : i = p.size) (hj : j = p.size + m.size) : s.extract i j = m := by
  apply ba_ext
  rw [ex_list, e, app_list, app_list, hi, hj, Nat.add_sub_cancel_left, List.append_assoc, ← size_list p, List.drop_left, ← size_list m, List.take_left]
theorem ex_cut (s : ByteArray) (i j k : Nat) (h1 : i ≤ j) (h2 : j ≤ k) : s.extract i j ++ s.extract j k = s.extract i k := by
  apply ba_ext
  rw [app_list, ex_list, ex_list, ex_list]
  have e : k - i = (j - i) + (k - j) := by omega
  have e2 : i + (j - i) = j := by omega
  rw [e, List.take_add, List.drop_drop, e2]
theorem nil_app (x : ByteArray) : (⟨#[]⟩ : ByteArray) ++ x = x := ba_ext (by rw [app_list]; rfl)
theorem app_nil (x : ByteArray) : x ++ (⟨#[]⟩ : ByteArray) = x := ba_ext (by rw [app_list]; simp)
theorem of_size0 {x : ByteArray} (h : x.size = 0) : x = ⟨#[]⟩ := ByteArray.ext (Array.eq_empty_of_size_eq_zero h)
theorem be_num : ∀ (k : Nat) (l : List UInt8), l.length = k → be (num l) k = l
  | 0, l, h => by rw [List.eq_nil_of_length_eq_zero h]; rfl
  | k + 1, l, h => by
    have hne : l ≠ [] := by intro e; subst e; simp at h
    obtain ⟨d, c, rfl⟩ : ∃ d c, l = d ++ [c] := ⟨l.dropLast, l.getLast hne, (List.dropLast_concat_getLast hne).symm⟩
    have := c.toNat_lt
    rw [num_snoc, be]
    have e1 : (256 * num d + c.toNat) / 256 = num d := by omega
    have e2 : (256 * num d + c.toNat) % 256 = c.toNat := by omega
    rw [e1, e2, be_num k d (by simpa using h)]
    simp

/-- The sum of bytes as bytes. -/
def tail (h : ByteArray) : ByteArray := ⟨(tl (of h.data.toList)).toArray⟩
theorem tail_size (h : ByteArray) : (tail h).size = 4 := by rw [tail, mk_size, tl_len]
def bytes (n z : Nat) : ByteArray := ⟨(be n z).toArray⟩
theorem bytes_size (n z : Nat) : (bytes n z).size = z := by rw [bytes, mk_size, be_len]
/-- The kind, how many bytes the body has, the body. -/
def front (k : Nat) (b : ByteArray) : ByteArray := bytes k 1 ++ bytes b.size 2 ++ b
theorem front_size (k : Nat) (b : ByteArray) : (front k b).size = 3 + b.size := by rw [front, ByteArray.size_append, ByteArray.size_append, bytes_size, bytes_size]
/-- All of it. -/
def whole (k : Nat) (b : ByteArray) : ByteArray := front k b ++ tail (front k b)
theorem whole_size (k : Nat) (b : ByteArray) : (whole k b).size = 7 + b.size := by rw [whole, ByteArray.size_append, front_size, tail_size]; omega
theorem whole_of (k : Nat) (b : ByteArray) : of (whole k b).data.toList = 558161692 := by
  rw [whole, app_list]
  exact of_tail _

/-- What Put answers. -/
def putB (k : Int) (b : ByteArray) : ByteArray := if k < 0 ∨ 255 < k then ⟨#[]⟩ else if 600 < b.size then ⟨#[]⟩ else whole k.toNat b
def putE (k : Int) (b : ByteArray) : Int := if k < 0 ∨ 255 < k then 7 else if 600 < b.size then 11 else 0

/-- What is got: the kind, the body, what stands behind, what is wrong. -/
structure Got where
  k : Nat
  b : ByteArray
  r : ByteArray
  e : Int
def no (e : Int) : Got := ⟨0, ⟨#[]⟩, ⟨#[]⟩, e⟩
/-- How long a body is told. -/
def told (s : ByteArray) : Nat := num (s.extract 1 3).data.toList
/-- What First answers. -/
def first (s : ByteArray) : Got :=
  if s.size < 7 then no 1 else if 600 < told s then no 11 else if s.size < 7 + told s then no 1
  else if s.extract (3 + told s) (7 + told s) = tail (s.extract 0 (3 + told s)) then ⟨num (s.extract 0 1).data.toList, s.extract 3 (3 + told s), s.extract (7 + told s) s.size, 0⟩
  else no 5
/-- What Get answers. -/
def get (s : ByteArray) : Got := if (first s).e ≠ 0 then no (first s).e else if (first s).r.size ≠ 0 then no 2 else ⟨(first s).k, (first s).b, ⟨#[]⟩, 0⟩

theorem first_whole (k : Nat) (b r : ByteArray) (hk : k < 256) (hb : b.size ≤ 600) : first (whole k b ++ r) = ⟨k, b, r, 0⟩ := by
  obtain ⟨s, hs⟩ : ∃ s, s = whole k b ++ r := ⟨_, rfl⟩
  rw [← hs]
  have hz : s.size = 7 + b.size + r.size := by rw [hs, ByteArray.size_append, whole_size]
  have x1 : s.extract 0 1 = bytes k 1 := ex_mid s ⟨#[]⟩ (bytes k 1) (bytes b.size 2 ++ b ++ tail (front k b) ++ r) 0 1 (by rw [hs, whole, front, nil_app]; simp only [ByteArray.append_assoc]) rfl (by rw [bytes_size]; rfl)
  have x2 : s.extract 1 3 = bytes b.size 2 := ex_mid s (bytes k 1) (bytes b.size 2) (b ++ tail (front k b) ++ r) 1 3 (by rw [hs, whole, front]; simp only [ByteArray.append_assoc]) (by rw [bytes_size]) (by rw [bytes_size, bytes_size])
  have t : told s = b.size := by rw [told, x2, bytes]; exact num_be 2 b.size (by omega)
  have x3 : s.extract 3 (3 + b.size) = b := ex_mid s (bytes k 1 ++ bytes b.size 2) b (tail (front k b) ++ r) 3 (3 + b.size) (by rw [hs, whole, front]; simp only [ByteArray.append_assoc]) (by rw [ByteArray.size_append, bytes_size, bytes_size]) (by rw [ByteArray.size_append, bytes_size, bytes_size])
  have x4 : s.extract 0 (3 + b.size) = front k b := ex_mid s ⟨#[]⟩ (front k b) (tail (front k b) ++ r) 0 _ (by rw [hs, whole, nil_app]; simp only [ByteArray.append_assoc]) rfl (by rw [front_size]; show _ = 0 + _; omega)
  have x5 : s.extract (3 + b.size) (7 + b.size) = tail (front k b) := ex_mid s (front k b) (tail (front k b)) r _ _ (by rw [hs, whole]) (by rw [front_size]) (by rw [front_size, tail_size]; omega)
  have x6 : s.extract (7 + b.size) s.size = r := ex_mid s (whole k b) r ⟨#[]⟩ _ _ (by rw [hs, app_nil]) (by rw [whole_size]) (by rw [whole_size, hz])
  unfold first
  rw [t, x4, x5, x3, x6, x1, if_neg (by omega), if_neg (by omega), if_neg (by omega), if_pos rfl, bytes]
  show Got.mk (num (be k 1)) _ _ _ = _
  rw [num_be 1 k (by omega)]
theorem first_back (s : ByteArray) (h : (first s).e = 0) : (first s).k < 256 ∧ (first s).b.size ≤ 600 ∧ s = whole (first s).k (first s).b ++ (first s).r := by
  unfold first at h ⊢
  split at h
  · cases h
  · split at h
    · cases h
    · split at h
      · cases h
      · split at h
        · rename_i h1 h2 h3 h4
          rw [if_neg h1, if_neg h2, if_neg h3, if_pos h4]
          obtain ⟨n, hn⟩ : ∃ n, n = told s := ⟨_, rfl⟩
          have z1 : (s.extract 0 1).size = 1 := by rw [ByteArray.size_extract]; omega
          have z2 : (s.extract 1 3).size = 2 := by rw [ByteArray.size_extract]; omega
          have z3 : (s.extract 3 (3 + n)).size = n := by rw [ByteArray.size_extract]; omega
          rw [← hn] at h2 h3 h4 ⊢
          refine ⟨num_lt 1 _ z1, by show (s.extract 3 (3 + n)).size ≤ 600; omega, ?_⟩
          show s = whole (num (s.extract 0 1).data.toList) (s.extract 3 (3 + n)) ++ s.extract (7 + n) s.size
          have e1 : bytes (num (s.extract 0 1).data.toList) 1 = s.extract 0 1 := ba_ext (by rw [bytes]; exact be_num 1 _ z1)
          have e2 : bytes n 2 = s.extract 1 3 := ba_ext (by rw [bytes, hn, told]; exact be_num 2 _ z2)
          have e3 : front (num (s.extract 0 1).data.toList) (s.extract 3 (3 + n)) = s.extract 0 (3 + n) := by
            rw [front, z3, e1, e2, ex_cut s 0 1 3 (by omega) (by omega), ex_cut s 0 3 (3 + n) (by omega) (by omega)]
          rw [whole, e3, ← h4, ex_cut s 0 (3 + n) (7 + n) (by omega) (by omega), ex_cut s 0 (7 + n) s.size (by omega) (by omega), ext_all]
        · cases h

theorem get_whole (k : Nat) (b : ByteArray) (hk : k < 256) (hb : b.size ≤ 600) : get (whole k b) = ⟨k, b, ⟨#[]⟩, 0⟩ := by
  have h := first_whole k b ⟨#[]⟩ hk hb
  rw [app_nil] at h
  unfold get
  rw [h]
  rfl
theorem get_more (k : Nat) (b r : ByteArray) (hk : k < 256) (hb : b.size ≤ 600) (hr : r.size ≠ 0) : get (whole k b ++ r) = no 2 := by
  unfold get
  rw [first_whole k b r hk hb]
  show (if (0 : Int) ≠ 0 then _ else if r.size ≠ 0 then no 2 else _) = _
  rw [if_neg (by simp), if_pos hr]
theorem get_back (s : ByteArray) (h : (get s).e = 0) : (get s).k < 256 ∧ (get s).b.size ≤ 600 ∧ s = whole (get s).k (get s).b := by
  unfold get at h ⊢
  split at h
  · rename_i h1
    exact absurd h h1
  · split at h
    · cases h
    · rename_i h1 h2
      rw [if_neg h1, if_neg h2]
      obtain ⟨a, b, c⟩ := first_back s (by simpa using h1)
      refine ⟨a, b, ?_⟩
      rw [of_size0 (by simpa using h2 : (first s).r.size = 0), app_nil] at c
      exact c
theorem get_no (s : ByteArray) (h : (get s).e ≠ 0) : (get s).k = 0 ∧ (get s).b = ⟨#[]⟩ := by
  unfold get at h ⊢
  split at h
  · rename_i h1; rw [if_pos h1]; exact ⟨rfl, rfl⟩
  · split at h
    · rename_i h1 h2; rw [if_neg h1, if_pos h2]; exact ⟨rfl, rfl⟩
    · exact absurd rfl h
theorem get_less (k : Nat) (b : ByteArray) (hk : k < 256) (hb : b.size ≤ 600) (j : Nat) (hj : j < (whole k b).size) : (get ((whole k b).extract 0 j)).e ≠ 0 := by
  intro h
  obtain ⟨h1, h2, h3⟩ := get_back _ h
  have hc := ex_cut (whole k b) 0 j (whole k b).size (by omega) (by omega)
  rw [ext_all] at hc
  have f1 := first_whole k b ⟨#[]⟩ hk hb
  rw [app_nil, ← hc, h3, first_whole _ _ _ h1 h2] at f1
  have e := congrArg (fun g => g.r.size) f1
  have e : ((whole k b).extract j (whole k b).size).size = 0 := e
  rw [ByteArray.size_extract] at e
  omega
theorem putE_ok (k : Int) (b : ByteArray) (h : putE k b = 0) : ∃ n : Nat, k = n ∧ n < 256 ∧ b.size ≤ 600 ∧ putB k b = whole n b := by
  unfold putE at h
  split at h
  · cases h
  · split at h
    · cases h
    · rename_i h1 h2
      refine ⟨k.toNat, by omega, by omega, by omega, ?_⟩
      rw [putB, if_neg h1, if_neg h2]
theorem putE_no (k : Int) (b : ByteArray) (h : putE k b ≠ 0) : putB k b = ⟨#[]⟩ := by
  unfold putE at h
  unfold putB
  split at h
  · rename_i h1; rw [if_pos h1]
  · split at h
    · rename_i h1 h2; rw [if_neg h1, if_pos h2]
    · exact absurd rfl h
theorem put_whole (k : Nat) (b : ByteArray) (hk : k < 256) (hb : b.size ≤ 600) : putE k b = 0 ∧ putB k b = whole k b := by
  constructor
  · rw [putE, if_neg (by omega), if_neg (by omega)]
  · rw [putB, if_neg (by omega), if_neg (by omega), Int.toNat_natCast]
end Go.Proofs.YtmgchfjfkdkaoaaGreatDoor.M
namespace Go.Proofs.YtmgchfjfkdkaoaaGreatDoor.M
open Go.Maps

/-- What a disk is: what is sure, what waits, in order, the calls, those that fail, the one at which it goes down, whether it is down. -/
structure D where
  S : List ByteArray
  L : List (Nat × ByteArray)
  ops : Nat
  fails : List Int
  da : Int
  dn : Bool

/-- A sector of bytes 0. -/
def zero : ByteArray := ⟨Array.replicate 64 0⟩
theorem zero_size : zero.size = 64 := rfl

/-- The last write of a sector among those that wait. -/
def seen0 (L : List (Nat × ByteArray)) (k : Nat) : Option ByteArray := L.foldl (fun o p => if p.1 = k then some p.2 else o) none
theorem seen0_nil (k : Nat) : seen0 [] k = none := rfl
theorem seen0_snoc (L : List (Nat × ByteArray)) (p : Nat × ByteArray) (k : Nat) : seen0 (L ++ [p]) k = if p.1 = k then some p.2 else seen0 L k := by
  simp [seen0, List.foldl_append]
/-- What is seen of a sector. -/
def seen (S : List ByteArray) (L : List (Nat × ByteArray)) (k : Nat) : ByteArray := (seen0 L k).getD (S.getD k ByteArray.empty)

/-- What is sure once i of the writes were settled, of which those survive that f tells. -/
def rounds (f : Nat → Bool) (S : List ByteArray) (L : List (Nat × ByteArray)) : Nat → List ByteArray
  | 0 => S
  | i + 1 => match L[i]? with
    | some p => if f i then (rounds f S L i).set p.1 p.2 else rounds f S L i
    | none => rounds f S L i
theorem rounds_yes {f : Nat → Bool} {S : List ByteArray} {L : List (Nat × ByteArray)} {i : Nat} {p : Nat × ByteArray} (h : L[i]? = some p) (hf : f i = true) : rounds f S L (i + 1) = (rounds f S L i).set p.1 p.2 := by
  simp [rounds, h, hf]
theorem rounds_no {f : Nat → Bool} {S : List ByteArray} {L : List (Nat × ByteArray)} {i : Nat} {p : Nat × ByteArray} (h : L[i]? = some p) (hf : f i = false) : rounds f S L (i + 1) = rounds f S L i := by
  simp [rounds, h, hf]
theorem rounds_len (f : Nat → Bool) (S : List ByteArray) (L : List (Nat × ByteArray)) (i : Nat) : (rounds f S L i).length = S.length := by
  induction i with
  | zero => rfl
  | succ i ih =>
    unfold rounds
    split
    · split
      · rw [List.length_set, ih]
      · exact ih
    · exact ih
theorem rounds_mem {f : Nat → Bool} {S : List ByteArray} {L : List (Nat × ByteArray)} {Q : ByteArray → Prop} (hS : ∀ s ∈ S, Q s) (hL : ∀ p ∈ L, Q p.2) (i : Nat) : ∀ s ∈ rounds f S L i, Q s := by
  induction i with
  | zero => exact hS
  | succ i ih =>
    unfold rounds
    split
    · rename_i p hp
      split
      · intro s hs
        rcases List.mem_or_eq_of_mem_set hs with h | h
        · exact ih s h
        · rw [h]; exact hL p (List.mem_of_getElem? hp)
      · exact ih
    · exact ih
/-- Of each sector one of the writes is there, or what was sure. -/
theorem rounds_one (f : Nat → Bool) (S : List ByteArray) (L : List (Nat × ByteArray)) (i k : Nat) (hk : k < S.length) :
    ∃ s, (rounds f S L i)[k]? = some s ∧ (S[k]? = some s ∨ ∃ p ∈ L, p.1 = k ∧ p.2 = s) := by
  induction i with
  | zero => exact ⟨S[k], by simp [rounds, hk], Or.inl (by simp [hk])⟩
  | succ i ih =>
    unfold rounds
    split
    · rename_i p hp
      split
      · by_cases e : p.1 = k
        · refine ⟨p.2, ?_, Or.inr ⟨p, List.mem_of_getElem? hp, e, rfl⟩⟩
          rw [e, List.getElem?_set_self (by rw [rounds_len]; exact hk)]
        · rw [List.getElem?_set_ne e]
          exact ih
      · exact ih
    · exact ih
/-- Where all survive, what was seen is sure. -/
theorem rounds_all (S : List ByteArray) (L : List (Nat × ByteArray)) (k : Nat) (hk : k < S.length) (i : Nat) (hi : i ≤ L.length) :
    (rounds (fun _ => true) S L i)[k]? = some (seen S (L.take i) k) := by
  induction i with
  | zero => simp [rounds, seen, seen0, hk]
  | succ i ih =>
    have hlt : i < L.length := by omega
    have hp : L[i]? = some L[i] := List.getElem?_eq_getElem hlt
    rw [rounds_yes hp rfl, List.take_succ_eq_append_getElem hlt, seen, seen0_snoc]
    by_cases e : (L[i]).1 = k
    · rw [if_pos e, e, List.getElem?_set_self (by rw [rounds_len]; exact hk)]
      rfl
    · rw [if_neg e, List.getElem?_set_ne e]
      exact ih (by omega)

/-- The map tells of each sector that waits the place of its last write. -/
def MapIs (m : DataW Unit) (L : List (Nat × ByteArray)) : Prop :=
  IsMap m ∧ ∀ k : Nat, (Maps.has m (.int .i64 k) = false ∧ seen0 L k = none) ∨
    ∃ (i : Nat) (p : Nat × ByteArray), Maps.has m (.int .i64 k) = true ∧ m.atKey (.int .i64 k) (.lit (.int .i64 0)) = .lit (.int .i64 (i : Nat)) ∧ L[i]? = some p ∧ seen0 L k = some p.2
theorem MapIs.nil : MapIs (.map []) [] := ⟨isMap_empty, fun _ => Or.inl ⟨rfl, rfl⟩⟩
theorem MapIs.put {m : DataW Unit} {L : List (Nat × ByteArray)} (h : MapIs m L) (k : Nat) (s : ByteArray) : MapIs (m.put (.int .i64 k) (.lit (.int .i64 (L.length : Nat)))) (L ++ [(k, s)]) := by
  refine ⟨h.1.put _ _, fun j => ?_⟩
  by_cases e : k = j
  · subst e
    refine Or.inr ⟨L.length, (k, s), has_put_same h.1 (show WideAt.IsKeyLit (.int _ _) from trivial) _, atKey_put_same h.1 (show WideAt.IsKeyLit (.int _ _) from trivial) _ _, by simp, by rw [seen0_snoc, if_pos rfl]⟩
  · have hne : (Lit.int .i64 (j : Int)) ≠ Lit.int .i64 (k : Int) := by
      intro e'
      injection e' with _ e'
      omega
    rw [has_put_other hne, atKey_put_other hne, seen0_snoc, if_neg e]
    rcases h.2 j with h | ⟨i, p, h1, h2, h3, h4⟩
    · exact Or.inl h
    · exact Or.inr ⟨i, p, h1, h2, by rw [List.getElem?_append_left (List.getElem?_eq_some_iff.1 h3).1]; exact h3, h4⟩

/-- The cells of writes. -/
def cells : List (Nat × ByteArray) → List Value
  | [] => []
  | p :: L => .int .i64 (p.1 : Nat) :: .string p.2 :: cells L
theorem cells_snoc (L : List (Nat × ByteArray)) (p : Nat × ByteArray) : cells (L ++ [p]) = cells L ++ [.int .i64 (p.1 : Nat), .string p.2] := by
  induction L with
  | nil => rfl
  | cons q L ih => simp [cells, ih]
theorem cells_len (L : List (Nat × ByteArray)) : (cells L).length = L.length * 2 := by
  induction L with
  | nil => rfl
  | cons q L ih => simp [cells, ih]; omega
theorem cells_at {L : List (Nat × ByteArray)} {i : Nat} {p : Nat × ByteArray} (h : L[i]? = some p) : (cells L)[i * 2]? = some (.int .i64 (p.1 : Nat)) ∧ (cells L)[i * 2 + 1]? = some (.string p.2) := by
  induction L generalizing i with
  | nil => simp at h
  | cons q L ih =>
    cases i with
    | zero =>
      simp at h
      subst h
      exact ⟨rfl, rfl⟩
    | succ i =>
      simp at h
      have := ih h
      rw [show (i + 1) * 2 = i * 2 + 2 by omega, show i * 2 + 2 + 1 = (i * 2 + 1) + 2 by omega]
      simpa [cells] using this

/-- What holds of every disk. -/
structure Inv (d : D) : Prop where
  many : d.S.length ≤ 1000
  sure : ∀ s ∈ d.S, s.size = 64
  lies : ∀ p ∈ d.L, p.1 < d.S.length
  wide : ∀ p ∈ d.L, p.2.size = 64
  some_ : d.L.length ≤ d.ops
theorem Inv.seen {d : D} (h : Inv d) {k : Nat} (hk : k < d.S.length) : (seen d.S d.L k).size = 64 := by
  have hg : ∀ L : List (Nat × ByteArray), (∀ p ∈ L, p.2.size = 64) → ∀ o : Option ByteArray, (∀ s, o = some s → s.size = 64) → ∀ s, L.foldl (fun o p => if p.1 = k then some p.2 else o) o = some s → s.size = 64 := by
    intro L
    induction L with
    | nil => intro _ o ho s hs; exact ho s hs
    | cons p L ih =>
      intro hL o ho s hs
      refine ih (fun q hq => hL q (List.mem_cons_of_mem _ hq)) _ ?_ s hs
      intro t ht
      simp only at ht
      split at ht
      · injection ht with ht; rw [← ht]; exact hL p (List.mem_cons_self ..)
      · exact ho t ht
  unfold M.seen
  cases e : seen0 d.L k with
  | none =>
    simp only [Option.getD_none]
    rw [show d.S.getD k ByteArray.empty = d.S[k] by simp [hk]]
    exact h.sure _ (List.getElem_mem hk)
  | some s => exact hg d.L h.wide none (fun _ h => by cases h) s e
end Go.Proofs.YtmgchfjfkdkaoaaGreatDoor.M
namespace Go.Proofs.YtmgchfjfkdkaoaaGreatDoor
open Go.RowKit

theorem infoU : (Tryz.prog.info? 5).map (fun i => (i.zero, i.size, i.bytes)) = some (some (.int .u8 0), 1, 1) := by kernel_rfl
/-- A row of n bytes 0. -/
def M.nils (n : Nat) : Array Value := madeCells #[Value.int .u8 0] n
theorem M.nils_at (n j : Nat) (h : j < n) : (M.nils n)[j]? = some (.int .u8 0) := by
  simp [M.nils, madeCells, Nat.mod_one, h]
def M.zeros (n : Nat) : ByteArray := ⟨(List.replicate n (0 : UInt8)).toArray⟩
theorem conv_nils (n : Nat) (x : World) (B : Nat) (hB : Box x B 5 (M.nils n)) : Sem.run Tryz.prog (convert 37 9 (.slice (some ⟨B, 0, none⟩) n n)) x = .ok (.string (M.zeros n)) x := by
  have := run_convert_bytes_back (P := Tryz.prog) x 37 9 5 ⟨B, 0, none⟩ n (List.replicate n 0) Tryz.underlying37 Tryz.underlying5 Tryz.underlying9 (fun j hj => by
    rw [List.length_replicate] at hj
    rw [blk_add, List.getElem_replicate]
    exact (hB.cell j).trans (M.nils_at n j hj))
  rw [List.length_replicate] at this
  exact this
theorem make_nils (n : Nat) (hn : n ≤ 1000) (W : World) : (Instr.makeSlice 37 (.int .i64 (n : Int)) (.int .i64 (n : Int))).run Tryz.prog W = .ok (.slice (some ⟨W.heap.size, 0, none⟩) n n) (W.alloc (.cells (M.nils n) 5)) :=
  run_make_row' 37 5 (.int .u8 0) 1 Tryz.underlying37 infoU rfl .i64 .i64 n (by omega) (by omega) W
theorem M.zeros64 : M.zeros 64 = M.zero := rfl

end Go.Proofs.YtmgchfjfkdkaoaaGreatDoor
namespace Go.Proofs.YtmgchfjfkdkaoaaGreatDoor
open Go.RowKit Go.ChangeShapes Go.WideShapes Go.ChangeAt Go.Deep

/-- v is an array of four bytes. -/
def FourAt (_ : World) (v : Value) : Prop := ∃ d0 d1 d2 d3 : UInt8, v = .agg #[.int .u8 (d0.toNat : Int), .int .u8 (d1.toNat : Int), .int .u8 (d2.toNat : Int), .int .u8 (d3.toNat : Int)]
theorem four_of {α : Type} : ∀ l : List α, l.length = 4 → ∃ a b c d, l = [a, b, c, d]
  | a :: b :: c :: d :: [], _ => ⟨a, b, c, d, rfl⟩
theorem u8_of {x : Int} (h : (Lit.int .u8 x).wf = true) : ∃ d : UInt8, x = (d.toNat : Int) := by
  have hb := bounds_u8 h
  refine ⟨UInt8.ofNat x.toNat, ?_⟩
  simp
  omega
/-- A block of w that begins with these bytes, and may be written there. -/
def RowU (w : World) (g : Nat) (l : List UInt8) : Prop := ∃ (cs : Array Value) (z : Nat), w.heap[g]? = some (.cells cs 5 (z, z + 1)) ∧ l.length ≤ cs.size ∧ cs.size ≤ z ∧ ∀ i (hi : i < l.length), cs[i]? = some (.int .u8 ((l[i]'hi).toNat : Int))
theorem RowU.lt {w : World} {g : Nat} {l : List UInt8} (h : RowU w g l) : g < w.heap.size := by
  obtain ⟨cs, z, h, _⟩ := h
  exact lt_of_block h
theorem RowU.cell {w : World} {g : Nat} {l : List UInt8} (h : RowU w g l) (i : Nat) (hi : i < l.length) : w.cell? ⟨g, i, none⟩ = some (.int .u8 ((l[i]'hi).toNat : Int)) := by
  obtain ⟨cs, z, h, h1, h2, h3⟩ := h
  rw [cell_of_row w g i cs _ _ h]
  exact h3 i hi
theorem RowU.frozen {w : World} {g : Nat} {l : List UInt8} (h : RowU w g l) (i : Nat) (hi : i < l.length) : w.frozen? ⟨g, i, none⟩ = false := by
  obtain ⟨cs, z, h, h1, h2, h3⟩ := h
  simp [World.frozen?, h]
  omega
theorem RowU.set {w : World} {g : Nat} {l : List UInt8} (h : RowU w g l) (i : Nat) (c : UInt8) : RowU (w.setCell ⟨g, i, none⟩ (.int .u8 (c.toNat : Int))) g (l.set i c) := by
  obtain ⟨cs, z, h, h1, h2, h3⟩ := h
  refine ⟨cs.setIfInBounds i (.int .u8 (c.toNat : Int)), z, ?_, by simpa using h1, by simpa using h2, fun j hj => ?_⟩
  · simp [World.setCell, Array.getElem?_modify, h]
  · have hj' : j < l.length := by simpa using hj
    rw [Array.getElem?_setIfInBounds]
    by_cases e : i = j
    · subst e
      rw [if_pos rfl, if_pos (by omega)]
      simp
    · rw [if_neg e, h3 j hj']
      simp [e]
theorem RowU.kept {w w' : World} {g b : Nat} {l : List UInt8} (h : RowU w g l) (hg : w.grownBy w' (some b)) (hne : g ≠ b) : RowU w' g l := by
  have hl := h.lt
  obtain ⟨cs, z, h, h1⟩ := h
  exact ⟨cs, z, (hg.block g hl (fun e => hne (by injection e))).trans h, h1⟩
theorem RowU.drewN {w : World} {g : Nat} {l : List UInt8} (h : RowU w g l) (n : Nat) : RowU (w.drewN n) g l := h

/-- b is l but for four places from k on. -/
def Near (k : Nat) (l b : List UInt8) : Prop := b.length = l.length ∧ ∀ j, (j < k ∨ k + 4 ≤ j) → b[j]? = l[j]?
theorem Near.refl (k : Nat) (l : List UInt8) : Near k l l := ⟨rfl, fun _ _ => rfl⟩
theorem Near.set {k : Nat} {l b : List UInt8} (h : Near k l b) (i : Nat) (hi : i < 4) (c : UInt8) : Near k l (b.set (k + i) c) := by
  refine ⟨by simpa using h.1, fun j hj => ?_⟩
  rw [List.getElem?_set_ne (by omega)]
  exact h.2 j hj
theorem Near.of {k : Nat} {l b : List UInt8} (h : Near k l b) (e : M.of b = M.of l) : b = l := by
  have cut : ∀ x : List UInt8, x = x.take k ++ (x.drop k).take 4 ++ x.drop (k + 4) := fun x => by
    rw [List.append_assoc]
    have h1 : (x.drop k).take 4 ++ x.drop (k + 4) = x.drop k := by
      have := List.take_append_drop 4 (x.drop k)
      rwa [List.drop_drop] at this
    rw [h1, List.take_append_drop]
  have hp : b.take k = l.take k := by
    apply List.ext_getElem?
    intro j
    by_cases hj : j < k
    · rw [List.getElem?_take_of_lt hj, List.getElem?_take_of_lt hj]
      exact h.2 j (Or.inl hj)
    · rw [List.getElem?_eq_none (by rw [List.length_take]; omega), List.getElem?_eq_none (by rw [List.length_take]; omega)]
  have hq : b.drop (k + 4) = l.drop (k + 4) := by
    apply List.ext_getElem?
    intro j
    rw [List.getElem?_drop, List.getElem?_drop]
    exact h.2 _ (Or.inr (by omega))
  have hb := cut b
  have hl := cut l
  rw [hp, hq] at hb
  rw [hb, hl] at e
  have hlen : ((b.drop k).take 4).length = ((l.drop k).take 4).length := by simp [h.1]
  have := M.of_near (l.take k) ((b.drop k).take 4) ((l.drop k).take 4) (l.drop (k + 4)) hlen (by rw [List.length_take]; omega) (by
    rw [← hl] at e ⊢
    exact e)
  rw [hb, this, ← hl]
theorem four_at (d0 d1 d2 d3 : UInt8) (i : Nat) (hi : i < 4) : ∃ d : UInt8, (#[.int .u8 (d0.toNat : Int), .int .u8 (d1.toNat : Int), .int .u8 (d2.toNat : Int), .int .u8 (d3.toNat : Int)] : Array Value)[i]? = some (.int .u8 (d.toNat : Int)) := by
  have hc : i = 0 ∨ i = 1 ∨ i = 2 ∨ i = 3 := by omega
  rcases hc with rfl | rfl | rfl | rfl
  · exact ⟨d0, rfl⟩
  · exact ⟨d1, rfl⟩
  · exact ⟨d2, rfl⟩
  · exact ⟨d3, rfl⟩
theorem u8_turn (c d : UInt8) : bits .xor .u8 (c.toNat : Int) (d.toNat : Int) = ((c ^^^ d).toNat : Int) := by
  rw [UInt8.toNat_xor]
  exact u8_xor_nat _ _ c.toNat_lt d.toNat_lt
theorem row_new (w : World) (s : ByteArray) (cap : Nat) :
    RowU (w.drew.alloc (.cells (bytesRow s cap) 5 ((bytesRow s cap).size, (bytesRow s cap).size + 1))) w.heap.size s.data.toList := by
  have hz : s.data.toList.length ≤ (bytesRow s cap).size := by simp [bytesRow]
  refine ⟨bytesRow s cap, _, heap_alloc_new w.drew _, hz, Nat.le_refl _, fun i hi => ?_⟩
  have hi' : i < s.data.size := by simpa using hi
  unfold bytesRow
  rw [Array.getElem?_append_left (by simpa using hi'), Array.getElem?_map, Array.getElem?_eq_getElem hi']
  simp
theorem k_of (n : Int) (m : Nat) (h0 : 0 < m) (h : m ≤ 3000) : ∃ k : Nat, k < m ∧ wrap64 ((IntKind.u64.wrap n).tmod (m : Int)) = (k : Int) := by
  have e : IntKind.u64.wrap n = n % 18446744073709551616 := IntKind.wrap_u64 n
  have hn : 0 ≤ n % 18446744073709551616 := by omega
  rw [e, Int.tmod_eq_emod_of_nonneg hn]
  have h1 : 0 ≤ n % 18446744073709551616 % (m : Int) := Int.emod_nonneg _ (by omega)
  have h2 : n % 18446744073709551616 % (m : Int) < (m : Int) := Int.emod_lt_of_pos _ (by omega)
  refine ⟨(n % 18446744073709551616 % (m : Int)).toNat, by omega, ?_⟩
  unfold wrap64
  omega
end Go.Proofs.YtmgchfjfkdkaoaaGreatDoor
namespace Go.Proofs.YtmgchfjfkdkaoaaGreatDoor
open Go.RowKit

theorem isSize_any (n : Int) (w : World) (h0 : -9223372036854775808 ≤ n) (h1 : n ≤ 9223372036854775807) :
    Calls Tryz.prog 150 #[.int .i64 n] w fun e w' => e = .returned (.bool (M.sizeB n)) ∧ w = w' := by
  by_cases ha : 1 ≤ n
  · by_cases hb : n ≤ 7
    · have e : M.sizeB n = true := by unfold M.sizeB; simp; omega
      rw [e]
      have E := Lib.hid e; clear e
      go_enter Tryz.func150, Tryz.ntmps150
      go_wp2_with fail
      go_ret
      exact ⟨rfl, rfl⟩
    · have e : M.sizeB n = false := by unfold M.sizeB; simp; omega
      rw [e]
      have E := Lib.hid e; clear e
      have hd : decide (n ≤ 7) = false := by simpa using hb
      go_enter Tryz.func150, Tryz.ntmps150
      go_wp2_with fail
      go_ret
      exact ⟨rfl, rfl⟩
  · have e : M.sizeB n = false := by unfold M.sizeB; simp; omega
    rw [e]
    have E := Lib.hid e; clear e
    have hd : decide (1 ≤ n) = false := by simpa using ha
    go_enter Tryz.func150, Tryz.ntmps150
    go_wp2_with fail
    go_ret
    exact ⟨rfl, rfl⟩
end Go.Proofs.YtmgchfjfkdkaoaaGreatDoor
namespace Go.Proofs.YtmgchfjfkdkaoaaGreatDoor
open Go.RowKit

theorem fail_nil (e : Int) (w : World) : Calls Tryz.prog 157 #[.pointer none, .int .i64 e] w fun x w' => x = .returned (.tuple #[]) ∧ w = w' := by
  go_enter Tryz.func157, Tryz.ntmps157
  go_wp2_with fail
  go_end0
  exact ⟨rfl, rfl⟩
theorem fail_not (b : Nat) (r : ByteArray) (f e : Int) (hf : f ≠ 0) (w : World) (hB : Box w b 200 #[.string r, .int .i64 f]) :
    Calls Tryz.prog 157 #[.pointer (some ⟨b, 0, none⟩), .int .i64 e] w fun x w' => x = .returned (.tuple #[]) ∧ w = w' := by
  have h1 := hB.cell 1
  have hd : (f == 0) = false := by simpa using hf
  have HB := Lib.hid hB; clear hB hf
  simp at h1
  go_enter Tryz.func157, Tryz.ntmps157
  go_wp2_with fail
  go_end0
  exact ⟨rfl, rfl⟩
theorem fail_yes (b : Nat) (r : ByteArray) (e : Int) (w : World) (hB : Box w b 200 #[.string r, .int .i64 0]) :
    Calls Tryz.prog 157 #[.pointer (some ⟨b, 0, none⟩), .int .i64 e] w fun x w' => x = .returned (.tuple #[]) ∧ w' = w.setCell ⟨b, 1, none⟩ (.int .i64 e) := by
  have h1 := hB.cell 1
  have h2 := hB.frozen 1
  have HB := Lib.hid hB; clear hB
  simp at h1
  go_enter Tryz.func157, Tryz.ntmps157
  go_wp2_with fail
  go_end0
  exact ⟨rfl, rfl⟩

/-- A field.Reader in block b of w that has read k of s's bytes and failed with e. -/
def RdF (w : World) (b : Nat) (s : ByteArray) (t : M.St) : Prop := Box w b 200 #[.string (s.extract t.k s.size), .int .i64 t.e]

theorem fnew_any (s : ByteArray) (w : World) :
    Calls Tryz.prog 112 #[.string s] w fun e w' => e = .returned (.pointer (some ⟨w.heap.size, 0, none⟩)) ∧ w' = w.alloc (.cells #[.string s, .int .i64 0] 200) := by
  go_enter Tryz.func112, Tryz.ntmps112
  go_wp2_with fail
  go_ret
  exact ⟨rfl, rfl⟩

theorem bytes_nil (n : Int) (w : World) : Calls Tryz.prog 144 #[.pointer none, .int .i64 n] w fun e w' => e = .returned (.string ⟨#[]⟩) ∧ w = w' := by
  go_enter Tryz.func144, Tryz.ntmps144
  go_wp2_with fail
  go_ret
  exact ⟨rfl, rfl⟩
theorem bytes_failed (b : Nat) (r : ByteArray) (f n : Int) (hf : f ≠ 0) (w : World) (hB : Box w b 200 #[.string r, .int .i64 f]) :
    Calls Tryz.prog 144 #[.pointer (some ⟨b, 0, none⟩), .int .i64 n] w fun e w' => e = .returned (.string ⟨#[]⟩) ∧ w = w' := by
  have h1 := hB.cell 1
  have hd : (f != 0) = true := by simpa using hf
  have HB := Lib.hid hB; clear hB hf
  simp at h1
  go_enter Tryz.func144, Tryz.ntmps144
  go_wp2_with fail
  go_ret
  exact ⟨rfl, rfl⟩
theorem bytes_neg (b : Nat) (r : ByteArray) (n : Int) (hn : n < 0) (w : World) (hB : Box w b 200 #[.string r, .int .i64 0]) :
    Calls Tryz.prog 144 #[.pointer (some ⟨b, 0, none⟩), .int .i64 n] w fun e w' => e = .returned (.string ⟨#[]⟩) ∧ w' = w.setCell ⟨b, 1, none⟩ (.int .i64 3) := by
  have h1 := hB.cell 1
  have HB := Lib.hid hB; clear hB
  simp at h1
  go_enter Tryz.func144, Tryz.ntmps144
  go_wp2_with fail
  refine (fail_yes b r 3 w HB.out).mono ?_
  rintro e w' ⟨rfl, rfl⟩
  go_wp2_with fail
  go_ret
  exact ⟨rfl, rfl⟩
theorem bytes_short (b : Nat) (r : ByteArray) (n : Int) (hn : (r.size : Int) < n) (w : World) (hB : Box w b 200 #[.string r, .int .i64 0]) :
    Calls Tryz.prog 144 #[.pointer (some ⟨b, 0, none⟩), .int .i64 n] w fun e w' => e = .returned (.string ⟨#[]⟩) ∧ w' = w.setCell ⟨b, 1, none⟩ (.int .i64 1) := by
  have h0 := hB.cell 0
  have h1 := hB.cell 1
  have hn0 : decide (n < 0) = false := by simp; omega
  have HB := Lib.hid hB; clear hB
  simp at h0 h1
  go_enter Tryz.func144, Tryz.ntmps144
  go_wp2_with fail
  refine (fail_yes b r 1 w HB.out).mono ?_
  rintro e w' ⟨rfl, rfl⟩
  go_wp2_with fail
  go_ret
  exact ⟨rfl, rfl⟩
theorem bytes_ok (b : Nat) (r : ByteArray) (m : Nat) (hm : m ≤ r.size) (w : World) (hB : Box w b 200 #[.string r, .int .i64 0]) :
    Calls Tryz.prog 144 #[.pointer (some ⟨b, 0, none⟩), .int .i64 m] w fun e w' => e = .returned (.string (r.extract 0 m)) ∧ w' = w.setCell ⟨b, 0, none⟩ (.string (r.extract m r.size)) := by
  have h0 := hB.cell 0
  have h1 := hB.cell 1
  have h2 := hB.frozen 0
  have hn0 : decide ((m : Int) < 0) = false := by simp
  have hn1 : decide ((r.size : Int) < (m : Int)) = false := by simp; omega
  have HB := Lib.hid hB; clear hB
  simp at h0 h1
  go_enter Tryz.func144, Tryz.ntmps144
  go_wp2_with fail
  go_ret
  exact ⟨rfl, rfl⟩

theorem left_nil (w : World) : Calls Tryz.prog 161 #[.pointer none] w fun e w' => e = .returned (.int .i64 0) ∧ w = w' := by
  go_enter Tryz.func161, Tryz.ntmps161
  go_wp2_with fail
  go_ret
  exact ⟨rfl, rfl⟩
theorem left_any (b : Nat) (r : ByteArray) (f : Int) (w : World) (hB : Box w b 200 #[.string r, .int .i64 f]) :
    Calls Tryz.prog 161 #[.pointer (some ⟨b, 0, none⟩)] w fun e w' => e = .returned (.int .i64 r.size) ∧ w = w' := by
  have h0 := hB.cell 0
  have HB := Lib.hid hB; clear hB
  simp at h0
  go_enter Tryz.func161, Tryz.ntmps161
  go_wp2_with fail
  go_ret
  exact ⟨rfl, rfl⟩
end Go.Proofs.YtmgchfjfkdkaoaaGreatDoor
namespace Go.Proofs.YtmgchfjfkdkaoaaGreatDoor
open Go.RowKit

theorem bytesF (b : Nat) (s : ByteArray) (t : M.St) (n : Int) (w : World) (hR : RdF w b s t) (ht : t.ok s) :
    Calls Tryz.prog 144 #[.pointer (some ⟨b, 0, none⟩), .int .i64 n] w fun e w' => e = .returned (.string (M.outB s t n)) ∧ RdF w' b s (M.stB s t n) ∧ w.grownBy w' (some b) := by
  obtain ⟨k, f⟩ := t
  have hk : k ≤ s.size := ht
  have hz := M.ext_size s k hk
  by_cases hf : f = 0
  · subst hf
    by_cases h0 : n < 0
    · refine (bytes_neg b _ n h0 w hR).mono ?_
      rintro e w' ⟨rfl, rfl⟩
      refine ⟨by rw [M.outB, if_neg (by simp; omega)], ?_, grown_set _ _ _ _⟩
      rw [M.stB, if_neg (by simp), if_pos h0]
      exact hR.set 1 _
    · by_cases h1 : (s.size : Int) - k < n
      · refine (bytes_short b _ n (by rw [hz]; omega) w hR).mono ?_
        rintro e w' ⟨rfl, rfl⟩
        refine ⟨by rw [M.outB, if_neg (by simp; omega)], ?_, grown_set _ _ _ _⟩
        rw [M.stB, if_neg (by simp), if_neg h0, if_pos h1]
        exact hR.set 1 _
      · obtain ⟨m, rfl⟩ : ∃ m : Nat, n = m := ⟨n.toNat, by omega⟩
        refine (bytes_ok b _ m (by rw [hz]; omega) w hR).mono ?_
        rintro e w' ⟨rfl, rfl⟩
        refine ⟨?_, ?_, grown_set _ _ _ _⟩
        · rw [M.outB, if_pos (by simp; omega)]
          simp only [Int.toNat_natCast]
          rw [M.ext_ext s k m (by omega)]
        · rw [M.stB, if_neg (by simp), if_neg h0, if_neg h1]
          simp only [Int.toNat_natCast]
          rw [M.ext_rest s k m (by omega)]
          exact hR.set 0 _
  · refine (bytes_failed b _ f n hf w hR).mono ?_
    rintro e w' ⟨rfl, rfl⟩
    refine ⟨by rw [M.outB, if_neg (by simp [hf])], ?_, World.grownBy.refl _ _⟩
    rw [M.stB, if_pos hf]
    exact hR

theorem outB_size (s : ByteArray) (t : M.St) (n : Int) (h : 0 ≤ n) : ((M.outB s t n).size : Int) ≤ n := by
  unfold M.outB
  split
  · rw [ByteArray.size_extract]; omega
  · exact h

theorem take_at (d : ByteArray) (k : Nat) (h : k < d.size) : M.num (d.data.toList.take (k + 1)) = 256 * M.num (d.data.toList.take k) + (d[k]'h).toNat := by
  rw [List.take_succ_eq_append_getElem (by simpa using h), M.num_snoc]
  rfl
theorem num_take_lt (d : ByteArray) (k : Nat) (h : k < 7) (hk : k ≤ d.size) : M.num (d.data.toList.take k) < 281474976710656 := by
  have h1 := M.num_lt k (d.data.toList.take k) (by rw [List.length_take]; exact Nat.min_eq_left hk)
  have : 256 ^ k ≤ 256 ^ 6 := Nat.pow_le_pow_right (by omega) (by omega)
  omega

theorem or_i64 (q c : Nat) (hq : q < 281474976710656) (hc : c < 256) : bits BinOp.or IntKind.i64 ((q : Int) * 256) (c : Int) = ((256 * q + c : Nat) : Int) := by
  have e : ((q : Int) * 256) = ((q * 256 : Nat) : Int) := by omega
  have ha : (BitVec.ofInt 64 ((q * 256 : Nat) : Int)).toNat = q * 256 := by rw [BitVec.ofInt_natCast, BitVec.toNat_ofNat]; exact Nat.mod_eq_of_lt (by omega)
  have hb : (BitVec.ofInt 64 (c : Int)).toNat = c := by rw [BitVec.ofInt_natCast, BitVec.toNat_ofNat]; exact Nat.mod_eq_of_lt (by omega)
  rw [e]
  show IntKind.i64.wrap ((BitVec.ofInt 64 ((q * 256 : Nat) : Int) ||| BitVec.ofInt 64 (c : Int)).toNat : Int) = _
  rw [BitVec.toNat_or, ha, hb, M.shl_or q c hc, IntKind.wrap_i64]
  omega

set_option maxHeartbeats 1000000 in
theorem num_loop (b : Nat) (s : ByteArray) (t : M.St) (n : Int) (h1 : 1 ≤ n) (h7 : n ≤ 7) (w : World) (hR : RdF w b s t) (ht : t.ok s) :
    Calls Tryz.prog 145 #[.pointer (some ⟨b, 0, none⟩), .int .i64 n] w fun e w' => e = .returned (.int .i64 (M.num (M.outB s t n).data.toList)) ∧ RdF w' b s (M.stB s t n) ∧ w.grownBy w' (some b) := by
  have HC := Lib.hid (bytesF b s t n w hR ht)
  have HS : M.sizeB n = true := by unfold M.sizeB; simp; omega
  have HI := Lib.hid (isSize_any n w (by omega) (by omega))
  have hsz := outB_size s t n (by omega)
  obtain ⟨d, hd⟩ : ∃ d, d = M.outB s t n := ⟨_, rfl⟩
  rw [← hd] at HC hsz
  rw [← hd]
  rw [HS] at HI
  clear hR hd HS
  go_enter Tryz.func145, Tryz.ntmps145
  go_wp2_with fail
  refine HI.out.mono ?_
  rintro e w1 ⟨rfl, rfl⟩
  go_wp2_with fail
  refine HC.out.mono ?_
  rintro e w2 ⟨rfl, hR2, hg2⟩
  have X := Lib.hid (And.intro hR2 hg2)
  clear hR2 hg2
  go_wp2_with fail
  go_loop [5, 18] (fun v j => ∃ k : Nat, k ≤ d.size ∧ j = .int .i64 k ∧ v = .int .i64 (M.num (d.data.toList.take k))) (fun _ j => d.size - (intOf j).toNat)
  case atStart => exact ⟨0, Nat.zero_le _, rfl, rfl⟩
  case round =>
    obtain ⟨k, hk, rfl, rfl⟩ := hrel
    by_cases hlt : k < d.size
    · have HT := Lib.hid (take_at d k hlt)
      have hb := num_take_lt d k (by omega) hk
      obtain ⟨c, hc⟩ : ∃ c, c = (d[k]'hlt) := ⟨_, rfl⟩
      have hc8 := c.toNat_lt
      rw [← hc] at HT
      have hix : ∀ h : k < d.size, d[k]'h = c := fun _ => hc.symm
      clear hc
      obtain ⟨q, hq⟩ : ∃ q, q = M.num (d.data.toList.take k) := ⟨_, rfl⟩
      rw [← hq] at HT hb
      rw [← hq]
      clear hq
      go_wp2_with fail
      go_round
      case rel => exact ⟨k + 1, by omega, by go_num, by rw [HT.out, or_i64 q c.toNat hb hc8]⟩
      case measure => simp [intOf]; omega
    · go_wp2_with fail
      go_ret
      have e : k = d.size := by omega
      subst e
      refine ⟨?_, X.out⟩
      rw [List.take_of_length_le (by rw [Array.length_toList]; exact Nat.le_refl _)]
      rfl

set_option maxHeartbeats 400000 in
theorem num_nil (n : Int) (w : World) (h0 : -9223372036854775808 ≤ n) (h9 : n ≤ 9223372036854775807) :
    Calls Tryz.prog 145 #[.pointer none, .int .i64 n] w fun e w' => e = .returned (.int .i64 0) ∧ w = w' := by
  have HI := Lib.hid (isSize_any n w h0 h9)
  cases hs : M.sizeB n
  · rw [hs] at HI
    clear hs
    go_enter Tryz.func145, Tryz.ntmps145
    go_wp2_with fail
    refine HI.out.mono ?_
    rintro e w1 ⟨rfl, rfl⟩
    go_wp2_with fail
    refine (fail_nil 3 w).mono ?_
    rintro e w1 ⟨rfl, rfl⟩
    go_wp2_with fail
    go_ret
    exact ⟨rfl, rfl⟩
  · rw [hs] at HI
    clear hs
    go_enter Tryz.func145, Tryz.ntmps145
    go_wp2_with fail
    refine HI.out.mono ?_
    rintro e w1 ⟨rfl, rfl⟩
    go_wp2_with fail
    refine (bytes_nil n w).mono ?_
    rintro e w1 ⟨rfl, rfl⟩
    go_wp2_with fail
    go_loop [5, 18] (fun v j => j = .int .i64 0 ∧ v = .int .i64 0) (fun _ _ => 0)
    case atStart => exact ⟨rfl, rfl⟩
    case round =>
      obtain ⟨rfl, rfl⟩ := hrel
      go_wp2_with fail
      go_ret
      exact ⟨rfl, rfl⟩

theorem num_none (b : Nat) (s : ByteArray) (t : M.St) (n : Int) (h0 : -9223372036854775808 ≤ n) (h9 : n ≤ 9223372036854775807) (hs : M.sizeB n = false) (w : World) (hR : RdF w b s t) :
    Calls Tryz.prog 145 #[.pointer (some ⟨b, 0, none⟩), .int .i64 n] w fun e w' => e = .returned (.int .i64 0) ∧ RdF w' b s (if t.e ≠ 0 then t else ⟨t.k, 3⟩) ∧ w.grownBy w' (some b) := by
  have HI := Lib.hid (isSize_any n w h0 h9)
  rw [hs] at HI
  obtain ⟨k, f⟩ := t
  have HR := Lib.hid hR
  clear hs hR
  by_cases hf : f = 0
  · subst hf
    go_enter Tryz.func145, Tryz.ntmps145
    go_wp2_with fail
    refine HI.out.mono ?_
    rintro e w1 ⟨rfl, rfl⟩
    go_wp2_with fail
    refine (fail_yes b _ 3 w HR.out).mono ?_
    rintro e w1 ⟨rfl, rfl⟩
    have X : Hid (RdF (w.setCell ⟨b, 1, none⟩ (.int .i64 3)) b s ⟨k, 3⟩) := HR.out.set 1 _
    have Y := Lib.hid (grown_set w b 1 (.int .i64 3))
    obtain ⟨w2, hw2⟩ : ∃ w2, w2 = w.setCell ⟨b, 1, none⟩ (.int .i64 3) := ⟨_, rfl⟩
    rw [← hw2] at X Y
    rw [← hw2]
    clear hw2
    go_wp2_with fail
    go_ret
    exact ⟨rfl, X.out, Y.out⟩
  · have HF := Lib.hid hf
    clear hf
    go_enter Tryz.func145, Tryz.ntmps145
    go_wp2_with fail
    refine HI.out.mono ?_
    rintro e w1 ⟨rfl, rfl⟩
    go_wp2_with fail
    refine (fail_not b _ f 3 HF.out w HR.out).mono ?_
    rintro e w1 ⟨rfl, rfl⟩
    go_wp2_with fail
    go_ret
    exact ⟨rfl, HR.out, World.grownBy.refl _ _⟩

theorem numF (b : Nat) (s : ByteArray) (t : M.St) (n : Int) (h0 : -9223372036854775808 ≤ n) (h9 : n ≤ 9223372036854775807) (w : World) (hR : RdF w b s t) (ht : t.ok s) :
    Calls Tryz.prog 145 #[.pointer (some ⟨b, 0, none⟩), .int .i64 n] w fun e w' => e = .returned (.int .i64 (M.outN s t n)) ∧ RdF w' b s (M.stN s t n) ∧ w.grownBy w' (some b) := by
  unfold M.outN M.stN
  by_cases h : 1 ≤ n ∧ n ≤ 7
  · rw [if_pos h, if_pos h]
    exact num_loop b s t n h.1 h.2 w hR ht
  · rw [if_neg h, if_neg h]
    exact num_none b s t n h0 h9 (by unfold M.sizeB; simpa using h) w hR

theorem leftF (b : Nat) (s : ByteArray) (t : M.St) (w : World) (hR : RdF w b s t) (ht : t.ok s) :
    Calls Tryz.prog 161 #[.pointer (some ⟨b, 0, none⟩)] w fun e w' => e = .returned (.int .i64 (M.left s t)) ∧ w = w' := by
  have h := left_any b _ _ w hR
  rw [M.ext_size s t.k ht] at h
  have e : ((s.size - t.k : Nat) : Int) = M.left s t := by unfold M.left; have : t.k ≤ s.size := ht; omega
  rw [e] at h
  exact h
theorem newF (s : ByteArray) (w : World) :
    Calls Tryz.prog 112 #[.string s] w fun e w' => e = .returned (.pointer (some ⟨w.heap.size, 0, none⟩)) ∧ RdF w' w.heap.size s ⟨0, 0⟩ ∧ Below w.heap.size w w' := by
  refine (fnew_any s w).mono ?_
  rintro e w' ⟨rfl, rfl⟩
  refine ⟨rfl, ?_, (Below.refl _ _).alloc (Nat.le_refl _) _⟩
  unfold RdF
  rw [M.ext_all]
  exact Box.new _ _ _
end Go.Proofs.YtmgchfjfkdkaoaaGreatDoor
namespace Go.Proofs.YtmgchfjfkdkaoaaGreatDoor
open Go.RowKit

theorem fits_size (n z : Int) (w : World) (h0 : -9223372036854775808 ≤ z) (h9 : z ≤ 9223372036854775807) (hs : M.sizeB z = false) :
    Calls Tryz.prog 128 #[.int .i64 n, .int .i64 z] w fun e w' => e = .returned (.bool (M.fitsB n z)) ∧ w = w' := by
  have HI := Lib.hid (isSize_any z w h0 h9)
  rw [hs] at HI
  have e : M.fitsB n z = false := by
    unfold M.fitsB; unfold M.sizeB at hs; simp at hs ⊢; omega
  rw [e]
  clear hs e
  go_enter Tryz.func128, Tryz.ntmps128
  go_wp2_with fail
  refine HI.out.mono ?_
  rintro e w1 ⟨rfl, rfl⟩
  go_wp2_with fail
  go_ret
  exact ⟨rfl, rfl⟩
theorem fits_neg (n z : Int) (w : World) (h0 : -9223372036854775808 ≤ z) (h9 : z ≤ 9223372036854775807) (hs : M.sizeB z = true) (hn : n < 0) :
    Calls Tryz.prog 128 #[.int .i64 n, .int .i64 z] w fun e w' => e = .returned (.bool (M.fitsB n z)) ∧ w = w' := by
  have HI := Lib.hid (isSize_any z w h0 h9)
  rw [hs] at HI
  have e : M.fitsB n z = false := by unfold M.fitsB; simp; omega
  rw [e]
  have hd : decide (0 ≤ n) = false := by simpa using hn
  clear hs e
  go_enter Tryz.func128, Tryz.ntmps128
  go_wp2_with fail
  refine HI.out.mono ?_
  rintro e w1 ⟨rfl, rfl⟩
  go_wp2_with fail
  go_ret
  exact ⟨rfl, rfl⟩
set_option maxHeartbeats 400000 in
theorem fits_pos (n z : Int) (w : World) (hs : M.sizeB z = true) (hn : 0 ≤ n) :
    Calls Tryz.prog 128 #[.int .i64 n, .int .i64 z] w fun e w' => e = .returned (.bool (M.fitsB n z)) ∧ w = w' := by
  have hz : z = 1 ∨ z = 2 ∨ z = 3 ∨ z = 4 ∨ z = 5 ∨ z = 6 ∨ z = 7 := by unfold M.sizeB at hs; simp at hs; omega
  have HI := Lib.hid (isSize_any z w (by omega) (by omega))
  rw [hs] at HI
  clear hs
  have HF : Hid (M.fitsB n z = decide (n < 256 ^ z.toNat)) := by
    show _ = _
    unfold M.fitsB
    rw [Bool.eq_iff_iff]
    simp only [decide_eq_true_eq]
    exact ⟨fun h => h.2.2.2, fun h => ⟨by omega, by omega, hn, h⟩⟩
  rcases hz with rfl | rfl | rfl | rfl | rfl | rfl | rfl
  all_goals
    rw [HF.out]
    go_enter Tryz.func128, Tryz.ntmps128
    go_wp2_with fail
    refine HI.out.mono ?_
    rintro e w1 ⟨rfl, rfl⟩
    go_wp2_with fail
    go_ret
    exact ⟨rfl, rfl⟩
theorem fits_any (n z : Int) (w : World) (h0 : -9223372036854775808 ≤ z) (h9 : z ≤ 9223372036854775807) :
    Calls Tryz.prog 128 #[.int .i64 n, .int .i64 z] w fun e w' => e = .returned (.bool (M.fitsB n z)) ∧ w = w' := by
  cases hs : M.sizeB z
  · exact fits_size n z w h0 h9 hs
  · by_cases hn : n < 0
    · exact fits_neg n z w h0 h9 hs hn
    · exact fits_pos n z w hs (by omega)

theorem cons_bytes (c : UInt8) (t : List UInt8) : (⟨#[c]⟩ : ByteArray) ++ (⟨t.toArray⟩ : ByteArray) = ⟨(c :: t).toArray⟩ := by
  apply ByteArray.ext
  simp [ByteArray.data_append]
end Go.Proofs.YtmgchfjfkdkaoaaGreatDoor
namespace Go.Proofs.YtmgchfjfkdkaoaaGreatDoor
open Go.RowKit

theorem put_no (s : ByteArray) (n z : Int) (w : World) (h0 : -9223372036854775808 ≤ z) (h9 : z ≤ 9223372036854775807) (hf : M.fitsB n z = false) :
    Calls Tryz.prog 108 #[.string s, .int .i64 n, .int .i64 z] w fun e w' => e = .returned (.string s) ∧ w = w' := by
  have HI := Lib.hid (fits_any n z w h0 h9)
  rw [hf] at HI
  clear hf
  go_enter Tryz.func108, Tryz.ntmps108
  go_wp2_with fail
  refine HI.out.mono ?_
  rintro e w1 ⟨rfl, rfl⟩
  go_wp2_with fail
  go_ret
  exact ⟨rfl, rfl⟩

set_option maxHeartbeats 400000 in
theorem put_yes (s : ByteArray) (n z : Nat) (w : World) (hs : s.size ≤ 100000) (h1 : 1 ≤ z) (h7 : z ≤ 7) (hn : n ≤ 9223372036854775807) (hf : M.fitsB n z = true) :
    Calls Tryz.prog 108 #[.string s, .int .i64 n, .int .i64 z] w fun e w' => e = .returned (.string (s ++ ⟨(M.be n z).toArray⟩)) ∧ Below w.heap.size w w' := by
  have HI := Lib.hid (fits_any n z w (by omega) (by omega))
  rw [hf] at HI
  clear hf
  go_enter Tryz.func108, Tryz.ntmps108
  go_wp2_with fail
  refine HI.out.mono ?_
  rintro e w1 ⟨rfl, rfl⟩
  go_wp2_with fail
  go_loopw [8, 1] (fun j v wr => ∃ (r q : Nat) (t : List UInt8) (cs : Array Value), r ≤ z ∧ j = .int .i64 ((r : Int) - 1) ∧ v = .int .i64 q ∧ q ≤ 9223372036854775807 ∧ Hid (M.be n z = M.be q r ++ t) ∧ Box wr w.heap.size 197 cs ∧ cs.size = 7 ∧ Hid (∀ k c, t[k]? = some c → cs[r + k]? = some (.int .u8 (c.toNat : Int))) ∧ Below w.heap.size w wr) (fun j _ _ => (intOf j + 1).toNat)
  case atStart => exact ⟨z, n, [], #[.int .u8 0, .int .u8 0, .int .u8 0, .int .u8 0, .int .u8 0, .int .u8 0, .int .u8 0], Nat.le_refl _, rfl, rfl, hn, by show _ = _; simp, Box.new _ _ _, rfl, by intro k c h; simp at h, (Below.refl _ _).alloc (Nat.le_refl _) _⟩
  case round =>
    obtain ⟨r, q, t, cs, hr, rfl, rfl, hq, HB, hX, hcs, HT, hbw⟩ := hrel
    have HX := Lib.hid hX
    have HC := Lib.hid hcs
    clear hX hcs
    cases r with
    | zero =>
      have hz7 : (z : Int) ≤ 7 := by omega
      have hz0 : (0 : Int) ≤ z := by omega
      have ht : t = M.be n z := by rw [HB.out]; rfl
      have hl : t.length = z := by rw [ht, M.be_len]
      have hcv := run_convert_bytes_back (P := Tryz.prog) wr 37 9 5 ⟨w.heap.size, 0, none⟩ 7 t Tryz.underlying37 Tryz.underlying5 Tryz.underlying9 (fun j hj => by
        have h := HT.out j _ (List.getElem?_eq_getElem hj)
        rw [Nat.zero_add, ← HX.out.cell j] at h
        rw [← h]
        congr 1
        simp [Addr.add]
        omega)
      rw [hl] at hcv
      have hts : (⟨t.toArray⟩ : ByteArray).size ≤ 7 := by show t.toArray.size ≤ 7; simp; omega
      have H1 := Lib.hid ht
      clear ht hl
      go_wp2_with fail
      go_ret
      refine ⟨?_, hbw⟩
      rw [← H1.out]
      rfl
    | succ m =>
      have e : ((m + 1 : Nat) : Int) - 1 = m := by omega
      rw [e]
      clear e
      have hm7 : (m : Int) < 7 := by omega
      have hcell : ∃ v, wr.cell? ⟨w.heap.size, m, none⟩ = some v := by
        rw [HX.out.cell m]
        have : m < cs.size := by rw [HC.out]; omega
        exact ⟨_, Array.getElem?_eq_getElem this⟩
      obtain ⟨v0, hcell⟩ := hcell
      have hfr := HX.out.frozen m
      obtain ⟨c, hc⟩ : ∃ c, c = UInt8.ofNat (q % 256) := ⟨_, rfl⟩
      have hcn : Hid ((c.toNat : Int) = (q : Int) % 256) := by show _ = _; rw [hc]; simp
      have HS : Hid (M.be q (m + 1) ++ t = M.be (q / 256) m ++ (c :: t)) := by
        show _ = _
        rw [M.be_step, ← hc]
      clear hc
      have hcsz : m < cs.size := by rw [HC.out]; omega
      go_wp2_with fail
      go_roundw
      case rel =>
        refine ⟨m, q / 256, c :: t, cs.setIfInBounds m (.int .u8 ((q : Int) % 256)), by omega, rfl, by go_num, by omega, by show _ = _; rw [HB.out]; exact HS.out, HX.out.set m _, by rw [Array.size_setIfInBounds]; exact HC.out, ?_, hbw.setCell (Nat.le_refl _) _⟩
        intro k d hd
        cases k with
        | zero =>
          simp at hd
          subst hd
          rw [hcn.out]
          simp [hcsz]
        | succ k =>
          have h := HT.out k d (by simpa using hd)
          rw [Array.getElem?_setIfInBounds_ne (by omega), ← h]
          congr 1
          omega
      case measure => simp [intOf]

/-- What Put answers. -/
def M.putS (s : ByteArray) (n z : Int) : ByteArray := if M.fitsB n z = true then s ++ ⟨(M.be n.toNat z.toNat).toArray⟩ else s
theorem M.fits_nat {n z : Int} (h : M.fitsB n z = true) : ∃ a b : Nat, n = a ∧ z = b ∧ 1 ≤ b ∧ b ≤ 7 ∧ a < 256 ^ b := by
  unfold M.fitsB at h
  simp only [decide_eq_true_eq] at h
  obtain ⟨h1, h2, h3, h4⟩ := h
  refine ⟨n.toNat, z.toNat, by omega, by omega, by omega, by omega, ?_⟩
  have : ((n.toNat : Nat) : Int) < ((256 ^ z.toNat : Nat) : Int) := by rw [Int.natCast_pow, Int.toNat_of_nonneg h3]; exact h4
  omega
theorem put_any (s : ByteArray) (n z : Int) (w : World) (hs : s.size ≤ 100000) (hn : n ≤ 9223372036854775807) (h0 : -9223372036854775808 ≤ z) (h9 : z ≤ 9223372036854775807) :
    Calls Tryz.prog 108 #[.string s, .int .i64 n, .int .i64 z] w fun e w' => e = .returned (.string (M.putS s n z)) ∧ Below w.heap.size w w' := by
  unfold M.putS
  by_cases hf : M.fitsB n z = true
  · rw [if_pos hf]
    obtain ⟨a, b, rfl, rfl, h1, h7, _⟩ := M.fits_nat hf
    simp only [Int.toNat_natCast]
    exact put_yes s a b w hs h1 h7 (by omega) hf
  · rw [if_neg hf]
    refine (put_no s n z w h0 h9 (by simpa using hf)).mono ?_
    rintro e w' ⟨rfl, rfl⟩
    exact ⟨rfl, Below.refl _ _⟩
end Go.Proofs.YtmgchfjfkdkaoaaGreatDoor
namespace Go.Proofs.YtmgchfjfkdkaoaaGreatDoor
open Go.RowKit

theorem and_one (q : Nat) (h : q < 4294967296) : bits .and .u32 (q : Int) 1 = ((q % 2 : Nat) : Int) := by
  have := u32_and_nat q 1 h (by omega)
  rw [nat_mask1] at this
  exact this
theorem xor_p (q : Nat) (h : q < 4294967296) : bits .xor .u32 ((q : Int) / 2) 3988292384 = (((q / 2) ^^^ 3988292384 : Nat) : Int) := u32_xor_nat (q / 2) 3988292384 (by omega) (by omega)

theorem divide_any (n : Nat) (w : World) (h : n < 4294967296) :
    Calls Tryz.prog 162 #[.int .u32 n] w fun e w' => e = .returned (.int .u32 (M.steps 8 n)) ∧ w = w' := by
  go_enter Tryz.func162, Tryz.ntmps162
  go_wp2_with fail
  go_loop [0, 4] (fun v j => ∃ k : Nat, k ≤ 8 ∧ j = .int .i64 k ∧ v = .int .u32 (M.steps k n)) (fun _ j => 8 - (intOf j).toNat)
  case atStart => exact ⟨0, Nat.zero_le _, rfl, rfl⟩
  case round =>
    obtain ⟨k, hk, rfl, rfl⟩ := hrel
    have hq := M.steps_lt h k
    have HS : Hid (M.steps (k + 1) n = M.step (M.steps k n)) := by show _ = _; rfl
    obtain ⟨q, hq'⟩ : ∃ q, q = M.steps k n := ⟨_, rfl⟩
    rw [← hq'] at HS hq
    rw [← hq']
    have HQ := Lib.hid hq'
    clear hq'
    have a1 := and_one q hq
    by_cases hlt : k < 8
    · by_cases ho : q % 2 = 1
      · have a2 := xor_p q (by omega)
        have e : M.step q = (q / 2) ^^^ 3988292384 := by rw [M.step, if_pos ho]
        rw [e] at HS
        clear e
        go_wp2_with fail
        go_round
        case rel => exact ⟨k + 1, by omega, by go_num, by rw [HS.out]⟩
        case measure => simp [intOf]; omega
      · have ho' : q % 2 = 0 := by omega
        have e : M.step q = q / 2 := by rw [M.step, if_neg ho]
        rw [e] at HS
        clear e
        go_wp2_with fail
        go_round
        case rel => exact ⟨k + 1, by omega, by go_num, by rw [HS.out]; go_num⟩
        case measure => simp [intOf]; omega
    · have hge : decide ((k : Int) < 8) = false := by simp; omega
      have e : k = 8 := by omega
      rw [e] at HQ
      have E := Lib.hid e
      clear e
      go_wp2_with fail
      go_ret
      exact ⟨by rw [HQ.out]; rfl, rfl⟩

theorem run_take (s : ByteArray) (k : Nat) (h : k < s.size) (n : Nat) : M.run n (s.data.toList.take (k + 1)) = M.absorb (M.run n (s.data.toList.take k)) (s[k]'h) := by
  rw [List.take_succ_eq_append_getElem (by rw [Array.length_toList]; exact h), M.run_snoc]
  rfl
theorem xor_c (q : Nat) (c : UInt8) (h : q < 4294967296) : bits .xor .u32 (q : Int) ((c.toNat : Int) % 4294967296) = ((q ^^^ c.toNat : Nat) : Int) := by
  have := c.toNat_lt
  have e : (c.toNat : Int) % 4294967296 = (c.toNat : Int) := by omega
  rw [e]
  exact u32_xor_nat q c.toNat h (by omega)
theorem not_n (q : Nat) (h : q < 4294967296) : bits .xor .u32 IntKind.u32.max (q : Int) = ((q ^^^ 4294967295 : Nat) : Int) := by
  rw [Nat.xor_comm]
  exact u32_xor_nat 4294967295 q (by omega) h
theorem extend_any (n : Nat) (s : ByteArray) (w : World) (h : n < 4294967296) (hs : s.size ≤ 9223372036854775807) :
    Calls Tryz.prog 156 #[.int .u32 n, .string s] w fun e w' => e = .returned (.int .u32 ((M.run (n ^^^ 4294967295) s.data.toList ^^^ 4294967295 : Nat) : Int)) ∧ w = w' := by
  have a1 := not_n n h
  have hm := M.xor_lt h (by omega : 4294967295 < 4294967296)
  obtain ⟨m, hm'⟩ : ∃ m, m = n ^^^ 4294967295 := ⟨_, rfl⟩
  rw [← hm'] at a1 hm
  rw [← hm']
  clear hm'
  go_enter Tryz.func156, Tryz.ntmps156
  go_wp2_with fail
  clear a1
  go_loop [5, 11] (fun v j => ∃ k : Nat, k ≤ s.size ∧ j = .int .i64 k ∧ v = .int .u32 (M.run m (s.data.toList.take k))) (fun _ j => s.size - (intOf j).toNat)
  case atStart => exact ⟨0, Nat.zero_le _, rfl, rfl⟩
  case round =>
    obtain ⟨k, hk, rfl, rfl⟩ := hrel
    have hq := M.run_lt hm (s.data.toList.take k)
    by_cases hlt : k < s.size
    · have HT := Lib.hid (run_take s k hlt m)
      obtain ⟨c, hc⟩ : ∃ c, c = (s[k]'hlt) := ⟨_, rfl⟩
      have hix : ∀ h : k < s.size, s[k]'h = c := fun _ => hc.symm
      rw [← hc] at HT
      clear hc
      obtain ⟨q, hq'⟩ : ∃ q, q = M.run m (s.data.toList.take k) := ⟨_, rfl⟩
      rw [← hq'] at HT hq
      rw [← hq']
      clear hq'
      have a2 := xor_c q c hq
      have hx := M.xor_lt hq (by have := c.toNat_lt; omega : c.toNat < 4294967296)
      have HC := Lib.hid (divide_any (q ^^^ c.toNat) w hx)
      rw [M.absorb] at HT
      obtain ⟨d, hd⟩ : ∃ d, d = M.steps 8 (q ^^^ c.toNat) := ⟨_, rfl⟩
      rw [← hd] at HT HC
      clear hd
      go_wp2_with fail
      refine HC.out.mono ?_
      rintro e w1 ⟨rfl, rfl⟩
      go_wp2_with fail
      go_round
      case rel => exact ⟨k + 1, by omega, by go_num, by rw [HT.out]⟩
      case measure => simp [intOf]; omega
    · have e : s.data.toList.take k = s.data.toList := List.take_of_length_le (by rw [Array.length_toList]; exact Nat.not_lt.mp hlt)
      rw [e] at hq
      rw [e]
      have a2 := not_n _ hq
      clear e
      go_wp2_with fail
      go_ret
      exact ⟨rfl, rfl⟩

theorem of_any (s : ByteArray) (w : World) (hs : s.size ≤ 9223372036854775807) :
    Calls Tryz.prog 143 #[.string s] w fun e w' => e = .returned (.int .i64 (M.of s.data.toList)) ∧ w = w' := by
  have HC := Lib.hid (extend_any 0 s w (by omega) hs)
  have hl := M.of_lt s.data.toList
  have e : M.run (0 ^^^ 4294967295) s.data.toList ^^^ 4294967295 = M.of s.data.toList := by simp [M.of]
  rw [e] at HC
  clear e
  go_enter Tryz.func143, Tryz.ntmps143
  go_wp2_with fail
  refine HC.out.mono ?_
  rintro e w1 ⟨rfl, rfl⟩
  go_wp2_with fail
  go_ret
  exact ⟨rfl, rfl⟩
end Go.Proofs.YtmgchfjfkdkaoaaGreatDoor
namespace Go.Proofs.YtmgchfjfkdkaoaaGreatDoor
open Go.RowKit

/-- Cells that hold bytes, made a string. -/
theorem bytes_back (w : World) (cs : Array Value) (n : Nat) (l : List UInt8) (hn : l.length = n) (h : ∀ i (hi : i < l.length), cs[i]? = some (Value.int .u8 ((l[i]'hi).toNat : Int))) :
    Sem.run Tryz.prog (convert 37 9 (.slice (some ⟨w.heap.size, 0, none⟩) n n)) (w.alloc (.cells cs 5)) = .ok (.string ⟨l.toArray⟩) (w.alloc (.cells cs 5)) := by
  have hcv := run_convert_bytes_back (P := Tryz.prog) (w.alloc (.cells cs 5)) 37 9 5 ⟨w.heap.size, 0, none⟩ n l Tryz.underlying37 Tryz.underlying5 Tryz.underlying9 (fun j hj => by
    rw [blk_add, (Box.new w 5 cs).cell j]
    exact h j hj)
  rw [hn] at hcv
  exact hcv
theorem tl_at (q : Nat) (h : q < 4294967296) (cs : Array Value) (hcs : cs = #[.int .u8 ((q : Int) % 256), .int .u8 ((q : Int) / 256 % 256), .int .u8 ((q : Int) / 65536 % 256), .int .u8 ((q : Int) / 16777216)])
    (i : Nat) (hi : i < (M.tl q).length) : cs[i]? = some (Value.int .u8 (((M.tl q)[i]'hi).toNat : Int)) := by
  subst hcs
  have hi' : i < 4 := hi
  have hc : i = 0 ∨ i = 1 ∨ i = 2 ∨ i = 3 := by omega
  rcases hc with rfl | rfl | rfl | rfl <;> simp [M.tl]
  omega

theorem tail_any (s : ByteArray) (w : World) (hs : s.size ≤ 9223372036854775807) :
    Calls Tryz.prog 110 #[.string s] w fun e w' => e = .returned (.string ⟨(M.tl (M.of s.data.toList)).toArray⟩) ∧ Below w.heap.size w w' := by
  have HC := Lib.hid (of_any s w hs)
  have hl := M.of_lt s.data.toList
  obtain ⟨q, hq⟩ : ∃ q, q = M.of s.data.toList := ⟨_, rfl⟩
  rw [← hq] at HC hl
  rw [← hq]
  clear hq
  have hcv := bytes_back w _ 4 (M.tl q) rfl (tl_at q hl _ rfl)
  have hb := Lib.hid ((Below.refl w.heap.size w).alloc (Nat.le_refl _) (.cells #[.int .u8 ((q : Int) % 256), .int .u8 ((q : Int) / 256 % 256), .int .u8 ((q : Int) / 65536 % 256), .int .u8 ((q : Int) / 16777216)] 5))
  obtain ⟨b, hb'⟩ : ∃ b, b = M.tl q := ⟨_, rfl⟩
  rw [← hb'] at hcv
  rw [← hb']
  clear hb'
  go_enter Tryz.func110, Tryz.ntmps110
  go_wp2_with fail
  refine HC.out.mono ?_
  rintro e w1 ⟨rfl, rfl⟩
  go_wp2_with fail
  go_ret
  exact ⟨rfl, hb.out⟩

theorem i64_xor (a b : Nat) (ha : a < 4294967296) (hb : b < 4294967296) : bits .xor .i64 (a : Int) (b : Int) = ((a ^^^ b : Nat) : Int) := by
  have hx : a ^^^ b < 4294967296 := M.xor_lt ha hb
  show IntKind.i64.wrap ((BitVec.ofInt 64 (a : Int) ^^^ BitVec.ofInt 64 (b : Int)).toNat : Int) = _
  rw [BitVec.toNat_xor, ofInt_u64 a (by omega), ofInt_u64 b (by omega)]
  simp only [IntKind.wrap, IntKind.bits, IntKind.signed]
  simp
  omega
theorem i64_xor_c (q : Nat) (c : UInt8) (h : q < 4294967296) : bits .xor .i64 (q : Int) (wrap64 (c.toNat : Int)) = ((q ^^^ c.toNat : Nat) : Int) := by
  have := c.toNat_lt
  have e : wrap64 (c.toNat : Int) = (c.toNat : Int) := by unfold wrap64; omega
  rw [e]
  exact i64_xor q c.toNat h (by omega)
theorem i64_xor_p (q : Nat) (h : q < 4294967296) : bits .xor .i64 ((q : Int) / 2) 3988292384 = (((q / 2) ^^^ 3988292384 : Nat) : Int) := i64_xor (q / 2) 3988292384 (by omega) (by omega)
theorem i64_xor_all (q : Nat) (h : q < 4294967296) : bits .xor .i64 (q : Int) 4294967295 = ((q ^^^ 4294967295 : Nat) : Int) := i64_xor q 4294967295 h (by omega)
end Go.Proofs.YtmgchfjfkdkaoaaGreatDoor
namespace Go.Proofs.YtmgchfjfkdkaoaaGreatDoor
open Go.RowKit

/-- How many bytes lack of whole sectors. -/
def M.lack (n : Nat) : Nat := (64 - n % 64) % 64
/-- Bytes with noughts behind, up to whole sectors. -/
def M.pad (s : ByteArray) : ByteArray := s ++ M.zeros (M.lack s.size)
theorem M.zeros_size (n : Nat) : (M.zeros n).size = n := by
  show (List.replicate n (0 : UInt8)).toArray.size = n
  simp
theorem M.pad_size (s : ByteArray) : (M.pad s).size = s.size + M.lack s.size := by rw [M.pad, ByteArray.size_append, M.zeros_size]
theorem M.lack_whole (n : Nat) : (n + M.lack n) % 64 = 0 := by unfold M.lack; omega
theorem M.lack_least (n k : Nat) (h : k < M.lack n) : (n + k) % 64 ≠ 0 := by unfold M.lack at h; omega
theorem M.lack_le (n : Nat) : M.lack n ≤ 63 := by unfold M.lack; omega
theorem M.repeat_zero (c : Nat) : (⟨(Lib.repeatL (⟨#[0]⟩ : ByteArray).data.toList c).toArray⟩ : ByteArray) = M.zeros c := by
  have : ∀ c, Lib.repeatL [0] c = List.replicate c (0 : UInt8) := by
    intro c
    induction c with
    | zero => rfl
    | succ c ih => rw [Lib.repeatL, ih, List.replicate_succ]; rfl
  show (⟨(Lib.repeatL [0] c).toArray⟩ : ByteArray) = _
  rw [this]
  rfl
theorem M.zeros_snoc (s : ByteArray) (k : Nat) : (s ++ M.zeros k) ++ (⟨#[0]⟩ : ByteArray) = s ++ M.zeros (k + 1) := by
  rw [ByteArray.append_assoc]
  congr 1
  apply ByteArray.ext
  rw [ByteArray.data_append]
  show (List.replicate k (0 : UInt8)).toArray ++ [0].toArray = (List.replicate (k + 1) (0 : UInt8)).toArray
  rw [List.replicate_succ', List.append_toArray]
theorem zerosN_any (c : Nat) (hc : c ≤ 1000) (w : World) : Calls Tryz.prog 46 #[.string ⟨#[0]⟩, .int .i64 (c : Nat)] w fun e w' => e = .returned (.string (M.zeros c)) ∧ Below w.heap.size w w' := by
  have h := Tryz.strings_Repeat ⟨#[0]⟩ c w (by omega) (by show 1 * c ≤ _; omega)
  rw [M.repeat_zero] at h
  exact h

set_option maxRecDepth 100000 in
theorem pad_any (s : ByteArray) (hs : s.size ≤ 1000000) (w : World) : Calls Tryz.prog 109 #[.string s] w fun e w' => e = .returned (.string (M.pad s)) ∧ Below w.heap.size w w' := by
  unfold M.pad
  obtain ⟨r, hr⟩ : ∃ r, r = s.size % 64 := ⟨_, rfl⟩
  obtain ⟨c, hc⟩ : ∃ c, c = M.lack s.size := ⟨_, rfl⟩
  have hcl : c ≤ 63 := by rw [hc]; exact M.lack_le _
  have e1 : (s.size : Int) % 64 = (r : Int) := by omega
  have e2 : (64 - (r : Int)) % 64 = (c : Int) := by rw [hc]; unfold M.lack; omega
  have b1 : (r : Int) ≤ 63 := by omega
  have b0 : (0 : Int) ≤ 64 - (r : Int) := by omega
  rw [← hc]
  have HZ := Lib.hid (zerosN_any c (by omega) w)
  obtain ⟨t, ht⟩ : ∃ t, t = M.zeros c := ⟨_, rfl⟩
  have hts : t.size = c := by rw [ht, M.zeros_size]
  have b3 : t.size ≤ 63 := by omega
  rw [← ht] at HZ ⊢
  clear hc hr ht hts
  go_enter Tryz.func109, Tryz.ntmps109
  go_wp2_with fail
  refine HZ.out.mono ?_
  rintro e w1 ⟨rfl, h1⟩
  have H1 := Lib.hid h1
  clear h1 HZ
  go_wp2_with fail
  go_ret
  exact ⟨rfl, H1.out⟩

end Go.Proofs.YtmgchfjfkdkaoaaGreatDoor
namespace Go.Proofs.YtmgchfjfkdkaoaaGreatDoor
open Go.RowKit

/-- The number that bytes of s are. -/
def M.hnum (s : ByteArray) (i j : Nat) : Int := (M.num (s.extract i j).data.toList : Nat)
theorem M.num_at (s : ByteArray) (k z : Nat) (h1 : 1 ≤ z) (h7 : z ≤ 7) (h : k + z ≤ s.size) : M.outN s ⟨k, 0⟩ (z : Nat) = M.hnum s k (k + z) ∧ M.stN s ⟨k, 0⟩ (z : Nat) = ⟨k + z, 0⟩ := by
  constructor
  · rw [M.outN, if_pos (by omega), M.outB, if_pos ⟨rfl, by omega, by simp only; omega⟩]
    rfl
  · rw [M.stN, if_pos (by omega), M.stB, if_neg (by simp), if_neg (by omega), if_neg (by simp only; omega)]
    rfl
theorem M.bytes_at (s : ByteArray) (k z : Nat) (h : k + z ≤ s.size) : M.outB s ⟨k, 0⟩ (z : Nat) = s.extract k (k + z) ∧ M.stB s ⟨k, 0⟩ (z : Nat) = ⟨k + z, 0⟩ := by
  constructor
  · rw [M.outB, if_pos ⟨rfl, by omega, by simp only; omega⟩]
    rfl
  · rw [M.stB, if_neg (by simp), if_neg (by omega), if_neg (by simp only; omega)]
    rfl

/-- In y, a later world than w, there is a reader that has read k of s's bytes, and ahead of it the result's box. -/
structure RdK (w y : World) (b : Nat) (t : TypeId) (cs : Array Value) (s : ByteArray) (k : Nat) : Prop where
  rd : RdF y b s ⟨k, 0⟩
  box : Box y w.heap.size t cs
  below : Below w.heap.size w y
  lt : w.heap.size < b
section
variable {w y : World} {b : Nat} {t : TypeId} {cs : Array Value} {s : ByteArray} {k : Nat}
theorem RdK.keep {z : World} (h : RdK w y b t cs s k) (hb : Below y.heap.size y z) : RdK w z b t cs s k :=
  ⟨Box.below h.rd hb (Box.lt h.rd), Box.below h.box hb (Box.lt h.box), h.below.trans (hb.mono h.below.size), h.lt⟩
theorem RdK.drew (h : RdK w y b t cs s k) : RdK w y.drew b t cs s k := h.keep (Below.refl _ _).drew
theorem RdK.alloc (h : RdK w y b t cs s k) (o : Obj) : RdK w (y.alloc o) b t cs s k := h.keep ((Below.refl _ _).alloc (Nat.le_refl _) o)
theorem RdK.step {z : World} {k' : Nat} (h : RdK w y b t cs s k) (hr : RdF z b s ⟨k', 0⟩) (hg : y.grownBy z (some b)) : RdK w z b t cs s k' :=
  ⟨hr, Box.kept h.box hg (by have := h.lt; omega), below_by h.below hg (by have := h.lt; omega) h.below.size, h.lt⟩
theorem RdK.num (h : RdK w y b t cs s k) (z : Nat) (h1 : 1 ≤ z) (h7 : z ≤ 7) (hz : k + z ≤ s.size) :
    Calls Tryz.prog 145 #[.pointer (some ⟨b, 0, none⟩), .int .i64 (z : Nat)] y fun e y' => e = .returned (.int .i64 (M.hnum s k (k + z))) ∧ RdK w y' b t cs s (k + z) := by
  refine (numF b s ⟨k, 0⟩ (z : Nat) (by omega) (by omega) y h.rd (by show k ≤ s.size; omega)).mono ?_
  rintro e y' ⟨h1', h2, h3⟩
  obtain ⟨e1, e2⟩ := M.num_at s k z h1 h7 hz
  rw [e1] at h1'
  rw [e2] at h2
  exact ⟨h1', h.step h2 h3⟩
theorem RdK.bytes (h : RdK w y b t cs s k) (z : Nat) (hz : k + z ≤ s.size) :
    Calls Tryz.prog 144 #[.pointer (some ⟨b, 0, none⟩), .int .i64 (z : Nat)] y fun e y' => e = .returned (.string (s.extract k (k + z))) ∧ RdK w y' b t cs s (k + z) := by
  refine (bytesF b s ⟨k, 0⟩ (z : Nat) y h.rd (by show k ≤ s.size; omega)).mono ?_
  rintro e y' ⟨h1', h2, h3⟩
  obtain ⟨e1, e2⟩ := M.bytes_at s k z hz
  rw [e1] at h1'
  rw [e2] at h2
  exact ⟨h1', h.step h2 h3⟩
theorem RdK.bytes2 (h : RdK w y b t cs s k) (z : Nat) (hz : k + z ≤ s.size) {hb : Nat} {t2 : TypeId} {cs2 : Array Value} (h2 : Box y hb t2 cs2) (hne : b < hb) :
    Calls Tryz.prog 144 #[.pointer (some ⟨b, 0, none⟩), .int .i64 (z : Nat)] y fun e y' => e = .returned (.string (s.extract k (k + z))) ∧ RdK w y' b t cs s (k + z) ∧ Box y' hb t2 cs2 := by
  refine (bytesF b s ⟨k, 0⟩ (z : Nat) y h.rd (by show k ≤ s.size; omega)).mono ?_
  rintro e y' ⟨h1', h2', h3⟩
  obtain ⟨e1, e2⟩ := M.bytes_at s k z hz
  rw [e1] at h1'
  rw [e2] at h2'
  exact ⟨h1', h.step h2' h3, Box.kept h2 h3 (by omega)⟩
end
/-- A new reader behind the box of a call's result, in a block that a letter names. -/
theorem newK (s : ByteArray) (w : World) (t : TypeId) (cs : Array Value) : Calls Tryz.prog 112 #[.string s] (w.alloc (.cells cs t)) fun e y => ∃ b, e = .returned (.pointer (some ⟨b, 0, none⟩)) ∧ RdK w y b t cs s 0 := by
  refine (newF s _).mono ?_
  rintro e y ⟨h1, h2, h3⟩
  exact ⟨_, h1, h2, (Box.new w t cs).below h3 (Box.new w t cs).lt, ((Below.refl w.heap.size w).alloc (Nat.le_refl _) _).trans (h3.mono (by simp)), by simp⟩
end Go.Proofs.YtmgchfjfkdkaoaaGreatDoor
namespace Go.Proofs.YtmgchfjfkdkaoaaGreatDoor.M

section
variable (a b : Nat → Int) (t u : Nat → ByteArray)
/-- Has one ahead the same place? -/
def twice (i : Nat) : Bool := (List.range i).any fun k => a k == a i
theorem twice_iff (i : Nat) : twice a i = true ↔ ∃ k, k < i ∧ a k = a i := by simp [twice]
/-- What is wrong with one. -/
def secE (i : Nat) : Int := if a i < 0 ∨ 1000 ≤ a i then 3 else if (t i).size ≠ 64 then 12 else if twice a i = true then 9 else 0
/-- What is wrong with the first so many. -/
def firstE : Nat → Int
  | 0 => 0
  | k + 1 => if firstE k ≠ 0 then firstE k else secE a t k
theorem firstE_next (k : Nat) (h : firstE a t k = 0) : firstE a t (k + 1) = secE a t k := by rw [firstE, if_neg (by simp [h])]
theorem firstE_more (k j : Nat) (h : firstE a t k ≠ 0) : firstE a t (k + j) = firstE a t k := by
  induction j with
  | zero => rfl
  | succ j ih => rw [← Nat.add_assoc, firstE, if_pos (by rw [ih]; exact h), ih]
theorem firstE_stop {k n : Nat} (hk : k < n) (h : firstE a t k = 0) (hs : secE a t k ≠ 0) : firstE a t n = secE a t k := by
  obtain ⟨j, rfl⟩ : ∃ j, n = (k + 1) + j := ⟨n - (k + 1), by omega⟩
  rw [firstE_more _ _ _ _ (by rw [firstE_next _ _ _ h]; exact hs), firstE_next _ _ _ h]
theorem firstE_all {n : Nat} (h : firstE a t n = 0) : ∀ i, i < n → secE a t i = 0 := by
  induction n with
  | zero => intro i hi; omega
  | succ n ih =>
    intro i hi
    have h0 : firstE a t n = 0 := by
      by_cases e : firstE a t n = 0
      · exact e
      · rw [firstE, if_pos e] at h; exact h
    by_cases e : i = n
    · rw [e, ← firstE_next _ _ _ h0, h]
    · exact ih h0 i (by omega)
theorem secE_ok {i : Nat} (h : secE a t i = 0) : (0 ≤ a i ∧ a i < 1000) ∧ (t i).size = 64 ∧ twice a i = false := by
  unfold secE at h
  split at h
  · omega
  · split at h
    · omega
    · split at h
      · omega
      · rename_i h1 h2 h3
        exact ⟨by omega, by omega, by simpa using h3⟩
/-- What is wrong with n of them. -/
def chk (n : Nat) : Int := if n = 0 then 8 else if 16 < n then 6 else firstE a t n
theorem chk_ok {n : Nat} (h : chk a t n = 0) : (1 ≤ n ∧ n ≤ 16) ∧ ∀ i, i < n → (0 ≤ a i ∧ a i < 1000) ∧ (t i).size = 64 := by
  unfold chk at h
  split at h
  · omega
  · split at h
    · omega
    · exact ⟨by omega, fun i hi => let x := secE_ok a t (firstE_all a t h i hi); ⟨x.1, x.2.1⟩⟩
/-- All ahead of the tail, with so many places. -/
def head (q n : Nat) : Nat → ByteArray
  | 0 => (⟨#[82]⟩ : ByteArray) ++ bytes q 6 ++ bytes n 1
  | k + 1 => head q n k ++ bytes (a k).toNat 2
/-- So many texts. -/
def alls : Nat → ByteArray
  | 0 => ⟨#[]⟩
  | k + 1 => alls k ++ t k
theorem R_size : (⟨#[82]⟩ : ByteArray).size = 1 := rfl
theorem head_size (q n k : Nat) : (head a q n k).size = 8 + 2 * k := by
  induction k with
  | zero => simp only [head, ByteArray.size_append, bytes_size, R_size]
  | succ k ih => rw [head, ByteArray.size_append, ih, bytes_size]; omega
theorem alls_size (n : Nat) (h : ∀ i, i < n → (t i).size = 64) : (alls t n).size = 64 * n := by
  induction n with
  | zero => rfl
  | succ n ih => rw [alls, ByteArray.size_append, ih (fun i hi => h i (by omega)), h n (by omega)]; omega
theorem alls_le (n : Nat) (h : ∀ i, i < n → (t i).size ≤ 500) : (alls t n).size ≤ 500 * n := by
  induction n with
  | zero => exact Nat.zero_le _
  | succ n ih => have := ih (fun i hi => h i (by omega)); have := h n (by omega); rw [alls, ByteArray.size_append]; omega
/-- A record. -/
def rec (q n : Nat) : ByteArray := pad (head a q n n ++ tail (head a q n n ++ alls t n)) ++ alls t n
theorem rsum_size (q n : Nat) (A : ByteArray) : (head a q n n ++ tail (head a q n n ++ A)).size = 12 + 2 * n := by rw [ByteArray.size_append, tail_size, head_size]; omega
theorem rec_eq (q n : Nat) (hn : n ≤ 16) : rec a t q n = head a q n n ++ tail (head a q n n ++ alls t n) ++ zeros (52 - 2 * n) ++ alls t n := by
  have e : lack (12 + 2 * n) = 52 - 2 * n := by unfold lack; omega
  rw [rec, pad, rsum_size, e]
theorem rec_size (q n : Nat) (hn : n ≤ 16) (h : ∀ i, i < n → (t i).size = 64) : (rec a t q n).size = 64 * (n + 1) := by
  rw [rec_eq a t q n hn, ByteArray.size_append, ByteArray.size_append, rsum_size, alls_size t n h, zeros_size]; omega
def rE (q : Int) (n : Nat) : Int := if q < 0 ∨ 281474976710656 ≤ q then 3 else chk a t n
def rS (q : Int) (n : Nat) : ByteArray := if rE a t q n = 0 then rec a t q.toNat n else ⟨#[]⟩
theorem rE_ok {q : Int} {n : Nat} (h : rE a t q n = 0) : (0 ≤ q ∧ q < 281474976710656) ∧ (1 ≤ n ∧ n ≤ 16) ∧ ∀ i, i < n → (0 ≤ a i ∧ a i < 1000) ∧ (t i).size = 64 := by
  unfold rE at h
  split at h
  · omega
  · exact ⟨by omega, chk_ok a t h⟩
theorem rS_yes {q : Int} {n : Nat} (h : rE a t q n = 0) : rS a t q n = rec a t q.toNat n := by rw [rS, if_pos h]
theorem rS_no {q : Int} {n : Nat} (h : rE a t q n ≠ 0) : rS a t q n = ⟨#[]⟩ := by rw [rS, if_neg h]
theorem rS_size {q : Int} {n : Nat} (h : rE a t q n = 0) : (rS a t q n).size = 64 * (n + 1) := by
  obtain ⟨_, h2, h3⟩ := rE_ok a t h
  rw [rS_yes a t h, rec_size a t _ n h2.2 (fun i hi => (h3 i hi).2)]
variable {a b t u}
theorem head_congr {n : Nat} (q m : Nat) (h : ∀ i, i < n → a i = b i) : head a q m n = head b q m n := by
  induction n with
  | zero => rfl
  | succ n ih => rw [head, head, ih (fun i hi => h i (by omega)), h n (by omega)]
theorem alls_congr {n : Nat} (h : ∀ i, i < n → t i = u i) : alls t n = alls u n := by
  induction n with
  | zero => rfl
  | succ n ih => rw [alls, alls, ih (fun i hi => h i (by omega)), h n (by omega)]
theorem twice_congr {i : Nat} (h : ∀ k, k ≤ i → a k = b k) : twice a i = twice b i := by
  rw [Bool.eq_iff_iff, twice_iff, twice_iff]
  constructor
  · rintro ⟨k, hk, e⟩; exact ⟨k, hk, by rw [← h k (by omega), ← h i (by omega)]; exact e⟩
  · rintro ⟨k, hk, e⟩; exact ⟨k, hk, by rw [h k (by omega), h i (by omega)]; exact e⟩
theorem firstE_congr {n : Nat} (h : ∀ i, i < n → a i = b i) (h' : ∀ i, i < n → t i = u i) : firstE a t n = firstE b u n := by
  induction n with
  | zero => rfl
  | succ n ih =>
    have e : secE a t n = secE b u n := by rw [secE, secE, h n (by omega), h' n (by omega), twice_congr (fun k hk => h k (by omega))]
    rw [firstE, firstE, ih (fun i hi => h i (by omega)) (fun i hi => h' i (by omega)), e]
theorem rE_congr {n : Nat} (q : Int) (h : ∀ i, i < n → a i = b i) (h' : ∀ i, i < n → t i = u i) : rE a t q n = rE b u q n := by
  rw [rE, rE, chk, chk, firstE_congr h h']
theorem rec_congr {n : Nat} (q : Nat) (h : ∀ i, i < n → a i = b i) (h' : ∀ i, i < n → t i = u i) : rec a t q n = rec b u q n := by
  rw [rec, rec, head_congr q n h, alls_congr h']
theorem rS_congr {n : Nat} (q : Int) (h : ∀ i, i < n → a i = b i) (h' : ∀ i, i < n → t i = u i) : rS a t q n = rS b u q n := by
  rw [rS, rS, rE_congr q h h', rec_congr _ h h']
theorem head_split (q n : Nat) {i k : Nat} (h : i < k) : ∃ r, head a q n k = head a q n i ++ bytes (a i).toNat 2 ++ r := by
  induction k with
  | zero => omega
  | succ k ih =>
    by_cases e : i = k
    · exact ⟨⟨#[]⟩, by rw [app_nil, head, e]⟩
    · obtain ⟨r, hr⟩ := ih (by omega)
      exact ⟨r ++ bytes (a k).toNat 2, by rw [head, hr, ByteArray.append_assoc]⟩
theorem alls_split {i k : Nat} (h : i < k) : ∃ r, alls t k = alls t i ++ t i ++ r := by
  induction k with
  | zero => omega
  | succ k ih =>
    by_cases e : i = k
    · exact ⟨⟨#[]⟩, by rw [app_nil, alls, e]⟩
    · obtain ⟨r, hr⟩ := ih (by omega)
      exact ⟨r ++ t k, by rw [alls, hr, ByteArray.append_assoc]⟩
theorem head_start (q n k : Nat) : ∃ r, head a q n k = (⟨#[82]⟩ : ByteArray) ++ bytes q 6 ++ bytes n 1 ++ r := by
  induction k with
  | zero => exact ⟨⟨#[]⟩, by rw [app_nil, head]⟩
  | succ k ih =>
    obtain ⟨r, hr⟩ := ih
    exact ⟨r ++ bytes (a k).toNat 2, by rw [head, hr, ByteArray.append_assoc]⟩
end

/-- What a record says: the places, the texts, how many, the number. -/
def gA (s : ByteArray) (i : Nat) : Int := hnum s (8 + 2 * i) (10 + 2 * i)
def gT (s : ByteArray) (i : Nat) : ByteArray := s.extract (64 + 64 * i) (128 + 64 * i)
def gN (s : ByteArray) : Nat := s.size / 64 - 1
def gQ (s : ByteArray) : Int := hnum s 1 7
def getE (s : ByteArray) : Int :=
  if s.size = 0 ∨ s.size % 64 ≠ 0 then 12
  else if s.extract 0 1 ≠ ⟨#[82]⟩ ∨ hnum s 7 8 ≠ (gN s : Int) ∨ gN s < 1 ∨ 16 < gN s then 4
  else if s.extract (8 + 2 * gN s) (12 + 2 * gN s) ≠ tail (s.extract 0 (8 + 2 * gN s) ++ s.extract 64 s.size) then 5
  else if rE (gA s) (gT s) (gQ s) (gN s) ≠ 0 ∨ rS (gA s) (gT s) (gQ s) (gN s) ≠ s then 4 else 0
def getN (s : ByteArray) : Nat := if getE s = 0 then gN s else 0
def getQ (s : ByteArray) : Int := if getE s = 0 then gQ s else 0
/-- Does a sector begin as a record's first one does, and how many does it tell? -/
def begins (s : ByteArray) : Prop := s.extract 0 1 = ⟨#[82]⟩ ∧ 1 ≤ hnum s 7 8 ∧ hnum s 7 8 ≤ 16
instance (s : ByteArray) : Decidable (begins s) := by unfold begins; infer_instance
def szE (s : ByteArray) (q : Int) : Int := if s.size ≠ 64 then 12 else if begins s ∧ gQ s = q then 0 else 8
def szN (s : ByteArray) (q : Int) : Int := if szE s q = 0 then 1 + hnum s 7 8 else 0

theorem hnum_be11 (s p m q : ByteArray) (i j n z : Nat) (e : s = p ++ m ++ q) (hi : i = p.size) (hj : j = p.size + m.size) (hm : m = bytes n z) (hn : n < 256 ^ z) : hnum s i j = n := by
  rw [hnum, ex_mid s p m q i j e hi hj, hm, bytes]
  show ((num (be n z) : Nat) : Int) = n
  rw [num_be z n hn]
section
variable {a : Nat → Int} {t : Nat → ByteArray} {q n : Nat}
/-- What stands where in a record. -/
theorem rec_parts (hq : q < 281474976710656) (hn : n ≤ 16) (h : ∀ i, i < n → (0 ≤ a i ∧ a i < 1000) ∧ (t i).size = 64) :
    (rec a t q n).extract 0 1 = ⟨#[82]⟩ ∧ hnum (rec a t q n) 1 7 = q ∧ hnum (rec a t q n) 7 8 = n ∧ (∀ i, i < n → gA (rec a t q n) i = a i) ∧ (∀ i, i < n → gT (rec a t q n) i = t i)
    ∧ (rec a t q n).extract 0 (8 + 2 * n) = head a q n n ∧ (rec a t q n).extract (8 + 2 * n) (12 + 2 * n) = tail (head a q n n ++ alls t n) ∧ (rec a t q n).extract 64 (rec a t q n).size = alls t n
    ∧ (rec a t q n).extract (12 + 2 * n) 64 = zeros (52 - 2 * n) := by
  have hs := rec_size a t q n hn (fun i hi => (h i hi).2)
  have E := rec_eq a t q n hn
  obtain ⟨S, hS⟩ : ∃ S, S = rec a t q n := ⟨_, rfl⟩
  obtain ⟨T, hT⟩ : ∃ T, T = tail (head a q n n ++ alls t n) := ⟨_, rfl⟩
  have hTs : T.size = 4 := by rw [hT, tail_size]
  have hh := head_size a q n n
  have hz := zeros_size (52 - 2 * n)
  have hal := alls_size t n (fun i hi => (h i hi).2)
  rw [← hS] at hs E ⊢
  rw [← hT] at E ⊢
  obtain ⟨r, hr⟩ := head_start (a := a) q n n
  have E1 : S = (⟨#[82]⟩ : ByteArray) ++ bytes q 6 ++ bytes n 1 ++ (r ++ T ++ zeros (52 - 2 * n) ++ alls t n) := by rw [E, hr]; simp only [ByteArray.append_assoc]
  refine ⟨?_, ?_, ?_, fun i hi => ?_, fun i hi => ?_, ?_, ?_, ?_, ?_⟩
  · exact ex_mid S ⟨#[]⟩ ⟨#[82]⟩ (bytes q 6 ++ bytes n 1 ++ (r ++ T ++ zeros (52 - 2 * n) ++ alls t n)) 0 1 (by rw [E1, nil_app]; simp only [ByteArray.append_assoc]) rfl rfl
  · exact hnum_be11 S ⟨#[82]⟩ (bytes q 6) (bytes n 1 ++ (r ++ T ++ zeros (52 - 2 * n) ++ alls t n)) 1 7 q 6 (by rw [E1]; simp only [ByteArray.append_assoc]) rfl (by rw [bytes_size, R_size]) rfl (by omega)
  · exact hnum_be11 S (⟨#[82]⟩ ++ bytes q 6) (bytes n 1) (r ++ T ++ zeros (52 - 2 * n) ++ alls t n) 7 8 n 1 E1 (by rw [ByteArray.size_append, bytes_size, R_size]) (by rw [ByteArray.size_append, bytes_size, bytes_size, R_size]) rfl (by omega)
  · obtain ⟨r2, hr2⟩ := head_split (a := a) q n hi
    have hai := (h i hi).1
    have := hnum_be11 S (head a q n i) (bytes (a i).toNat 2) (r2 ++ T ++ zeros (52 - 2 * n) ++ alls t n) (8 + 2 * i) (10 + 2 * i) (a i).toNat 2 (by rw [E, hr2]; simp only [ByteArray.append_assoc]) (by rw [head_size]) (by rw [head_size, bytes_size]; omega) rfl (by omega)
    rw [gA, this]
    omega
  · obtain ⟨r2, hr2⟩ := alls_split (t := t) hi
    have hai := alls_size t i (fun k hk => (h k (by omega)).2)
    exact ex_mid S (head a q n n ++ T ++ zeros (52 - 2 * n) ++ alls t i) (t i) r2 _ _ (by rw [E, hr2]; simp only [ByteArray.append_assoc]) (by simp only [ByteArray.size_append, hh, hTs, hz, hai]; omega) (by simp only [ByteArray.size_append, hh, hTs, hz, hai, (h i hi).2]; omega)
  · exact ex_mid S ⟨#[]⟩ (head a q n n) (T ++ zeros (52 - 2 * n) ++ alls t n) _ _ (by rw [E, nil_app]; simp only [ByteArray.append_assoc]) rfl (by rw [hh]; show _ = 0 + _; omega)
  · exact ex_mid S (head a q n n) T (zeros (52 - 2 * n) ++ alls t n) _ _ (by rw [E]; simp only [ByteArray.append_assoc]) (by rw [hh]) (by rw [hh, hTs]; omega)
  · exact ex_mid S (head a q n n ++ T ++ zeros (52 - 2 * n)) (alls t n) ⟨#[]⟩ _ _ (by rw [app_nil]; exact E) (by simp only [ByteArray.size_append, hh, hTs, hz]; omega) (by simp only [ByteArray.size_append, hh, hTs, hz, hs, hal]; omega)
  · exact ex_mid S (head a q n n ++ T) (zeros (52 - 2 * n)) (alls t n) _ _ E (by simp only [ByteArray.size_append, hh, hTs]; omega) (by simp only [ByteArray.size_append, hh, hTs, hz]; omega)
theorem get_rec (Q : Int) (h : rE a t Q n = 0) : getE (rec a t Q.toNat n) = 0 ∧ gN (rec a t Q.toNat n) = n ∧ gQ (rec a t Q.toNat n) = Q ∧ (∀ i, i < n → gA (rec a t Q.toNat n) i = a i) ∧ (∀ i, i < n → gT (rec a t Q.toNat n) i = t i) := by
  obtain ⟨h1, h2, h3⟩ := rE_ok a t h
  have hs := rec_size a t Q.toNat n h2.2 (fun i hi => (h3 i hi).2)
  obtain ⟨p1, p2, p3, p4, p5, p6, p7, p8, _⟩ := rec_parts (a := a) (t := t) (q := Q.toNat) (n := n) (by omega) h2.2 h3
  have hrs := rS_yes a t h
  obtain ⟨S, hS⟩ : ∃ S, S = rec a t Q.toNat n := ⟨_, rfl⟩
  rw [← hS] at hs p1 p2 p3 p4 p5 p6 p7 p8 hrs ⊢
  have eN : gN S = n := by rw [gN, hs]; omega
  have eQ : gQ S = Q := by rw [gQ, p2]; omega
  refine ⟨?_, eN, eQ, p4, p5⟩
  unfold getE
  rw [eN, eQ, if_neg (by omega), if_neg (by rw [p1, p3]; simp; omega), if_neg (by rw [p7, p6, p8]; simp), rE_congr Q p4 p5, rS_congr Q p4 p5, if_neg (by rw [h, hrs]; simp)]
theorem get_ok {s : ByteArray} (h : getE s = 0) : rE (gA s) (gT s) (gQ s) (gN s) = 0 ∧ s = rec (gA s) (gT s) (gQ s).toNat (gN s) := by
  unfold getE at h
  repeat' split at h
  all_goals (first | (exact absurd h (by decide)) | skip)
  rename_i h1 h2 h3 h4
  have e1 : rE (gA s) (gT s) (gQ s) (gN s) = 0 := Classical.byContradiction fun hx => h4 (Or.inl hx)
  have e2 : rS (gA s) (gT s) (gQ s) (gN s) = s := Classical.byContradiction fun hx => h4 (Or.inr hx)
  rw [rS_yes _ _ e1] at e2
  exact ⟨e1, e2.symm⟩
/-- The first sector tells how many there are. -/
theorem size_rec (Q : Int) (h : rE a t Q n = 0) : szE ((rec a t Q.toNat n).extract 0 64) Q = 0 ∧ szN ((rec a t Q.toNat n).extract 0 64) Q = n + 1 := by
  obtain ⟨h1, h2, h3⟩ := rE_ok a t h
  have hs := rec_size a t Q.toNat n h2.2 (fun i hi => (h3 i hi).2)
  obtain ⟨p1, p2, p3, _⟩ := rec_parts (a := a) (t := t) (q := Q.toNat) (n := n) (by omega) h2.2 h3
  obtain ⟨S, hS⟩ : ∃ S, S = rec a t Q.toNat n := ⟨_, rfl⟩
  rw [← hS] at hs p1 p2 p3 ⊢
  have x : ∀ i j, j ≤ 64 → (S.extract 0 64).extract i j = S.extract i j := fun i j hj => by
    rw [ByteArray.extract_extract]
    congr 1 <;> omega
  have e1 : hnum (S.extract 0 64) 1 7 = Q := by rw [hnum, x 1 7 (by omega)]; rw [hnum] at p2; rw [p2]; omega
  have e2 : hnum (S.extract 0 64) 7 8 = n := by rw [hnum, x 7 8 (by omega)]; exact p3
  have hz : szE (S.extract 0 64) Q = 0 := by
    unfold szE
    rw [if_neg (by rw [ByteArray.size_extract]; omega), if_pos ⟨⟨by rw [x 0 1 (by omega)]; exact p1, by rw [e2]; omega, by rw [e2]; omega⟩, e1⟩]
  refine ⟨hz, ?_⟩
  rw [szN, if_pos hz, e2]
  omega
end
end Go.Proofs.YtmgchfjfkdkaoaaGreatDoor.M
