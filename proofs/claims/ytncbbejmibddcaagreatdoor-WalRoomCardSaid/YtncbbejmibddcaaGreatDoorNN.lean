/-
  A log in memory: a disk, its regions and a shadow, and what the log's own cells say.
-/
import Derived.Test.YtncbbejmibddcaaGreatDoorNA
import Derived.Test.YtncbbejmibddcaaGreatDoorMQ
namespace Go.Proofs.YtncbbejmibddcaaGreatDoor
open Go.RowKit Go.Maps

/-- A log: its head's number, the next record's number and place, how many sectors the records have; the disk; what is staged, and what is kept. -/
structure M.Wl where
  gen : Nat
  seq : Nat
  pl : Nat
  used : Nat
  act : Bool
  uns : Bool
  d : M.D
  l : List (Int × Value)
  k : List (Int × Value)

/-- A log in memory, block by block. -/
structure WalM (y : World) (b a ra rr sb : Nat) (PD PS : Nat → Prop) (fr mn : Nat) (s : M.Wl) : Prop where
  box : Box y b 80 #[.pointer (some ⟨a, 0, none⟩), .int .i64 (fr : Nat), .pointer (some ⟨ra, 0, none⟩), .pointer (some ⟨rr, 0, none⟩), .int .i64 (s.gen : Nat), .int .i64 (s.seq : Nat), .int .i64 (s.pl : Nat), .int .i64 (s.used : Nat), .bool s.act, .bool s.uns, .pointer (some ⟨sb, 0, none⟩)]
  disk : Disk y a PD s.d
  all : Reg y ra a fr mn
  recs : Reg y rr a (fr + 2) (mn - 2)
  sh : Sh 115 y sb PS s.l s.k
  dl : ∀ j, PD j → j < y.heap.size
  sl : ∀ j, PS j → j < y.heap.size
  db : ¬ PD b
  dra : ¬ PD ra
  drr : ¬ PD rr
  sb_ : ¬ PS b
  sra : ¬ PS ra
  srr : ¬ PS rr
  bra : b ≠ ra
  brr : b ≠ rr
  ds : ∀ j, PD j → ¬ PS j
/-- A log whose blocks are all among P. -/
def Wal (y : World) (b : Nat) (P : Nat → Prop) (fr mn : Nat) (s : M.Wl) : Prop :=
  ∃ a ra rr sb PD PS, WalM y b a ra rr sb PD PS fr mn s ∧ P b ∧ P ra ∧ P rr ∧ (∀ j, PD j → P j) ∧ ∀ j, PS j → P j

section
variable {y z : World} {b a ra rr sb fr mn : Nat} {P PD PS Q : Nat → Prop} {s : M.Wl}
theorem WalM.kept (h : WalM y b a ra rr sb PD PS fr mn s) (hk : Kept Q y z) (hb : ¬ Q b) (h1 : ¬ Q ra) (h2 : ¬ Q rr) (h3 : ∀ j, PD j → ¬ Q j) (h4 : ∀ j, PS j → ¬ Q j) : WalM z b a ra rr sb PD PS fr mn s :=
  ⟨hk.box h.box hb, h.disk.kept hk (fun j e e' => h3 j e e'), h.all.kept hk h1, h.recs.kept hk h2, h.sh.kept hk h4, fun j e => Nat.lt_of_lt_of_le (h.dl j e) hk.size, fun j e => Nat.lt_of_lt_of_le (h.sl j e) hk.size, h.db, h.dra, h.drr, h.sb_, h.sra, h.srr, h.bra, h.brr, h.ds⟩
theorem WalM.beside (h : WalM y b a ra rr sb PD PS fr mn s) (hb : Below y.heap.size y z) : WalM z b a ra rr sb PD PS fr mn s := h.kept (Kept.of_below hb (fun _ => False)) id id id (fun _ _ => id) (fun _ _ => id)
theorem WalM.drewN (h : WalM y b a ra rr sb PD PS fr mn s) (n : Nat) : WalM (y.drewN n) b a ra rr sb PD PS fr mn s := h.kept ((Kept.refl (fun _ => False) y).drewN n) id id id (fun _ _ => id) (fun _ _ => id)
/-- The disk has done something. -/
theorem WalM.disk' {d' : M.D} (h : WalM y b a ra rr sb PD PS fr mn s) (hd : Disk z a (M.plus PD y.heap.size) d') (hk : Kept PD y z) : WalM z b a ra rr sb (fun j => (PD j ∨ y.heap.size ≤ j) ∧ j < z.heap.size) PS fr mn { s with d := d' } := by
  have hbl := h.box.lt
  have hal := h.all.lt
  have hrl := h.recs.lt
  exact ⟨hk.box h.box h.db, hd.mono (fun j hj e => ⟨e, hj⟩), h.all.kept hk h.dra, h.recs.kept hk h.drr, h.sh.kept hk (fun j e e' => h.ds j e' e), fun j e => e.2, fun j e => Nat.lt_of_lt_of_le (h.sl j e) hk.size,
    fun e => e.1.elim h.db (fun e => by omega), fun e => e.1.elim h.dra (fun e => by omega), fun e => e.1.elim h.drr (fun e => by omega), h.sb_, h.sra, h.srr, h.bra, h.brr, fun j e e' => e.1.elim (fun e => h.ds j e e') (fun e => by have := h.sl j e'; omega)⟩
/-- The shadow has done something. -/
theorem WalM.sh' {L K : List (Int × Value)} (h : WalM y b a ra rr sb PD PS fr mn s) (hs : Sh 115 z sb (M.plus13 PS y.heap.size) L K) (hk : Kept PS y z) : WalM z b a ra rr sb PD (fun j => (PS j ∨ y.heap.size ≤ j) ∧ j < z.heap.size) fr mn { s with l := L, k := K } := by
  have hbl := h.box.lt
  have hal := h.all.lt
  have hrl := h.recs.lt
  exact ⟨hk.box h.box h.sb_, h.disk.kept hk (fun j e e' => h.ds j e e'), h.all.kept hk h.sra, h.recs.kept hk h.srr, hs.mono (fun j hj e => ⟨e, hj⟩), fun j e => Nat.lt_of_lt_of_le (h.dl j e) hk.size, fun j e => e.2,
    h.db, h.dra, h.drr, fun e => e.1.elim h.sb_ (fun e => by omega), fun e => e.1.elim h.sra (fun e => by omega), fun e => e.1.elim h.srr (fun e => by omega), h.bra, h.brr, fun j e e' => e'.1.elim (h.ds j e) (fun e' => by have := h.dl j e; omega)⟩
/-- A cell of the log's own is set. -/
theorem WalM.cell' {s' : M.Wl} (h : WalM y b a ra rr sb PD PS fr mn s) (hk : Kept (fun j => j = b) y z) (hb : Box z b 80 #[.pointer (some ⟨a, 0, none⟩), .int .i64 (fr : Nat), .pointer (some ⟨ra, 0, none⟩), .pointer (some ⟨rr, 0, none⟩), .int .i64 (s'.gen : Nat), .int .i64 (s'.seq : Nat), .int .i64 (s'.pl : Nat), .int .i64 (s'.used : Nat), .bool s'.act, .bool s'.uns, .pointer (some ⟨sb, 0, none⟩)])
    (h1 : s'.d = s.d) (h2 : s'.l = s.l) (h3 : s'.k = s.k) : WalM z b a ra rr sb PD PS fr mn s' :=
  ⟨hb, by rw [h1]; exact h.disk.kept hk (fun j e e' => h.db (e' ▸ e)), h.all.kept hk (fun e => h.bra e.symm), h.recs.kept hk (fun e => h.brr e.symm), by rw [h2, h3]; exact h.sh.kept hk (fun j e e' => h.sb_ (e' ▸ e)), fun j e => Nat.lt_of_lt_of_le (h.dl j e) hk.size, fun j e => Nat.lt_of_lt_of_le (h.sl j e) hk.size, h.db, h.dra, h.drr, h.sb_, h.sra, h.srr, h.bra, h.brr, h.ds⟩
theorem WalM.setAct (h : WalM y b a ra rr sb PD PS fr mn s) (x : Bool) : WalM (y.setCell ⟨b, 8, none⟩ (.bool x)) b a ra rr sb PD PS fr mn { s with act := x } :=
  h.cell' ((Kept.refl (fun j => j = b) y).set (fun _ => rfl) 8 _) (h.box.set 8 _) rfl rfl rfl
theorem WalM.setUns (h : WalM y b a ra rr sb PD PS fr mn s) (x : Bool) : WalM (y.setCell ⟨b, 9, none⟩ (.bool x)) b a ra rr sb PD PS fr mn { s with uns := x } :=
  h.cell' ((Kept.refl (fun j => j = b) y).set (fun _ => rfl) 9 _) (h.box.set 9 _) rfl rfl rfl
theorem WalM.setGen (h : WalM y b a ra rr sb PD PS fr mn s) (x : Nat) : WalM (y.setCell ⟨b, 4, none⟩ (.int .i64 (x : Nat))) b a ra rr sb PD PS fr mn { s with gen := x } :=
  h.cell' ((Kept.refl (fun j => j = b) y).set (fun _ => rfl) 4 _) (h.box.set 4 _) rfl rfl rfl
theorem WalM.setSeq (h : WalM y b a ra rr sb PD PS fr mn s) (x : Nat) : WalM (y.setCell ⟨b, 5, none⟩ (.int .i64 (x : Nat))) b a ra rr sb PD PS fr mn { s with seq := x } :=
  h.cell' ((Kept.refl (fun j => j = b) y).set (fun _ => rfl) 5 _) (h.box.set 5 _) rfl rfl rfl
theorem WalM.setPl (h : WalM y b a ra rr sb PD PS fr mn s) (x : Nat) : WalM (y.setCell ⟨b, 6, none⟩ (.int .i64 (x : Nat))) b a ra rr sb PD PS fr mn { s with pl := x } :=
  h.cell' ((Kept.refl (fun j => j = b) y).set (fun _ => rfl) 6 _) (h.box.set 6 _) rfl rfl rfl
theorem WalM.setUsed (h : WalM y b a ra rr sb PD PS fr mn s) (x : Nat) : WalM (y.setCell ⟨b, 7, none⟩ (.int .i64 (x : Nat))) b a ra rr sb PD PS fr mn { s with used := x } :=
  h.cell' ((Kept.refl (fun j => j = b) y).set (fun _ => rfl) 7 _) (h.box.set 7 _) rfl rfl rfl
theorem Wal.kept (h : Wal y b P fr mn s) (hk : Kept Q y z) (hpq : ∀ j, P j → ¬ Q j) : Wal z b P fr mn s := by
  obtain ⟨a, ra, rr, sb, PD, PS, h, h1, h2, h3, h4, h5⟩ := h
  exact ⟨a, ra, rr, sb, PD, PS, h.kept hk (hpq _ h1) (hpq _ h2) (hpq _ h3) (fun j e => hpq j (h4 j e)) (fun j e => hpq j (h5 j e)), h1, h2, h3, h4, h5⟩
theorem Wal.mono (h : Wal y b P fr mn s) (hpq : ∀ j, j < y.heap.size → P j → Q j) : Wal y b Q fr mn s := by
  obtain ⟨a, ra, rr, sb, PD, PS, h, h1, h2, h3, h4, h5⟩ := h
  exact ⟨a, ra, rr, sb, PD, PS, h, hpq _ h.box.lt h1, hpq _ h.all.lt h2, hpq _ h.recs.lt h3, fun j e => hpq j (h.dl j e) (h4 j e), fun j e => hpq j (h.sl j e) (h5 j e)⟩
theorem Wal.lt (h : Wal y b P fr mn s) : b < y.heap.size := let ⟨_, _, _, _, _, _, h, _⟩ := h; h.box.lt
/-- What a call leaves, as a log whose blocks are among P or new. -/
theorem WalM.out {w : World} {b a ra rr sb fr mn : Nat} {P PD PS PD' PS' : Nat → Prop} {s s' : M.Wl} {y : World} (h : WalM y b a ra rr sb PD' PS' fr mn s') (_h0 : WalM w b a ra rr sb PD PS fr mn s) (hd : ∀ j, PD' j → PD j ∨ w.heap.size ≤ j) (hs : ∀ j, PS' j → PS j ∨ w.heap.size ≤ j) (h1 : P b) (h2 : P ra) (h3 : P rr) (h4 : ∀ j, PD j → P j) (h5 : ∀ j, PS j → P j) :
    Wal y b (fun j => P j ∨ w.heap.size ≤ j) fr mn s' :=
  ⟨a, ra, rr, sb, PD', PS', h, Or.inl h1, Or.inl h2, Or.inl h3, fun j e => (hd j e).imp (h4 j) id, fun j e => (hs j e).imp (h5 j) id⟩
end
end Go.Proofs.YtncbbejmibddcaaGreatDoor
