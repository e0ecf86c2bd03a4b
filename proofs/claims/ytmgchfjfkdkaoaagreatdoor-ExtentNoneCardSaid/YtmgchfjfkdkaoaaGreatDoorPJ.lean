/-
  A log in memory: a disk, its regions and a shadow, and what the log's own cells say. Walks over wal's small calls: Begin, Active, Abort, Read, Flush, Sure, Room, Stage; and of nil.
-/
import Derived.Test.YtmgchfjfkdkaoaaGreatDoorNA
import Derived.Test.YtmgchfjfkdkaoaaGreatDoorMQ
import Derived.Test.YtmgchfjfkdkaoaaGreatDoorND
import Derived.Test.YtmgchfjfkdkaoaaGreatDoorPB
import Derived.Test.YtmgchfjfkdkaoaaGreatDoorME
namespace Go.Proofs.YtmgchfjfkdkaoaaGreatDoor
open Go.RowKit Go.Maps

/-- A log: its head's number, the next record's number and place, how many sectors the records have; the disk; what is staged, and what is kept. -/
structure M.Wl where
  gen : Nat
  seq : Nat
  pl : Nat
  used : Nat
  act : Bool
  uns : Bool
  d : M.D
  l : List (Int × Value)
  k : List (Int × Value)
  dk : Nat

/-- A log in memory, block by block. -/
structure WalM (y : World) (b a ra rr sb : Nat) (PD PS : Nat → Prop) (fr mn : Nat) (s : M.Wl) : Prop where
  box : Box y b 62 #[.pointer (some ⟨a, 0, none⟩), .int .i64 (fr : Nat), .pointer (some ⟨ra, 0, none⟩), .pointer (some ⟨rr, 0, none⟩), .int .i64 (s.gen : Nat), .int .i64 (s.seq : Nat), .int .i64 (s.pl : Nat), .int .i64 (s.used : Nat), .bool s.act, .bool s.uns, .pointer (some ⟨sb, 0, none⟩)]
  disk : Disk y a PD s.d
  all : Reg y ra a fr mn
  recs : Reg y rr a (fr + 2) (mn - 2)
  sh : Sh 128 y sb PS s.l s.k
  dl : ∀ j, PD j → j < y.heap.size
  sl : ∀ j, PS j → j < y.heap.size
  db : ¬ PD b
  dra : ¬ PD ra
  drr : ¬ PD rr
  sb_ : ¬ PS b
  sra : ¬ PS ra
  srr : ¬ PS rr
  bra : b ≠ ra
  brr : b ≠ rr
  ds : ∀ j, PD j → ¬ PS j
  dk : s.dk = a
/-- A log whose blocks are all among P. -/
def Wal (y : World) (b : Nat) (P : Nat → Prop) (fr mn : Nat) (s : M.Wl) : Prop :=
  ∃ a ra rr sb PD PS, WalM y b a ra rr sb PD PS fr mn s ∧ P b ∧ P ra ∧ P rr ∧ (∀ j, PD j → P j) ∧ ∀ j, PS j → P j

section
variable {y z : World} {b a ra rr sb fr mn : Nat} {P PD PS Q : Nat → Prop} {s : M.Wl}
theorem WalM.kept (h : WalM y b a ra rr sb PD PS fr mn s) (hk : Kept Q y z) (hb : ¬ Q b) (h1 : ¬ Q ra) (h2 : ¬ Q rr) (h3 : ∀ j, PD j → ¬ Q j) (h4 : ∀ j, PS j → ¬ Q j) : WalM z b a ra rr sb PD PS fr mn s :=
  ⟨hk.box h.box hb, h.disk.kept hk (fun j e e' => h3 j e e'), h.all.kept hk h1, h.recs.kept hk h2, h.sh.kept hk h4, fun j e => Nat.lt_of_lt_of_le (h.dl j e) hk.size, fun j e => Nat.lt_of_lt_of_le (h.sl j e) hk.size, h.db, h.dra, h.drr, h.sb_, h.sra, h.srr, h.bra, h.brr, h.ds, h.dk⟩
theorem WalM.beside (h : WalM y b a ra rr sb PD PS fr mn s) (hb : Below y.heap.size y z) : WalM z b a ra rr sb PD PS fr mn s := h.kept (Kept.of_below hb (fun _ => False)) id id id (fun _ _ => id) (fun _ _ => id)
theorem WalM.drewN (h : WalM y b a ra rr sb PD PS fr mn s) (n : Nat) : WalM (y.drewN n) b a ra rr sb PD PS fr mn s := h.kept ((Kept.refl (fun _ => False) y).drewN n) id id id (fun _ _ => id) (fun _ _ => id)
/-- The disk has done something. -/
theorem WalM.disk' {d' : M.D} (h : WalM y b a ra rr sb PD PS fr mn s) (hd : Disk z a (M.plus PD y.heap.size) d') (hk : Kept PD y z) : WalM z b a ra rr sb (fun j => (PD j ∨ y.heap.size ≤ j) ∧ j < z.heap.size) PS fr mn { s with d := d' } := by
  have hbl := h.box.lt
  have hal := h.all.lt
  have hrl := h.recs.lt
  exact ⟨hk.box h.box h.db, hd.mono (fun j hj e => ⟨e, hj⟩), h.all.kept hk h.dra, h.recs.kept hk h.drr, h.sh.kept hk (fun j e e' => h.ds j e' e), fun j e => e.2, fun j e => Nat.lt_of_lt_of_le (h.sl j e) hk.size,
    fun e => e.1.elim h.db (fun e => by omega), fun e => e.1.elim h.dra (fun e => by omega), fun e => e.1.elim h.drr (fun e => by omega), h.sb_, h.sra, h.srr, h.bra, h.brr, fun j e e' => e.1.elim (fun e => h.ds j e e') (fun e => by have := h.sl j e'; omega), h.dk⟩
/-- The shadow has done something. -/
theorem WalM.sh' {L K : List (Int × Value)} (h : WalM y b a ra rr sb PD PS fr mn s) (hs : Sh 128 z sb (M.plus13 PS y.heap.size) L K) (hk : Kept PS y z) : WalM z b a ra rr sb PD (fun j => (PS j ∨ y.heap.size ≤ j) ∧ j < z.heap.size) fr mn { s with l := L, k := K } := by
  have hbl := h.box.lt
  have hal := h.all.lt
  have hrl := h.recs.lt
  exact ⟨hk.box h.box h.sb_, h.disk.kept hk (fun j e e' => h.ds j e e'), h.all.kept hk h.sra, h.recs.kept hk h.srr, hs.mono (fun j hj e => ⟨e, hj⟩), fun j e => Nat.lt_of_lt_of_le (h.dl j e) hk.size, fun j e => e.2,
    h.db, h.dra, h.drr, fun e => e.1.elim h.sb_ (fun e => by omega), fun e => e.1.elim h.sra (fun e => by omega), fun e => e.1.elim h.srr (fun e => by omega), h.bra, h.brr, fun j e e' => e'.1.elim (h.ds j e) (fun e' => by have := h.dl j e; omega), h.dk⟩
/-- A cell of the log's own is set. -/
theorem WalM.cell' {s' : M.Wl} (h : WalM y b a ra rr sb PD PS fr mn s) (hk : Kept (fun j => j = b) y z) (hb : Box z b 62 #[.pointer (some ⟨a, 0, none⟩), .int .i64 (fr : Nat), .pointer (some ⟨ra, 0, none⟩), .pointer (some ⟨rr, 0, none⟩), .int .i64 (s'.gen : Nat), .int .i64 (s'.seq : Nat), .int .i64 (s'.pl : Nat), .int .i64 (s'.used : Nat), .bool s'.act, .bool s'.uns, .pointer (some ⟨sb, 0, none⟩)])
    (h1 : s'.d = s.d) (h2 : s'.l = s.l) (h3 : s'.k = s.k) (h4 : s'.dk = s.dk) : WalM z b a ra rr sb PD PS fr mn s' :=
  ⟨hb, by rw [h1]; exact h.disk.kept hk (fun j e e' => h.db (e' ▸ e)), h.all.kept hk (fun e => h.bra e.symm), h.recs.kept hk (fun e => h.brr e.symm), by rw [h2, h3]; exact h.sh.kept hk (fun j e e' => h.sb_ (e' ▸ e)), fun j e => Nat.lt_of_lt_of_le (h.dl j e) hk.size, fun j e => Nat.lt_of_lt_of_le (h.sl j e) hk.size, h.db, h.dra, h.drr, h.sb_, h.sra, h.srr, h.bra, h.brr, h.ds, h4.trans h.dk⟩
theorem WalM.setAct (h : WalM y b a ra rr sb PD PS fr mn s) (x : Bool) : WalM (y.setCell ⟨b, 8, none⟩ (.bool x)) b a ra rr sb PD PS fr mn { s with act := x } :=
  h.cell' ((Kept.refl (fun j => j = b) y).set (fun _ => rfl) 8 _) (h.box.set 8 _) rfl rfl rfl rfl
theorem WalM.setUns (h : WalM y b a ra rr sb PD PS fr mn s) (x : Bool) : WalM (y.setCell ⟨b, 9, none⟩ (.bool x)) b a ra rr sb PD PS fr mn { s with uns := x } :=
  h.cell' ((Kept.refl (fun j => j = b) y).set (fun _ => rfl) 9 _) (h.box.set 9 _) rfl rfl rfl rfl
theorem WalM.setGen (h : WalM y b a ra rr sb PD PS fr mn s) (x : Nat) : WalM (y.setCell ⟨b, 4, none⟩ (.int .i64 (x : Nat))) b a ra rr sb PD PS fr mn { s with gen := x } :=
  h.cell' ((Kept.refl (fun j => j = b) y).set (fun _ => rfl) 4 _) (h.box.set 4 _) rfl rfl rfl rfl
theorem WalM.setSeq (h : WalM y b a ra rr sb PD PS fr mn s) (x : Nat) : WalM (y.setCell ⟨b, 5, none⟩ (.int .i64 (x : Nat))) b a ra rr sb PD PS fr mn { s with seq := x } :=
  h.cell' ((Kept.refl (fun j => j = b) y).set (fun _ => rfl) 5 _) (h.box.set 5 _) rfl rfl rfl rfl
theorem WalM.setPl (h : WalM y b a ra rr sb PD PS fr mn s) (x : Nat) : WalM (y.setCell ⟨b, 6, none⟩ (.int .i64 (x : Nat))) b a ra rr sb PD PS fr mn { s with pl := x } :=
  h.cell' ((Kept.refl (fun j => j = b) y).set (fun _ => rfl) 6 _) (h.box.set 6 _) rfl rfl rfl rfl
theorem WalM.setUsed (h : WalM y b a ra rr sb PD PS fr mn s) (x : Nat) : WalM (y.setCell ⟨b, 7, none⟩ (.int .i64 (x : Nat))) b a ra rr sb PD PS fr mn { s with used := x } :=
  h.cell' ((Kept.refl (fun j => j = b) y).set (fun _ => rfl) 7 _) (h.box.set 7 _) rfl rfl rfl rfl
theorem Wal.kept (h : Wal y b P fr mn s) (hk : Kept Q y z) (hpq : ∀ j, P j → ¬ Q j) : Wal z b P fr mn s := by
  obtain ⟨a, ra, rr, sb, PD, PS, h, h1, h2, h3, h4, h5⟩ := h
  exact ⟨a, ra, rr, sb, PD, PS, h.kept hk (hpq _ h1) (hpq _ h2) (hpq _ h3) (fun j e => hpq j (h4 j e)) (fun j e => hpq j (h5 j e)), h1, h2, h3, h4, h5⟩
theorem Wal.mono (h : Wal y b P fr mn s) (hpq : ∀ j, j < y.heap.size → P j → Q j) : Wal y b Q fr mn s := by
  obtain ⟨a, ra, rr, sb, PD, PS, h, h1, h2, h3, h4, h5⟩ := h
  exact ⟨a, ra, rr, sb, PD, PS, h, hpq _ h.box.lt h1, hpq _ h.all.lt h2, hpq _ h.recs.lt h3, fun j e => hpq j (h.dl j e) (h4 j e), fun j e => hpq j (h.sl j e) (h5 j e)⟩
/-- The disk that it stands on. -/
theorem Wal.disk (h : Wal y b P fr mn s) : Disk y s.dk P s.d := by
  obtain ⟨a, ra, rr, sb, PD, PS, h, h1, h2, h3, h4, h5⟩ := h
  rw [h.dk]
  exact h.disk.mono (fun j _ e => h4 j e)
theorem Wal.lt (h : Wal y b P fr mn s) : b < y.heap.size := let ⟨_, _, _, _, _, _, h, _⟩ := h; h.box.lt
/-- What a call leaves, as a log whose blocks are among P or new. -/
theorem WalM.out {w : World} {b a ra rr sb fr mn : Nat} {P PD PS PD' PS' : Nat → Prop} {s s' : M.Wl} {y : World} (h : WalM y b a ra rr sb PD' PS' fr mn s') (_h0 : WalM w b a ra rr sb PD PS fr mn s) (hd : ∀ j, PD' j → PD j ∨ w.heap.size ≤ j) (hs : ∀ j, PS' j → PS j ∨ w.heap.size ≤ j) (h1 : P b) (h2 : P ra) (h3 : P rr) (h4 : ∀ j, PD j → P j) (h5 : ∀ j, PS j → P j) :
    Wal y b (fun j => P j ∨ w.heap.size ≤ j) fr mn s' :=
  ⟨a, ra, rr, sb, PD', PS', h, Or.inl h1, Or.inl h2, Or.inl h3, fun j e => (hd j e).imp (h4 j) id, fun j e => (hs j e).imp (h5 j) id⟩
end
end Go.Proofs.YtmgchfjfkdkaoaaGreatDoor
namespace Go.Proofs.YtmgchfjfkdkaoaaGreatDoor
open Go.RowKit Go.Maps

section
variable {w : World} {b fr mn : Nat} {P : Nat → Prop} {s : M.Wl}
theorem begin14_nil (w : World) : Calls Tryz.prog 25 #[.pointer none] w fun e w' => e = .returned (.int .i64 10) ∧ w' = w := by
  go_enter Tryz.func25, Tryz.ntmps25
  go_wp2_with fail
  go_ret
  exact ⟨rfl, rfl⟩
theorem active14_nil (w : World) : Calls Tryz.prog 58 #[.pointer none] w fun e w' => e = .returned (.bool false) ∧ w' = w := by
  go_enter Tryz.func58, Tryz.ntmps58
  go_wp2_with fail
  go_ret
  exact ⟨rfl, rfl⟩
theorem room14_nil (w : World) : Calls Tryz.prog 93 #[.pointer none] w fun e w' => e = .returned (.int .i64 0) ∧ w' = w := by
  go_enter Tryz.func93, Tryz.ntmps93
  go_wp2_with fail
  go_ret
  exact ⟨rfl, rfl⟩
theorem flush14_nil (w : World) : Calls Tryz.prog 14 #[.pointer none] w fun e w' => e = .returned (.int .i64 10) ∧ w' = w := by
  go_enter Tryz.func14, Tryz.ntmps14
  go_wp2_with fail
  go_ret
  exact ⟨rfl, rfl⟩
theorem checkpoint14_nil (w : World) : Calls Tryz.prog 27 #[.pointer none] w fun e w' => e = .returned (.int .i64 10) ∧ w' = w := by
  go_enter Tryz.func27, Tryz.ntmps27
  go_wp2_with fail
  go_ret
  exact ⟨rfl, rfl⟩
theorem read14_nil (i : Int) (w : World) : Calls Tryz.prog 42 #[.pointer none, .int .i64 i] w fun e w' => e = .returned (.tuple #[.string ⟨#[]⟩, .int .i64 10]) ∧ w' = w := by
  go_enter Tryz.func42, Tryz.ntmps42
  go_wp2_with fail
  go_ret2
  exact ⟨rfl, rfl⟩
theorem stage14_nil (i : Int) (s : ByteArray) (w : World) : Calls Tryz.prog 41 #[.pointer none, .int .i64 i, .string s] w fun e w' => e = .returned (.int .i64 10) ∧ w' = w := by
  go_enter Tryz.func41, Tryz.ntmps41
  go_wp2_with fail
  refine (active14_nil w).mono ?_
  rintro e w1 ⟨rfl, rfl⟩
  go_wp2_with fail
  go_ret
  exact ⟨rfl, rfl⟩
theorem commit14_nil (w : World) : Calls Tryz.prog 26 #[.pointer none] w fun e w' => e = .returned (.int .i64 10) ∧ w' = w := by
  go_enter Tryz.func26, Tryz.ntmps26
  go_wp2_with fail
  refine (active14_nil w).mono ?_
  rintro e w1 ⟨rfl, rfl⟩
  go_wp2_with fail
  go_ret
  exact ⟨rfl, rfl⟩

theorem WalM.c8 {a ra rr sb : Nat} {PD PS : Nat → Prop} (h : WalM w b a ra rr sb PD PS fr mn s) : w.cell? ⟨b, 8, none⟩ = some (.bool s.act) := h.box.cell 8
theorem WalM.c9 {a ra rr sb : Nat} {PD PS : Nat → Prop} (h : WalM w b a ra rr sb PD PS fr mn s) : w.cell? ⟨b, 9, none⟩ = some (.bool s.uns) := h.box.cell 9
theorem WalM.c10 {a ra rr sb : Nat} {PD PS : Nat → Prop} (h : WalM w b a ra rr sb PD PS fr mn s) : w.cell? ⟨b, 10, none⟩ = some (.pointer (some ⟨sb, 0, none⟩)) := h.box.cell 10
theorem WalM.c0 {a ra rr sb : Nat} {PD PS : Nat → Prop} (h : WalM w b a ra rr sb PD PS fr mn s) : w.cell? ⟨b, 0, none⟩ = some (.pointer (some ⟨a, 0, none⟩)) := h.box.cell 0
theorem WalM.c1 {a ra rr sb : Nat} {PD PS : Nat → Prop} (h : WalM w b a ra rr sb PD PS fr mn s) : w.cell? ⟨b, 1, none⟩ = some (.int .i64 (fr : Nat)) := h.box.cell 1
theorem WalM.c2 {a ra rr sb : Nat} {PD PS : Nat → Prop} (h : WalM w b a ra rr sb PD PS fr mn s) : w.cell? ⟨b, 2, none⟩ = some (.pointer (some ⟨ra, 0, none⟩)) := h.box.cell 2
theorem WalM.c3 {a ra rr sb : Nat} {PD PS : Nat → Prop} (h : WalM w b a ra rr sb PD PS fr mn s) : w.cell? ⟨b, 3, none⟩ = some (.pointer (some ⟨rr, 0, none⟩)) := h.box.cell 3
theorem WalM.c4 {a ra rr sb : Nat} {PD PS : Nat → Prop} (h : WalM w b a ra rr sb PD PS fr mn s) : w.cell? ⟨b, 4, none⟩ = some (.int .i64 (s.gen : Nat)) := h.box.cell 4
theorem WalM.c5 {a ra rr sb : Nat} {PD PS : Nat → Prop} (h : WalM w b a ra rr sb PD PS fr mn s) : w.cell? ⟨b, 5, none⟩ = some (.int .i64 (s.seq : Nat)) := h.box.cell 5
theorem WalM.c6 {a ra rr sb : Nat} {PD PS : Nat → Prop} (h : WalM w b a ra rr sb PD PS fr mn s) : w.cell? ⟨b, 6, none⟩ = some (.int .i64 (s.pl : Nat)) := h.box.cell 6
theorem WalM.c7 {a ra rr sb : Nat} {PD PS : Nat → Prop} (h : WalM w b a ra rr sb PD PS fr mn s) : w.cell? ⟨b, 7, none⟩ = some (.int .i64 (s.used : Nat)) := h.box.cell 7
theorem WalM.fz {a ra rr sb : Nat} {PD PS : Nat → Prop} (h : WalM w b a ra rr sb PD PS fr mn s) (i : Nat) : w.frozen? ⟨b, i, none⟩ = false := h.box.frozen i

theorem active14_any (h : Wal w b P fr mn s) : Calls Tryz.prog 58 #[.pointer (some ⟨b, 0, none⟩)] w fun e w' => e = .returned (.bool s.act) ∧ w' = w := by
  obtain ⟨a, ra, rr, sb, PD, PS, h, -, -, -, -, -⟩ := h
  have c8 := h.c8
  clear h
  go_enter Tryz.func58, Tryz.ntmps58
  go_wp2_with fail
  go_ret
  exact ⟨rfl, rfl⟩
theorem room14_any (h : Wal w b P fr mn s) (hu : s.used ≤ 1000000) (hm : mn ≤ 1000) : Calls Tryz.prog 93 #[.pointer (some ⟨b, 0, none⟩)] w fun e w' => e = .returned (.int .i64 (((mn - 2 : Nat) : Int) - (s.used : Nat))) ∧ ∃ n, w' = w.drewN n := by
  obtain ⟨a, ra, rr, sb, PD, PS, h, -, -, -, -, -⟩ := h
  have c3 := h.c3
  have c7 := h.c7
  have HM : Hid (∀ n, Calls Tryz.prog 56 #[.pointer (some ⟨rr, 0, none⟩)] (w.drewN n) fun e w' => e = .returned (.int .i64 ((mn - 2 : Nat) : Int)) ∧ w' = w.drewN n) := fun n => many_any _ (h.recs.kept ((Kept.refl (fun _ => False) w).drewN n) id)
  obtain ⟨m, hm2⟩ : ∃ x, x = mn - 2 := ⟨_, rfl⟩
  obtain ⟨u, hu2⟩ : ∃ x, x = s.used := ⟨_, rfl⟩
  rw [← hm2] at HM ⊢
  rw [← hu2] at c7 hu ⊢
  have b1 : (m : Int) ≤ 1000 := by omega
  have b2 : (u : Int) ≤ 1000000 := by omega
  have b3 : (0 : Int) ≤ (m : Int) := by omega
  have b4 : (0 : Int) ≤ (u : Int) := by omega
  clear h hm hm2 hu2 hu
  go_enter Tryz.func93, Tryz.ntmps93
  go_wp2_with fail
  go_quiet ((go_at_call 56; exact quiet_same (HM.out _)))
  go_wp2_with fail
  go_ret
  exact ⟨by simp, _, rfl⟩
theorem begin14_any (h : Wal w b P fr mn s) : Calls Tryz.prog 25 #[.pointer (some ⟨b, 0, none⟩)] w fun e w' => e = .returned (.int .i64 (if s.act = true then 10 else 0)) ∧ Wal w' b P fr mn { s with act := true } ∧ Kept P w w' := by
  obtain ⟨a, ra, rr, sb, PD, PS, h, h1, h2, h3, h4, h5⟩ := h
  have c8 := h.c8
  have f8 := h.fz 8
  have HH : Hid (Wal (w.setCell ⟨b, 8, none⟩ (.bool true)) b P fr mn { s with act := true } ∧ Kept P w (w.setCell ⟨b, 8, none⟩ (.bool true))) := ⟨⟨a, ra, rr, sb, PD, PS, h.setAct true, h1, h2, h3, h4, h5⟩, Kept.set (Kept.refl P w) (fun _ => h1) 8 _⟩
  have HS : Hid (s.act = true → Wal w b P fr mn { s with act := true }) := fun e => ⟨a, ra, rr, sb, PD, PS, by rw [show { s with act := true } = s by rw [← e]]; exact h, h1, h2, h3, h4, h5⟩
  clear h h1 h2 h3 h4 h5
  cases ha : s.act with
  | true =>
    rw [ha] at c8
    have HS2 := Lib.hid (HS.out ha)
    clear ha HS HH
    go_enter Tryz.func25, Tryz.ntmps25
    go_wp2_with fail
    go_ret
    exact ⟨rfl, HS2.out, Kept.refl _ _⟩
  | false =>
    rw [ha] at c8
    clear ha HS
    go_enter Tryz.func25, Tryz.ntmps25
    go_wp2_with fail
    go_ret
    exact ⟨rfl, HH.out⟩
theorem flush15_any (h : Wal w b P fr mn s) (ho : s.d.ops ≤ 1000000000) : Calls Tryz.prog 14 #[.pointer (some ⟨b, 0, none⟩)] w fun e w' => e = .returned (.int .i64 (M.beginE s.d)) ∧ Wal w' b (fun j => P j ∨ w.heap.size ≤ j) fr mn { s with d := M.flushD s.d, uns := if M.beginE s.d = 0 then false else s.uns } ∧ Kept P w w' := by
  obtain ⟨a, ra, rr, sb, PD, PS, h, h1, h2, h3, h4, h5⟩ := h
  have c0 := h.c0
  have C1 := Lib.hid (flush14_any w h.disk (by omega))
  have HN : Hid (∀ y, Disk y a (M.plus PD w.heap.size) (M.flushD s.d) → Kept PD w y → WalM y b a ra rr sb (fun j => (PD j ∨ w.heap.size ≤ j) ∧ j < y.heap.size) PS fr mn { s with d := M.flushD s.d }) := fun y hs hk => h.disk' hs hk
  have HF : Hid (∀ y z s', Kept PD w y → Kept (fun j => j = b) y z → WalM z b a ra rr sb (fun j => (PD j ∨ w.heap.size ≤ j) ∧ j < y.heap.size) PS fr mn s' → Wal z b (fun j => P j ∨ w.heap.size ≤ j) fr mn s' ∧ Kept P w z) := by
    intro y z s' hk hk2 hm
    exact ⟨hm.out h (fun j e => e.1) (fun _ e => Or.inl e) h1 h2 h3 h4 h5, (hk.mono (fun j _ e => h4 j e)).next hk2 (fun j _ e => by rw [e]; exact h1)⟩
  clear h h1 h2 h3 h4 h5 ho
  by_cases hE : M.beginE s.d = 0
  · rw [hE] at C1
    rw [hE, if_pos rfl]
    clear hE
    go_enter Tryz.func14, Tryz.ntmps14
    go_wp2_with fail
    refine C1.out.mono ?_
    rintro e w1 ⟨rfl, hs1, hk1⟩
    have hM := HN.out w1 hs1 hk1
    have c9 := hM.c9
    have f9 := hM.fz 9
    have HR := Lib.hid (HF.out w1 _ _ hk1 ((Kept.refl (fun j => j = b) w1).set (fun _ => rfl) 9 (.bool false)) (hM.setUns false))
    clear hs1 hk1 hM HN HF C1 c0
    go_wp2_with fail
    go_ret
    exact ⟨rfl, HR.out⟩
  · obtain ⟨E, hEE⟩ : ∃ E, E = M.beginE s.d := ⟨_, rfl⟩
    rw [if_neg hE]
    rw [← hEE] at C1 hE ⊢
    have hE' : (E == 0) = false := by rw [beq_eq_false_iff_ne]; exact hE
    clear hE hEE
    go_enter Tryz.func14, Tryz.ntmps14
    go_wp2_with fail
    refine C1.out.mono ?_
    rintro e w1 ⟨rfl, hs1, hk1⟩
    have hM := HN.out w1 hs1 hk1
    have HR := Lib.hid (HF.out w1 _ _ hk1 (Kept.refl (fun j => j = b) w1) hM)
    clear hs1 hk1 hM HN HF C1 c0
    go_wp2_with fail
    go_ret
    exact ⟨rfl, HR.out⟩

theorem read14_found (h : Wal w b P fr mn s) (i : Int) (t : ByteArray) (hw : (Lit.int .i64 i).wf = true) (hg : M.get13 i s.l s.k = some (.string t)) : Calls Tryz.prog 42 #[.pointer (some ⟨b, 0, none⟩), .int .i64 i] w fun e w' => e = .returned (.tuple #[.string t, .int .i64 0]) ∧ w' = w := by
  obtain ⟨a, ra, rr, sb, PD, PS, h, -, -, -, -, -⟩ := h
  have c10 := h.c10
  have C1 := Lib.hid (Q.get13_any w h.sh i hw)
  rw [hg] at C1
  clear h hw hg
  go_enter Tryz.func42, Tryz.ntmps42
  go_wp2_with fail
  refine C1.out.mono ?_
  rintro e w1 ⟨rfl, rfl⟩
  go_wp2_with fail
  go_ret2
  exact ⟨rfl, rfl⟩
end
end Go.Proofs.YtmgchfjfkdkaoaaGreatDoor
