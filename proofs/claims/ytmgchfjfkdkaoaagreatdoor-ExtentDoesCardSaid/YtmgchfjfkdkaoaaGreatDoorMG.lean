/-
  Parts of a disk in memory. Walks over region.within, New, Many, Place and Flush; what the calls do of a part that is none. Walks over region.Read. Walks over region.Split. Walks over region.Split where it refuses, and over region.Write. A walk over works() of layer 9, and over RegionNone. What is written is read, and no other sector changes: the mathematics of 9.4. No function of the program is walked in this text.
-/
import Derived.Test.YtmgchfjfkdkaoaaGreatDoorME
import Derived.Test.YtmgchfjfkdkaoaaGreatDoorShelf
import Derived.Test.YtmgchfjfkdkaoaaGreatDoorMA
import Derived.Deep.RegionHeld3
import Derived.Deep.MidRow
import Derived.StillTailTactics
namespace Go.Proofs.YtmgchfjfkdkaoaaGreatDoor
open Go.RowKit

/-- A disk in y, which came of y0; F lies apart from it. -/
def One (y0 y : World) (a : Nat) (P F : Nat → Prop) (d : M.D) : Prop :=
  ∃ Q : Nat → Prop, Disk y a Q d ∧ (∀ k, Q k → ¬ F k ∧ k < y.heap.size ∧ (k < y0.heap.size → P k)) ∧ (∀ k, F k → k < y.heap.size) ∧ Kept P y0 y
section
variable {y0 y y' : World} {a : Nat} {P F : Nat → Prop} {d d' : M.D}
theorem One.start (h : Disk y a P d) : One y y a P (fun k => k < y.heap.size ∧ ¬ P k) d :=
  ⟨fun k => P k ∧ k < y.heap.size, h.mono (fun _ hk e => ⟨e, hk⟩), fun _ e => ⟨fun e' => e'.2 e.1, e.2, fun _ => e.1⟩, fun _ e => e.1, Kept.refl _ _⟩
theorem One.out (h : One y0 y a P F d) : Disk y a (M.plus P y0.heap.size) d ∧ Kept P y0 y := by
  obtain ⟨Q, hd, hQ, _, hk⟩ := h
  refine ⟨hd.mono (fun k _ e => ?_), hk⟩
  by_cases hlt : k < y0.heap.size
  · exact Or.inl ((hQ k e).2.2 hlt)
  · exact Or.inr (by omega)
theorem One.inv (h : One y0 y a P F d) : M.Inv d := let ⟨_, h, _⟩ := h; h.inv
theorem One.size (h : One y0 y a P F d) : y0.heap.size ≤ y.heap.size := let ⟨_, _, _, _, h⟩ := h; h.size
theorem One.step {Q : Nat → Prop} (hQ : ∀ k, Q k → ¬ F k ∧ k < y.heap.size ∧ (k < y0.heap.size → P k)) (hF : ∀ k, F k → k < y.heap.size) (hk : Kept P y0 y) (hd : Disk y' a (M.plus Q y.heap.size) d') (hk' : Kept Q y y') : One y0 y' a P F d' ∧ Kept (fun k => ¬ F k) y y' := by
  have hz := hk.size
  have hz' := hk'.size
  refine ⟨⟨fun k => (Q k ∨ y.heap.size ≤ k) ∧ k < y'.heap.size, hd.mono (fun _ hk e => ⟨e, hk⟩), fun k e => ?_, fun k e => by have := hF k e; omega, hk.next hk' (fun k hk e => (hQ k e).2.2 hk)⟩, hk'.mono (fun k _ e => (hQ k e).1)⟩
  rcases e.1 with e1 | e1
  · exact ⟨(hQ k e1).1, e.2, (hQ k e1).2.2⟩
  · exact ⟨fun e' => by have := hF k e'; omega, e.2, fun h => by omega⟩
theorem One.kept (h : One y0 y a P F d) {G : Nat → Prop} (hk : Kept G y y') (hG : ∀ k, G k → F k ∧ (k < y0.heap.size → P k)) : One y0 y' a P F d := by
  obtain ⟨Q, hd, hQ, hF, hk0⟩ := h
  have hz := hk.size
  exact ⟨Q, hd.kept hk (fun k e e' => (hQ k e).1 (hG k e').1), fun k e => ⟨(hQ k e).1, by have := (hQ k e).2.1; omega, (hQ k e).2.2⟩, fun k e => by have := hF k e; omega, hk0.next hk (fun k hk e => (hG k e).2 hk)⟩
theorem One.alloc (h : One y0 y a P F d) (o : Obj) : One y0 (y.alloc o) a P F d := h.kept ((Kept.refl (fun _ => False) y).alloc o) (fun _ e => e.elim)
theorem One.drew (h : One y0 y a P F d) : One y0 y.drew a P F d := h.kept ((Kept.refl (fun _ => False) y).drewN 1) (fun _ e => e.elim)
/-- All that is new in y' stands apart. -/
theorem One.beside (h : One y0 y a P F d) (hk : Kept (fun _ => False) y y') : One y0 y' a P (fun k => F k ∨ (y.heap.size ≤ k ∧ k < y'.heap.size)) d := by
  obtain ⟨Q, hd, hQ, hF, hk0⟩ := h
  have hz := hk.size
  exact ⟨Q, hd.kept hk (fun _ _ => id), fun k e => ⟨fun e' => e'.elim (hQ k e).1 (fun e' => by have := (hQ k e).2.1; omega), by have := (hQ k e).2.1; omega, (hQ k e).2.2⟩, fun k e => e.elim (fun e => by have := hF k e; omega) (fun e => e.2), hk0.next hk (fun _ _ e => e.elim)⟩
theorem One.less {F' : Nat → Prop} (h : One y0 y a P F d) (hF : ∀ k, F' k → F k) : One y0 y a P F' d := by
  obtain ⟨Q, hd, hQ, hF0, hk0⟩ := h
  exact ⟨Q, hd, fun k e => ⟨fun e' => (hQ k e).1 (hF k e'), (hQ k e).2⟩, fun k e => hF0 k (hF k e), hk0⟩
theorem oread (h : One y0 y a P F d) (ho : d.ops ≤ 1099511627776) (i : Int) : Calls Tryz.prog 84 #[.pointer (some ⟨a, 0, none⟩), .int .i64 i] y fun e y' => e = .returned (.tuple #[.string (M.readS d i), .int .i64 (M.readE d i)]) ∧ One y0 y' a P F (M.beginD d) ∧ Kept (fun k => ¬ F k) y y' := by
  obtain ⟨Q, hd, hQ, hF, hk⟩ := h
  exact (read_any i y hd ho).mono fun _ _ ⟨h1, h2, h3⟩ => ⟨h1, One.step hQ hF hk (h2.mono (fun _ _ e => Or.inl e)) h3⟩
theorem owrite (h : One y0 y a P F d) (ho : d.ops ≤ 1099511627776) (i : Int) (s : ByteArray) : Calls Tryz.prog 92 #[.pointer (some ⟨a, 0, none⟩), .int .i64 i, .string s] y fun e y' => e = .returned (.int .i64 (M.writeE d i s)) ∧ One y0 y' a P F (M.writeD d i s) ∧ Kept (fun k => ¬ F k) y y' := by
  obtain ⟨Q, hd, hQ, hF, hk⟩ := h
  exact (write_any i s y hd ho).mono fun _ _ ⟨h1, h2, h3⟩ => ⟨h1, One.step hQ hF hk h2 h3⟩
end

/-- A part of the disk in block a: mn sectors from fr on. -/
def Reg (y : World) (rb a fr mn : Nat) : Prop := Box y rb 146 #[.pointer (some ⟨a, 0, none⟩), .int .i64 (fr : Nat), .int .i64 (mn : Nat)]
section
variable {y y' : World} {rb a fr mn : Nat}
theorem Reg.c0 (h : Reg y rb a fr mn) : y.cell? ⟨rb, 0, none⟩ = some (.pointer (some ⟨a, 0, none⟩)) := by simpa using Box.cell h 0
theorem Reg.c1 (h : Reg y rb a fr mn) : y.cell? ⟨rb, 1, none⟩ = some (.int .i64 (fr : Nat)) := by simpa using Box.cell h 1
theorem Reg.c2 (h : Reg y rb a fr mn) : y.cell? ⟨rb, 2, none⟩ = some (.int .i64 (mn : Nat)) := by simpa using Box.cell h 2
theorem Reg.lt (h : Reg y rb a fr mn) : rb < y.heap.size := Box.lt h
theorem Reg.kept {P : Nat → Prop} (h : Reg y rb a fr mn) (hk : Kept P y y') (hp : ¬ P rb) : Reg y' rb a fr mn := hk.box h hp
end

/-- Are there so many from one on, of all? -/
def M.within (i m all : Int) : Bool := decide (0 ≤ i) && decide (0 ≤ m) && decide (m ≤ all - i)
theorem M.within_yes {i m all : Int} (h : M.within i m all = true) : 0 ≤ i ∧ 0 ≤ m ∧ m ≤ all - i := by
  unfold M.within at h
  simp at h
  omega
theorem within_any (i m all : Int) (w : World) (hi : i ≤ 9223372036854775807) (ha0 : 0 ≤ all) (ha : all ≤ 1099511627776) : Calls Tryz.prog 102 #[.int .i64 i, .int .i64 m, .int .i64 all] w fun e w' => e = .returned (.bool (M.within i m all)) ∧ w' = w := by
  unfold M.within
  by_cases h0 : 0 ≤ i
  · have hd : decide (0 ≤ i) = true := by simpa using h0
    rw [hd, Bool.true_and]
    by_cases h1 : 0 ≤ m
    · have hd1 : decide (0 ≤ m) = true := by simpa using h1
      rw [hd1, Bool.true_and]
      go_enter Tryz.func102, Tryz.ntmps102
      go_wp2_with fail
      go_ret
      exact ⟨rfl, rfl⟩
    · have hd1 : decide (0 ≤ m) = false := by simpa using h1
      rw [hd1, Bool.false_and]
      clear h1
      go_enter Tryz.func102, Tryz.ntmps102
      go_wp2_with fail
      go_ret
      exact ⟨rfl, rfl⟩
  · have hd : decide (0 ≤ i) = false := by simpa using h0
    rw [hd, Bool.false_and, Bool.false_and]
    clear h0
    go_enter Tryz.func102, Tryz.ntmps102
    go_wp2_with fail
    go_ret
    exact ⟨rfl, rfl⟩

theorem new9_yes (fr m : Int) (w : World) {a : Nat} {P : Nat → Prop} {d : M.D} (h : Disk w a P d) (hf : fr ≤ 9223372036854775807) (hy : M.within fr m (d.S.length : Nat) = true) :
    Calls Tryz.prog 66 #[.pointer (some ⟨a, 0, none⟩), .int .i64 fr, .int .i64 m] w fun e w' => e = .returned (.tuple #[.pointer (some ⟨w.heap.size, 0, none⟩), .int .i64 0]) ∧
      w' = w.alloc (.cells #[.pointer (some ⟨a, 0, none⟩), .int .i64 fr, .int .i64 m] 146) := by
  have HS := Lib.hid (sectors_any w h)
  have HI := Lib.hid (within_any fr m (d.S.length : Nat) w hf (by omega) (by have := h.inv.many; omega))
  rw [hy] at HI
  clear h hy hf
  go_enter Tryz.func66, Tryz.ntmps66
  go_wp2_with fail
  refine HS.out.mono ?_
  rintro e w1 ⟨rfl, rfl⟩
  go_wp2_with fail
  refine HI.out.mono ?_
  rintro e w2 ⟨rfl, rfl⟩
  go_wp2_with fail
  go_ret2
  exact ⟨rfl, rfl⟩
theorem new9_no (fr m : Int) (w : World) {a : Nat} {P : Nat → Prop} {d : M.D} (h : Disk w a P d) (hf : fr ≤ 9223372036854775807) (hy : M.within fr m (d.S.length : Nat) = false) :
    Calls Tryz.prog 66 #[.pointer (some ⟨a, 0, none⟩), .int .i64 fr, .int .i64 m] w fun e w' => e = .returned (.tuple #[.pointer none, .int .i64 3]) ∧ w' = w := by
  have HS := Lib.hid (sectors_any w h)
  have HI := Lib.hid (within_any fr m (d.S.length : Nat) w hf (by omega) (by have := h.inv.many; omega))
  rw [hy] at HI
  clear h hy hf
  go_enter Tryz.func66, Tryz.ntmps66
  go_wp2_with fail
  refine HS.out.mono ?_
  rintro e w1 ⟨rfl, rfl⟩
  go_wp2_with fail
  refine HI.out.mono ?_
  rintro e w2 ⟨rfl, rfl⟩
  go_wp2_with fail
  go_ret2
  exact ⟨rfl, rfl⟩
theorem new9_nil (w : World) : Calls Tryz.prog 66 #[.pointer none, .int .i64 0, .int .i64 1] w fun e w' => e = .returned (.tuple #[.pointer none, .int .i64 3]) ∧ w' = w := by
  have HI := Lib.hid (within_any 0 1 0 w (by omega) (by omega) (by omega))
  rw [show M.within 0 1 0 = false by decide] at HI
  go_enter Tryz.func66, Tryz.ntmps66
  go_wp2_with fail
  refine (sectors_nil w).mono ?_
  rintro e w1 ⟨rfl, rfl⟩
  go_wp2_with fail
  refine HI.out.mono ?_
  rintro e w2 ⟨rfl, rfl⟩
  go_wp2_with fail
  go_ret2
  exact ⟨rfl, rfl⟩

theorem many_nil (w : World) : Calls Tryz.prog 56 #[.pointer none] w fun e w' => e = .returned (.int .i64 0) ∧ w' = w := by
  go_enter Tryz.func56, Tryz.ntmps56
  go_wp2_with fail
  go_ret
  exact ⟨rfl, rfl⟩
theorem many_any (w : World) {rb a fr mn : Nat} (h : Reg w rb a fr mn) : Calls Tryz.prog 56 #[.pointer (some ⟨rb, 0, none⟩)] w fun e w' => e = .returned (.int .i64 (mn : Nat)) ∧ w' = w := by
  have c2 := h.c2
  clear h
  go_enter Tryz.func56, Tryz.ntmps56
  go_wp2_with fail
  go_ret
  exact ⟨rfl, rfl⟩

theorem place_nil (i : Int) (w : World) : Calls Tryz.prog 140 #[.pointer none, .int .i64 i] w fun e w' => e = .returned (.tuple #[.int .i64 0, .int .i64 10]) ∧ w' = w := by
  go_enter Tryz.func140, Tryz.ntmps140
  go_wp2_with fail
  go_ret2
  exact ⟨rfl, rfl⟩
theorem place_no (i : Int) (w : World) {rb a fr mn : Nat} (h : Reg w rb a fr mn) (hi : i ≤ 9223372036854775807) (hm : mn ≤ 1000) (hy : M.within i 1 (mn : Nat) = false) : Calls Tryz.prog 140 #[.pointer (some ⟨rb, 0, none⟩), .int .i64 i] w fun e w' => e = .returned (.tuple #[.int .i64 0, .int .i64 3]) ∧ w' = w := by
  have c2 := h.c2
  have HI := Lib.hid (within_any i 1 (mn : Nat) w hi (by omega) (by omega))
  rw [hy] at HI
  clear h hy hi
  go_enter Tryz.func140, Tryz.ntmps140
  go_wp2_with fail
  refine HI.out.mono ?_
  rintro e w2 ⟨rfl, rfl⟩
  go_wp2_with fail
  go_ret2
  exact ⟨rfl, rfl⟩
theorem place_yes (k : Nat) (w : World) {rb a fr mn : Nat} (h : Reg w rb a fr mn) (hf : fr ≤ 1000) (hm : mn ≤ 1000) (hk : k < mn) : Calls Tryz.prog 140 #[.pointer (some ⟨rb, 0, none⟩), .int .i64 (k : Nat)] w fun e w' => e = .returned (.tuple #[.int .i64 ((fr + k : Nat) : Int), .int .i64 0]) ∧ w' = w := by
  have c1 := h.c1
  have c2 := h.c2
  have HI := Lib.hid (within_any (k : Nat) 1 (mn : Nat) w (by omega) (by omega) (by omega))
  rw [show M.within (k : Nat) 1 (mn : Nat) = true by unfold M.within; simp; omega] at HI
  have hf' : (fr : Int) ≤ 1000 := by omega
  have hk' : (k : Int) ≤ 1000 := by omega
  clear h
  go_enter Tryz.func140, Tryz.ntmps140
  go_wp2_with fail
  refine HI.out.mono ?_
  rintro e w2 ⟨rfl, rfl⟩
  go_wp2_with fail
  go_ret2
  exact ⟨rfl, rfl⟩

theorem gread_nil (i m : Int) (w : World) : Calls Tryz.prog 67 #[.pointer none, .int .i64 i, .int .i64 m] w fun e w' => e = .returned (.tuple #[.string ⟨#[]⟩, .int .i64 10]) ∧ w' = w := by
  go_enter Tryz.func67, Tryz.ntmps67
  go_wp2_with fail
  go_ret2
  exact ⟨rfl, rfl⟩
theorem gsplit_nil (i : Int) (s : ByteArray) (w : World) : Calls Tryz.prog 91 #[.pointer none, .int .i64 i, .string s] w fun e w' => e = .returned (.tuple #[.slice none 0 0, .int .i64 10]) ∧ w' = w := by
  go_enter Tryz.func91, Tryz.ntmps91
  go_wp2_with fail
  go_ret2
  exact ⟨rfl, rfl⟩
theorem gwrite_nil (i : Int) (s : ByteArray) (w : World) : Calls Tryz.prog 53 #[.pointer none, .int .i64 i, .string s] w fun e w' => e = .returned (.int .i64 10) ∧ w' = w := by
  go_enter Tryz.func53, Tryz.ntmps53
  go_wp2_with fail
  refine (gsplit_nil i s w).mono ?_
  rintro e w2 ⟨rfl, rfl⟩
  go_wp2_with fail
  go_ret
  exact ⟨rfl, rfl⟩
end Go.Proofs.YtmgchfjfkdkaoaaGreatDoor
namespace Go.Proofs.YtmgchfjfkdkaoaaGreatDoor
open Go.RowKit

/-- So many sectors are read, from one on, behind what was read before. -/
def M.rd : Nat → M.D → Nat → ByteArray → ByteArray × Int × M.D
  | 0, d, _, acc => (acc, 0, d)
  | n + 1, d, at_, acc => if M.readE d at_ = 0 then M.rd n (M.beginD d) (at_ + 1) (acc ++ M.readS d at_) else (⟨#[]⟩, M.readE d at_, M.beginD d)
theorem M.readS_size {d : M.D} (h : M.Inv d) {i : Int} (he : M.readE d i = 0) : (M.readS d i).size = 64 := by
  unfold M.readE at he
  unfold M.readS
  by_cases hE : M.beginE d = 0
  · rw [if_pos hE] at he ⊢
    by_cases hb : M.hasB d.S.length i = true
    · rw [if_pos hb]
      unfold M.hasB at hb
      simp at hb
      exact h.seen (by omega)
    · rw [if_neg hb] at he
      exact absurd he (by omega)
  · rw [if_neg hE] at he
    exact absurd he hE

theorem Kept.of_low {B : Nat} {w w' : World} (h : Below B w w') : Kept (fun k => B ≤ k) w w' := ⟨h.os, h.tape, h.output, h.size, fun k _ hp => h.block k (by omega)⟩
theorem builder_kept {P : Nat → Prop} {T e : TypeId} {B b : Nat} {p : Value} {bs : List Value} {w w' : World} (h : Lib.BuilderAt T e B b p bs w) (hk : Kept P w w') (hP : ∀ k, P k → k < B) : Lib.BuilderAt T e B b p bs w' := by
  obtain ⟨hB, v, hb, ho, hn⟩ := h
  exact ⟨hB, v, (hk.block b (lt_of_block hb) (fun e => by have := hP b e; omega)).trans hb, hk.owns ho (fun k e e' => by have := (ho.lt k e).1; have := hP k e'; omega), hn⟩
theorem isBuilder_kept {P : Nat → Prop} {T e : TypeId} {B b : Nat} {bs : List Value} {w w' : World} (h : Lib.IsBuilder T e B b bs w) (hk : Kept P w w') (hP : ∀ k, P k → k < B) : Lib.IsBuilder T e B b bs w' :=
  h.imp (fun h => builder_kept h hk hP) (fun h => builder_kept h hk hP)
theorem wstr_any (B b : Nat) (acc s : ByteArray) (w : World) (h : Lib.IsBuilder 92 5 B b (Lib.byteCells acc.data.toList) w) (hlen : acc.size + s.size ≤ 1000000) (hB : B ≤ w.heap.size) :
    Calls Tryz.prog 43 #[.pointer (some ⟨b, 0, none⟩), .string s] w fun e w' => e = .returned (.tuple #[.int .i64 s.size, .nilIface]) ∧ Lib.IsBuilder 92 5 B b (Lib.byteCells (acc ++ s).data.toList) w' ∧ Below B w w' := by
  have hl : (Lib.byteCells acc.data.toList).length = acc.size := by rw [Lib.byteCells_length, Array.length_toList]; rfl
  refine (Any.Builder_WriteString { Tryz.lays105 with } Tryz.Builder_Extra_105 B b _ s w h (by rw [hl]; omega) hB).mono ?_
  rintro e w' ⟨rfl, h1, h2⟩
  refine ⟨rfl, Or.inr ?_, h2⟩
  rw [Lib.strCells_eq, ← Lib.byteCells_append] at h1
  rw [ByteArray.data_append, Array.toList_append]
  exact h1
theorem str_any (B b : Nat) (acc : ByteArray) (w : World) (h : Lib.IsBuilder 92 5 B b (Lib.byteCells acc.data.toList) w) (hB : B ≤ w.heap.size) :
    Calls Tryz.prog 44 #[.pointer (some ⟨b, 0, none⟩)] w fun e w' => e = .returned (.string acc) ∧ Below B w w' :=
  (Any.Builder_String_any { Tryz.lays105 with } Tryz.Builder_Extra_105 B b _ w h hB).mono fun _ _ ⟨h1, h2⟩ => ⟨h1, h2⟩

/-- The disk, and what was read of it, in the midst of Read. -/
structure RdAt (w y : World) (a B : Nat) (P : Nat → Prop) (d : M.D) (acc : ByteArray) : Prop where
  disk : Disk y a P d
  bld : Lib.IsBuilder 92 5 B B (Lib.byteCells acc.data.toList) y
  kept : Kept P w y
  le : B ≤ y.heap.size
theorem RdAt.drew {w y : World} {a B : Nat} {P : Nat → Prop} {d : M.D} {acc : ByteArray} (h : RdAt w y a B P d acc) (hP : ∀ k, P k → k < B) : RdAt w y.drew a B P d acc :=
  ⟨h.disk.drewN 1, isBuilder_kept h.bld ((Kept.refl P y).drewN 1) hP, h.kept.drew, h.le⟩
theorem RdAt.read {w y : World} {a B : Nat} {P : Nat → Prop} {d : M.D} {acc : ByteArray} (h : RdAt w y a B P d acc) (hP : ∀ k, P k → k < B) (ho : d.ops ≤ 1099511627776) (i : Int) :
    Calls Tryz.prog 84 #[.pointer (some ⟨a, 0, none⟩), .int .i64 i] y fun e y' => e = .returned (.tuple #[.string (M.readS d i), .int .i64 (M.readE d i)]) ∧ RdAt w y' a B P (M.beginD d) acc :=
  (read_any i y h.disk ho).mono fun _ _ ⟨h1, h2, h3⟩ => ⟨h1, h2, isBuilder_kept h.bld h3 hP, h.kept.trans h3, Nat.le_trans h.le h3.size⟩
theorem RdAt.put {w y : World} {a B : Nat} {P : Nat → Prop} {d : M.D} {acc : ByteArray} (h : RdAt w y a B P d acc) (hP : ∀ k, P k → k < B) (hw : w.heap.size ≤ B) (s : ByteArray) (hl : acc.size + s.size ≤ 1000000) :
    Calls Tryz.prog 43 #[.pointer (some ⟨B, 0, none⟩), .string s] y fun e y' => e = .returned (.tuple #[.int .i64 s.size, .nilIface]) ∧ RdAt w y' a B P d (acc ++ s) :=
  (wstr_any B B acc s y h.bld hl h.le).mono fun _ _ ⟨h1, h2, h3⟩ => ⟨h1, h.disk.kept (Kept.of_low h3) (fun k e e' => by have := hP k e; omega), h2, h.kept.next (Kept.of_low h3) (fun k hk e => by omega), Nat.le_trans h.le h3.size⟩
theorem RdAt.str {w y : World} {a B : Nat} {P : Nat → Prop} {d : M.D} {acc : ByteArray} (h : RdAt w y a B P d acc) (hP : ∀ k, P k → k < B) (hw : w.heap.size ≤ B) :
    Calls Tryz.prog 44 #[.pointer (some ⟨B, 0, none⟩)] y fun e y' => e = .returned (.string acc) ∧ Disk y' a P d ∧ Kept P w y' :=
  (str_any B B acc y h.bld h.le).mono fun _ _ ⟨h1, h3⟩ => ⟨h1, h.disk.kept (Kept.of_low h3) (fun k e e' => by have := hP k e; omega), h.kept.next (Kept.of_low h3) (fun k hk e => by omega)⟩

set_option maxRecDepth 100000 in
set_option maxHeartbeats 1000000 in
theorem gread_at (i m : Nat) (w : World) {rb a fr mn : Nat} {P : Nat → Prop} {d : M.D} (h : Disk w a P d) (hlow : ∀ k, P k → k < w.heap.size) (hr : Reg w rb a fr mn) (hp : ¬ P rb) (hin : i + m ≤ mn) (hf : fr ≤ 1000) (hmn : mn ≤ 1000) (ho : d.ops ≤ 1000000000) :
    Calls Tryz.prog 67 #[.pointer (some ⟨rb, 0, none⟩), .int .i64 (i : Nat), .int .i64 (m : Nat)] w fun e w' =>
      e = .returned (.tuple #[.string (M.rd m d (fr + i) ⟨#[]⟩).1, .int .i64 (M.rd m d (fr + i) ⟨#[]⟩).2.1]) ∧ Disk w' a P (M.rd m d (fr + i) ⟨#[]⟩).2.2 ∧ Kept P w w' := by
  have c2 := hr.c2
  have HI := Lib.hid (within_any (i : Nat) (m : Nat) (mn : Nat) w (by omega) (by omega) (by omega))
  rw [show M.within (i : Nat) (m : Nat) (mn : Nat) = true by unfold M.within; simp; omega] at HI
  have HC : Hid (∀ y, Kept P w y → y.cell? ⟨rb, 0, none⟩ = some (.pointer (some ⟨a, 0, none⟩)) ∧ y.cell? ⟨rb, 1, none⟩ = some (.int .i64 (fr : Nat))) := fun y hk => ⟨(hr.kept hk hp).c0, (hr.kept hk hp).c1⟩
  obtain ⟨B, hB⟩ : ∃ B, B = w.heap.size := ⟨_, rfl⟩
  have HL : Hid (∀ k, P k → k < B) := by rw [hB]; exact hlow
  have HR0 : Hid (RdAt w (w.alloc (.cells #[.pointer none, .slice none 0 0] 92)) a B P d ⟨#[]⟩) := by
    rw [hB]
    exact ⟨h.kept ((Kept.refl (fun _ => False) w).alloc _) (fun _ _ => id), Lib.fresh_isBuilder _ _ w, (Kept.refl P w).alloc _, by rw [World.size_alloc]; omega⟩
  obtain ⟨R, hR⟩ : ∃ R, R = M.rd m d (fr + i) ⟨#[]⟩ := ⟨_, rfl⟩
  have HF := Lib.hid hR
  have HBW := Lib.hid hB
  have HO := Lib.hid ho
  have HB1 := Lib.hid hin
  have HB2 := Lib.hid hf
  have HB3 := Lib.hid hmn
  rw [← hR]
  obtain ⟨q, hq⟩ : ∃ q, q = fr + i := ⟨_, rfl⟩
  have HQ := Lib.hid hq
  rw [← hq] at HF
  have hwq : IntKind.i64.wrap ((fr : Int) + (i : Int)) = (q : Int) := by rw [IntKind.wrap_i64]; omega
  have HWP : Hid (∀ k : Nat, k < m → IntKind.i64.wrap ((q : Int) + (k : Int)) = ((q + k : Nat) : Int) ∧ IntKind.i64.wrap ((k : Int) + 1) = ((k + 1 : Nat) : Int)) := fun k hk => ⟨by rw [IntKind.wrap_i64]; omega, by rw [IntKind.wrap_i64]; omega⟩
  have HWS : Hid (∀ y, Sem.run Tryz.prog (zeroValue 92) y = .ok (.agg #[.pointer none, .slice none 0 0]) y) := fun y => by kernel_rfl
  clear h hr hp hin hf hmn ho hlow hR hB hq
  go_enter Tryz.func67, Tryz.ntmps67
  go_wp2_with fail
  refine HI.out.mono ?_
  rintro e w1 ⟨rfl, rfl⟩
  clear HI
  go_wp2_with fail
  rw [← HBW.out]
  obtain ⟨y0, hy0⟩ : ∃ y, y = w1.alloc (.cells #[.pointer none, .slice none 0 0] 92) := ⟨_, rfl⟩
  rw [← hy0] at HR0 ⊢
  clear hy0 c2
  go_loopw [23] (fun j wr => ∃ (k : Nat) (dk : M.D) (acc : ByteArray), k ≤ m ∧ j = .int .i64 k ∧ Hid (RdAt w1 wr a B P dk acc) ∧ acc.size = 64 * k ∧ Hid (dk.ops = d.ops + k) ∧ Hid (R = M.rd (m - k) dk (q + k) acc)) (fun j _ => m - (intOf j).toNat)
  case atStart => exact ⟨0, d, ⟨#[]⟩, Nat.zero_le _, rfl, HR0, rfl, rfl, HF.out⟩
  case round =>
    clear HR0
    obtain ⟨k, dk, acc, hk, rfl, HA, hacc, HOk, HRk⟩ := hrel
    by_cases hlt : k < m
    · have hd : decide (k < m) = true := by simp; omega
      obtain ⟨c0, c1⟩ := HC.out wr HA.out.kept
      obtain ⟨hwp, hwk⟩ := HWP.out k hlt
      obtain ⟨p, hpp⟩ : ∃ p, p = q + k := ⟨_, rfl⟩
      rw [← hpp] at hwp HRk
      have HRD := Lib.hid ((HA.out.drew HL.out).read HL.out (by have := HOk.out; have := HO.out; have := HB1.out; have := HB3.out; omega) (p : Nat))
      have HON : Hid ((M.beginD dk).ops = d.ops + (k + 1)) := by show dk.ops + 1 = _; rw [HOk.out]; omega
      have hm1 : m ≤ 1000 := by have := HB1.out; have := HB3.out; omega
      have HKM : Hid (k + 1 ≤ m ∧ m ≤ 1000) := ⟨hlt, hm1⟩
      by_cases hE : M.readE dk (p : Nat) = 0
      · rw [hE] at HRD
        have hs64 := M.readS_size HA.out.disk.inv hE
        have HRn : Hid (R = M.rd (m - (k + 1)) (M.beginD dk) (p + 1) (acc ++ M.readS dk (p : Nat))) := by
          show R = _
          rw [HRk.out, show m - k = (m - (k + 1)) + 1 by omega, M.rd, if_pos hE]
        obtain ⟨t, ht⟩ : ∃ t, t = M.readS dk (p : Nat) := ⟨_, rfl⟩
        rw [← ht] at HRD hs64 HRn
        have HT : Hid (acc.size + t.size ≤ 1000000 ∧ (acc ++ t).size = 64 * (k + 1)) := ⟨by omega, by rw [ByteArray.size_append]; omega⟩
        have HPP := Lib.hid hpp
        clear ht hpp hE hs64 hacc hm1 hlt hk HA HRk HOk
        go_wp2_with fail
        go_region_held3 (fun y => y.cell? ⟨rb, 0, none⟩ = some (.pointer (some ⟨a, 0, none⟩)) ∧ y.cell? ⟨rb, 1, none⟩ = some (.int .i64 (fr : Nat))) (first | exact ⟨c0, c1⟩ | exact ⟨d0, d1⟩) (first
          | (go_at_call 84
             refine HRD.out.mono ?_
             rintro e w2 ⟨rfl, h2⟩
             obtain ⟨d0, d1⟩ := HC.out w2 h2.kept
             have HW := Lib.hid (h2.put HL.out (by rw [HBW.out]; exact Nat.le_refl _) t HT.out.1)
             clear h2 HRD))
        go_wp2_with fail
        refine HW.out.mono ?_
        rintro e w3 ⟨rfl, h3⟩
        have H3 := Lib.hid h3
        clear h3 HW
        go_wp2_with fail
        go_roundw
        case rel => exact ⟨k + 1, _, _, HKM.out.1, by go_num, H3, HT.out.2, HON, by have := HRn.out; rwa [HPP.out] at this⟩
        case measure => have := HKM.out.1; simp [intOf]; omega
      · have HRn : Hid (R = (⟨#[]⟩, M.readE dk (p : Nat), M.beginD dk)) := by
          show R = _
          rw [HRk.out, show m - k = (m - (k + 1)) + 1 by omega, M.rd, if_neg hE]
        obtain ⟨E, hEE⟩ : ∃ E, E = M.readE dk (p : Nat) := ⟨_, rfl⟩
        rw [← hEE] at HRD HRn hE
        have hE' : (E == 0) = false := by rw [beq_eq_false_iff_ne]; exact hE
        clear hEE hpp hE hacc hm1 hlt hk HA HRk HOk
        go_wp2_with fail
        go_region_held3 (fun y => y.cell? ⟨rb, 0, none⟩ = some (.pointer (some ⟨a, 0, none⟩)) ∧ y.cell? ⟨rb, 1, none⟩ = some (.int .i64 (fr : Nat))) (first | exact ⟨c0, c1⟩ | exact ⟨d0, d1⟩) (first
          | (go_at_call 84
             refine HRD.out.mono ?_
             rintro e w2 ⟨rfl, h2⟩
             obtain ⟨d0, d1⟩ := HC.out w2 h2.kept
             have H2 := Lib.hid h2
             clear h2 HRD))
        go_wp2_with fail
        go_ret2
        rw [HRn.out]
        exact ⟨rfl, H2.out.disk, H2.out.kept⟩
    · have e : k = m := by omega
      subst e
      have HRn : Hid (R = (acc, 0, dk)) := by
        show R = _
        rw [HRk.out, Nat.sub_self, M.rd]
      have HS := Lib.hid (HA.out.str HL.out (by rw [HBW.out]; exact Nat.le_refl _))
      clear hacc hlt hk HA HRk HOk
      go_wp2_with fail
      refine HS.out.mono ?_
      rintro e w2 ⟨rfl, h2⟩
      have H2 := Lib.hid h2
      clear h2 HS
      go_wp2_with fail
      go_ret2
      rw [HRn.out]
      exact ⟨rfl, H2.out⟩
theorem gread_no (i m : Int) (w : World) {rb a fr mn : Nat} (hr : Reg w rb a fr mn) (hi : i ≤ 9223372036854775807) (hmn : mn ≤ 1000) (hy : M.within i m (mn : Nat) = false) :
    Calls Tryz.prog 67 #[.pointer (some ⟨rb, 0, none⟩), .int .i64 i, .int .i64 m] w fun e w' => e = .returned (.tuple #[.string ⟨#[]⟩, .int .i64 3]) ∧ w' = w := by
  have c2 := hr.c2
  have HI := Lib.hid (within_any i m (mn : Nat) w hi (by omega) (by omega))
  rw [hy] at HI
  clear hr hy hi
  go_enter Tryz.func67, Tryz.ntmps67
  go_wp2_with fail
  refine HI.out.mono ?_
  rintro e w2 ⟨rfl, rfl⟩
  go_wp2_with fail
  go_ret2
  exact ⟨rfl, rfl⟩
/-- What a read comes to, wherever. -/
def M.gread (d : M.D) (fr mn : Nat) (i m : Int) : ByteArray × Int × M.D := if M.within i m (mn : Nat) = true then M.rd m.toNat d (fr + i.toNat) ⟨#[]⟩ else (⟨#[]⟩, 3, d)
theorem gread_any (i m : Int) (w : World) {rb a fr mn : Nat} {P : Nat → Prop} {d : M.D} (h : Disk w a P d) (hr : Reg w rb a fr mn) (hp : ¬ P rb) (hi : i ≤ 9223372036854775807) (hf : fr ≤ 1000) (hmn : mn ≤ 1000) (ho : d.ops ≤ 1000000000) :
    Calls Tryz.prog 67 #[.pointer (some ⟨rb, 0, none⟩), .int .i64 i, .int .i64 m] w fun e w' =>
      e = .returned (.tuple #[.string (M.gread d fr mn i m).1, .int .i64 (M.gread d fr mn i m).2.1]) ∧ Disk w' a P (M.gread d fr mn i m).2.2 ∧ Kept P w w' := by
  unfold M.gread
  by_cases hy : M.within i m (mn : Nat) = true
  · rw [if_pos hy]
    obtain ⟨h0, h1, h2⟩ := M.within_yes hy
    obtain ⟨k, rfl⟩ : ∃ k : Nat, i = k := ⟨i.toNat, by omega⟩
    obtain ⟨n, rfl⟩ : ∃ k : Nat, m = k := ⟨m.toNat, by omega⟩
    rw [Int.toNat_natCast, Int.toNat_natCast]
    refine (gread_at k n w (P := fun k => P k ∧ k < w.heap.size) (h.mono (fun _ hk e => ⟨e, hk⟩)) (fun _ e => e.2) hr (fun e => hp e.1) (by omega) hf hmn ho).mono ?_
    rintro e w' ⟨rfl, h3, h4⟩
    exact ⟨rfl, h3.mono (fun _ _ e => e.1), h4.mono (fun _ _ e => e.1)⟩
  · rw [if_neg hy]
    refine (gread_no i m w hr hi hmn (by simpa using hy)).mono ?_
    rintro e w' ⟨rfl, rfl⟩
    exact ⟨rfl, h, Kept.refl _ _⟩
end Go.Proofs.YtmgchfjfkdkaoaaGreatDoor
namespace Go.Proofs.YtmgchfjfkdkaoaaGreatDoor
open Go.RowKit

/-- The j-th sector of bytes. -/
def M.piece (s : ByteArray) (j : Nat) : ByteArray := s.extract (64 * j) (64 * j + 64)
/-- Sectors from one on, of which the first k are laid. -/
def M.partL (n at_ : Nat) (s : ByteArray) (k : Nat) : List (Nat × ByteArray) := (List.range n).map (fun j => if j < k then (at_ + j, M.piece s j) else (0, ⟨#[]⟩))
/-- Bytes as sectors from one on. -/
def M.cut (n at_ : Nat) (s : ByteArray) : List (Nat × ByteArray) := (List.range n).map (fun j => (at_ + j, M.piece s j))
theorem M.partL_len (n at_ : Nat) (s : ByteArray) (k : Nat) : (M.partL n at_ s k).length = n := by simp [M.partL]
theorem M.cut_len (n at_ : Nat) (s : ByteArray) : (M.cut n at_ s).length = n := by simp [M.cut]
theorem M.cut_at {n at_ : Nat} {s : ByteArray} {j : Nat} (hj : j < n) : (M.cut n at_ s)[j]? = some (at_ + j, M.piece s j) := by simp [M.cut, hj]
theorem M.partL_all (n at_ : Nat) (s : ByteArray) : M.partL n at_ s n = M.cut n at_ s := by
  unfold M.partL M.cut
  refine List.map_congr_left (fun j hj => ?_)
  rw [if_pos (List.mem_range.1 hj)]
theorem M.partL_set (n at_ : Nat) (s : ByteArray) (k : Nat) : (M.partL n at_ s k).set k (at_ + k, M.piece s k) = M.partL n at_ s (k + 1) := by
  refine List.ext_getElem? (fun j => ?_)
  rw [List.getElem?_set]
  by_cases e : k = j
  · subst e
    rw [if_pos rfl, M.partL_len]
    by_cases hj : k < n
    · rw [if_pos hj]
      simp [M.partL, hj]
    · rw [if_neg hj]
      simp [M.partL, hj]
  · rw [if_neg e]
    by_cases hj : j < n
    · simp only [M.partL, List.getElem?_map, List.getElem?_range hj, Option.map_some]
      by_cases h1 : j < k
      · rw [if_pos h1, if_pos (by omega)]
      · rw [if_neg h1, if_neg (by omega)]
    · simp [M.partL, hj]
theorem M.cells_set (L : List (Nat × ByteArray)) (k : Nat) (p : Nat × ByteArray) : M.cells (L.set k p) = ((M.cells L).set (k * 2) (.int .i64 (p.1 : Nat))).set (k * 2 + 1) (.string p.2) := by
  induction L generalizing k with
  | nil => simp [M.cells]
  | cons q L ih =>
    cases k with
    | zero => rfl
    | succ k =>
      rw [show (k + 1) * 2 = k * 2 + 2 by omega, show k * 2 + 2 + 1 = (k * 2 + 1) + 2 by omega]
      simpa [M.cells] using ih k
theorem M.made_secs (n at_ : Nat) (s : ByteArray) : madeCells #[.int .i64 0, .string ⟨#[]⟩] (n * 2) = (M.cells (M.partL n at_ s 0)).toArray := by
  have hp : M.partL n at_ s 0 = List.replicate n (0, ⟨#[]⟩) := by
    refine List.ext_getElem? (fun j => ?_)
    by_cases hj : j < n
    · simp [M.partL, hj]
    · simp [M.partL, hj]
  have hc : ∀ n j, (M.cells (List.replicate n (0, ⟨#[]⟩)))[j]? = if j < n * 2 then some (if j % 2 = 0 then Value.int .i64 0 else .string ⟨#[]⟩) else none := by
    intro n
    induction n with
    | zero => intro j; simp [M.cells]
    | succ n ih =>
      intro j
      rw [List.replicate_succ]
      match j with
      | 0 => simp [M.cells]
      | 1 =>
        rw [if_pos (by omega)]
        simp [M.cells]
      | j + 2 =>
        simp only [M.cells, List.getElem?_cons_succ]
        have e1 : (j + 2) % 2 = j % 2 := by omega
        have e2 : (j + 2 < (n + 1) * 2) = (j < n * 2) := propext ⟨fun h => by omega, fun h => by omega⟩
        have e3 := ih j
        rw [e1]
        simp only [e2]
        exact e3
  rw [hp]
  apply Array.ext
  · rw [size_madeCells, List.size_toArray, M.cells_len, List.length_replicate]
  · intro i h1 h2
    rw [size_madeCells] at h1
    have := hc n i
    rw [if_pos h1] at this
    have e2 : (M.cells (List.replicate n (0, ⟨#[]⟩))).toArray[i]'h2 = if i % 2 = 0 then Value.int .i64 0 else .string ⟨#[]⟩ := by
      rw [List.getElem_toArray]
      exact (List.getElem?_eq_some_iff.1 this).2
    rw [e2]
    simp only [madeCells, Array.getElem_map, Array.getElem_range]
    rcases Nat.mod_two_eq_zero_or_one i with h | h
    · simp [h]
    · simp [h]

theorem make_secs (n : Nat) (hn : n ≤ 1000) (w : World) : (Instr.makeSlice 66 (.int .i64 (n : Int)) (.int .i64 (n : Int))).run Tryz.prog w = .ok (.slice (some ⟨w.heap.size, 0, none⟩) n n) (w.alloc (.cells (madeCells #[.int .i64 0, .string ⟨#[]⟩] (n * 2)) 111)) := by
  obtain ⟨i0, hi, hz0, hz1, hz2⟩ := info_parts infoSec
  have h := run_make (P := Tryz.prog) w 66 111 i0 _ Tryz.underlying66 hi hz0 .i64 .i64 n n (by omega) (Int.le_refl _) (by rw [hz2]; omega) (by omega)
  rw [hz1, Int.toNat_natCast] at h
  exact h

theorem sizeSec : (Tryz.prog.info? 111).map (·.size) = some 2 := by kernel_rfl
/-- One sector more is laid. -/
theorem sec_set {w1 w3 : World} {B n fr i k q p st en : Nat} {s : ByteArray} (h : Box w3 B 111 (M.cells (M.partL n (fr + i) s k)).toArray) (hb : Below B w1 w3) (hk : k < n) (hq : q = fr + i) (hp : p = q + k) (hst : st = 64 * k) (hen : en = 64 * k + 64) :
    w3.there B (k * 2) 2 ∧ Box (w3.setCells B (k * 2) [.int .i64 (p : Nat), .string (s.extract st en)]) B 111 (M.cells (M.partL n (fr + i) s (k + 1))).toArray ∧ Below B w1 (w3.setCells B (k * 2) [.int .i64 (p : Nat), .string (s.extract st en)]) := by
  have hlen : (M.cells (M.partL n (fr + i) s k)).length = n * 2 := by rw [M.cells_len, M.partL_len]
  refine ⟨fun j hj => ⟨?_, h.frozen _⟩, ?_, ?_⟩
  · rw [h.cell, List.getElem?_toArray, List.getElem?_eq_getElem (by rw [hlen]; omega)]
    rfl
  · have h1 := (h.set (k * 2) (.int .i64 (p : Nat))).set (k * 2 + 1) (.string (s.extract st en))
    rw [List.setIfInBounds_toArray, List.setIfInBounds_toArray] at h1
    rw [← M.partL_set, M.cells_set]
    rw [hp, hq, hst, hen] at h1 ⊢
    exact h1
  · exact (hb.setCell (p := ⟨B, k * 2, none⟩) (Nat.le_refl _) _).setCell (p := ⟨B, k * 2 + 1, none⟩) (Nat.le_refl _) _

set_option maxRecDepth 100000 in
set_option maxHeartbeats 1000000 in
theorem gsplit_yes (i n : Nat) (s : ByteArray) (w : World) {rb a fr mn : Nat} (hr : Reg w rb a fr mn) (hs : s.size = 64 * n) (hin : i + n ≤ mn) (hf : fr ≤ 1000) (hmn : mn ≤ 1000) :
    Calls Tryz.prog 91 #[.pointer (some ⟨rb, 0, none⟩), .int .i64 (i : Nat), .string s] w fun e w' =>
      e = .returned (.tuple #[.slice (some ⟨w.heap.size, 0, none⟩) n n, .int .i64 0]) ∧ Box w' w.heap.size 111 (M.cells (M.cut n (fr + i) s)).toArray ∧ Below w.heap.size w w' := by
  have c2 := hr.c2
  have HI := Lib.hid (within_any (i : Nat) (n : Nat) (mn : Nat) w (by omega) (by omega) (by omega))
  rw [show M.within (i : Nat) (n : Nat) (mn : Nat) = true by unfold M.within; simp; omega] at HI
  obtain ⟨R, hR⟩ : ∃ R, R = madeCells #[.int .i64 0, .string ⟨#[]⟩] (n * 2) := ⟨_, rfl⟩
  have hmk : ∀ W : World, (Instr.makeSlice 66 (.int .i64 (n : Int)) (.int .i64 (n : Int))).run Tryz.prog W = .ok (.slice (some ⟨W.heap.size, 0, none⟩) n n) (W.alloc (.cells R 111)) := fun W => by rw [hR]; exact make_secs n (by omega) W
  have hlt := hr.lt
  have HC : Hid (∀ y, Below w.heap.size w y → y.cell? ⟨rb, 1, none⟩ = some (.int .i64 (fr : Nat))) := fun y hk => (World.cell?_of_block (hk.block rb hlt)).trans hr.c1
  have h1 : (s.size : Int).tmod 64 = 0 := by rw [Int.tmod_eq_emod_of_nonneg (by omega)]; omega
  have h2 : (s.size : Int).tdiv 64 = (n : Int) := by rw [Int.tdiv_eq_ediv_of_nonneg (by omega)]; omega
  have HBX : Hid (Box (w.alloc (.cells R 111)) w.heap.size 111 (M.cells (M.partL n (fr + i) s 0)).toArray ∧ Below w.heap.size w (w.alloc (.cells R 111))) := by
    refine ⟨?_, (Below.refl _ w).alloc (Nat.le_refl _) _⟩
    rw [← M.made_secs, ← hR]
    exact Box.new _ _ _
  have hn1 : (n : Int) ≤ 1000 := by omega
  have HB := Lib.hid (And.intro hs (And.intro hin (And.intro hf hmn)))
  clear hr hin hf hmn hlt hR hs
  go_enter Tryz.func91, Tryz.ntmps91
  go_wp2_with fail
  refine HI.out.mono ?_
  rintro e w1 ⟨rfl, rfl⟩
  clear HI
  go_wp2_with fail
  obtain ⟨y0, hy0⟩ : ∃ y, y = w1.alloc (.cells R 111) := ⟨_, rfl⟩
  obtain ⟨B, hB⟩ : ∃ B, B = w1.heap.size := ⟨_, rfl⟩
  rw [← hy0, ← hB] at HBX
  rw [← hB] at HC
  rw [← hy0, ← hB]
  have HBB := Lib.hid hB
  clear hy0 hB c2 hmk
  go_loopw [33] (fun j wr => ∃ k : Nat, k ≤ n ∧ j = .int .i64 k ∧ Box wr B 111 (M.cells (M.partL n (fr + i) s k)).toArray ∧ Below B w1 wr) (fun j _ => n - (intOf j).toNat)
  case atStart => exact ⟨0, Nat.zero_le _, rfl, HBX.out⟩
  case round =>
    clear HBX
    obtain ⟨k, hk, rfl, hX, hb⟩ := hrel
    by_cases hlt : k < n
    · have hk0 : (0 : Int) ≤ (k : Int) := by omega
      have hlt' : (k : Int) < (n : Int) := by omega
      have c1 := HC.out wr hb
      obtain ⟨hs, hin, hf, hmn⟩ := HB.out
      obtain ⟨q, hq⟩ : ∃ q, q = fr + i := ⟨_, rfl⟩
      obtain ⟨p, hp⟩ : ∃ p, p = q + k := ⟨_, rfl⟩
      obtain ⟨st, hst⟩ : ∃ st, st = 64 * k := ⟨_, rfl⟩
      obtain ⟨en, hen⟩ : ∃ en, en = 64 * k + 64 := ⟨_, rfl⟩
      have e1 : IntKind.i64.wrap ((fr : Int) + (i : Int)) = (q : Int) := by rw [IntKind.wrap_i64]; omega
      have e2 : IntKind.i64.wrap ((q : Int) + (k : Int)) = (p : Int) := by rw [IntKind.wrap_i64]; omega
      have e3 : (k : Int) * 64 = (st : Int) := by omega
      have e4 : IntKind.i64.wrap ((st : Int) + 64) = (en : Int) := by rw [IntKind.wrap_i64]; omega
      have b1 : (0 : Int) ≤ (st : Int) := by omega
      have b2 : (st : Int) ≤ (en : Int) := by omega
      have b3 : (en : Int) ≤ (s.size : Int) := by omega
      have b4 : (0 : Int) ≤ (en : Int) := by omega
      have HE := Lib.hid (And.intro hq (And.intro hp (And.intro hst hen)))
      have HL : Hid (k < n) := hlt
      clear hs hin hf hmn hq hp hst hen hlt hk
      go_wp2_with fail
      go_still_tail 17, (by kernel_rfl)
      change wpList _ _ _ _ _ wr.drew
      obtain ⟨w3, hw3⟩ : ∃ v, v = wr.drew := ⟨_, rfl⟩
      have hX3 : Box w3 B 111 (M.cells (M.partL n (fr + i) s k)).toArray := by rw [hw3]; exact hX
      have hb3 : Below B w1 w3 := by rw [hw3]; exact hb.drew
      rw [← hw3]
      clear hw3 hX hb
      have HS := Lib.hid (sec_set hX3 hb3 HL.out HE.out.1 HE.out.2.1 HE.out.2.2.1 HE.out.2.2.2)
      refine wpList_store_mid rfl _ _ _ rfl B (k * 2) #[.int .i64 (p : Nat), .string (s.extract st en)] rfl rfl HS.out.1 sizeSec (all_oneCell_toArray (cs := [.int .i64 (p : Nat), .string (s.extract st en)]) (fun v hv => by simp at hv; rcases hv with rfl | rfl <;> rfl)) ?_
      clear hX3 hb3
      go_wp2_with fail
      go_roundw
      case rel => exact ⟨k + 1, HL.out, by go_num, HS.out.2⟩
      case measure => have := HL.out; simp [intOf]; omega
    · have e : k = n := by omega
      subst e
      rw [M.partL_all] at hX
      have HX := Lib.hid (And.intro hX hb)
      clear hX hb
      go_wp2_with fail
      go_ret2
      rw [← HBB.out]
      exact ⟨rfl, HX.out⟩
end Go.Proofs.YtmgchfjfkdkaoaaGreatDoor
namespace Go.Proofs.YtmgchfjfkdkaoaaGreatDoor
open Go.RowKit

theorem gsplit_size (i : Int) (s : ByteArray) (w : World) {rb a fr mn : Nat} (hs : s.size % 64 ≠ 0) (_hr : Reg w rb a fr mn) :
    Calls Tryz.prog 91 #[.pointer (some ⟨rb, 0, none⟩), .int .i64 i, .string s] w fun e w' => e = .returned (.tuple #[.slice none 0 0, .int .i64 12]) ∧ w' = w := by
  have h1 : (((s.size : Int) % 64) == 0) = false := by
    rw [beq_eq_false_iff_ne]
    omega
  have h2 : (((s.size : Int) % 64) != 0) = true := by
    rw [bne, h1]
    rfl
  clear hs _hr
  go_enter Tryz.func91, Tryz.ntmps91
  go_wp2_with fail
  go_ret2
  exact ⟨rfl, rfl⟩
theorem gsplit_no (i : Int) (n : Nat) (s : ByteArray) (w : World) {rb a fr mn : Nat} (hr : Reg w rb a fr mn) (hs : s.size = 64 * n) (hn : n ≤ 1000000000) (hi : i ≤ 9223372036854775807) (hmn : mn ≤ 1000) (hy : M.within i (n : Nat) (mn : Nat) = false) :
    Calls Tryz.prog 91 #[.pointer (some ⟨rb, 0, none⟩), .int .i64 i, .string s] w fun e w' => e = .returned (.tuple #[.slice none 0 0, .int .i64 3]) ∧ w' = w := by
  have c2 := hr.c2
  have HI := Lib.hid (within_any i (n : Nat) (mn : Nat) w hi (by omega) (by omega))
  rw [hy] at HI
  have h1 : (s.size : Int).tmod 64 = 0 := by rw [Int.tmod_eq_emod_of_nonneg (by omega)]; omega
  have h2 : (s.size : Int).tdiv 64 = (n : Int) := by rw [Int.tdiv_eq_ediv_of_nonneg (by omega)]; omega
  have hn1 : (n : Int) ≤ 1000000000 := by omega
  clear hr hy hi hs hn
  go_enter Tryz.func91, Tryz.ntmps91
  go_wp2_with fail
  refine HI.out.mono ?_
  rintro e w2 ⟨rfl, rfl⟩
  go_wp2_with fail
  go_ret2
  exact ⟨rfl, rfl⟩

/-- Sectors are written, in order, up to the first error. -/
def M.wr : List (Nat × ByteArray) → M.D → Int × M.D
  | [], d => (0, d)
  | p :: L, d => if M.writeE d p.1 p.2 = 0 then M.wr L (M.writeD d p.1 p.2) else (M.writeE d p.1 p.2, M.writeD d p.1 p.2)
theorem M.writeD_ops (d : M.D) (i : Int) (s : ByteArray) : (M.writeD d i s).ops = d.ops + 1 := by unfold M.writeD; split <;> rfl
theorem M.drop_at {L : List (Nat × ByteArray)} {k : Nat} {p : Nat × ByteArray} (h : L[k]? = some p) : L.drop k = p :: L.drop (k + 1) := by
  obtain ⟨hk, e⟩ := List.getElem?_eq_some_iff.1 h
  rw [List.drop_eq_getElem_cons hk, e]

/-- The disk, its part and the sectors, in the midst of Write. -/
structure WrAt (w y : World) (rb a fr mn B : Nat) (P : Nat → Prop) (d : M.D) (L : List (Nat × ByteArray)) : Prop where
  one : One w y a P (fun k => k = rb ∨ k = B) d
  reg : Reg y rb a fr mn
  box : Box y B 111 (M.cells L).toArray
section
variable {w y : World} {rb a fr mn B : Nat} {P : Nat → Prop} {d : M.D} {L : List (Nat × ByteArray)}
theorem WrAt.alloc (h : WrAt w y rb a fr mn B P d L) (o : Obj) : WrAt w (y.alloc o) rb a fr mn B P d L :=
  ⟨h.one.alloc o, h.reg.kept ((Kept.refl (fun _ => False) y).alloc o) id, (Kept.refl (fun _ => False) y |>.alloc o).box h.box id⟩
theorem WrAt.drew (h : WrAt w y rb a fr mn B P d L) : WrAt w y.drew rb a fr mn B P d L :=
  ⟨h.one.drew, h.reg.kept ((Kept.refl (fun _ => False) y).drew) id, ((Kept.refl (fun _ => False) y).drew).box h.box id⟩
theorem WrAt.write (h : WrAt w y rb a fr mn B P d L) (ho : d.ops ≤ 1099511627776) (i : Int) (s : ByteArray) :
    Calls Tryz.prog 92 #[.pointer (some ⟨a, 0, none⟩), .int .i64 i, .string s] y fun e y' => e = .returned (.int .i64 (M.writeE d i s)) ∧ WrAt w y' rb a fr mn B P (M.writeD d i s) L :=
  (owrite h.one ho i s).mono fun _ _ ⟨h1, h2, h3⟩ => ⟨h1, h2, h.reg.kept h3 (fun e => e (Or.inl rfl)), h3.box h.box (fun e => e (Or.inr rfl))⟩
theorem WrAt.cells (h : WrAt w y rb a fr mn B P d L) {k : Nat} {p : Nat × ByteArray} (hp : L[k]? = some p) : y.cell? ⟨B, k * 2, none⟩ = some (.int .i64 (p.1 : Nat)) ∧ y.cell? ⟨B, k * 2 + 1, none⟩ = some (.string p.2) :=
  ⟨by rw [h.box.cell, List.getElem?_toArray]; exact (M.cells_at hp).1, by rw [h.box.cell, List.getElem?_toArray]; exact (M.cells_at hp).2⟩
end

set_option maxRecDepth 100000 in
set_option maxHeartbeats 1000000 in
theorem gwrite_yes (i n : Nat) (s : ByteArray) (w : World) {rb a fr mn : Nat} {P : Nat → Prop} {d : M.D} (h : Disk w a P d) (hr : Reg w rb a fr mn) (hp : ¬ P rb) (hs : s.size = 64 * n) (hin : i + n ≤ mn) (hf : fr ≤ 1000) (hmn : mn ≤ 1000) (ho : d.ops ≤ 1000000000) :
    Calls Tryz.prog 53 #[.pointer (some ⟨rb, 0, none⟩), .int .i64 (i : Nat), .string s] w fun e w' =>
      e = .returned (.int .i64 (M.wr (M.cut n (fr + i) s) d).1) ∧ Disk w' a (M.plus P w.heap.size) (M.wr (M.cut n (fr + i) s) d).2 ∧ Kept P w w' := by
  have HSP := Lib.hid (gsplit_yes i n s w hr hs hin hf hmn)
  obtain ⟨L, hL⟩ : ∃ L, L = M.cut n (fr + i) s := ⟨_, rfl⟩
  have hLn : L.length = n := by rw [hL, M.cut_len]
  rw [← hL] at HSP ⊢
  obtain ⟨B, hB⟩ : ∃ B, B = w.heap.size := ⟨_, rfl⟩
  have HST : Hid (∀ w1, Box w1 B 111 (M.cells L).toArray → Below B w w1 → WrAt w w1 rb a fr mn B P d L) := by
    intro w1 h1 h2
    rw [hB] at h2
    have hk : Kept (fun _ => False) w w1 := Kept.of_below h2 _
    refine ⟨((One.start h).beside hk).less (fun k e => ?_), hr.kept hk id, h1⟩
    rcases e with e | e
    · subst e
      exact Or.inl ⟨hr.lt, hp⟩
    · subst e
      exact Or.inr ⟨by omega, h1.lt⟩
  obtain ⟨R, hR⟩ : ∃ R, R = M.wr L d := ⟨_, rfl⟩
  have HF := Lib.hid hR
  have HLN := Lib.hid hLn
  have HO : Hid (d.ops ≤ 1000000000 ∧ n ≤ 1000) := ⟨ho, by omega⟩
  have hn1 : (n : Int) ≤ 1000 := by omega
  rw [← hR]
  rw [← hB] at HSP
  clear h hr hp hs hin hf hmn ho hL hLn hR hB
  go_enter Tryz.func53, Tryz.ntmps53
  go_wp2_with fail
  refine HSP.out.mono ?_
  rintro e w1 ⟨rfl, h1, h2⟩
  have HA0 := Lib.hid (HST.out w1 h1 h2)
  clear h1 h2 HST HSP
  go_wp2_with fail
  go_loopw [24] (fun j wr => ∃ (k : Nat) (dk : M.D), k ≤ n ∧ j = .int .i64 k ∧ Hid (WrAt w wr rb a fr mn B P dk L) ∧ Hid (dk.ops = d.ops + k) ∧ Hid (R = M.wr (L.drop k) dk)) (fun j _ => n - (intOf j).toNat)
  case atStart => exact ⟨0, d, Nat.zero_le _, rfl, HA0, rfl, HF.out⟩
  case round =>
    clear HA0 HF
    obtain ⟨k, dk, hk, rfl, HA, HOk, HRk⟩ := hrel
    by_cases hlt : k < n
    · have hk0 : (0 : Int) ≤ (k : Int) := by omega
      have hlt' : (k : Int) < (n : Int) := by omega
      obtain ⟨p, hp⟩ : ∃ p, L[k]? = some p := ⟨L[k]'(by have := HLN.out; omega), List.getElem?_eq_getElem _⟩
      obtain ⟨x0, x1⟩ := HA.out.cells hp
      have HRn : Hid (R = M.wr (p :: L.drop (k + 1)) dk) := by show R = _; rw [← M.drop_at hp]; exact HRk.out
      obtain ⟨at_, t⟩ := p
      simp only at x0 x1
      have HAx : Hid (WrAt w (wr.alloc (Obj.cells #[.int .i64 (at_ : Nat), .string t] 111)) rb a fr mn B P dk L) := HA.out.alloc _
      obtain ⟨y3, y4⟩ := cells2 wr (.int .i64 (at_ : Nat)) (.string t) 111
      obtain ⟨x, hx⟩ : ∃ x, x = wr.alloc (Obj.cells #[.int .i64 (at_ : Nat), .string t] 111) := ⟨_, rfl⟩
      rw [← hx] at HAx y3 y4
      have HX := Lib.hid hx
      have c0 := HAx.out.reg.c0
      have HW := Lib.hid (HAx.out.drew.write (by have := HOk.out; have := HO.out; omega) (at_ : Nat) t)
      have HON : Hid ((M.writeD dk (at_ : Nat) t).ops = d.ops + (k + 1)) := by show (M.writeD dk (at_ : Nat) t).ops = _; rw [M.writeD_ops, HOk.out]; omega
      have HKL : Hid (k < n) := hlt
      clear hp hx HA HRk HOk hlt hk HAx
      by_cases hE : M.writeE dk (at_ : Nat) t = 0
      · rw [hE] at HW
        have HRm : Hid (R = M.wr (L.drop (k + 1)) (M.writeD dk (at_ : Nat) t)) := by
          show R = _
          rw [HRn.out, M.wr, if_pos hE]
        clear hE HRn
        go_wp2_with fail
        rw [← HX.out]
        go_still_tail 8, (by kernel_rfl)
        change wpList _ _ _ _ _ x.drew
        go_wp2_with fail
        refine HW.out.mono ?_
        rintro e w2 ⟨rfl, h2⟩
        have H2 := Lib.hid h2
        clear h2 HW
        go_wp2_with fail
        go_roundw
        case rel => exact ⟨k + 1, _, HKL.out, by go_num, H2, HON, HRm⟩
        case measure => have := HKL.out; simp [intOf]; omega
      · obtain ⟨E, hEE⟩ : ∃ E, E = M.writeE dk (at_ : Nat) t := ⟨_, rfl⟩
        have HRm : Hid (R = (E, M.writeD dk (at_ : Nat) t)) := by
          show R = _
          rw [HRn.out, M.wr, if_neg hE, hEE]
        rw [← hEE] at HW hE
        have hE' : (E == 0) = false := by rw [beq_eq_false_iff_ne]; exact hE
        clear hE HRn hEE
        go_wp2_with fail
        rw [← HX.out]
        go_still_tail 8, (by kernel_rfl)
        change wpList _ _ _ _ _ x.drew
        go_wp2_with fail
        refine HW.out.mono ?_
        rintro e w2 ⟨rfl, h2⟩
        have H2 := Lib.hid h2
        clear h2 HW
        go_wp2_with fail
        go_ret
        rw [HRm.out]
        exact ⟨rfl, H2.out.one.out⟩
    · have e : k = n := by omega
      subst e
      have HRn : Hid (R = (0, dk)) := by
        show R = _
        rw [HRk.out, List.drop_eq_nil_of_le (by rw [HLN.out]; exact Nat.le_refl _), M.wr]
      clear hlt hk HRk HOk
      go_wp2_with fail
      go_ret
      rw [HRn.out]
      exact ⟨rfl, HA.out.one.out⟩
theorem gwrite_bad (i E : Int) (s : ByteArray) (w : World) (rb : Nat) (hE : (E == 0) = false) (h : Calls Tryz.prog 91 #[.pointer (some ⟨rb, 0, none⟩), .int .i64 i, .string s] w fun e w' => e = .returned (.tuple #[.slice none 0 0, .int .i64 E]) ∧ w' = w) :
    Calls Tryz.prog 53 #[.pointer (some ⟨rb, 0, none⟩), .int .i64 i, .string s] w fun e w' => e = .returned (.int .i64 E) ∧ w' = w := by
  have HS := Lib.hid h
  clear h
  go_enter Tryz.func53, Tryz.ntmps53
  go_wp2_with fail
  refine HS.out.mono ?_
  rintro e w2 ⟨rfl, rfl⟩
  go_wp2_with fail
  go_ret
  exact ⟨rfl, rfl⟩

/-- What Split comes to, wherever: the sectors, the error. -/
def M.gsplit (fr mn : Nat) (i : Int) (s : ByteArray) : List (Nat × ByteArray) × Int :=
  if s.size % 64 = 0 then (if M.within i ((s.size / 64 : Nat) : Int) (mn : Nat) = true then (M.cut (s.size / 64) (fr + i.toNat) s, 0) else ([], 3)) else ([], 12)
/-- What a write comes to, wherever. -/
def M.gwrite (d : M.D) (fr mn : Nat) (i : Int) (s : ByteArray) : Int × M.D :=
  if (M.gsplit fr mn i s).2 = 0 then M.wr (M.gsplit fr mn i s).1 d else ((M.gsplit fr mn i s).2, d)
theorem gwrite_any (i : Int) (s : ByteArray) (w : World) {rb a fr mn : Nat} {P : Nat → Prop} {d : M.D} (h : Disk w a P d) (hr : Reg w rb a fr mn) (hp : ¬ P rb) (hi : i ≤ 9223372036854775807) (hsz : s.size ≤ 1000000000) (hf : fr ≤ 1000) (hmn : mn ≤ 1000) (ho : d.ops ≤ 1000000000) :
    Calls Tryz.prog 53 #[.pointer (some ⟨rb, 0, none⟩), .int .i64 i, .string s] w fun e w' =>
      e = .returned (.int .i64 (M.gwrite d fr mn i s).1) ∧ Disk w' a (M.plus P w.heap.size) (M.gwrite d fr mn i s).2 ∧ Kept P w w' := by
  unfold M.gwrite M.gsplit
  by_cases hs : s.size % 64 = 0
  · rw [if_pos hs]
    obtain ⟨n, hn⟩ : ∃ n, n = s.size / 64 := ⟨_, rfl⟩
    have hsn : s.size = 64 * n := by omega
    rw [← hn]
    by_cases hy : M.within i ((n : Nat) : Int) (mn : Nat) = true
    · rw [if_pos hy, if_pos rfl]
      obtain ⟨h0, h1, h2⟩ := M.within_yes hy
      obtain ⟨k, rfl⟩ : ∃ k : Nat, i = k := ⟨i.toNat, by omega⟩
      rw [Int.toNat_natCast]
      exact gwrite_yes k n s w h hr hp hsn (by omega) hf hmn ho
    · rw [if_neg hy, if_neg (by simp)]
      refine (gwrite_bad i 3 s w rb (by decide) (gsplit_no i n s w hr hsn (by omega) hi hmn (by simpa using hy))).mono ?_
      rintro e w' ⟨rfl, rfl⟩
      exact ⟨rfl, h.mono (fun _ _ e => Or.inl e), Kept.refl _ _⟩
  · rw [if_neg hs, if_neg (by simp)]
    refine (gwrite_bad i 12 s w rb (by decide) (gsplit_size i s w hs hr)).mono ?_
    rintro e w' ⟨rfl, rfl⟩
    exact ⟨rfl, h.mono (fun _ _ e => Or.inl e), Kept.refl _ _⟩
end Go.Proofs.YtmgchfjfkdkaoaaGreatDoor
namespace Go.Proofs.YtmgchfjfkdkaoaaGreatDoor
open Go.RowKit

/-- A disk that a call has made, and its part beside it. -/
structure Gk (w y : World) (N rb a fr mn : Nat) (d : M.D) : Prop where
  disk : Disk y a (fun k => N ≤ k ∧ k ≠ rb) d
  reg : Reg y rb a fr mn
  below : Below N w y
  le : N ≤ y.heap.size
  low : N ≤ rb
section
variable {w y : World} {N rb a fr mn : Nat} {d : M.D}
theorem Dk.part {P : Nat → Prop} (h : Dk w y N a P d) (o : Obj) (hr : Reg (y.alloc o) y.heap.size a fr mn) : Gk w (y.alloc o) N y.heap.size a fr mn d :=
  ⟨(h.disk.mono (fun k hk e => ⟨h.low k e, Nat.ne_of_lt hk⟩)).kept ((Kept.refl (fun _ => False) y).alloc o) (fun _ _ => id), hr, h.below.alloc h.le o, by rw [World.size_alloc]; have := h.le; omega, h.le⟩
theorem Gk.step {y' : World} {d' : M.D} (h : Gk w y N rb a fr mn d) (hd : Disk y' a (M.plus (fun k => N ≤ k ∧ k ≠ rb) y.heap.size) d') (hk : Kept (fun k => N ≤ k ∧ k ≠ rb) y y') : Gk w y' N rb a fr mn d' := by
  have hle := h.le
  have hrl := h.reg.lt
  exact ⟨hd.mono (fun k _ e => e.elim id (fun e => ⟨by omega, by omega⟩)), h.reg.kept hk (fun e => e.2 rfl), h.below.trans (hk.below hle (fun k hk e => by omega)), by have := hk.size; omega, h.low⟩
theorem Gk.keep {y' : World} (h : Gk w y N rb a fr mn d) (hb : Below y.heap.size y y') : Gk w y' N rb a fr mn d :=
  ⟨h.disk.kept (Kept.of_below hb (fun _ => False)) (fun _ _ => id), h.reg.kept (Kept.of_below hb (fun _ => False)) id, h.below.trans (hb.mono h.le), Nat.le_trans h.le hb.size, h.low⟩
theorem Gk.write (h : Gk w y N rb a fr mn d) (i : Int) (s : ByteArray) (hi : i ≤ 9223372036854775807) (hsz : s.size ≤ 1000000000) (hf : fr ≤ 1000) (hmn : mn ≤ 1000) (ho : d.ops ≤ 1000000000) :
    Calls Tryz.prog 53 #[.pointer (some ⟨rb, 0, none⟩), .int .i64 i, .string s] y fun e y' => e = .returned (.int .i64 (M.gwrite d fr mn i s).1) ∧ Gk w y' N rb a fr mn (M.gwrite d fr mn i s).2 :=
  (gwrite_any i s y h.disk h.reg (fun e => e.2 rfl) hi hsz hf hmn ho).mono fun _ _ ⟨h1, h2, h3⟩ => ⟨h1, h.step h2 h3⟩
theorem Gk.read (h : Gk w y N rb a fr mn d) (i m : Int) (hi : i ≤ 9223372036854775807) (hf : fr ≤ 1000) (hmn : mn ≤ 1000) (ho : d.ops ≤ 1000000000) :
    Calls Tryz.prog 67 #[.pointer (some ⟨rb, 0, none⟩), .int .i64 i, .int .i64 m] y fun e y' => e = .returned (.tuple #[.string (M.gread d fr mn i m).1, .int .i64 (M.gread d fr mn i m).2.1]) ∧ Gk w y' N rb a fr mn (M.gread d fr mn i m).2.2 :=
  (gread_any i m y h.disk h.reg (fun e => e.2 rfl) hi hf hmn ho).mono fun _ _ ⟨h1, h2, h3⟩ => ⟨h1, h.step (h2.mono (fun _ _ e => Or.inl e)) h3⟩
end

theorem M.works_write : (M.gwrite (M.new 6) 3 2 1 (M.pad ⟨#[120]⟩)).1 = 0 := by decide
end Go.Proofs.YtmgchfjfkdkaoaaGreatDoor
namespace Go.Proofs.YtmgchfjfkdkaoaaGreatDoor
open Go.RowKit

theorem M.ex_all (s : ByteArray) (n : Nat) (h : s.size = n) : s.extract 0 n = s := by
  apply M.ba_ext
  rw [M.ex_list, List.drop_zero, Nat.sub_zero, ← h, ← M.size_list, List.take_length]
theorem M.pad_head (s : ByteArray) : (M.pad s).extract 0 s.size = s := by
  apply M.ba_ext
  rw [M.ex_list, M.pad, M.app_list, List.drop_zero, Nat.sub_zero, ← M.size_list, List.take_left]
theorem M.piece_size (s : ByteArray) (n j : Nat) (h : s.size = 64 * n) (hj : j < n) : (M.piece s j).size = 64 := by
  unfold M.piece
  rw [ByteArray.size_extract]
  omega

theorem M.cut_snoc (n at_ : Nat) (s : ByteArray) : M.cut (n + 1) at_ s = M.cut n at_ s ++ [(at_ + n, M.piece s n)] := by simp [M.cut, List.range_succ]
theorem M.seen_cut (n at_ : Nat) (s : ByteArray) (k : Nat) : M.seen0 (M.cut n at_ s) k = if at_ ≤ k ∧ k < at_ + n then some (M.piece s (k - at_)) else none := by
  induction n with
  | zero => rw [if_neg (by omega)]; rfl
  | succ n ih =>
    rw [M.cut_snoc, M.seen0_snoc, ih]
    by_cases e : at_ + n = k
    · rw [if_pos e, if_pos (by omega), show k - at_ = n by omega]
    · rw [if_neg e]
      by_cases h : at_ ≤ k ∧ k < at_ + n
      · rw [if_pos h, if_pos (by omega)]
      · rw [if_neg h, if_neg (by omega)]
theorem M.cut_mem {n at_ : Nat} {s : ByteArray} {p : Nat × ByteArray} (h : p ∈ M.cut n at_ s) : ∃ j, j < n ∧ p = (at_ + j, M.piece s j) := by
  unfold M.cut at h
  obtain ⟨j, hj, e⟩ := List.mem_map.1 h
  exact ⟨j, List.mem_range.1 hj, e.symm⟩

/-- So much was written to a disk, and nothing else. -/
structure M.Holds (d : M.D) (L : List (Nat × ByteArray)) (o : Nat) : Prop where
  calm : M.Calm d
  S : d.S = List.replicate 12 M.zero
  L : d.L = L
  ops : d.ops = o
theorem M.holds_new : M.Holds (M.new 12) [] 0 := ⟨M.calm_new 12, rfl, rfl, rfl⟩
theorem M.Holds.len {d : M.D} {L : List (Nat × ByteArray)} {o : Nat} (h : M.Holds d L o) : d.S.length = 12 := by rw [h.S, List.length_replicate]
theorem M.Holds.begin {d : M.D} {L : List (Nat × ByteArray)} {o : Nat} (h : M.Holds d L o) : M.Holds (M.beginD d) L (o + 1) := by
  rw [h.calm.D]
  exact ⟨⟨h.calm.dn, h.calm.fails, h.calm.da⟩, h.S, h.L, by show d.ops + 1 = _; rw [h.ops]⟩
theorem M.wr_holds : ∀ (L L0 : List (Nat × ByteArray)) (d : M.D) (o : Nat), M.Holds d L0 o → (∀ p ∈ L, p.1 < 12 ∧ p.2.size = 64) → (M.wr L d).1 = 0 ∧ M.Holds (M.wr L d).2 (L0 ++ L) (o + L.length) := by
  intro L
  induction L with
  | nil => intro L0 d o h _; exact ⟨rfl, by simpa [M.wr] using h⟩
  | cons p L ih =>
    intro L0 d o h hL
    obtain ⟨h1, h2⟩ := hL p (List.mem_cons_self ..)
    have hw : M.wrong d.S.length (p.1 : Int) p.2 = 0 := by
      have hb : M.hasB 12 (p.1 : Int) = true := by unfold M.hasB; simp; omega
      rw [h.len]
      unfold M.wrong
      rw [if_pos hb, if_pos h2]
    have he : M.writeE d (p.1 : Int) p.2 = 0 := by rw [h.calm.writeE]; exact hw
    have hd : M.Holds (M.writeD d (p.1 : Int) p.2) (L0 ++ [p]) (o + 1) := by
      rw [h.calm.writeD]
      unfold M.writeC
      rw [if_pos hw]
      exact ⟨⟨h.calm.dn, h.calm.fails, h.calm.da⟩, h.S, by show d.L ++ [((p.1 : Int).toNat, p.2)] = _; rw [h.L, Int.toNat_natCast], by show d.ops + 1 = _; rw [h.ops]⟩
    rw [M.wr, if_pos he]
    have := ih (L0 ++ [p]) _ (o + 1) hd (fun q hq => hL q (List.mem_cons_of_mem _ hq))
    rw [List.append_assoc] at this
    refine ⟨this.1, ?_⟩
    have h3 := this.2
    rw [show o + 1 + L.length = o + (p :: L).length by simp; omega] at h3
    exact h3
theorem M.rd_holds (s : ByteArray) (n at_ : Nat) (hat : at_ + n ≤ 12) : ∀ (m j : Nat) (d : M.D) (o : Nat), j + m = n → M.Holds d (M.cut n at_ s) o →
    (M.rd m d (at_ + j) (s.extract 0 (64 * j))).1 = s.extract 0 (64 * n) ∧ (M.rd m d (at_ + j) (s.extract 0 (64 * j))).2.1 = 0 ∧ M.Holds (M.rd m d (at_ + j) (s.extract 0 (64 * j))).2.2 (M.cut n at_ s) (o + m) := by
  intro m
  induction m with
  | zero =>
    intro j d o hj h
    have e : j = n := by omega
    subst e
    exact ⟨rfl, rfl, h⟩
  | succ m ih =>
    intro j d o hj h
    obtain ⟨h1, h2⟩ := h.calm.readE (k := at_ + j) (by rw [h.len]; omega)
    have hs : M.seen d.S d.L (at_ + j) = M.piece s j := by
      unfold M.seen
      rw [h.L, M.seen_cut, if_pos (by omega), show at_ + j - at_ = j by omega]
      rfl
    rw [M.rd, if_pos h1, h2, hs, M.piece, M.ex_cut s 0 (64 * j) (64 * j + 64) (by omega) (by omega)]
    have := ih (j + 1) _ (o + 1) (by omega) h.begin
    rw [show 64 * (j + 1) = 64 * j + 64 by omega, show at_ + (j + 1) = at_ + j + 1 by omega] at this
    rw [show o + (m + 1) = o + 1 + m by omega]
    exact this
/-- A sector that is not one of those that were written is all 0. -/
theorem M.Holds.other {d : M.D} {n at_ : Nat} {s : ByteArray} {o : Nat} (h : M.Holds d (M.cut n at_ s) o) {k : Nat} (hk : k < 12) (hn : ¬ (at_ ≤ k ∧ k < at_ + n)) : M.seen d.S d.L k = M.zero := by
  unfold M.seen
  rw [h.L, M.seen_cut, if_neg hn, h.S, Option.getD_none, List.getD_eq_getElem?_getD, List.getElem?_replicate, if_pos hk]
  rfl

/-- What RegionOwn writes and reads. -/
theorem M.own_yes {fr mn a n : Nat} {s : ByteArray} (hfm : fr + mn ≤ 12) (han : a + n ≤ mn) (hs : s.size = 64 * n) :
    (M.gwrite (M.new 12) fr mn (a : Nat) s).1 = 0 ∧ M.Holds (M.gwrite (M.new 12) fr mn (a : Nat) s).2 (M.cut n (fr + a) s) n := by
  have hw : M.within (a : Int) ((n : Nat) : Int) (mn : Nat) = true := by unfold M.within; simp; omega
  have hg : M.gsplit fr mn (a : Nat) s = (M.cut n (fr + a) s, 0) := by
    unfold M.gsplit
    rw [if_pos (by omega), show s.size / 64 = n by omega, if_pos hw, Int.toNat_natCast]
  unfold M.gwrite
  rw [hg, if_pos rfl]
  have := M.wr_holds (M.cut n (fr + a) s) [] (M.new 12) 0 M.holds_new (fun p hp => by
    obtain ⟨j, hj, rfl⟩ := M.cut_mem hp
    exact ⟨by show fr + a + j < 12; omega, M.piece_size s n j hs hj⟩)
  rw [List.nil_append, M.cut_len, Nat.zero_add] at this
  exact this
theorem M.own_no {fr mn n : Nat} {i : Int} {s : ByteArray} (hs : s.size = 64 * n) (hw : M.within i ((n : Nat) : Int) (mn : Nat) = false) : M.gwrite (M.new 12) fr mn i s = (3, M.new 12) := by
  have hg : M.gsplit fr mn i s = ([], 3) := by
    unfold M.gsplit
    rw [if_pos (by omega), show s.size / 64 = n by omega, if_neg (by rw [hw]; simp)]
  unfold M.gwrite
  rw [hg, if_neg (by simp)]
theorem M.own_read {fr mn a n : Nat} {s : ByteArray} {d : M.D} {o : Nat} (hfm : fr + mn ≤ 12) (han : a + n ≤ mn) (hs : s.size = 64 * n) (h : M.Holds d (M.cut n (fr + a) s) o) :
    (M.gread d fr mn (a : Nat) (n : Nat)).1 = s ∧ (M.gread d fr mn (a : Nat) (n : Nat)).2.1 = 0 ∧ M.Holds (M.gread d fr mn (a : Nat) (n : Nat)).2.2 (M.cut n (fr + a) s) (o + n) := by
  have hw : M.within (a : Int) ((n : Nat) : Int) (mn : Nat) = true := by unfold M.within; simp; omega
  unfold M.gread
  rw [if_pos hw, Int.toNat_natCast, Int.toNat_natCast]
  have := M.rd_holds s n (fr + a) (by omega) n 0 d o (by omega) h
  rw [show 64 * 0 = 0 from rfl, show s.extract 0 0 = (⟨#[]⟩ : ByteArray) by apply M.ba_ext; rw [M.ex_list]; rfl, Nat.add_zero, M.ex_all s (64 * n) hs] at this
  exact this
end Go.Proofs.YtmgchfjfkdkaoaaGreatDoor
