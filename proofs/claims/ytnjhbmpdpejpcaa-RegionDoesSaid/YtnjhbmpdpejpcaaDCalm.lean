/-
  Disks of which no call fails: what the calls do, one contract a call.
-/
import Derived.Test.YtnjhbmpdpejpcaaDRead
namespace Go.Proofs.Ytnjhbmpdpejpcaa
open Go.RowKit Go.Maps

/-- Nothing fails, nothing goes down. -/
structure M.Calm (d : M.D) : Prop where
  dn : d.dn = false
  fails : d.fails = []
  da : d.da = 0
theorem M.Calm.E {d : M.D} (h : M.Calm d) : M.beginE d = 0 := by
  unfold M.beginE
  rw [h.dn, h.fails, h.da, if_neg (by simp), if_neg (by omega), if_neg (by simp)]
theorem M.Calm.D {d : M.D} (h : M.Calm d) : M.beginD d = { d with ops := d.ops + 1 } := by
  unfold M.beginD
  have e : decide (d.da = ((d.ops + 1 : Nat) : Int)) = false := by rw [h.da]; simp; omega
  rw [e, h.fails]
  simp [h.dn]
theorem M.Calm.writeE {d : M.D} (h : M.Calm d) (i : Int) (s : ByteArray) : M.writeE d i s = M.wrong d.S.length i s := by
  unfold M.writeE M.or2
  rw [h.E, if_pos rfl]
/-- The disk behind a write. -/
def M.writeC (d : M.D) (i : Int) (s : ByteArray) : M.D := if M.wrong d.S.length i s = 0 then ⟨d.S, d.L ++ [(i.toNat, s)], d.ops + 1, d.fails, d.da, d.dn⟩ else ⟨d.S, d.L, d.ops + 1, d.fails, d.da, d.dn⟩
theorem M.Calm.writeD {d : M.D} (h : M.Calm d) (i : Int) (s : ByteArray) : M.writeD d i s = M.writeC d i s := by
  unfold M.writeD M.writeC M.lays
  rw [h.E, h.D]
  by_cases e : M.wrong d.S.length i s = 0
  · rw [if_pos (by simp [e]), if_pos e]
  · rw [if_neg (by simp [e]), if_neg e]
theorem M.Calm.write {d : M.D} (h : M.Calm d) (i : Int) (s : ByteArray) : M.Calm (M.writeC d i s) := by
  unfold M.writeC
  split <;> exact ⟨h.dn, h.fails, h.da⟩
theorem M.writeC_ops (d : M.D) (i : Int) (s : ByteArray) : (M.writeC d i s).ops = d.ops + 1 := by unfold M.writeC; split <;> rfl
theorem M.writeC_S (d : M.D) (i : Int) (s : ByteArray) : (M.writeC d i s).S = d.S := by unfold M.writeC; split <;> rfl
def M.flushC (d : M.D) : M.D := ⟨M.rounds (fun _ => true) d.S d.L d.L.length, [], d.ops + 1, d.fails, d.da, d.dn⟩
theorem M.Calm.flushD {d : M.D} (h : M.Calm d) : M.flushD d = M.flushC d := by
  unfold M.flushD M.flushC
  rw [h.E, if_pos rfl, h.D]
theorem M.Calm.flush {d : M.D} (h : M.Calm d) : M.Calm (M.flushC d) := ⟨h.dn, h.fails, h.da⟩
theorem M.calm_restart (d : M.D) (f : Nat → Bool) : M.Calm (M.restartD d f) := ⟨rfl, rfl, rfl⟩
def M.readC (d : M.D) : M.D := ⟨d.S, d.L, d.ops + 1, d.fails, d.da, d.dn⟩
theorem M.Calm.readE {d : M.D} (h : M.Calm d) {k : Nat} (hk : k < d.S.length) : M.readE d k = 0 ∧ M.readS d k = M.seen d.S d.L k := by
  unfold M.readE M.readS M.hasB
  have e : (decide (0 ≤ (k : Int)) && decide ((k : Int) < (d.S.length : Int))) = true := by simp; omega
  rw [h.E, if_pos rfl, if_pos rfl, if_pos e, if_pos e]
  exact ⟨rfl, by simp⟩
theorem M.Calm.read {d : M.D} (h : M.Calm d) : M.Calm (M.readC d) := ⟨h.dn, h.fails, h.da⟩
theorem M.calm_new (c : Nat) : M.Calm (M.new c) := ⟨rfl, rfl, rfl⟩

/-- A disk that a call has made, in a world that came of w; all from block N on is new, and the disk's own but what P shuts out. -/
structure Dk (w y : World) (N b : Nat) (P : Nat → Prop) (d : M.D) : Prop where
  disk : Disk y b P d
  low : ∀ k, P k → N ≤ k
  up : ∀ k, y.heap.size ≤ k → P k
  below : Below N w y
  le : N ≤ y.heap.size
theorem Dk.step {w y y' : World} {N b : Nat} {P : Nat → Prop} {d d' : M.D} (h : Dk w y N b P d) (hd : Disk y' b (M.plus P y.heap.size) d') (hk : Kept P y y') : Dk w y' N b P d' :=
  ⟨hd.mono (fun k _ e => e.elim id (h.up k)), h.low, fun k hk' => h.up k (Nat.le_trans hk.size hk'), h.below.trans (hk.below h.le (fun k hk e => by have := h.low k e; omega)), Nat.le_trans h.le hk.size⟩
theorem Disk.plus {y : World} {b : Nat} {P : Nat → Prop} {d : M.D} (h : Disk y b P d) (n : Nat) : Disk y b (M.plus P n) d := h.mono (fun _ _ e => Or.inl e)
theorem Dk.alloc {w y : World} {N b : Nat} {P : Nat → Prop} {d : M.D} (h : Dk w y N b P d) (o : Obj) : Dk w (y.alloc o) N b P d :=
  ⟨h.disk.kept ((Kept.refl (fun _ => False) y).alloc o) (fun _ _ => id), h.low, fun k hk => h.up k (by rw [World.size_alloc] at hk; omega), h.below.alloc h.le o, by rw [World.size_alloc]; exact Nat.le_trans h.le (Nat.le_succ _)⟩
theorem Dk.drewN {w y : World} {N b : Nat} {P : Nat → Prop} {d : M.D} (h : Dk w y N b P d) (n : Nat) : Dk w (y.drewN n) N b P d := ⟨h.disk.drewN n, h.low, h.up, below_drewN h.below n, h.le⟩
theorem Dk.drew {w y : World} {N b : Nat} {P : Nat → Prop} {d : M.D} (h : Dk w y N b P d) : Dk w y.drew N b P d := h.drewN 1

section
variable {w y : World} {N b : Nat} {P : Nat → Prop} {d : M.D}
theorem kwrite (h : Dk w y N b P d) (hc : M.Calm d) (ho : d.ops ≤ 1000000) (i : Int) (s : ByteArray) :
    Calls Try.prog 39 #[.pointer (some ⟨b, 0, none⟩), .int .i64 i, .string s] y fun e y' => e = .returned (.int .i64 (M.wrong d.S.length i s)) ∧ Dk w y' N b P (M.writeC d i s) ∧ Kept P y y' := by
  have := write_any i s y h.disk (by omega)
  rw [hc.writeE, hc.writeD] at this
  exact this.mono fun e y' ⟨h1, h2, h3⟩ => ⟨h1, h.step h2 h3, h3⟩
theorem kflush (h : Dk w y N b P d) (hc : M.Calm d) (ho : d.ops ≤ 1000000) :
    Calls Try.prog 41 #[.pointer (some ⟨b, 0, none⟩)] y fun e y' => e = .returned (.int .i64 0) ∧ Dk w y' N b P (M.flushC d) ∧ Kept P y y' := by
  have := flush_any y h.disk (by omega)
  rw [hc.E, hc.flushD] at this
  exact this.mono fun e y' ⟨h1, h2, h3⟩ => ⟨h1, h.step (h2.plus _) h3, h3⟩
theorem krestart (h : Dk w y N b P d) (ho : d.ops ≤ 1000000) (A : Option Addr) (len cap : Nat) (z : Nat → Int) (hz : ChoAt y A len z) (hA : 0 < len → ∀ ad, A = some ad → ¬ P ad.block) :
    Calls Try.prog 24 #[.pointer (some ⟨b, 0, none⟩), .slice A len cap] y fun e y' => e = .returned (.tuple #[]) ∧ Dk w y' N b P (M.restartD d (M.odd len z)) ∧ Kept P y y' :=
  (restart_any A len cap z y h.disk (by omega) hz hA).mono fun e y' ⟨h1, h2, h3⟩ => ⟨h1, h.step (h2.plus _) h3, h3⟩
theorem kread (h : Dk w y N b P d) (hc : M.Calm d) (ho : d.ops ≤ 1000000) (k : Nat) (hk : k < d.S.length) :
    Calls Try.prog 31 #[.pointer (some ⟨b, 0, none⟩), .int .i64 (k : Nat)] y fun e y' => e = .returned (.tuple #[.string (M.seen d.S d.L k), .int .i64 0]) ∧ Dk w y' N b P (M.readC d) ∧ Kept P y y' := by
  have := read_any k y h.disk (by omega)
  rw [(hc.readE hk).1, (hc.readE hk).2, hc.D] at this
  exact this.mono fun e y' ⟨h1, h2, h3⟩ => ⟨h1, h.step (h2.plus _) h3, h3⟩
theorem kops (h : Dk w y N b P d) : Calls Try.prog 22 #[.pointer (some ⟨b, 0, none⟩)] y fun e y' => e = .returned (.int .i64 (d.ops : Nat)) ∧ y' = y := ops_any y h.disk
theorem ksectors (h : Dk w y N b P d) : Calls Try.prog 35 #[.pointer (some ⟨b, 0, none⟩)] y fun e y' => e = .returned (.int .i64 (d.S.length : Nat)) ∧ y' = y := sectors_any y h.disk
theorem kwaits (h : Dk w y N b P d) : Calls Try.prog 30 #[.pointer (some ⟨b, 0, none⟩)] y fun e y' => e = .returned (.int .i64 (d.L.length : Nat)) ∧ y' = y := waits_any y h.disk
end
theorem knew (n : Int) (w y : World) (hb : Below w.heap.size w y) : Calls Try.prog 8 #[.int .i64 n] y fun e y' => ∃ b, e = .returned (.pointer (some ⟨b, 0, none⟩)) ∧ Dk w y' w.heap.size b (fun k => w.heap.size ≤ k) (M.new (M.held n)) := by
  refine (new_any n y).mono ?_
  rintro e y' ⟨b, rfl, hd, hb2⟩
  have h2 := hb2.size
  have h1 := hb.size
  exact ⟨b, rfl, hd.mono (fun k _ e => Nat.le_trans h1 e), fun _ e => e, fun k e => (by show w.heap.size ≤ k; omega), hb.trans (hb2.mono h1), by omega⟩
end Go.Proofs.Ytnjhbmpdpejpcaa
