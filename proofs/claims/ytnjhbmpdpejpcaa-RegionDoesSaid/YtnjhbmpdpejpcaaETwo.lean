/-
  The disk and the document's disk side by side in memory: one contract a call over both, what stands beside them (F) kept.
-/
import Derived.Test.YtnjhbmpdpejpcaaEMath
import Derived.Test.YtnjhbmpdpejpcaaDCalm
namespace Go.Proofs.Ytnjhbmpdpejpcaa
open Go.RowKit

/-- In y, which came of w: the disk d in block a, the document's disk r in block b; all of both is from block N on; F lies apart. -/
def Two (w y : World) (N a b : Nat) (F : Nat → Prop) (d : M.D) (r : M.R) : Prop :=
  ∃ P Q : Nat → Prop, Disk y a P d ∧ Ref y b Q r ∧ (∀ k, P k → ¬ Q k ∧ ¬ F k ∧ N ≤ k ∧ k < y.heap.size) ∧ (∀ k, Q k → ¬ F k ∧ N ≤ k ∧ k < y.heap.size) ∧ (∀ k, F k → k < y.heap.size) ∧ Below N w y ∧ N ≤ y.heap.size
section
variable {w y y' : World} {N a b : Nat} {F : Nat → Prop} {d d' : M.D} {r r' : M.R}
theorem Two.below (h : Two w y N a b F d r) : Below N w y := let ⟨_, _, _, _, _, _, _, h, _⟩ := h; h
theorem Two.le (h : Two w y N a b F d r) : N ≤ y.heap.size := let ⟨_, _, _, _, _, _, _, _, h⟩ := h; h
theorem Two.inv (h : Two w y N a b F d r) : M.Inv d := let ⟨_, _, h, _⟩ := h; h.inv
/-- A step of the one. -/
theorem Two.stepA {P : Nat → Prop} {Q : Nat → Prop} (hr : Ref y b Q r) (hP : ∀ k, P k → ¬ Q k ∧ ¬ F k ∧ N ≤ k ∧ k < y.heap.size) (hQ : ∀ k, Q k → ¬ F k ∧ N ≤ k ∧ k < y.heap.size) (hF : ∀ k, F k → k < y.heap.size) (hb : Below N w y) (hN : N ≤ y.heap.size)
    (hd : Disk y' a (M.plus P y.heap.size) d') (hk : Kept P y y') : Two w y' N a b F d' r ∧ Kept (fun k => ¬ F k) y y' := by
  have hz := hk.size
  refine ⟨⟨fun k => (P k ∨ y.heap.size ≤ k) ∧ k < y'.heap.size, Q, hd.mono (fun k hk e => ⟨e, hk⟩), hr.kept hk (fun k e e' => (hP k e').1 e), fun k e => ?_, fun k e => ⟨(hQ k e).1, (hQ k e).2.1, by have := (hQ k e).2.2; omega⟩, fun k e => by have := hF k e; omega, hb.trans (hk.below hN (fun k hk e => by have := (hP k e).2.2.1; omega)), by omega⟩, hk.mono (fun k _ e => (hP k e).2.1)⟩
  rcases e.1 with e1 | e1
  · exact ⟨(hP k e1).1, (hP k e1).2.1, (hP k e1).2.2.1, e.2⟩
  · exact ⟨fun e' => by have := (hQ k e').2.2; omega, fun e' => by have := hF k e'; omega, by omega, e.2⟩
theorem Two.stepB {P : Nat → Prop} {Q : Nat → Prop} (hd : Disk y a P d) (hP : ∀ k, P k → ¬ Q k ∧ ¬ F k ∧ N ≤ k ∧ k < y.heap.size) (hQ : ∀ k, Q k → ¬ F k ∧ N ≤ k ∧ k < y.heap.size) (hF : ∀ k, F k → k < y.heap.size) (hb : Below N w y) (hN : N ≤ y.heap.size)
    (hr : Ref y' b (M.plus Q y.heap.size) r') (hk : Kept Q y y') : Two w y' N a b F d r' ∧ Kept (fun k => ¬ F k) y y' := by
  have hz := hk.size
  refine ⟨⟨P, fun k => (Q k ∨ y.heap.size ≤ k) ∧ k < y'.heap.size, hd.kept hk (fun k e e' => (hP k e).1 e'), hr.mono (fun k hk e => ⟨e, hk⟩), fun k e => ⟨?_, (hP k e).2.1, (hP k e).2.2.1, by have := (hP k e).2.2.2; omega⟩, fun k e => ?_, fun k e => by have := hF k e; omega, hb.trans (hk.below hN (fun k hk e => by have := (hQ k e).2.1; omega)), by omega⟩, hk.mono (fun k _ e => (hQ k e).1)⟩
  · rintro ⟨e1 | e1, _⟩
    · exact (hP k e).1 e1
    · have := (hP k e).2.2.2; omega
  · rcases e.1 with e1 | e1
    · exact ⟨(hQ k e1).1, (hQ k e1).2.1, e.2⟩
    · exact ⟨fun e' => by have := hF k e'; omega, by omega, e.2⟩
theorem Two.kept (h : Two w y N a b F d r) {G : Nat → Prop} (hk : Kept G y y') (hG : ∀ k, G k → F k) (hGN : ∀ k, G k → N ≤ k) : Two w y' N a b F d r := by
  obtain ⟨P, Q, hd, hr, hP, hQ, hF, hb, hN⟩ := h
  have hz := hk.size
  exact ⟨P, Q, hd.kept hk (fun k e e' => (hP k e).2.1 (hG k e')), hr.kept hk (fun k e e' => (hQ k e).1 (hG k e')), fun k e => ⟨(hP k e).1, (hP k e).2.1, (hP k e).2.2.1, by have := (hP k e).2.2.2; omega⟩, fun k e => ⟨(hQ k e).1, (hQ k e).2.1, by have := (hQ k e).2.2; omega⟩, fun k e => by have := hF k e; omega, hb.trans (hk.below hN (fun k hk e => by have := hGN k e; omega)), by omega⟩
theorem Two.alloc (h : Two w y N a b F d r) (o : Obj) : Two w (y.alloc o) N a b F d r := h.kept ((Kept.refl (fun _ => False) y).alloc o) (fun _ e => e.elim) (fun _ e => e.elim)
theorem Two.drewN (h : Two w y N a b F d r) (n : Nat) : Two w (y.drewN n) N a b F d r := h.kept ((Kept.refl (fun _ => False) y).drewN n) (fun _ e => e.elim) (fun _ e => e.elim)
theorem Two.drew (h : Two w y N a b F d r) : Two w y.drew N a b F d r := h.drewN 1
/-- A new block stands apart. -/
theorem Two.beside (h : Two w y N a b F d r) (o : Obj) : Two w (y.alloc o) N a b (fun k => F k ∨ k = y.heap.size) d r := by
  obtain ⟨P, Q, hd, hr, hP, hQ, hF, hb, hN⟩ := h
  have h0 := World.size_alloc y o
  refine ⟨P, Q, hd.kept ((Kept.refl (fun _ => False) y).alloc o) (fun _ _ => id), hr.kept ((Kept.refl (fun _ => False) y).alloc o) (fun _ _ => id), fun k e => ⟨(hP k e).1, fun e' => e'.elim (hP k e).2.1 (fun e' => by have := (hP k e).2.2.2; omega), (hP k e).2.2.1, by have := (hP k e).2.2.2; omega⟩, fun k e => ⟨fun e' => e'.elim (hQ k e).1 (fun e' => by have := (hQ k e).2.2; omega), (hQ k e).2.1, by have := (hQ k e).2.2; omega⟩, fun k e => e.elim (fun e => by have := hF k e; omega) (fun e => by omega), hb.alloc hN o, by omega⟩

theorem tread (h : Two w y N a b F d r) (ho : d.ops ≤ 1000000) (i : Int) : Calls Try.prog 31 #[.pointer (some ⟨a, 0, none⟩), .int .i64 i] y fun e y' => e = .returned (.tuple #[.string (M.readS d i), .int .i64 (M.readE d i)]) ∧ Two w y' N a b F (M.beginD d) r ∧ Kept (fun k => ¬ F k) y y' := by
  obtain ⟨P, Q, hd, hr, hP, hQ, hF, hb, hN⟩ := h
  exact (read_any i y hd (by omega)).mono fun _ _ ⟨h1, h2, h3⟩ => ⟨h1, Two.stepA hr hP hQ hF hb hN (h2.mono (fun _ _ e => Or.inl e)) h3⟩
theorem twrite (h : Two w y N a b F d r) (ho : d.ops ≤ 1000000) (i : Int) (s : ByteArray) : Calls Try.prog 39 #[.pointer (some ⟨a, 0, none⟩), .int .i64 i, .string s] y fun e y' => e = .returned (.int .i64 (M.writeE d i s)) ∧ Two w y' N a b F (M.writeD d i s) r ∧ Kept (fun k => ¬ F k) y y' := by
  obtain ⟨P, Q, hd, hr, hP, hQ, hF, hb, hN⟩ := h
  exact (write_any i s y hd (by omega)).mono fun _ _ ⟨h1, h2, h3⟩ => ⟨h1, Two.stepA hr hP hQ hF hb hN h2 h3⟩
theorem tflush (h : Two w y N a b F d r) (ho : d.ops ≤ 1000000) : Calls Try.prog 41 #[.pointer (some ⟨a, 0, none⟩)] y fun e y' => e = .returned (.int .i64 (M.beginE d)) ∧ Two w y' N a b F (M.flushD d) r ∧ Kept (fun k => ¬ F k) y y' := by
  obtain ⟨P, Q, hd, hr, hP, hQ, hF, hb, hN⟩ := h
  exact (flush_any y hd (by omega)).mono fun _ _ ⟨h1, h2, h3⟩ => ⟨h1, Two.stepA hr hP hQ hF hb hN (h2.mono (fun _ _ e => Or.inl e)) h3⟩
theorem tfail (h : Two w y N a b F d r) (x : Int) : Calls Try.prog 21 #[.pointer (some ⟨a, 0, none⟩), .int .i64 x] y fun e y' => e = .returned (.tuple #[]) ∧ Two w y' N a b F (M.failD d x) r ∧ Kept (fun k => ¬ F k) y y' := by
  obtain ⟨P, Q, hd, hr, hP, hQ, hF, hb, hN⟩ := h
  exact (fail_any x y hd).mono fun _ _ ⟨h1, h2, h3⟩ => ⟨h1, Two.stepA hr hP hQ hF hb hN h2 h3⟩
theorem trestart (h : Two w y N a b F d r) (ho : d.ops ≤ 1000000) (z : Nat → Int) : Calls Try.prog 24 #[.pointer (some ⟨a, 0, none⟩), .slice none 0 0] y fun e y' => e = .returned (.tuple #[]) ∧ Two w y' N a b F (M.restartD d (M.odd 0 z)) r ∧ Kept (fun k => ¬ F k) y y' := by
  obtain ⟨P, Q, hd, hr, hP, hQ, hF, hb, hN⟩ := h
  exact (restart_any none 0 0 z y hd (by omega) (fun i hi => absurd hi (by omega)) (fun hi => absurd hi (by omega))).mono fun _ _ ⟨h1, h2, h3⟩ => ⟨h1, Two.stepA hr hP hQ hF hb hN (h2.mono (fun _ _ e => Or.inl e)) h3⟩
theorem tops (h : Two w y N a b F d r) : Calls Try.prog 22 #[.pointer (some ⟨a, 0, none⟩)] y fun e y' => e = .returned (.int .i64 (d.ops : Nat)) ∧ y' = y := by
  obtain ⟨P, Q, hd, _⟩ := h
  exact ops_any y hd
theorem tsectors (h : Two w y N a b F d r) : Calls Try.prog 35 #[.pointer (some ⟨a, 0, none⟩)] y fun e y' => e = .returned (.int .i64 (d.S.length : Nat)) ∧ y' = y := by
  obtain ⟨P, Q, hd, _⟩ := h
  exact sectors_any y hd
theorem urread (h : Two w y N a b F d r) (ho : r.ops ≤ 1000000) (i : Int) : Calls Try.prog 38 #[.pointer (some ⟨b, 0, none⟩), .int .i64 i] y fun e y' => e = .returned (.tuple #[.string (M.rreadS r i), .int .i64 (M.rreadE r i)]) ∧ Two w y' N a b F d (M.callR r) ∧ Kept (fun k => ¬ F k) y y' := by
  obtain ⟨P, Q, hd, hr, hP, hQ, hF, hb, hN⟩ := h
  exact (rread_any i y hr (by omega)).mono fun _ _ ⟨h1, h2, h3⟩ => ⟨h1, Two.stepB hd hP hQ hF hb hN (h2.mono (fun _ _ e => Or.inl e)) h3⟩
theorem urwrite (h : Two w y N a b F d r) (ho : r.ops ≤ 1000000) (i : Int) (s : ByteArray) : Calls Try.prog 40 #[.pointer (some ⟨b, 0, none⟩), .int .i64 i, .string s] y fun e y' => e = .returned (.int .i64 (M.rwriteE r i s)) ∧ Two w y' N a b F d (M.rwriteR r i s) ∧ Kept (fun k => ¬ F k) y y' := by
  obtain ⟨P, Q, hd, hr, hP, hQ, hF, hb, hN⟩ := h
  exact (rwrite_any i s y hr (by omega)).mono fun _ _ ⟨h1, h2, h3⟩ => ⟨h1, Two.stepB hd hP hQ hF hb hN h2 h3⟩
theorem urflush (h : Two w y N a b F d r) (ho : r.ops ≤ 1000000) : Calls Try.prog 20 #[.pointer (some ⟨b, 0, none⟩)] y fun e y' => e = .returned (.int .i64 (M.callE r)) ∧ Two w y' N a b F d (M.rflushR r) ∧ Kept (fun k => ¬ F k) y y' := by
  obtain ⟨P, Q, hd, hr, hP, hQ, hF, hb, hN⟩ := h
  exact (rflush_any y hr (by omega)).mono fun _ _ ⟨h1, h2, h3⟩ => ⟨h1, Two.stepB hd hP hQ hF hb hN h2 h3⟩
theorem urfail (h : Two w y N a b F d r) (x : Int) : Calls Try.prog 23 #[.pointer (some ⟨b, 0, none⟩), .int .i64 x] y fun e y' => e = .returned (.tuple #[]) ∧ Two w y' N a b F d (M.rfailR r x) ∧ Kept (fun k => ¬ F k) y y' := by
  obtain ⟨P, Q, hd, hr, hP, hQ, hF, hb, hN⟩ := h
  exact (rfail_any x y hr).mono fun _ _ ⟨h1, h2, h3⟩ => ⟨h1, Two.stepB hd hP hQ hF hb hN h2 h3⟩
theorem urrestart (h : Two w y N a b F d r) (ho : r.ops ≤ 1000000) : Calls Try.prog 25 #[.pointer (some ⟨b, 0, none⟩), .slice none 0 0] y fun e y' => e = .returned (.tuple #[]) ∧ Two w y' N a b F d (M.restartR r) ∧ Kept (fun k => ¬ F k) y y' := by
  obtain ⟨P, Q, hd, hr, hP, hQ, hF, hb, hN⟩ := h
  exact (rrestart_any y hr (by omega)).mono fun _ _ ⟨h1, h2, h3⟩ => ⟨h1, Two.stepB hd hP hQ hF hb hN h2 h3⟩
/-- Its fields that are read from outside: how many sectors are seen, how many calls there were. -/
theorem Two.cells (h : Two w y N a b F d r) : ∃ EA ec, y.cell? ⟨b, 1, none⟩ = some (.slice EA r.seen.length ec) ∧ y.cell? ⟨b, 3, none⟩ = some (.int .i64 (r.ops : Nat)) ∧ b < y.heap.size := by
  obtain ⟨P, Q, hd, ⟨SV, EV, WV, FV, hr, _⟩, _⟩ := h
  obtain ⟨EA, ec, rfl, _⟩ := owns_shape hr.seen
  exact ⟨EA, ec, hr.c1, hr.c3, hr.box.lt⟩
end
/-- Both are made, one behind the other. -/
theorem tnew (n : Int) (w y : World) (hb : Below w.heap.size w y) : Calls Try.prog 8 #[.int .i64 n] y fun e y' => ∃ a, e = .returned (.pointer (some ⟨a, 0, none⟩)) ∧ Dk w y' w.heap.size a (fun k => w.heap.size ≤ k) (M.new (M.held n)) := knew n w y hb
theorem urnew (n : Int) {w y : World} {a : Nat} {d : M.D} (h : Dk w y w.heap.size a (fun k => w.heap.size ≤ k) d) : Calls Try.prog 9 #[.int .i64 n] y fun e y' => ∃ b, e = .returned (.pointer (some ⟨b, 0, none⟩)) ∧ Two w y' w.heap.size a b (fun _ => False) d (M.newR (M.held n)) := by
  refine (rnew_any n y).mono ?_
  rintro e y' ⟨b, rfl, hr, hb2⟩
  have hz := hb2.size
  have hle := h.le
  have hk : Kept (fun _ => False) y y' := Kept.of_below hb2 _
  refine ⟨b, rfl, fun k => w.heap.size ≤ k ∧ k < y.heap.size, fun k => y.heap.size ≤ k ∧ k < y'.heap.size, (h.disk.mono (fun k hk e => ⟨e, hk⟩)).kept hk (fun _ _ => id), hr.mono (fun k hk e => ⟨e, hk⟩), fun k e => ⟨fun e' => by omega, id, e.1, by omega⟩, fun k e => ⟨id, by omega, e.2⟩, fun k e => e.elim, h.below.trans (hb2.mono hle), by omega⟩
end Go.Proofs.Ytnjhbmpdpejpcaa
