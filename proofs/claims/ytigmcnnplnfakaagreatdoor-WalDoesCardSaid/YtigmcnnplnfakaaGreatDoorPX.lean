/-
  The program's log and the document's beside each other, on any disk; one theorem a call.
-/
import Derived.Test.YtigmcnnplnfakaaGreatDoorPW
import Derived.Test.YtigmcnnplnfakaaGreatDoorMS
import Derived.Test.YtigmcnnplnfakaaGreatDoorMT
import Derived.Test.YtigmcnnplnfakaaGreatDoorPM
namespace Go.Proofs.YtigmcnnplnfakaaGreatDoor
open Go.RowKit Go.Maps

/-- Both in memory; F stands apart. -/
def Two14 (F : Nat → Prop) (y : World) (wb rb : Nat) (s : M.Wl) (r : M.W) : Prop :=
  ∃ P Q, Wal y wb P 10 24 s ∧ Wr y rb Q r ∧ (∀ j, P j → ¬ Q j) ∧ (∀ j, P j → ¬ F j ∧ j < y.heap.size) ∧ (∀ j, Q j → ¬ F j ∧ j < y.heap.size) ∧ ∀ j, F j → j < y.heap.size
section
variable {F : Nat → Prop} {y z : World} {wb rb n : Nat} {s s' : M.Wl} {r r' : M.W}
theorem Two14.beside (h : Two14 F y wb rb s r) (hb : Below y.heap.size y z) : Two14 (fun j => F j ∨ (y.heap.size ≤ j ∧ j < z.heap.size)) z wb rb s r := by
  obtain ⟨P, Q, h1, h2, h3, h4, h5, h6⟩ := h
  have hk := Kept.of_below hb (fun _ => False)
  exact ⟨P, Q, h1.kept hk (fun _ _ => id), h2.kept hk (fun _ _ => id), h3, fun j e => ⟨fun e' => e'.elim (h4 j e).1 (fun e' => by have := (h4 j e).2; omega), Nat.lt_of_lt_of_le (h4 j e).2 hb.size⟩,
    fun j e => ⟨fun e' => e'.elim (h5 j e).1 (fun e' => by have := (h5 j e).2; omega), Nat.lt_of_lt_of_le (h5 j e).2 hb.size⟩, fun j e => e.elim (fun e => Nat.lt_of_lt_of_le (h6 j e) hb.size) (fun e => e.2)⟩
theorem Two14.less {F' : Nat → Prop} (h : Two14 F y wb rb s r) (hf : ∀ j, F' j → F j) : Two14 F' y wb rb s r := by
  obtain ⟨P, Q, h1, h2, h3, h4, h5, h6⟩ := h
  exact ⟨P, Q, h1, h2, h3, fun j e => ⟨fun e' => (h4 j e).1 (hf j e'), (h4 j e).2⟩, fun j e => ⟨fun e' => (h5 j e).1 (hf j e'), (h5 j e).2⟩, fun j e => h6 j (hf j e)⟩
theorem Two14.drewN (h : Two14 F y wb rb s r) (k : Nat) : Two14 F (y.drewN k) wb rb s r := by
  have := h.beside (z := y.drewN k) (below_drewN (Below.refl _ _) k)
  exact this.less (fun j e => Or.inl e)
theorem Two14.walS (h : Two14 F y wb rb s r) : ∃ P, Wal y wb P 10 24 s ∧ (∀ j, P j → ¬ F j ∧ j < y.heap.size) ∧ ∀ z s', Wal z wb (fun j => P j ∨ y.heap.size ≤ j) 10 24 s' → Kept P y z → Two14 F z wb rb s' r ∧ Kept (fun j => ¬ F j) y z := by
  obtain ⟨P, Q, h1, h2, h3, h4, h5, h6⟩ := h
  refine ⟨P, h1, h4, fun z s' hz hk => ⟨⟨fun j => (P j ∨ y.heap.size ≤ j) ∧ j < z.heap.size, Q, hz.mono (fun j hj e => ⟨e, hj⟩), h2.kept hk (fun j e e' => h3 j e' e), fun j e e' => e.1.elim (fun e => h3 j e e') (fun e => by have := (h5 j e').2; omega),
    fun j e => ⟨fun e' => e.1.elim (fun e => (h4 j e).1 e') (fun e => by have := h6 j e'; omega), e.2⟩, fun j e => ⟨(h5 j e).1, Nat.lt_of_lt_of_le (h5 j e).2 hk.size⟩, fun j e => Nat.lt_of_lt_of_le (h6 j e) hk.size⟩, hk.mono (fun j _ e => (h4 j e).1)⟩⟩
theorem Two14.refS (h : Two14 F y wb rb s r) : ∃ Q, Wr y rb Q r ∧ (∀ j, Q j → ¬ F j ∧ j < y.heap.size) ∧ ∀ z r', Wr z rb (M.plus14 Q y.heap.size) r' → Kept Q y z → Two14 F z wb rb s r' ∧ Kept (fun j => ¬ F j) y z := by
  obtain ⟨P, Q, h1, h2, h3, h4, h5, h6⟩ := h
  refine ⟨Q, h2, h5, fun z r' hz hk => ⟨⟨P, fun j => (Q j ∨ y.heap.size ≤ j) ∧ j < z.heap.size, h1.kept hk (fun j e e' => h3 j e e'), hz.mono (fun j hj e => ⟨e, hj⟩), fun j e e' => e'.1.elim (h3 j e) (fun e' => by have := (h4 j e).2; omega),
    fun j e => ⟨(h4 j e).1, Nat.lt_of_lt_of_le (h4 j e).2 hk.size⟩, fun j e => ⟨fun e' => e.1.elim (fun e => (h5 j e).1 e') (fun e => by have := h6 j e'; omega), e.2⟩, fun j e => Nat.lt_of_lt_of_le (h6 j e) hk.size⟩, hk.mono (fun j _ e => (h5 j e).1)⟩⟩
theorem Wal.rising {P : Nat → Prop} {fr mn : Nat} (h : Wal y wb P fr mn s) : M.Rising s.l ∧ M.Rising s.k := by
  obtain ⟨a, ra, rr, sb, PD, PS, h, -, -, -, -, -⟩ := h
  obtain ⟨lo, so, h, -, -, -⟩ := h.sh
  exact ⟨h.loose.up, h.stays.up⟩

theorem two_begin (h : Two14 F y wb rb s r) : Calls Tryz.prog 26 #[.pointer (some ⟨wb, 0, none⟩)] y fun e z => e = .returned (.int .i64 (if s.act = true then 10 else 0)) ∧ Two14 F z wb rb { s with act := true } r ∧ Kept (fun j => ¬ F j) y z := by
  obtain ⟨P, h1, h2, h3⟩ := h.walS
  exact (begin14_any h1).mono fun e z ⟨e1, e2, e3⟩ => ⟨e1, h3 z _ (e2.mono (fun _ _ e => Or.inl e)) e3⟩
theorem two_abort (h : Two14 F y wb rb s r) : Calls Tryz.prog 24 #[.pointer (some ⟨wb, 0, none⟩)] y fun e z => e = .returned (.tuple #[]) ∧ Two14 F z wb rb { s with act := false, l := [] } r ∧ Kept (fun j => ¬ F j) y z := by
  obtain ⟨P, h1, h2, h3⟩ := h.walS
  exact (abort14_any h1).mono fun e z ⟨e1, e2, e3⟩ => ⟨e1, h3 z _ e2 e3⟩
theorem two_flush (h : Two14 F y wb rb s r) (ho : s.d.ops ≤ 1000000) : Calls Tryz.prog 32 #[.pointer (some ⟨wb, 0, none⟩)] y fun e z => e = .returned (.int .i64 (M.beginE s.d)) ∧ Two14 F z wb rb { s with d := M.flushD s.d, uns := if M.beginE s.d = 0 then false else s.uns } r ∧ Kept (fun j => ¬ F j) y z := by
  obtain ⟨P, h1, h2, h3⟩ := h.walS
  exact (flush15_any h1 (by omega)).mono fun e z ⟨e1, e2, e3⟩ => ⟨e1, h3 z _ e2 e3⟩
theorem two_stage (h : Two14 F y wb rb s r) (hl : s.l.length ≤ 16) (i : Int) (t : ByteArray) (hw : (Lit.int .i64 i).wf = true) : Calls Tryz.prog 27 #[.pointer (some ⟨wb, 0, none⟩), .int .i64 i, .string t] y fun e z => e = .returned (.int .i64 (M.wlStageE 10 24 s i t)) ∧ Two14 F z wb rb (M.wlStage 10 24 s i t) r ∧ Kept (fun j => ¬ F j) y z := by
  obtain ⟨P, h1, h2, h3⟩ := h.walS
  exact (stage14_any h1 i t hw (by omega) (by omega) (by omega)).mono fun e z ⟨e1, e2, e3⟩ => ⟨e1, h3 z _ e2 e3⟩
theorem Two14.rising (h : Two14 F y wb rb s r) : M.Rising s.l ∧ M.Rising s.k := by
  obtain ⟨P, h1, -, -⟩ := h.walS
  exact h1.rising
theorem Two14.lies (h : Two14 F y wb rb s r) : ∀ p ∈ r.staged, p.1 < r.seen.length := by
  obtain ⟨Q, ⟨SV, GV, h1, -, -, -⟩, -, -⟩ := h.refS
  exact h1.lies
theorem two_commit {T : Nat → ByteArray} (h : Two14 F y wb rb s r) (ok : M.WS s T n) (hn : n ≤ 500000) (hE : ErrT y) (hF : F 1) : Calls Tryz.prog 29 #[.pointer (some ⟨wb, 0, none⟩)] y fun e z => ∃ lp, s.l = M.vs14 lp ∧ (∀ p ∈ lp, M.gd p.1 ∧ p.2.size = 64) ∧ (lp.length ≠ 0 → M.rE (M.aF lp) (M.tF lp) ((s.seq : Nat) : Int) lp.length = 0) ∧ e = .returned (.int .i64 (M.wlCommitE 10 24 s lp)) ∧ Two14 F z wb rb (M.wlCommit 10 24 s lp) r ∧ Kept (fun j => ¬ F j) y z := by
  obtain ⟨P, h1, h2, h3⟩ := h.walS
  obtain ⟨lp, e1, e2, e3⟩ := ok.loose.list
  have hr := h1.rising
  have hkl := ok.kept.few hr.2
  have hr1 := hr.1
  rw [e1] at hr1
  have hll := ok.ll
  have hseq := ok.seq
  have hops := ok.ops
  have hrE : lp.length ≠ 0 → M.rE (M.aF lp) (M.tF lp) ((s.seq : Nat) : Int) lp.length = 0 := fun h0 => M.rE14 (by omega) (by omega) (by omega) hr1 e3
  refine (commit14_any h1 lp e1 (fun p hp => by have := M.gd44 (e3 p hp).1; omega) hrE (by omega) (by omega) (by omega) ok.pl ok.used (by omega) (by omega) (by omega) ⟨hE, fun e => (h2 _ e).1 hF⟩).mono ?_
  rintro e z ⟨f1, f2, f3⟩
  exact ⟨lp, e1, e3, hrE, f1, (h3 z _ f2 f3).1, (h3 z _ f2 f3).2⟩
theorem two_check {T : Nat → ByteArray} (h : Two14 F y wb rb s r) (ok : M.WS s T n) (hn : n ≤ 500000) (hE : ErrT y) (hF : F 1) : ∃ lk R, s.k = M.vs14 lk ∧ (∀ x ∈ lk, M.gd x.1 ∧ x.2.size = 64) ∧ M.steps14 (M.mvF lk 10 24 (s.gen + 1) s.seq s.pl) s.d = R ∧
    Calls Tryz.prog 25 #[.pointer (some ⟨wb, 0, none⟩)] y fun e z => e = .returned (.int .i64 R.1) ∧ Two14 F z wb rb (if R.1 = 0 then ⟨s.gen + 1, s.seq, s.pl, 0, s.act, false, R.2, s.l, [], s.dk⟩ else { s with d := R.2 }) r ∧ Kept (fun j => ¬ F j) y z := by
  obtain ⟨P, h1, h2, h3⟩ := h.walS
  obtain ⟨lk, e1, e2, e3⟩ := ok.kept.list
  have hr := h1.rising
  have hkl := ok.kept.few hr.2
  have hseq := ok.seq
  have hops := ok.ops
  have hgen := ok.gen
  have hpl := ok.pl
  have hP : ¬ P 1 := fun e => (h2 _ e).1 hF
  refine ⟨lk, _, e1, e3, rfl, ?_⟩
  by_cases hR0 : (M.steps14 (M.mvF lk 10 24 (s.gen + 1) s.seq s.pl) s.d).1 = 0
  · rw [if_pos hR0]
    refine (checkpoint14_good h1 lk e1 (fun p hp => by have := M.gd44 (e3 p hp).1; omega) (by omega) hE hP rfl hR0 (by omega) (by omega) (by omega) (by omega) (by omega) (by omega) (by omega)).mono ?_
    rintro e z ⟨f1, f2, f3⟩
    exact ⟨by rw [f1, hR0], (h3 z _ f2 f3).1, (h3 z _ f2 f3).2⟩
  · rw [if_neg hR0]
    refine (checkpoint14_bad h1 lk e1 (fun p hp => by have := M.gd44 (e3 p hp).1; omega) (by omega) hE hP rfl hR0 (by omega) (by omega) (by omega) (by omega) (by omega) (by omega) (by omega)).mono ?_
    rintro e z ⟨f1, f2, f3⟩
    exact ⟨f1, (h3 z _ f2 f3).1, (h3 z _ f2 f3).2⟩
theorem two_room (h : Two14 F y wb rb s r) (hu : s.used ≤ 22) : Calls Tryz.prog 18 #[.pointer (some ⟨wb, 0, none⟩)] y fun e z => e = .returned (.int .i64 (22 - (s.used : Nat))) ∧ ∃ k, z = y.drewN k := by
  obtain ⟨P, h1, h2, h3⟩ := h.walS
  exact room14_any h1 (by omega) (by omega)
theorem two_rroom (h : Two14 F y wb rb s r) : Calls Tryz.prog 19 #[.pointer (some ⟨rb, 0, none⟩)] y fun e z => e = .returned (.int .i64 ((r.mn : Int) - 2 - (r.used : Int))) ∧ ∃ k, z = y.drewN k := by
  obtain ⟨Q, h1, h2, h3⟩ := h.refS
  exact rroom14 y h1
theorem two_rbegin (h : Two14 F y wb rb s r) : Calls Tryz.prog 43 #[.pointer (some ⟨rb, 0, none⟩)] y fun e z => e = .returned (.int .i64 (M.wbeginE r)) ∧ Two14 F z wb rb s (M.wbegin r) ∧ Kept (fun j => ¬ F j) y z := by
  obtain ⟨Q, h1, h2, h3⟩ := h.refS
  exact (rbegin14 y h1).mono fun e z ⟨e1, e2, e3⟩ => ⟨e1, h3 z _ (e2.mono (fun _ _ e => Or.inl e)) e3⟩
theorem two_rabort (h : Two14 F y wb rb s r) : Calls Tryz.prog 12 #[.pointer (some ⟨rb, 0, none⟩)] y fun e z => e = .returned (.tuple #[]) ∧ Two14 F z wb rb s (M.wabort r) ∧ Kept (fun j => ¬ F j) y z := by
  obtain ⟨Q, h1, h2, h3⟩ := h.refS
  exact (rabort14 y h1).mono fun e z ⟨e1, e2, e3⟩ => ⟨e1, h3 z _ (e2.mono (fun _ _ e => Or.inl e)) e3⟩
theorem two_rstage (h : Two14 F y wb rb s r) (i : Int) (t : ByteArray) : Calls Tryz.prog 44 #[.pointer (some ⟨rb, 0, none⟩), .int .i64 i, .string t] y fun e z => e = .returned (.int .i64 (M.wstageE r i t)) ∧ Two14 F z wb rb s (M.wstage r i t) ∧ Kept (fun j => ¬ F j) y z := by
  obtain ⟨Q, h1, h2, h3⟩ := h.refS
  exact (rstage14 y h1 i t).mono fun e z ⟨e1, e2, e3⟩ => ⟨e1, h3 z _ e2 e3⟩
theorem two_rcommit (h : Two14 F y wb rb s r) (hu : r.used ≤ 22) : Calls Tryz.prog 45 #[.pointer (some ⟨rb, 0, none⟩)] y fun e z => e = .returned (.int .i64 (M.wcommitE r)) ∧ Two14 F z wb rb s (M.wcommit r) ∧ Kept (fun j => ¬ F j) y z := by
  obtain ⟨Q, h1, h2, h3⟩ := h.refS
  exact (rcommit14 y h1 (by omega)).mono fun e z ⟨e1, e2, e3⟩ => ⟨e1, h3 z _ e2 e3⟩
/-- The document's log is told that all is sure; and that it is empty. -/
theorem two_sure (h : Two14 F y wb rb s r) : (∃ v : Bool, y.cell? ⟨rb, 6, none⟩ = some (.bool v)) ∧ y.frozen? ⟨rb, 6, none⟩ = false ∧ Hid (Two14 F (y.setCell ⟨rb, 6, none⟩ (.bool true)) wb rb s { r with sure := true } ∧ Kept (fun j => ¬ F j) y (y.setCell ⟨rb, 6, none⟩ (.bool true))) := by
  obtain ⟨Q, ⟨SV, GV, h1, h2, h4, h5⟩, h6, h3⟩ := h.refS
  have hk : Kept Q y (y.setCell ⟨rb, 6, none⟩ (.bool true)) := Kept.set14 h2 6 _
  obtain ⟨g1, g2⟩ := h3 _ _ ⟨SV, GV, h1.set6 true, Or.inl h2, fun k e => Or.inl (h4 k e), fun k e => Or.inl (h5 k e)⟩ hk
  exact ⟨⟨_, h1.c6⟩, h1.box.frozen 6, g1, g2⟩
theorem two_used (h : Two14 F y wb rb s r) : (∃ v : Nat, y.cell? ⟨rb, 5, none⟩ = some (.int .i64 v)) ∧ y.frozen? ⟨rb, 5, none⟩ = false ∧ Hid (Two14 F (y.setCell ⟨rb, 5, none⟩ (.int .i64 0)) wb rb s { r with used := 0 } ∧ Kept (fun j => ¬ F j) y (y.setCell ⟨rb, 5, none⟩ (.int .i64 0))) := by
  obtain ⟨Q, ⟨SV, GV, h1, h2, h4, h5⟩, h6, h3⟩ := h.refS
  have hk : Kept Q y (y.setCell ⟨rb, 5, none⟩ (.int .i64 0)) := Kept.set14 h2 5 _
  obtain ⟨g1, g2⟩ := h3 _ _ ⟨SV, GV, h1.set5 0 (by omega), Or.inl h2, fun k e => Or.inl (h4 k e), fun k e => Or.inl (h5 k e)⟩ hk
  exact ⟨⟨_, h1.c5⟩, h1.box.frozen 5, g1, g2⟩
end

/-- What the variables hold, and that nobody writes them. -/
structure Env15 (F : Nat → Prop) (y : World) : Prop where
  none : Env10 y
  err : ErrT y
  fn : F 0
  fe : F 1
theorem Env15.kept {F : Nat → Prop} {y z : World} (h : Env15 F y) (hk : Kept (fun j => ¬ F j) y z) : Env15 F z := ⟨h.none.kept hk (fun e => e h.fn), hk.cell h.err (fun e => e h.fe), h.fn, h.fe⟩
/-- Both logs in step, on the disk a; F stands apart. -/
def Bo14 (F : Nat → Prop) (a : Nat × Nat) (y : World) (wb rb b : Nat) : Prop := Env15 F y ∧ ∃ s r, Two14 F y wb rb s r ∧ M.WOk s r b ∧ s.on a
theorem Bo14.beside {F : Nat → Prop} {a : Nat × Nat} {y z : World} {wb rb b : Nat} (h : Bo14 F a y wb rb b) (hb : Below y.heap.size y z) : Bo14 (fun j => F j ∨ (y.heap.size ≤ j ∧ j < z.heap.size)) a z wb rb b := by
  obtain ⟨h0, s, r, h1, h2, h3⟩ := h
  exact ⟨⟨h0.none.below hb, (Kept.of_below hb (fun _ => False)).cell h0.err id, Or.inl h0.fn, Or.inl h0.fe⟩, s, r, h1.beside hb, h2, h3⟩
theorem Bo14.less {F F' : Nat → Prop} {a : Nat × Nat} {y : World} {wb rb b : Nat} (h : Bo14 F' a y wb rb b) (h0 : Env15 F y) (hf : ∀ j, F j → F' j) : Bo14 F a y wb rb b := by
  obtain ⟨_, s, r, h1, h2, h3⟩ := h
  exact ⟨h0, s, r, h1.less hf, h2, h3⟩
end Go.Proofs.YtigmcnnplnfakaaGreatDoor
