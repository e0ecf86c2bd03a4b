/-
  The program's log and the document's beside each other; one theorem a call.
-/
import Derived.Test.YtncbbejmibddcaaGreatDoorNS
import Derived.Test.YtncbbejmibddcaaGreatDoorMS
import Derived.Test.YtncbbejmibddcaaGreatDoorMT
namespace Go.Proofs.YtncbbejmibddcaaGreatDoor
open Go.RowKit Go.Maps

/-- Both in memory; F stands apart. -/
def Two14 (F : Nat → Prop) (y : World) (wb rb : Nat) (s : M.Wl) (r : M.W) : Prop :=
  ∃ P Q, Wal y wb P 10 24 s ∧ Wr y rb Q r ∧ (∀ j, P j → ¬ Q j) ∧ (∀ j, P j → ¬ F j ∧ j < y.heap.size) ∧ (∀ j, Q j → ¬ F j ∧ j < y.heap.size) ∧ ∀ j, F j → j < y.heap.size
section
variable {F : Nat → Prop} {y z : World} {wb rb n : Nat} {s s' : M.Wl} {r r' : M.W}
theorem Two14.beside (h : Two14 F y wb rb s r) (hb : Below y.heap.size y z) : Two14 (fun j => F j ∨ (y.heap.size ≤ j ∧ j < z.heap.size)) z wb rb s r := by
  obtain ⟨P, Q, h1, h2, h3, h4, h5, h6⟩ := h
  have hk := Kept.of_below hb (fun _ => False)
  exact ⟨P, Q, h1.kept hk (fun _ _ => id), h2.kept hk (fun _ _ => id), h3, fun j e => ⟨fun e' => e'.elim (h4 j e).1 (fun e' => by have := (h4 j e).2; omega), Nat.lt_of_lt_of_le (h4 j e).2 hb.size⟩,
    fun j e => ⟨fun e' => e'.elim (h5 j e).1 (fun e' => by have := (h5 j e).2; omega), Nat.lt_of_lt_of_le (h5 j e).2 hb.size⟩, fun j e => e.elim (fun e => Nat.lt_of_lt_of_le (h6 j e) hb.size) (fun e => e.2)⟩
theorem Two14.less {F' : Nat → Prop} (h : Two14 F y wb rb s r) (hf : ∀ j, F' j → F j) : Two14 F' y wb rb s r := by
  obtain ⟨P, Q, h1, h2, h3, h4, h5, h6⟩ := h
  exact ⟨P, Q, h1, h2, h3, fun j e => ⟨fun e' => (h4 j e).1 (hf j e'), (h4 j e).2⟩, fun j e => ⟨fun e' => (h5 j e).1 (hf j e'), (h5 j e).2⟩, fun j e => h6 j (hf j e)⟩
theorem Two14.drewN (h : Two14 F y wb rb s r) (k : Nat) : Two14 F (y.drewN k) wb rb s r := by
  have := h.beside (z := y.drewN k) (below_drewN (Below.refl _ _) k)
  exact this.less (fun j e => Or.inl e)
theorem Two14.walS (h : Two14 F y wb rb s r) : ∃ P, Wal y wb P 10 24 s ∧ (∀ j, P j → ¬ F j ∧ j < y.heap.size) ∧ ∀ z s', Wal z wb (fun j => P j ∨ y.heap.size ≤ j) 10 24 s' → Kept P y z → Two14 F z wb rb s' r ∧ Kept (fun j => ¬ F j) y z := by
  obtain ⟨P, Q, h1, h2, h3, h4, h5, h6⟩ := h
  refine ⟨P, h1, h4, fun z s' hz hk => ⟨⟨fun j => (P j ∨ y.heap.size ≤ j) ∧ j < z.heap.size, Q, hz.mono (fun j hj e => ⟨e, hj⟩), h2.kept hk (fun j e e' => h3 j e' e), fun j e e' => e.1.elim (fun e => h3 j e e') (fun e => by have := (h5 j e').2; omega),
    fun j e => ⟨fun e' => e.1.elim (fun e => (h4 j e).1 e') (fun e => by have := h6 j e'; omega), e.2⟩, fun j e => ⟨(h5 j e).1, Nat.lt_of_lt_of_le (h5 j e).2 hk.size⟩, fun j e => Nat.lt_of_lt_of_le (h6 j e) hk.size⟩, hk.mono (fun j _ e => (h4 j e).1)⟩⟩
theorem Two14.refS (h : Two14 F y wb rb s r) : ∃ Q, Wr y rb Q r ∧ (∀ j, Q j → ¬ F j ∧ j < y.heap.size) ∧ ∀ z r', Wr z rb (M.plus14 Q y.heap.size) r' → Kept Q y z → Two14 F z wb rb s r' ∧ Kept (fun j => ¬ F j) y z := by
  obtain ⟨P, Q, h1, h2, h3, h4, h5, h6⟩ := h
  refine ⟨Q, h2, h5, fun z r' hz hk => ⟨⟨P, fun j => (Q j ∨ y.heap.size ≤ j) ∧ j < z.heap.size, h1.kept hk (fun j e e' => h3 j e e'), hz.mono (fun j hj e => ⟨e, hj⟩), fun j e e' => e'.1.elim (h3 j e) (fun e' => by have := (h4 j e).2; omega),
    fun j e => ⟨(h4 j e).1, Nat.lt_of_lt_of_le (h4 j e).2 hk.size⟩, fun j e => ⟨fun e' => e.1.elim (fun e => (h5 j e).1 e') (fun e => by have := h6 j e'; omega), e.2⟩, fun j e => Nat.lt_of_lt_of_le (h6 j e) hk.size⟩, hk.mono (fun j _ e => (h5 j e).1)⟩⟩
theorem Wal.rising {P : Nat → Prop} {fr mn : Nat} (h : Wal y wb P fr mn s) : M.Rising s.l ∧ M.Rising s.k := by
  obtain ⟨a, ra, rr, sb, PD, PS, h, -, -, -, -, -⟩ := h
  obtain ⟨lo, so, h, -, -, -⟩ := h.sh
  exact ⟨h.loose.up, h.stays.up⟩

theorem two_begin (h : Two14 F y wb rb s r) : Calls Tryz.prog 26 #[.pointer (some ⟨wb, 0, none⟩)] y fun e z => e = .returned (.int .i64 (if s.act = true then 10 else 0)) ∧ Two14 F z wb rb { s with act := true } r ∧ Kept (fun j => ¬ F j) y z := by
  obtain ⟨P, h1, h2, h3⟩ := h.walS
  exact (begin14_any h1).mono fun e z ⟨e1, e2, e3⟩ => ⟨e1, h3 z _ (e2.mono (fun _ _ e => Or.inl e)) e3⟩
theorem two_abort (h : Two14 F y wb rb s r) : Calls Tryz.prog 24 #[.pointer (some ⟨wb, 0, none⟩)] y fun e z => e = .returned (.tuple #[]) ∧ Two14 F z wb rb { s with act := false, l := [] } r ∧ Kept (fun j => ¬ F j) y z := by
  obtain ⟨P, h1, h2, h3⟩ := h.walS
  exact (abort14_any h1).mono fun e z ⟨e1, e2, e3⟩ => ⟨e1, h3 z _ e2 e3⟩
theorem two_flush (h : Two14 F y wb rb s r) (ok : M.WOk s r n) (hn : n ≤ 190) : Calls Tryz.prog 32 #[.pointer (some ⟨wb, 0, none⟩)] y fun e z => e = .returned (.int .i64 0) ∧ Two14 F z wb rb { s with d := M.flushD s.d, uns := if M.beginE s.d = 0 then false else s.uns } r ∧ Kept (fun j => ¬ F j) y z := by
  obtain ⟨P, h1, h2, h3⟩ := h.walS
  have he : M.beginE s.d = 0 := (M.flush_still ok.still).1
  exact (flush15_any h1 (by have := ok.ops; omega)).mono fun e z ⟨e1, e2, e3⟩ => ⟨by rw [e1, he], h3 z _ e2 e3⟩
theorem two_stage (h : Two14 F y wb rb s r) (ok : M.WOk s r n) (i : Int) (t : ByteArray) (hw : (Lit.int .i64 i).wf = true) : Calls Tryz.prog 27 #[.pointer (some ⟨wb, 0, none⟩), .int .i64 i, .string t] y fun e z => e = .returned (.int .i64 (M.wlStageE 10 24 s i t)) ∧ Two14 F z wb rb (M.wlStage 10 24 s i t) r ∧ Kept (fun j => ¬ F j) y z ∧ M.WOk (M.wlStage 10 24 s i t) r n := by
  obtain ⟨P, h1, h2, h3⟩ := h.walS
  have hr := h1.rising
  exact (stage14_any h1 i t hw (by omega) (by omega) (by have := ok.ll; omega)).mono fun e z ⟨e1, e2, e3⟩ => ⟨e1, (h3 z _ e2 e3).1, (h3 z _ e2 e3).2, ok.stage hr.1 i t⟩
theorem two_commit (h : Two14 F y wb rb s r) (ok : M.WOk s r n) (hn : n ≤ 190) : Calls Tryz.prog 29 #[.pointer (some ⟨wb, 0, none⟩)] y fun e z => ∃ lp, s.l = M.vs14 lp ∧ e = .returned (.int .i64 (M.wlCommitE 24 s lp)) ∧ Two14 F z wb rb (M.wlCommit 10 24 s lp) r ∧ Kept (fun j => ¬ F j) y z ∧ M.WOk (M.wlCommit 10 24 s lp) r (n + 1) := by
  obtain ⟨P, h1, h2, h3⟩ := h.walS
  obtain ⟨lp, e1, e2, e3⟩ := ok.loose.list
  have hr := h1.rising.1
  rw [e1] at hr
  have hll := ok.ll
  have hrE : lp.length ≠ 0 → M.rE (M.aF lp) (M.tF lp) (s.seq : Nat) lp.length = 0 := fun h0 => M.rE14 (by omega) (by omega) (by have := ok.seq; omega) hr e3
  refine (commit14_ok h1 lp e1 (fun p hp => by have := (e3 p hp).1; omega) hrE ok.still12 (by omega) (by omega) ok.pl ok.used (by have := ok.ops; omega) (by have := ok.kl; omega) (by omega)).mono ?_
  rintro e z ⟨f1, f2, f3⟩
  exact ⟨lp, e1, f1, (h3 z _ f2 f3).1, (h3 z _ f2 f3).2, ok.commit hrE⟩
theorem two_check (h : Two14 F y wb rb s r) (ok : M.WOk s r n) (hn : n ≤ 190) : Calls Tryz.prog 25 #[.pointer (some ⟨wb, 0, none⟩)] y fun e z => e = .returned (.int .i64 0) ∧ ∃ d', Two14 F z wb rb ⟨s.gen + 1, s.seq, s.pl, 0, s.act, false, d', s.l, []⟩ r ∧ Kept (fun j => ¬ F j) y z ∧ M.WOk ⟨s.gen + 1, s.seq, s.pl, 0, s.act, false, d', s.l, []⟩ r (n + 1) := by
  obtain ⟨P, h1, h2, h3⟩ := h.walS
  obtain ⟨lk, e1, e2, e3⟩ := ok.kept.list
  have hkl := ok.kl
  refine (checkpoint14_ok h1 lk e1 (fun p hp => by have := (e3 p hp).1; omega) (by omega) ok.still (fun p hp => by rw [ok.len]; exact e3 p hp) (by omega) (by omega) (by omega) (by have := ok.gen; omega) (by have := ok.seq; omega) (by have := ok.pl; omega) (by have := ok.ops; omega)).mono ?_
  rintro e z ⟨d', f1, f2, f3, f4, f5, f6⟩
  exact ⟨f1, d', (h3 z _ f5 f6).1, (h3 z _ f5 f6).2, ok.check (by omega) f2 f3 (by rw [← e2]; exact f4)⟩
theorem two_room (h : Two14 F y wb rb s r) (ok : M.WOk s r n) : Calls Tryz.prog 18 #[.pointer (some ⟨wb, 0, none⟩)] y fun e z => e = .returned (.int .i64 (22 - (s.used : Nat))) ∧ ∃ k, z = y.drewN k := by
  obtain ⟨P, h1, h2, h3⟩ := h.walS
  exact room14_any h1 (by have := ok.used; omega) (by omega)
theorem two_rbegin (h : Two14 F y wb rb s r) (ok : M.WOk s r n) : Calls Tryz.prog 41 #[.pointer (some ⟨rb, 0, none⟩)] y fun e z => (∃ E : Int, e = .returned (.int .i64 E)) ∧ Two14 F z wb rb s (M.wbegin r) ∧ Kept (fun j => ¬ F j) y z ∧ M.WOk s (M.wbegin r) n := by
  obtain ⟨Q, h1, h2, h3⟩ := h.refS
  exact (rbegin14 y h1).mono fun e z ⟨e1, e2, e3⟩ => ⟨⟨_, e1⟩, (h3 z _ (e2.mono (fun _ _ e => Or.inl e)) e3).1, (h3 z _ (e2.mono (fun _ _ e => Or.inl e)) e3).2, ok.ref ok.fit.begin⟩
theorem two_rabort (h : Two14 F y wb rb s r) (ok : M.WOk s r n) : Calls Tryz.prog 12 #[.pointer (some ⟨rb, 0, none⟩)] y fun e z => e = .returned (.tuple #[]) ∧ Two14 F z wb rb s (M.wabort r) ∧ Kept (fun j => ¬ F j) y z ∧ M.WOk s (M.wabort r) n := by
  obtain ⟨Q, h1, h2, h3⟩ := h.refS
  exact (rabort14 y h1).mono fun e z ⟨e1, e2, e3⟩ => ⟨e1, (h3 z _ (e2.mono (fun _ _ e => Or.inl e)) e3).1, (h3 z _ (e2.mono (fun _ _ e => Or.inl e)) e3).2, ok.ref ok.fit.abort⟩
theorem two_rstage (h : Two14 F y wb rb s r) (ok : M.WOk s r n) (i : Int) (t : ByteArray) : Calls Tryz.prog 42 #[.pointer (some ⟨rb, 0, none⟩), .int .i64 i, .string t] y fun e z => (∃ E : Int, e = .returned (.int .i64 E)) ∧ Two14 F z wb rb s (M.wstage r i t) ∧ Kept (fun j => ¬ F j) y z ∧ M.WOk s (M.wstage r i t) n := by
  obtain ⟨Q, h1, h2, h3⟩ := h.refS
  exact (rstage14 y h1 i t).mono fun e z ⟨e1, e2, e3⟩ => ⟨⟨_, e1⟩, (h3 z _ e2 e3).1, (h3 z _ e2 e3).2, ok.ref (ok.fit.stage i t)⟩
theorem two_rcommit (h : Two14 F y wb rb s r) (ok : M.WOk s r n) : Calls Tryz.prog 43 #[.pointer (some ⟨rb, 0, none⟩)] y fun e z => (∃ E : Int, e = .returned (.int .i64 E)) ∧ Two14 F z wb rb s (M.wcommit r) ∧ Kept (fun j => ¬ F j) y z ∧ M.WOk s (M.wcommit r) n := by
  obtain ⟨Q, h1, h2, h3⟩ := h.refS
  exact (rcommit14 y h1 (by have := ok.fit.room; omega)).mono fun e z ⟨e1, e2, e3⟩ => ⟨⟨_, e1⟩, (h3 z _ e2 e3).1, (h3 z _ e2 e3).2, ok.ref ok.fit.commit⟩
/-- The document's log is told that all is sure; and that it is empty. -/
theorem two_sure (h : Two14 F y wb rb s r) (ok : M.WOk s r n) : (∃ v : Bool, y.cell? ⟨rb, 6, none⟩ = some (.bool v)) ∧ y.frozen? ⟨rb, 6, none⟩ = false ∧ Hid (Two14 F (y.setCell ⟨rb, 6, none⟩ (.bool true)) wb rb s { r with sure := true } ∧ Kept (fun j => ¬ F j) y (y.setCell ⟨rb, 6, none⟩ (.bool true)) ∧ M.WOk s { r with sure := true } n) := by
  obtain ⟨Q, ⟨SV, GV, h1, h2, h4, h5⟩, h6, h3⟩ := h.refS
  have hk : Kept Q y (y.setCell ⟨rb, 6, none⟩ (.bool true)) := Kept.set14 h2 6 _
  obtain ⟨g1, g2⟩ := h3 _ _ ⟨SV, GV, h1.set6 true, Or.inl h2, fun k e => Or.inl (h4 k e), fun k e => Or.inl (h5 k e)⟩ hk
  exact ⟨⟨_, h1.c6⟩, h1.box.frozen 6, g1, g2, ok.ref (ok.fit.sure true)⟩
theorem two_used (h : Two14 F y wb rb s r) (ok : M.WOk s r n) : (∃ v : Nat, y.cell? ⟨rb, 5, none⟩ = some (.int .i64 v)) ∧ y.frozen? ⟨rb, 5, none⟩ = false ∧ Hid (Two14 F (y.setCell ⟨rb, 5, none⟩ (.int .i64 0)) wb rb s { r with used := 0 } ∧ Kept (fun j => ¬ F j) y (y.setCell ⟨rb, 5, none⟩ (.int .i64 0)) ∧ M.WOk s { r with used := 0 } n) := by
  obtain ⟨Q, ⟨SV, GV, h1, h2, h4, h5⟩, h6, h3⟩ := h.refS
  have hk : Kept Q y (y.setCell ⟨rb, 5, none⟩ (.int .i64 0)) := Kept.set14 h2 5 _
  obtain ⟨g1, g2⟩ := h3 _ _ ⟨SV, GV, h1.set5 0 (by omega), Or.inl h2, fun k e => Or.inl (h4 k e), fun k e => Or.inl (h5 k e)⟩ hk
  exact ⟨⟨_, h1.c5⟩, h1.box.frozen 5, g1, g2, ok.ref ⟨ok.fit.seen, ok.fit.fr, ok.fit.mn, by show 0 + 2 ≤ 24; omega⟩⟩
end
end Go.Proofs.YtncbbejmibddcaaGreatDoor
