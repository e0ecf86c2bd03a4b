/-
  Walks over solderlaw14.do, by both logs: whatever the step is. (Written by wip/gen_bdo.py.)
-/
import Derived.Test.YtncbbejmibddcaaGreatDoorNT
namespace Go.Proofs.YtncbbejmibddcaaGreatDoor
open Go.RowKit Go.Maps

section
variable {F : Nat → Prop} {y : World} {wb rb n : Nat} {s : M.Wl} {r : M.W}
/-- What a step leaves. -/
def Left14 (F : Nat → Prop) (y : World) (wb rb n : Nat) (z : World) : Prop := ∃ s r, Two14 F z wb rb s r ∧ M.WOk s r n ∧ Kept (fun j => ¬ F j) y z
theorem left14 {F F1 : Nat → Prop} {y W z : World} (hb : Below y.heap.size y W) (hf : ∀ j, F j → F1 j) (h : Two14 F1 z wb rb s r) (hk : Kept (fun j => ¬ F1 j) W z) (ok : M.WOk s r n) : Left14 F y wb rb n z :=
  ⟨s, r, h.less hf, ok, (Kept.of_below hb _).trans (hk.mono (fun j _ e e' => e (hf j e')))⟩

set_option maxHeartbeats 4000000 in
theorem do14_begin (h : Two14 F y wb rb s r) (ok : M.WOk s r n) (at_ : Int) (data : ByteArray) : Calls Tryz.prog 13 #[.pointer (some ⟨wb, 0, none⟩), .pointer (some ⟨rb, 0, none⟩), .agg #[.int .i64 0, .int .i64 at_, .string data]] y fun e z => (∃ v, e = .returned v) ∧ Left14 F y wb rb (n + 1) z := by
  have hb : Below y.heap.size y (y.alloc (.cells #[.int .i64 0, .int .i64 at_, .string data] 35)) := below1 _ _
  have h1 := h.beside hb
  have hB := Box.new y 35 #[.int .i64 0, .int .i64 at_, .string data]
  obtain ⟨W, hW⟩ : ∃ x, x = y.alloc (.cells #[.int .i64 0, .int .i64 at_, .string data] 35) := ⟨_, rfl⟩
  have b0 : (y.alloc (.cells #[.int .i64 0, .int .i64 at_, .string data] 35)).cell? ⟨y.heap.size, 0, none⟩ = some (.int .i64 0) := hB.cell 0
  have b1 : (y.alloc (.cells #[.int .i64 0, .int .i64 at_, .string data] 35)).cell? ⟨y.heap.size, 1, none⟩ = some (.int .i64 at_) := hB.cell 1
  have b2 : (y.alloc (.cells #[.int .i64 0, .int .i64 at_, .string data] 35)).cell? ⟨y.heap.size, 2, none⟩ = some (.string data) := hB.cell 2
  rw [← hW] at hb h1 hB
  obtain ⟨F1, hF1⟩ : ∃ F1 : Nat → Prop, F1 = fun j => F j ∨ (y.heap.size ≤ j ∧ j < W.heap.size) := ⟨_, rfl⟩
  have HF : Hid (∀ j, F j → F1 j) := fun j e => by rw [hF1]; exact Or.inl e
  have HOB : Hid (F1 y.heap.size) := by show F1 _; rw [hF1]; exact Or.inr ⟨Nat.le_refl _, hB.lt⟩
  rw [← hF1] at h1
  have HB := Lib.hid hb
  have HBX := Lib.hid hB
  have H1 := Lib.hid h1
  have OK := Lib.hid ok
  clear h hb h1 hB hF1 ok
  go_enter Tryz.func13, Tryz.ntmps13
  clear b1 b2 HOB HBX
  go_wp2_with fail
  rw [← hW]
  clear b0 hW
  refine (two_begin H1.out).mono ?_
  rintro e z1 ⟨rfl, h2, k2⟩
  obtain ⟨E0, hE0⟩ : ∃ E : Int, E = (if s.act = true then 10 else 0) := ⟨_, rfl⟩
  rw [← hE0]
  clear hE0
  have H2 := Lib.hid h2
  have K2 := Lib.hid k2
  have OK2 := Lib.hid (OK.out.act true)
  clear h2 k2 H1
  go_wp2_with fail
  refine (two_rbegin H2.out OK2.out).mono ?_
  rintro e z2 ⟨⟨E, rfl⟩, h3, k3, ok3⟩
  have HR := Lib.hid (left14 HB.out HF.out h3 (K2.out.trans k3) ok3.next)
  clear h3 k3 ok3 H2 K2 OK2 HB OK HF
  go_wp2_with fail
  go_ret2
  exact ⟨⟨_, rfl⟩, HR.out⟩

set_option maxHeartbeats 4000000 in
theorem do14_stage (h : Two14 F y wb rb s r) (ok : M.WOk s r n) (at_ : Int) (data : ByteArray) (hw : (Lit.int .i64 at_).wf = true) : Calls Tryz.prog 13 #[.pointer (some ⟨wb, 0, none⟩), .pointer (some ⟨rb, 0, none⟩), .agg #[.int .i64 1, .int .i64 at_, .string data]] y fun e z => (∃ v, e = .returned v) ∧ Left14 F y wb rb (n + 1) z := by
  have hb : Below y.heap.size y (y.alloc (.cells #[.int .i64 1, .int .i64 at_, .string data] 35)) := below1 _ _
  have h1 := h.beside hb
  have hB := Box.new y 35 #[.int .i64 1, .int .i64 at_, .string data]
  obtain ⟨W, hW⟩ : ∃ x, x = y.alloc (.cells #[.int .i64 1, .int .i64 at_, .string data] 35) := ⟨_, rfl⟩
  have b0 : (y.alloc (.cells #[.int .i64 1, .int .i64 at_, .string data] 35)).cell? ⟨y.heap.size, 0, none⟩ = some (.int .i64 1) := hB.cell 0
  have b1 : (y.alloc (.cells #[.int .i64 1, .int .i64 at_, .string data] 35)).cell? ⟨y.heap.size, 1, none⟩ = some (.int .i64 at_) := hB.cell 1
  have b2 : (y.alloc (.cells #[.int .i64 1, .int .i64 at_, .string data] 35)).cell? ⟨y.heap.size, 2, none⟩ = some (.string data) := hB.cell 2
  rw [← hW] at hb h1 hB
  obtain ⟨F1, hF1⟩ : ∃ F1 : Nat → Prop, F1 = fun j => F j ∨ (y.heap.size ≤ j ∧ j < W.heap.size) := ⟨_, rfl⟩
  have HF : Hid (∀ j, F j → F1 j) := fun j e => by rw [hF1]; exact Or.inl e
  have HOB : Hid (F1 y.heap.size) := by show F1 _; rw [hF1]; exact Or.inr ⟨Nat.le_refl _, hB.lt⟩
  rw [← hF1] at h1
  have HB := Lib.hid hb
  have HBX := Lib.hid hB
  have H1 := Lib.hid h1
  have OK := Lib.hid ok
  clear h hb h1 hB hF1 ok
  go_enter Tryz.func13, Tryz.ntmps13
  go_wp2_with fail
  obtain ⟨ob, hob⟩ : ∃ x, x = y.heap.size := ⟨_, rfl⟩
  rw [← hW]
  rw [← hob] at HOB HBX
  have c1 : W.cell? ⟨ob, 1, none⟩ = some (.int .i64 at_) := HBX.out.cell 1
  have c2 : W.cell? ⟨ob, 2, none⟩ = some (.string data) := HBX.out.cell 2
  rw [show (Value.pointer (some ⟨y.heap.size, 0, none⟩)) = .pointer (some ⟨ob, 0, none⟩) by rw [hob]]
  have HD : Hid (∀ z, Kept (fun j => ¬ F1 j) W z → z.cell? ⟨ob, 1, none⟩ = some (.int .i64 at_) ∧ z.cell? ⟨ob, 2, none⟩ = some (.string data)) := fun z hz => ⟨((hz.box HBX.out (fun e => e HOB.out)).cell 1).trans rfl, ((hz.box HBX.out (fun e => e HOB.out)).cell 2).trans rfl⟩
  have H1d := Lib.hid (H1.out.drewN 1)
  have K1d : Hid (Kept (fun j => ¬ F1 j) W (W.drewN 1)) := (Kept.refl _ W).drewN 1
  have HWF := Lib.hid hw
  clear b0 b1 b2 hW hob hw
  go_region_held3 (fun z => z.cell? ⟨ob, 1, none⟩ = some (.int .i64 at_) ∧ z.cell? ⟨ob, 2, none⟩ = some (.string data)) (first | exact HD.out _ k3' | exact HD.out _ k2' | exact HD.out _ K1d.out) (first
    | (go_at_call 27
       refine (two_stage H1d.out OK.out at_ data HWF.out).mono ?_
       rintro e z2 ⟨rfl, h2, k2, ok2⟩
       have k2' := K1d.out.trans k2)
    | (go_at_call 42
       refine (two_rstage h2 ok2 at_ data).mono ?_
       rintro e z3 ⟨⟨E, rfl⟩, h3, k3, ok3⟩
       have k3' := k2'.trans k3))
  have HR := Lib.hid (left14 HB.out HF.out h3 k3' ok3.next)
  clear h2 k2 ok2 h3 k3 ok3 k2' k3' c1 c2 HD H1d K1d HWF H1 HB OK HF HOB HBX
  go_wp2_with fail
  go_ret2
  exact ⟨⟨_, rfl⟩, HR.out⟩

set_option maxHeartbeats 4000000 in
theorem do14_commit (h : Two14 F y wb rb s r) (ok : M.WOk s r n) (hn : n ≤ 180) (at_ : Int) (data : ByteArray) : Calls Tryz.prog 13 #[.pointer (some ⟨wb, 0, none⟩), .pointer (some ⟨rb, 0, none⟩), .agg #[.int .i64 2, .int .i64 at_, .string data]] y fun e z => (∃ v, e = .returned v) ∧ Left14 F y wb rb (n + 1) z := by
  have hb : Below y.heap.size y (y.alloc (.cells #[.int .i64 2, .int .i64 at_, .string data] 35)) := below1 _ _
  have h1 := h.beside hb
  have hB := Box.new y 35 #[.int .i64 2, .int .i64 at_, .string data]
  obtain ⟨W, hW⟩ : ∃ x, x = y.alloc (.cells #[.int .i64 2, .int .i64 at_, .string data] 35) := ⟨_, rfl⟩
  have b0 : (y.alloc (.cells #[.int .i64 2, .int .i64 at_, .string data] 35)).cell? ⟨y.heap.size, 0, none⟩ = some (.int .i64 2) := hB.cell 0
  have b1 : (y.alloc (.cells #[.int .i64 2, .int .i64 at_, .string data] 35)).cell? ⟨y.heap.size, 1, none⟩ = some (.int .i64 at_) := hB.cell 1
  have b2 : (y.alloc (.cells #[.int .i64 2, .int .i64 at_, .string data] 35)).cell? ⟨y.heap.size, 2, none⟩ = some (.string data) := hB.cell 2
  rw [← hW] at hb h1 hB
  obtain ⟨F1, hF1⟩ : ∃ F1 : Nat → Prop, F1 = fun j => F j ∨ (y.heap.size ≤ j ∧ j < W.heap.size) := ⟨_, rfl⟩
  have HF : Hid (∀ j, F j → F1 j) := fun j e => by rw [hF1]; exact Or.inl e
  have HOB : Hid (F1 y.heap.size) := by show F1 _; rw [hF1]; exact Or.inr ⟨Nat.le_refl _, hB.lt⟩
  rw [← hF1] at h1
  have HB := Lib.hid hb
  have HBX := Lib.hid hB
  have H1 := Lib.hid h1
  have OK := Lib.hid ok
  clear h hb h1 hB hF1 ok
  go_enter Tryz.func13, Tryz.ntmps13
  clear b1 b2 HOB HBX
  go_wp2_with fail
  rw [← hW]
  clear b0 hW
  refine (two_commit H1.out OK.out (by omega)).mono ?_
  rintro e z1 ⟨lp, hlp, rfl, h2, k2, ok2⟩
  have H2 := Lib.hid h2
  have K2 := Lib.hid k2
  have OK2 := Lib.hid ok2
  have hE : M.wlCommitE 24 s lp = 10 ∨ M.wlCommitE 24 s lp = 0 ∨ M.wlCommitE 24 s lp = 6 := by unfold M.wlCommitE; split; exact Or.inl rfl; split; exact Or.inr (Or.inl rfl); split; exact Or.inr (Or.inl rfl); exact Or.inr (Or.inr rfl)
  obtain ⟨E, hEE⟩ : ∃ E, E = M.wlCommitE 24 s lp := ⟨_, rfl⟩
  rw [← hEE] at hE ⊢
  have q1 : (E == 30) = false := by rw [beq_eq_false_iff_ne]; omega
  have q2 : (E == 31) = false := by rw [beq_eq_false_iff_ne]; omega
  have q3 : ¬ E = 30 := by omega
  have q4 : ¬ E = 31 := by omega
  clear h2 k2 ok2 H1 hE hEE hlp
  go_wp2_with fail
  refine (two_rcommit H2.out OK2.out).mono ?_
  rintro e z2 ⟨⟨E2, rfl⟩, h3, k3, ok3⟩
  have HR := Lib.hid (left14 HB.out HF.out h3 (K2.out.trans k3) ok3)
  clear h3 k3 ok3 H2 K2 OK2 HB OK HF
  go_wp2_with fail
  go_ret2
  exact ⟨⟨_, rfl⟩, HR.out⟩

set_option maxHeartbeats 4000000 in
theorem do14_abort (h : Two14 F y wb rb s r) (ok : M.WOk s r n) (at_ : Int) (data : ByteArray) : Calls Tryz.prog 13 #[.pointer (some ⟨wb, 0, none⟩), .pointer (some ⟨rb, 0, none⟩), .agg #[.int .i64 3, .int .i64 at_, .string data]] y fun e z => (∃ v, e = .returned v) ∧ Left14 F y wb rb (n + 1) z := by
  have hb : Below y.heap.size y (y.alloc (.cells #[.int .i64 3, .int .i64 at_, .string data] 35)) := below1 _ _
  have h1 := h.beside hb
  have hB := Box.new y 35 #[.int .i64 3, .int .i64 at_, .string data]
  obtain ⟨W, hW⟩ : ∃ x, x = y.alloc (.cells #[.int .i64 3, .int .i64 at_, .string data] 35) := ⟨_, rfl⟩
  have b0 : (y.alloc (.cells #[.int .i64 3, .int .i64 at_, .string data] 35)).cell? ⟨y.heap.size, 0, none⟩ = some (.int .i64 3) := hB.cell 0
  have b1 : (y.alloc (.cells #[.int .i64 3, .int .i64 at_, .string data] 35)).cell? ⟨y.heap.size, 1, none⟩ = some (.int .i64 at_) := hB.cell 1
  have b2 : (y.alloc (.cells #[.int .i64 3, .int .i64 at_, .string data] 35)).cell? ⟨y.heap.size, 2, none⟩ = some (.string data) := hB.cell 2
  rw [← hW] at hb h1 hB
  obtain ⟨F1, hF1⟩ : ∃ F1 : Nat → Prop, F1 = fun j => F j ∨ (y.heap.size ≤ j ∧ j < W.heap.size) := ⟨_, rfl⟩
  have HF : Hid (∀ j, F j → F1 j) := fun j e => by rw [hF1]; exact Or.inl e
  have HOB : Hid (F1 y.heap.size) := by show F1 _; rw [hF1]; exact Or.inr ⟨Nat.le_refl _, hB.lt⟩
  rw [← hF1] at h1
  have HB := Lib.hid hb
  have HBX := Lib.hid hB
  have H1 := Lib.hid h1
  have OK := Lib.hid ok
  clear h hb h1 hB hF1 ok
  go_enter Tryz.func13, Tryz.ntmps13
  clear b1 b2 HOB HBX
  go_wp2_with fail
  rw [← hW]
  clear b0 hW
  refine (two_abort H1.out).mono ?_
  rintro e z1 ⟨rfl, h2, k2⟩
  have H2 := Lib.hid h2
  have K2 := Lib.hid k2
  have OK2 := Lib.hid OK.out.abort
  clear h2 k2 H1
  go_wp2_with fail
  refine (two_rabort H2.out OK2.out).mono ?_
  rintro e z2 ⟨rfl, h3, k3, ok3⟩
  have HR := Lib.hid (left14 HB.out HF.out h3 (K2.out.trans k3) ok3.next)
  clear h3 k3 ok3 H2 K2 OK2 HB OK HF
  go_wp2_with fail
  go_ret2
  exact ⟨⟨_, rfl⟩, HR.out⟩

set_option maxHeartbeats 4000000 in
theorem do14_flush (h : Two14 F y wb rb s r) (ok : M.WOk s r n) (hn : n ≤ 180) (at_ : Int) (data : ByteArray) : Calls Tryz.prog 13 #[.pointer (some ⟨wb, 0, none⟩), .pointer (some ⟨rb, 0, none⟩), .agg #[.int .i64 4, .int .i64 at_, .string data]] y fun e z => (∃ v, e = .returned v) ∧ Left14 F y wb rb (n + 1) z := by
  have hb : Below y.heap.size y (y.alloc (.cells #[.int .i64 4, .int .i64 at_, .string data] 35)) := below1 _ _
  have h1 := h.beside hb
  have hB := Box.new y 35 #[.int .i64 4, .int .i64 at_, .string data]
  obtain ⟨W, hW⟩ : ∃ x, x = y.alloc (.cells #[.int .i64 4, .int .i64 at_, .string data] 35) := ⟨_, rfl⟩
  have b0 : (y.alloc (.cells #[.int .i64 4, .int .i64 at_, .string data] 35)).cell? ⟨y.heap.size, 0, none⟩ = some (.int .i64 4) := hB.cell 0
  have b1 : (y.alloc (.cells #[.int .i64 4, .int .i64 at_, .string data] 35)).cell? ⟨y.heap.size, 1, none⟩ = some (.int .i64 at_) := hB.cell 1
  have b2 : (y.alloc (.cells #[.int .i64 4, .int .i64 at_, .string data] 35)).cell? ⟨y.heap.size, 2, none⟩ = some (.string data) := hB.cell 2
  rw [← hW] at hb h1 hB
  obtain ⟨F1, hF1⟩ : ∃ F1 : Nat → Prop, F1 = fun j => F j ∨ (y.heap.size ≤ j ∧ j < W.heap.size) := ⟨_, rfl⟩
  have HF : Hid (∀ j, F j → F1 j) := fun j e => by rw [hF1]; exact Or.inl e
  have HOB : Hid (F1 y.heap.size) := by show F1 _; rw [hF1]; exact Or.inr ⟨Nat.le_refl _, hB.lt⟩
  rw [← hF1] at h1
  have HB := Lib.hid hb
  have HBX := Lib.hid hB
  have H1 := Lib.hid h1
  have OK := Lib.hid ok
  clear h hb h1 hB hF1 ok
  go_enter Tryz.func13, Tryz.ntmps13
  clear b1 b2 HOB HBX
  go_wp2_with fail
  rw [← hW]
  clear b0 hW
  refine (two_flush H1.out OK.out (by omega)).mono ?_
  rintro e z1 ⟨rfl, h2, k2⟩
  have K2 := Lib.hid k2
  obtain ⟨⟨v6, c6⟩, f6, HX⟩ := two_sure h2 OK.out.flush
  have HR := Lib.hid (left14 HB.out HF.out HX.out.1 (K2.out.trans HX.out.2.1) HX.out.2.2)
  clear h2 k2 H1 K2 HB OK HF HX
  go_wp2_with fail
  go_ret2
  exact ⟨⟨_, rfl⟩, HR.out⟩

set_option maxHeartbeats 4000000 in
theorem do14_check (h : Two14 F y wb rb s r) (ok : M.WOk s r n) (hn : n ≤ 180) (at_ : Int) (data : ByteArray) : Calls Tryz.prog 13 #[.pointer (some ⟨wb, 0, none⟩), .pointer (some ⟨rb, 0, none⟩), .agg #[.int .i64 5, .int .i64 at_, .string data]] y fun e z => (∃ v, e = .returned v) ∧ Left14 F y wb rb (n + 1) z := by
  have hb : Below y.heap.size y (y.alloc (.cells #[.int .i64 5, .int .i64 at_, .string data] 35)) := below1 _ _
  have h1 := h.beside hb
  have hB := Box.new y 35 #[.int .i64 5, .int .i64 at_, .string data]
  obtain ⟨W, hW⟩ : ∃ x, x = y.alloc (.cells #[.int .i64 5, .int .i64 at_, .string data] 35) := ⟨_, rfl⟩
  have b0 : (y.alloc (.cells #[.int .i64 5, .int .i64 at_, .string data] 35)).cell? ⟨y.heap.size, 0, none⟩ = some (.int .i64 5) := hB.cell 0
  have b1 : (y.alloc (.cells #[.int .i64 5, .int .i64 at_, .string data] 35)).cell? ⟨y.heap.size, 1, none⟩ = some (.int .i64 at_) := hB.cell 1
  have b2 : (y.alloc (.cells #[.int .i64 5, .int .i64 at_, .string data] 35)).cell? ⟨y.heap.size, 2, none⟩ = some (.string data) := hB.cell 2
  rw [← hW] at hb h1 hB
  obtain ⟨F1, hF1⟩ : ∃ F1 : Nat → Prop, F1 = fun j => F j ∨ (y.heap.size ≤ j ∧ j < W.heap.size) := ⟨_, rfl⟩
  have HF : Hid (∀ j, F j → F1 j) := fun j e => by rw [hF1]; exact Or.inl e
  have HOB : Hid (F1 y.heap.size) := by show F1 _; rw [hF1]; exact Or.inr ⟨Nat.le_refl _, hB.lt⟩
  rw [← hF1] at h1
  have HB := Lib.hid hb
  have HBX := Lib.hid hB
  have H1 := Lib.hid h1
  have OK := Lib.hid ok
  clear h hb h1 hB hF1 ok
  go_enter Tryz.func13, Tryz.ntmps13
  clear b1 b2 HOB HBX
  go_wp2_with fail
  rw [← hW]
  clear b0 hW
  refine (two_check H1.out OK.out (by omega)).mono ?_
  rintro e z1 ⟨rfl, d', h2, k2, ok2⟩
  have K2 := Lib.hid k2
  obtain ⟨⟨v6, c6⟩, f6, HX⟩ := two_sure h2 ok2
  obtain ⟨⟨v5, c5⟩, f5, HY⟩ := two_used HX.out.1 HX.out.2.2
  have HR := Lib.hid (left14 HB.out HF.out HY.out.1 (K2.out.trans (HX.out.2.1.trans HY.out.2.1)) HY.out.2.2)
  clear h2 k2 H1 K2 HB OK HF HX HY ok2
  go_wp2_with fail
  go_ret2
  exact ⟨⟨_, rfl⟩, HR.out⟩

set_option maxHeartbeats 4000000 in
theorem do14_none (k : Int) (k0 : k ≠ 0) (k1 : k ≠ 1) (k2 : k ≠ 2) (k3 : k ≠ 3) (k4 : k ≠ 4) (k5 : k ≠ 5) (h : Two14 F y wb rb s r) (ok : M.WOk s r n) (at_ : Int) (data : ByteArray) : Calls Tryz.prog 13 #[.pointer (some ⟨wb, 0, none⟩), .pointer (some ⟨rb, 0, none⟩), .agg #[.int .i64 k, .int .i64 at_, .string data]] y fun e z => (∃ v, e = .returned v) ∧ Left14 F y wb rb (n + 1) z := by
  have hb : Below y.heap.size y (y.alloc (.cells #[.int .i64 k, .int .i64 at_, .string data] 35)) := below1 _ _
  have h1 := h.beside hb
  have hB := Box.new y 35 #[.int .i64 k, .int .i64 at_, .string data]
  obtain ⟨W, hW⟩ : ∃ x, x = y.alloc (.cells #[.int .i64 k, .int .i64 at_, .string data] 35) := ⟨_, rfl⟩
  have b0 : (y.alloc (.cells #[.int .i64 k, .int .i64 at_, .string data] 35)).cell? ⟨y.heap.size, 0, none⟩ = some (.int .i64 k) := hB.cell 0
  have b1 : (y.alloc (.cells #[.int .i64 k, .int .i64 at_, .string data] 35)).cell? ⟨y.heap.size, 1, none⟩ = some (.int .i64 at_) := hB.cell 1
  have b2 : (y.alloc (.cells #[.int .i64 k, .int .i64 at_, .string data] 35)).cell? ⟨y.heap.size, 2, none⟩ = some (.string data) := hB.cell 2
  rw [← hW] at hb h1 hB
  obtain ⟨F1, hF1⟩ : ∃ F1 : Nat → Prop, F1 = fun j => F j ∨ (y.heap.size ≤ j ∧ j < W.heap.size) := ⟨_, rfl⟩
  have HF : Hid (∀ j, F j → F1 j) := fun j e => by rw [hF1]; exact Or.inl e
  have HOB : Hid (F1 y.heap.size) := by show F1 _; rw [hF1]; exact Or.inr ⟨Nat.le_refl _, hB.lt⟩
  rw [← hF1] at h1
  have HB := Lib.hid hb
  have HBX := Lib.hid hB
  have H1 := Lib.hid h1
  have OK := Lib.hid ok
  clear h hb h1 hB hF1 ok
  go_enter Tryz.func13, Tryz.ntmps13
  have q0 : (k == 0) = false := by rw [beq_eq_false_iff_ne]; exact k0
  have q1 : (k == 1) = false := by rw [beq_eq_false_iff_ne]; exact k1
  have q2 : (k == 2) = false := by rw [beq_eq_false_iff_ne]; exact k2
  have q3 : (k == 3) = false := by rw [beq_eq_false_iff_ne]; exact k3
  have q4 : (k == 4) = false := by rw [beq_eq_false_iff_ne]; exact k4
  have q5 : (k == 5) = false := by rw [beq_eq_false_iff_ne]; exact k5
  clear b1 b2 HOB HBX
  have HR := Lib.hid (left14 HB.out HF.out H1.out (Kept.refl _ W) OK.out.next)
  go_wp2_with fail
  rw [← hW]
  go_ret2
  exact ⟨⟨_, rfl⟩, HR.out⟩

/-- Whatever the step is. -/
theorem do14_any (h : Two14 F y wb rb s r) (ok : M.WOk s r n) (hn : n ≤ 180) (k at_ : Int) (data : ByteArray) (hw : (Lit.int .i64 at_).wf = true) : Calls Tryz.prog 13 #[.pointer (some ⟨wb, 0, none⟩), .pointer (some ⟨rb, 0, none⟩), .agg #[.int .i64 k, .int .i64 at_, .string data]] y fun e z => (∃ v, e = .returned v) ∧ Left14 F y wb rb (n + 1) z := by
  by_cases k0 : k = 0
  · subst k0; exact do14_begin h ok at_ data
  by_cases k1 : k = 1
  · subst k1; exact do14_stage h ok at_ data hw
  by_cases k2 : k = 2
  · subst k2; exact do14_commit h ok hn at_ data
  by_cases k3 : k = 3
  · subst k3; exact do14_abort h ok at_ data
  by_cases k4 : k = 4
  · subst k4; exact do14_flush h ok hn at_ data
  by_cases k5 : k = 5
  · subst k5; exact do14_check h ok hn at_ data
  exact do14_none k k0 k1 k2 k3 k4 k5 h ok at_ data
end
end Go.Proofs.YtncbbejmibddcaaGreatDoor
