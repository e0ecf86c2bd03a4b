/-
  Walks over solderlaw14.do, by both logs, on any disk: whatever the step is. (Written by wip/gen_bdo.py.)
-/
import Derived.Test.YtigmcnnplnfakaaGreatDoorPX
namespace Go.Proofs.YtigmcnnplnfakaaGreatDoor
open Go.RowKit Go.Maps

section
variable {F : Nat → Prop} {y : World} {a : Nat × Nat} {wb rb n : Nat} {s : M.Wl} {r : M.W}
/-- What a step leaves. -/
def Left14 (F : Nat → Prop) (a : Nat × Nat) (y : World) (wb rb n : Nat) (z : World) : Prop := Bo14 F a z wb rb n ∧ Kept (fun j => ¬ F j) y z
theorem left14 {F F1 : Nat → Prop} {y W z : World} {m : Nat} {T : Nat → ByteArray} (h0 : Env15 F y) (hb : Below y.heap.size y W) (hf : ∀ j, F j → F1 j) (h : Two14 F1 z wb rb s r) (hk : Kept (fun j => ¬ F1 j) W z) (ok : M.WS s T m) (om : M.WM s r T) (ha : s.on a) (hm : m ≤ n + 200) : Left14 F a y wb rb (n + 200) z := by
  have hk2 : Kept (fun j => ¬ F j) y z := (Kept.of_below hb _).trans (hk.mono (fun j _ e e' => e (hf j e')))
  exact ⟨⟨h0.kept hk2, s, r, h.less hf, ⟨T, ok.more hm, om⟩, ha⟩, hk2⟩
/-- What do says. -/
def Says15 (k : Int) (e : Ending) : Prop := ∃ E : Int, e = .returned (.tuple #[.int .i64 E, .int .i64 E]) ∧ E ≠ 31 ∧ (E = 30 → 2 ≤ k)

set_option maxHeartbeats 4000000 in
theorem do14_begin (h : Bo14 F a y wb rb n) (hn : n ≤ 400000) (at_ : Int) (data : ByteArray) : Calls Tryz.prog 13 #[.pointer (some ⟨wb, 0, none⟩), .pointer (some ⟨rb, 0, none⟩), .agg #[.int .i64 0, .int .i64 at_, .string data]] y fun e z => Says15 0 e ∧ Left14 F a y wb rb (n + 200) z := by
  obtain ⟨h0, s, r, h, ⟨T, ok, om⟩, hdk⟩ := h
  have hb : Below y.heap.size y (y.alloc (.cells #[.int .i64 0, .int .i64 at_, .string data] 35)) := below1 _ _
  have h1 := h.beside hb
  have hB := Box.new y 35 #[.int .i64 0, .int .i64 at_, .string data]
  obtain ⟨W, hW⟩ : ∃ x, x = y.alloc (.cells #[.int .i64 0, .int .i64 at_, .string data] 35) := ⟨_, rfl⟩
  have b0 : (y.alloc (.cells #[.int .i64 0, .int .i64 at_, .string data] 35)).cell? ⟨y.heap.size, 0, none⟩ = some (.int .i64 0) := hB.cell 0
  have b1 : (y.alloc (.cells #[.int .i64 0, .int .i64 at_, .string data] 35)).cell? ⟨y.heap.size, 1, none⟩ = some (.int .i64 at_) := hB.cell 1
  have b2 : (y.alloc (.cells #[.int .i64 0, .int .i64 at_, .string data] 35)).cell? ⟨y.heap.size, 2, none⟩ = some (.string data) := hB.cell 2
  rw [← hW] at hb h1 hB
  obtain ⟨F1, hF1⟩ : ∃ F1 : Nat → Prop, F1 = fun j => F j ∨ (y.heap.size ≤ j ∧ j < W.heap.size) := ⟨_, rfl⟩
  have HF : Hid (∀ j, F j → F1 j) := fun j e => by rw [hF1]; exact Or.inl e
  have HOB : Hid (F1 y.heap.size) := by show F1 _; rw [hF1]; exact Or.inr ⟨Nat.le_refl _, hB.lt⟩
  rw [← hF1] at h1
  have HEW : Hid (ErrT W ∧ F1 1) := ⟨(Kept.of_below hb (fun _ => False)).cell h0.err id, HF.out _ h0.fe⟩
  have H0 := Lib.hid h0
  have HB := Lib.hid hb
  have HBX := Lib.hid hB
  have H1 := Lib.hid h1
  have OK := Lib.hid ok
  have OM := Lib.hid om
  have HDK : Hid (s.on a) := hdk
  have HN : Hid (n ≤ 400000) := hn
  clear h hb h1 hB hF1 ok om hdk hn h0
  clear HEW
  go_enter Tryz.func13, Tryz.ntmps13
  clear b1 b2 HOB HBX
  go_wp2_with fail
  rw [← hW]
  clear b0 hW
  refine (two_begin H1.out).mono ?_
  rintro e z1 ⟨rfl, h2, k2⟩
  obtain ⟨E0, hE0⟩ : ∃ E : Int, E = (if s.act = true then 10 else 0) := ⟨_, rfl⟩
  have HE0 : Hid (E0 ≠ 31 ∧ E0 ≠ 30) := by show _ ∧ _; rw [hE0]; split <;> decide
  have hE1 : M.wbeginE r = E0 := by unfold M.wbeginE; rw [OM.out.act, hE0]
  rw [← hE0]
  have H2 := Lib.hid h2
  have K2 := Lib.hid k2
  have C := Lib.hid (two_rbegin H2.out)
  rw [hE1] at C
  clear h2 k2 H1 hE0 hE1
  go_wp2_with fail
  refine C.out.mono ?_
  rintro e z2 ⟨rfl, h3, k3⟩
  have HR := Lib.hid (left14 (n := n) H0.out HB.out HF.out h3 (K2.out.trans k3) (OK.out.act true) OM.out.begin (HDK.out.to rfl (Nat.le_refl _) (fun (e : true = false) => by cases e)) (Nat.le_add_right n 200))
  clear h3 k3 H2 K2 HB OK HF C
  go_wp2_with fail
  go_ret2
  exact ⟨⟨_, rfl, HE0.out.1, fun e => absurd e HE0.out.2⟩, HR.out⟩

set_option maxHeartbeats 4000000 in
theorem do14_stage (h : Bo14 F a y wb rb n) (hn : n ≤ 400000) (at_ : Int) (data : ByteArray) (hw : (Lit.int .i64 at_).wf = true) : Calls Tryz.prog 13 #[.pointer (some ⟨wb, 0, none⟩), .pointer (some ⟨rb, 0, none⟩), .agg #[.int .i64 1, .int .i64 at_, .string data]] y fun e z => Says15 1 e ∧ Left14 F a y wb rb (n + 200) z := by
  obtain ⟨h0, s, r, h, ⟨T, ok, om⟩, hdk⟩ := h
  have hb : Below y.heap.size y (y.alloc (.cells #[.int .i64 1, .int .i64 at_, .string data] 35)) := below1 _ _
  have h1 := h.beside hb
  have hB := Box.new y 35 #[.int .i64 1, .int .i64 at_, .string data]
  obtain ⟨W, hW⟩ : ∃ x, x = y.alloc (.cells #[.int .i64 1, .int .i64 at_, .string data] 35) := ⟨_, rfl⟩
  have b0 : (y.alloc (.cells #[.int .i64 1, .int .i64 at_, .string data] 35)).cell? ⟨y.heap.size, 0, none⟩ = some (.int .i64 1) := hB.cell 0
  have b1 : (y.alloc (.cells #[.int .i64 1, .int .i64 at_, .string data] 35)).cell? ⟨y.heap.size, 1, none⟩ = some (.int .i64 at_) := hB.cell 1
  have b2 : (y.alloc (.cells #[.int .i64 1, .int .i64 at_, .string data] 35)).cell? ⟨y.heap.size, 2, none⟩ = some (.string data) := hB.cell 2
  rw [← hW] at hb h1 hB
  obtain ⟨F1, hF1⟩ : ∃ F1 : Nat → Prop, F1 = fun j => F j ∨ (y.heap.size ≤ j ∧ j < W.heap.size) := ⟨_, rfl⟩
  have HF : Hid (∀ j, F j → F1 j) := fun j e => by rw [hF1]; exact Or.inl e
  have HOB : Hid (F1 y.heap.size) := by show F1 _; rw [hF1]; exact Or.inr ⟨Nat.le_refl _, hB.lt⟩
  rw [← hF1] at h1
  have HEW : Hid (ErrT W ∧ F1 1) := ⟨(Kept.of_below hb (fun _ => False)).cell h0.err id, HF.out _ h0.fe⟩
  have H0 := Lib.hid h0
  have HB := Lib.hid hb
  have HBX := Lib.hid hB
  have H1 := Lib.hid h1
  have OK := Lib.hid ok
  have OM := Lib.hid om
  have HDK : Hid (s.on a) := hdk
  have HN : Hid (n ≤ 400000) := hn
  clear h hb h1 hB hF1 ok om hdk hn h0
  clear HEW
  go_enter Tryz.func13, Tryz.ntmps13
  go_wp2_with fail
  obtain ⟨ob, hob⟩ : ∃ x, x = y.heap.size := ⟨_, rfl⟩
  rw [← hW]
  rw [← hob] at HOB HBX
  have c1 : W.cell? ⟨ob, 1, none⟩ = some (.int .i64 at_) := HBX.out.cell 1
  have c2 : W.cell? ⟨ob, 2, none⟩ = some (.string data) := HBX.out.cell 2
  rw [show (Value.pointer (some ⟨y.heap.size, 0, none⟩)) = .pointer (some ⟨ob, 0, none⟩) by rw [hob]]
  have HD : Hid (∀ z, Kept (fun j => ¬ F1 j) W z → z.cell? ⟨ob, 1, none⟩ = some (.int .i64 at_) ∧ z.cell? ⟨ob, 2, none⟩ = some (.string data)) := fun z hz => ⟨((hz.box HBX.out (fun e => e HOB.out)).cell 1).trans rfl, ((hz.box HBX.out (fun e => e HOB.out)).cell 2).trans rfl⟩
  have H1d := Lib.hid (H1.out.drewN 1)
  have K1d : Hid (Kept (fun j => ¬ F1 j) W (W.drewN 1)) := (Kept.refl _ W).drewN 1
  have HWF := Lib.hid hw
  obtain ⟨g1, g2, g3⟩ := OK.out.stage H1.out.rising.1 OM.out at_ data
  obtain ⟨E, hE⟩ : ∃ E, E = M.wstageE r at_ data := ⟨_, rfl⟩
  have HE0 : Hid (E ≠ 31 ∧ E ≠ 30) := by
    show _ ∧ _
    rw [hE]
    unfold M.wstageE
    repeat' split
    all_goals decide
  rw [← hE] at g3
  have C1 := Lib.hid (two_stage H1d.out OK.out.ll at_ data HWF.out)
  rw [g3] at C1
  have C2 : Hid (∀ z s', Two14 F1 z wb rb s' r → Calls Tryz.prog 44 #[.pointer (some ⟨rb, 0, none⟩), .int .i64 at_, .string data] z fun e x => e = .returned (.int .i64 E) ∧ Two14 F1 x wb rb s' (M.wstage r at_ data) ∧ Kept (fun j => ¬ F1 j) z x) := fun z s' hz => by rw [hE]; exact two_rstage hz at_ data
  have HG : Hid (M.WS (M.wlStage 10 24 s at_ data) T n ∧ M.WM (M.wlStage 10 24 s at_ data) (M.wstage r at_ data) T ∧ (M.wlStage 10 24 s at_ data).on a) := ⟨g1, g2, HDK.out.stage at_ data⟩
  clear b0 b1 b2 hW hob hw g1 g2 g3 hE
  go_region_held3 (fun z => z.cell? ⟨ob, 1, none⟩ = some (.int .i64 at_) ∧ z.cell? ⟨ob, 2, none⟩ = some (.string data)) (first | exact HD.out _ k3' | exact HD.out _ k2' | exact HD.out _ K1d.out) (first
    | (go_at_call 27
       refine C1.out.mono ?_
       rintro e z2 ⟨rfl, h2, k2⟩
       have k2' := K1d.out.trans k2)
    | (go_at_call 44
       refine (C2.out _ _ h2).mono ?_
       rintro e z3 ⟨rfl, h3, k3⟩
       have k3' := k2'.trans k3))
  have HR := Lib.hid (left14 (n := n) H0.out HB.out HF.out h3 k3' HG.out.1 HG.out.2.1 HG.out.2.2 (Nat.le_add_right n 200))
  clear h2 k2 h3 k3 k2' k3' c1 c2 HD H1d K1d HWF H1 HB OK HF HOB HBX C1 C2 HG
  go_wp2_with fail
  go_ret2
  exact ⟨⟨_, rfl, HE0.out.1, fun e => absurd e HE0.out.2⟩, HR.out⟩

set_option maxHeartbeats 4000000 in
theorem do14_commit (h : Bo14 F a y wb rb n) (hn : n ≤ 400000) (at_ : Int) (data : ByteArray) : Calls Tryz.prog 13 #[.pointer (some ⟨wb, 0, none⟩), .pointer (some ⟨rb, 0, none⟩), .agg #[.int .i64 2, .int .i64 at_, .string data]] y fun e z => Says15 2 e ∧ Left14 F a y wb rb (n + 200) z := by
  obtain ⟨h0, s, r, h, ⟨T, ok, om⟩, hdk⟩ := h
  have hb : Below y.heap.size y (y.alloc (.cells #[.int .i64 2, .int .i64 at_, .string data] 35)) := below1 _ _
  have h1 := h.beside hb
  have hB := Box.new y 35 #[.int .i64 2, .int .i64 at_, .string data]
  obtain ⟨W, hW⟩ : ∃ x, x = y.alloc (.cells #[.int .i64 2, .int .i64 at_, .string data] 35) := ⟨_, rfl⟩
  have b0 : (y.alloc (.cells #[.int .i64 2, .int .i64 at_, .string data] 35)).cell? ⟨y.heap.size, 0, none⟩ = some (.int .i64 2) := hB.cell 0
  have b1 : (y.alloc (.cells #[.int .i64 2, .int .i64 at_, .string data] 35)).cell? ⟨y.heap.size, 1, none⟩ = some (.int .i64 at_) := hB.cell 1
  have b2 : (y.alloc (.cells #[.int .i64 2, .int .i64 at_, .string data] 35)).cell? ⟨y.heap.size, 2, none⟩ = some (.string data) := hB.cell 2
  rw [← hW] at hb h1 hB
  obtain ⟨F1, hF1⟩ : ∃ F1 : Nat → Prop, F1 = fun j => F j ∨ (y.heap.size ≤ j ∧ j < W.heap.size) := ⟨_, rfl⟩
  have HF : Hid (∀ j, F j → F1 j) := fun j e => by rw [hF1]; exact Or.inl e
  have HOB : Hid (F1 y.heap.size) := by show F1 _; rw [hF1]; exact Or.inr ⟨Nat.le_refl _, hB.lt⟩
  rw [← hF1] at h1
  have HEW : Hid (ErrT W ∧ F1 1) := ⟨(Kept.of_below hb (fun _ => False)).cell h0.err id, HF.out _ h0.fe⟩
  have H0 := Lib.hid h0
  have HB := Lib.hid hb
  have HBX := Lib.hid hB
  have H1 := Lib.hid h1
  have OK := Lib.hid ok
  have OM := Lib.hid om
  have HDK : Hid (s.on a) := hdk
  have HN : Hid (n ≤ 400000) := hn
  clear h hb h1 hB hF1 ok om hdk hn h0
  go_enter Tryz.func13, Tryz.ntmps13
  clear b1 b2 HOB HBX
  go_wp2_with fail
  rw [← hW]
  clear b0 hW
  have HU : Hid (r.used ≤ 22) := by show _ ≤ 22; rw [OM.out.used]; exact OK.out.used
  refine (two_commit H1.out OK.out (by have := HN.out; omega) HEW.out.1 HEW.out.2).mono ?_
  rintro e z1 ⟨lp, hlp, hfit, hrE, rfl, h2, k2⟩
  have hup := h2
  obtain ⟨c1, c2, c3, c4, c5⟩ := OM.out.commit hlp H1.out.rising.1 H1.out.lies
  have hco := OK.out.commit hlp hfit hrE
  have HC := Lib.hid (And.intro c2 (And.intro c3 (And.intro c4 c5)))
  clear hup c1 c2 c3 c4 c5 hfit hrE
  rcases hco with ⟨ha, hE, hs⟩ | ⟨ha, h00, hE, hs⟩ | ⟨ha, h00, hr6, hE, hs⟩ | ⟨ha, h00, hr6, hE, d', hs, hws, z6'⟩ | ⟨ha, h00, hr6, hE, s', hs, hws, z1', z2', z3', z4', z5', -, z6'⟩
  · rw [hE]
    rw [hs] at h2
    have hco := hE
    have q1 : ((10 : Int) == 30) = false := by decide
    have q2 : ((10 : Int) == 31) = false := by decide
    have CE := HC.out.1.trans (if_pos ha)
    have C := Lib.hid (two_rcommit h2 HU.out)
    rw [CE] at C
    have K2 := Lib.hid k2
    have HWM := Lib.hid ((by rw [HC.out.2.2.1 (by rw [HC.out.1, if_pos ha]; decide)]; exact OM.out : M.WM s (M.wcommit r) T))
    have HWS := Lib.hid (OK.out)
    clear h2 k2 H1 CE hco
    go_wp2_with fail
    refine C.out.mono ?_
    rintro e z2 ⟨rfl, h3, k3⟩
    have HR := Lib.hid (left14 (n := n) H0.out HB.out HF.out h3 (K2.out.trans k3) HWS.out HWM.out HDK.out (by have := HN.out; omega))
    clear h3 k3 K2 HB OK HF C HWS HWM
    go_wp2_with fail
    go_ret2
    exact ⟨⟨_, rfl, by decide, fun e => absurd e (by decide)⟩, HR.out⟩
  · rw [hE]
    rw [hs] at h2
    have hco := hE
    have q1 : ((0 : Int) == 30) = false := by decide
    have q2 : ((0 : Int) == 31) = false := by decide
    have CE := (by rw [HC.out.1, if_neg (by rw [ha]; decide), if_pos h00] : M.wcommitE r = 0)
    have C := Lib.hid (two_rcommit h2 HU.out)
    rw [CE] at C
    have K2 := Lib.hid k2
    have HWM := Lib.hid (HC.out.2.1 ha h00)
    have HWS := Lib.hid (OK.out.act false)
    clear h2 k2 H1 CE hco
    go_wp2_with fail
    refine C.out.mono ?_
    rintro e z2 ⟨rfl, h3, k3⟩
    have HR := Lib.hid (left14 (n := n) H0.out HB.out HF.out h3 (K2.out.trans k3) HWS.out HWM.out (HDK.out.to rfl (Nat.le_refl _) (fun _ => by show s.l = []; rw [hlp, List.eq_nil_of_length_eq_zero h00]; rfl)) (by have := HN.out; omega))
    clear h3 k3 K2 HB OK HF C HWS HWM
    go_wp2_with fail
    go_ret2
    exact ⟨⟨_, rfl, by decide, fun e => absurd e (by decide)⟩, HR.out⟩
  · rw [hE]
    rw [hs] at h2
    have hco := hE
    have hne : M.wcommitE r = 6 := by rw [HC.out.1, if_neg (by rw [ha]; decide), if_neg h00, if_neg (by omega)]
    have q1 : ((6 : Int) == 30) = false := by decide
    have q2 : ((6 : Int) == 31) = false := by decide
    have CE := hne
    have C := Lib.hid (two_rcommit h2 HU.out)
    rw [CE] at C
    have K2 := Lib.hid k2
    have HWM := Lib.hid ((by rw [HC.out.2.2.1 (by rw [hne]; decide)]; exact OM.out : M.WM s (M.wcommit r) T))
    have HWS := Lib.hid (OK.out)
    clear h2 k2 H1 CE hco
    go_wp2_with fail
    refine C.out.mono ?_
    rintro e z2 ⟨rfl, h3, k3⟩
    have HR := Lib.hid (left14 (n := n) H0.out HB.out HF.out h3 (K2.out.trans k3) HWS.out HWM.out HDK.out (by have := HN.out; omega))
    clear h3 k3 K2 HB OK HF C HWS HWM
    go_wp2_with fail
    go_ret2
    exact ⟨⟨_, rfl, by decide, fun e => absurd e (by decide)⟩, HR.out⟩
  · rw [hE]
    rw [hs] at h2
    have HR := Lib.hid (left14 (n := n) H0.out HB.out HF.out h2 k2 hws (OM.out.disk d') (HDK.out.to rfl (Nat.le_of_lt z6') HDK.out.2.2) (by have := HN.out; omega))
    clear h2 k2 H1 hws z6' hE hs HB OK HF HC
    go_wp2_with fail
    go_ret2
    exact ⟨⟨_, rfl, by decide, fun _ => by decide⟩, HR.out⟩
  · rw [hE]
    rw [hs] at h2
    have hco := hE
    have HDK' : Hid (s'.on a) := HDK.out.to z5' z6' (fun _ => z2')
    have q1 : ((0 : Int) == 30) = false := by decide
    have q2 : ((0 : Int) == 31) = false := by decide
    have CE := (by rw [HC.out.1, if_neg (by rw [ha]; decide), if_neg h00, if_pos hr6] : M.wcommitE r = 0)
    have C := Lib.hid (two_rcommit h2 HU.out)
    rw [CE] at C
    have K2 := Lib.hid k2
    have HWM := Lib.hid (HC.out.2.2.2 ha h00 hr6 s' z1' z2' z3' z4')
    have HWS := Lib.hid (hws)
    clear h2 k2 H1 CE hco
    go_wp2_with fail
    refine C.out.mono ?_
    rintro e z2 ⟨rfl, h3, k3⟩
    have HR := Lib.hid (left14 (n := n) H0.out HB.out HF.out h3 (K2.out.trans k3) HWS.out HWM.out HDK'.out (by have := HN.out; omega))
    clear h3 k3 K2 HB OK HF C HWS HWM
    go_wp2_with fail
    go_ret2
    exact ⟨⟨_, rfl, by decide, fun e => absurd e (by decide)⟩, HR.out⟩

set_option maxHeartbeats 4000000 in
theorem do14_abort (h : Bo14 F a y wb rb n) (hn : n ≤ 400000) (at_ : Int) (data : ByteArray) : Calls Tryz.prog 13 #[.pointer (some ⟨wb, 0, none⟩), .pointer (some ⟨rb, 0, none⟩), .agg #[.int .i64 3, .int .i64 at_, .string data]] y fun e z => Says15 3 e ∧ Left14 F a y wb rb (n + 200) z := by
  obtain ⟨h0, s, r, h, ⟨T, ok, om⟩, hdk⟩ := h
  have hb : Below y.heap.size y (y.alloc (.cells #[.int .i64 3, .int .i64 at_, .string data] 35)) := below1 _ _
  have h1 := h.beside hb
  have hB := Box.new y 35 #[.int .i64 3, .int .i64 at_, .string data]
  obtain ⟨W, hW⟩ : ∃ x, x = y.alloc (.cells #[.int .i64 3, .int .i64 at_, .string data] 35) := ⟨_, rfl⟩
  have b0 : (y.alloc (.cells #[.int .i64 3, .int .i64 at_, .string data] 35)).cell? ⟨y.heap.size, 0, none⟩ = some (.int .i64 3) := hB.cell 0
  have b1 : (y.alloc (.cells #[.int .i64 3, .int .i64 at_, .string data] 35)).cell? ⟨y.heap.size, 1, none⟩ = some (.int .i64 at_) := hB.cell 1
  have b2 : (y.alloc (.cells #[.int .i64 3, .int .i64 at_, .string data] 35)).cell? ⟨y.heap.size, 2, none⟩ = some (.string data) := hB.cell 2
  rw [← hW] at hb h1 hB
  obtain ⟨F1, hF1⟩ : ∃ F1 : Nat → Prop, F1 = fun j => F j ∨ (y.heap.size ≤ j ∧ j < W.heap.size) := ⟨_, rfl⟩
  have HF : Hid (∀ j, F j → F1 j) := fun j e => by rw [hF1]; exact Or.inl e
  have HOB : Hid (F1 y.heap.size) := by show F1 _; rw [hF1]; exact Or.inr ⟨Nat.le_refl _, hB.lt⟩
  rw [← hF1] at h1
  have HEW : Hid (ErrT W ∧ F1 1) := ⟨(Kept.of_below hb (fun _ => False)).cell h0.err id, HF.out _ h0.fe⟩
  have H0 := Lib.hid h0
  have HB := Lib.hid hb
  have HBX := Lib.hid hB
  have H1 := Lib.hid h1
  have OK := Lib.hid ok
  have OM := Lib.hid om
  have HDK : Hid (s.on a) := hdk
  have HN : Hid (n ≤ 400000) := hn
  clear h hb h1 hB hF1 ok om hdk hn h0
  clear HEW
  go_enter Tryz.func13, Tryz.ntmps13
  clear b1 b2 HOB HBX
  go_wp2_with fail
  rw [← hW]
  clear b0 hW
  refine (two_abort H1.out).mono ?_
  rintro e z1 ⟨rfl, h2, k2⟩
  have H2 := Lib.hid h2
  have K2 := Lib.hid k2
  clear h2 k2 H1
  go_wp2_with fail
  refine (two_rabort H2.out).mono ?_
  rintro e z2 ⟨rfl, h3, k3⟩
  have HR := Lib.hid (left14 (n := n) H0.out HB.out HF.out h3 (K2.out.trans k3) OK.out.abort OM.out.abort (HDK.out.to rfl (Nat.le_refl _) (fun _ => rfl)) (Nat.le_add_right n 200))
  clear h3 k3 H2 K2 HB OK HF
  go_wp2_with fail
  go_ret2
  exact ⟨⟨_, rfl, by decide, fun e => absurd e (by decide)⟩, HR.out⟩

set_option maxHeartbeats 4000000 in
theorem do14_flush (h : Bo14 F a y wb rb n) (hn : n ≤ 400000) (at_ : Int) (data : ByteArray) : Calls Tryz.prog 13 #[.pointer (some ⟨wb, 0, none⟩), .pointer (some ⟨rb, 0, none⟩), .agg #[.int .i64 4, .int .i64 at_, .string data]] y fun e z => Says15 4 e ∧ Left14 F a y wb rb (n + 200) z := by
  obtain ⟨h0, s, r, h, ⟨T, ok, om⟩, hdk⟩ := h
  have hb : Below y.heap.size y (y.alloc (.cells #[.int .i64 4, .int .i64 at_, .string data] 35)) := below1 _ _
  have h1 := h.beside hb
  have hB := Box.new y 35 #[.int .i64 4, .int .i64 at_, .string data]
  obtain ⟨W, hW⟩ : ∃ x, x = y.alloc (.cells #[.int .i64 4, .int .i64 at_, .string data] 35) := ⟨_, rfl⟩
  have b0 : (y.alloc (.cells #[.int .i64 4, .int .i64 at_, .string data] 35)).cell? ⟨y.heap.size, 0, none⟩ = some (.int .i64 4) := hB.cell 0
  have b1 : (y.alloc (.cells #[.int .i64 4, .int .i64 at_, .string data] 35)).cell? ⟨y.heap.size, 1, none⟩ = some (.int .i64 at_) := hB.cell 1
  have b2 : (y.alloc (.cells #[.int .i64 4, .int .i64 at_, .string data] 35)).cell? ⟨y.heap.size, 2, none⟩ = some (.string data) := hB.cell 2
  rw [← hW] at hb h1 hB
  obtain ⟨F1, hF1⟩ : ∃ F1 : Nat → Prop, F1 = fun j => F j ∨ (y.heap.size ≤ j ∧ j < W.heap.size) := ⟨_, rfl⟩
  have HF : Hid (∀ j, F j → F1 j) := fun j e => by rw [hF1]; exact Or.inl e
  have HOB : Hid (F1 y.heap.size) := by show F1 _; rw [hF1]; exact Or.inr ⟨Nat.le_refl _, hB.lt⟩
  rw [← hF1] at h1
  have HEW : Hid (ErrT W ∧ F1 1) := ⟨(Kept.of_below hb (fun _ => False)).cell h0.err id, HF.out _ h0.fe⟩
  have H0 := Lib.hid h0
  have HB := Lib.hid hb
  have HBX := Lib.hid hB
  have H1 := Lib.hid h1
  have OK := Lib.hid ok
  have OM := Lib.hid om
  have HDK : Hid (s.on a) := hdk
  have HN : Hid (n ≤ 400000) := hn
  clear h hb h1 hB hF1 ok om hdk hn h0
  clear HEW
  go_enter Tryz.func13, Tryz.ntmps13
  clear b1 b2 HOB HBX
  go_wp2_with fail
  rw [← hW]
  clear b0 hW
  obtain ⟨g1, g2⟩ := OK.out.flush
  have C := Lib.hid (two_flush H1.out (by have := OK.out.ops; have := HN.out; omega))
  have G1 := Lib.hid g1
  have HDK' : Hid (({ s with d := M.flushD s.d } : M.Wl).on a) := HDK.out.to rfl OK.out.flushF.1 HDK.out.2.2
  rcases g2 with g2 | g2
  · rw [g2] at C
    rw [if_pos g2] at G1
    rw [if_pos (show (0 : Int) = 0 from rfl)] at C
    have HMM : Hid (M.WM { s with d := M.flushD s.d, uns := false } { r with sure := true } T) := ⟨OM.out.fit.sure true, OM.out.seen, OM.out.same, OM.out.len, OM.out.nod, OM.out.act, OM.out.used, rfl⟩
    clear g1 g2 H1
    refine C.out.mono ?_
    rintro e z1 ⟨rfl, h2, k2⟩
    have K2 := Lib.hid k2
    obtain ⟨⟨v6, c6⟩, f6, HX⟩ := two_sure h2
    have HR := Lib.hid (left14 (n := n) H0.out HB.out HF.out HX.out.1 (K2.out.trans HX.out.2) G1.out HMM.out HDK'.out (by omega))
    clear h2 k2 K2 HB OK HF HX C
    go_wp2_with fail
    go_ret2
    exact ⟨⟨_, rfl, by decide, fun e => absurd e (by decide)⟩, HR.out⟩
  · rw [g2] at C
    rw [if_neg (by rw [g2]; decide)] at G1
    rw [if_neg (show ¬ (30 : Int) = 0 by decide)] at C
    have HMM := Lib.hid (OM.out.disk (M.flushD s.d))
    clear g1 g2 H1
    refine C.out.mono ?_
    rintro e z1 ⟨rfl, h2, k2⟩
    have HR := Lib.hid (left14 (n := n) H0.out HB.out HF.out h2 k2 G1.out HMM.out HDK'.out (by omega))
    clear h2 k2 HB OK HF C
    go_wp2_with fail
    go_ret2
    exact ⟨⟨_, rfl, by decide, fun _ => by decide⟩, HR.out⟩

set_option maxHeartbeats 4000000 in
theorem do14_check (h : Bo14 F a y wb rb n) (hn : n ≤ 400000) (at_ : Int) (data : ByteArray) : Calls Tryz.prog 13 #[.pointer (some ⟨wb, 0, none⟩), .pointer (some ⟨rb, 0, none⟩), .agg #[.int .i64 5, .int .i64 at_, .string data]] y fun e z => Says15 5 e ∧ Left14 F a y wb rb (n + 200) z := by
  obtain ⟨h0, s, r, h, ⟨T, ok, om⟩, hdk⟩ := h
  have hb : Below y.heap.size y (y.alloc (.cells #[.int .i64 5, .int .i64 at_, .string data] 35)) := below1 _ _
  have h1 := h.beside hb
  have hB := Box.new y 35 #[.int .i64 5, .int .i64 at_, .string data]
  obtain ⟨W, hW⟩ : ∃ x, x = y.alloc (.cells #[.int .i64 5, .int .i64 at_, .string data] 35) := ⟨_, rfl⟩
  have b0 : (y.alloc (.cells #[.int .i64 5, .int .i64 at_, .string data] 35)).cell? ⟨y.heap.size, 0, none⟩ = some (.int .i64 5) := hB.cell 0
  have b1 : (y.alloc (.cells #[.int .i64 5, .int .i64 at_, .string data] 35)).cell? ⟨y.heap.size, 1, none⟩ = some (.int .i64 at_) := hB.cell 1
  have b2 : (y.alloc (.cells #[.int .i64 5, .int .i64 at_, .string data] 35)).cell? ⟨y.heap.size, 2, none⟩ = some (.string data) := hB.cell 2
  rw [← hW] at hb h1 hB
  obtain ⟨F1, hF1⟩ : ∃ F1 : Nat → Prop, F1 = fun j => F j ∨ (y.heap.size ≤ j ∧ j < W.heap.size) := ⟨_, rfl⟩
  have HF : Hid (∀ j, F j → F1 j) := fun j e => by rw [hF1]; exact Or.inl e
  have HOB : Hid (F1 y.heap.size) := by show F1 _; rw [hF1]; exact Or.inr ⟨Nat.le_refl _, hB.lt⟩
  rw [← hF1] at h1
  have HEW : Hid (ErrT W ∧ F1 1) := ⟨(Kept.of_below hb (fun _ => False)).cell h0.err id, HF.out _ h0.fe⟩
  have H0 := Lib.hid h0
  have HB := Lib.hid hb
  have HBX := Lib.hid hB
  have H1 := Lib.hid h1
  have OK := Lib.hid ok
  have OM := Lib.hid om
  have HDK : Hid (s.on a) := hdk
  have HN : Hid (n ≤ 400000) := hn
  clear h hb h1 hB hF1 ok om hdk hn h0
  go_enter Tryz.func13, Tryz.ntmps13
  clear b1 b2 HOB HBX
  go_wp2_with fail
  rw [← hW]
  clear b0 hW
  obtain ⟨lk, R, hlk, hfit, hR, hC⟩ := two_check H1.out OK.out (by have := HN.out; omega) HEW.out.1 HEW.out.2
  have hck := OK.out.check (by have := HN.out; omega) H1.out.rising.2 hlk hfit hR
  have C := Lib.hid hC
  clear hlk hfit hR hC H1
  rcases hck with ⟨g2, g1, g3⟩ | ⟨g2, g1, g3⟩
  · rw [g2, if_pos rfl] at C
    have G1 := Lib.hid g1
    have HDK' : Hid (({ s with d := R.2 } : M.Wl).on a) := HDK.out.to rfl g3 HDK.out.2.2
    have HMM : Hid (M.WM ⟨s.gen + 1, s.seq, s.pl, 0, s.act, false, R.2, s.l, [], s.dk⟩ { ({ r with sure := true } : M.W) with used := 0 } T) := ⟨⟨OM.out.fit.seen, OM.out.fit.fr, OM.out.fit.mn, by show 0 + 2 ≤ 24; omega⟩, OM.out.seen, OM.out.same, OM.out.len, OM.out.nod, OM.out.act, rfl, rfl⟩
    clear g1 g2 g3
    refine C.out.mono ?_
    rintro e z1 ⟨rfl, h2, k2⟩
    have K2 := Lib.hid k2
    obtain ⟨⟨v6, c6⟩, f6, HX⟩ := two_sure h2
    obtain ⟨⟨v5, c5⟩, f5, HY⟩ := two_used HX.out.1
    have HR := Lib.hid (left14 (n := n) H0.out HB.out HF.out HY.out.1 (K2.out.trans (HX.out.2.trans HY.out.2)) G1.out HMM.out HDK'.out (by omega))
    clear h2 k2 K2 HB OK HF HX HY C
    go_wp2_with fail
    go_ret2
    exact ⟨⟨_, rfl, by decide, fun e => absurd e (by decide)⟩, HR.out⟩
  · rw [g2, if_neg (by decide)] at C
    have HMM := Lib.hid (OM.out.disk R.2)
    have G1 := Lib.hid g1
    have HDK' : Hid (({ s with d := R.2 } : M.Wl).on a) := HDK.out.to rfl (Nat.le_of_lt g3) HDK.out.2.2
    clear g1 g2 g3
    refine C.out.mono ?_
    rintro e z1 ⟨rfl, h2, k2⟩
    have HR := Lib.hid (left14 (n := n) H0.out HB.out HF.out h2 k2 G1.out HMM.out HDK'.out (by omega))
    clear h2 k2 HB OK HF C
    go_wp2_with fail
    go_ret2
    exact ⟨⟨_, rfl, by decide, fun _ => by decide⟩, HR.out⟩

set_option maxHeartbeats 4000000 in
theorem do14_none (k : Int) (k0 : k ≠ 0) (k1 : k ≠ 1) (k2 : k ≠ 2) (k3 : k ≠ 3) (k4 : k ≠ 4) (k5 : k ≠ 5) (h : Bo14 F a y wb rb n) (hn : n ≤ 400000) (at_ : Int) (data : ByteArray) : Calls Tryz.prog 13 #[.pointer (some ⟨wb, 0, none⟩), .pointer (some ⟨rb, 0, none⟩), .agg #[.int .i64 k, .int .i64 at_, .string data]] y fun e z => Says15 k e ∧ Left14 F a y wb rb (n + 200) z := by
  obtain ⟨h0, s, r, h, ⟨T, ok, om⟩, hdk⟩ := h
  have hb : Below y.heap.size y (y.alloc (.cells #[.int .i64 k, .int .i64 at_, .string data] 35)) := below1 _ _
  have h1 := h.beside hb
  have hB := Box.new y 35 #[.int .i64 k, .int .i64 at_, .string data]
  obtain ⟨W, hW⟩ : ∃ x, x = y.alloc (.cells #[.int .i64 k, .int .i64 at_, .string data] 35) := ⟨_, rfl⟩
  have b0 : (y.alloc (.cells #[.int .i64 k, .int .i64 at_, .string data] 35)).cell? ⟨y.heap.size, 0, none⟩ = some (.int .i64 k) := hB.cell 0
  have b1 : (y.alloc (.cells #[.int .i64 k, .int .i64 at_, .string data] 35)).cell? ⟨y.heap.size, 1, none⟩ = some (.int .i64 at_) := hB.cell 1
  have b2 : (y.alloc (.cells #[.int .i64 k, .int .i64 at_, .string data] 35)).cell? ⟨y.heap.size, 2, none⟩ = some (.string data) := hB.cell 2
  rw [← hW] at hb h1 hB
  obtain ⟨F1, hF1⟩ : ∃ F1 : Nat → Prop, F1 = fun j => F j ∨ (y.heap.size ≤ j ∧ j < W.heap.size) := ⟨_, rfl⟩
  have HF : Hid (∀ j, F j → F1 j) := fun j e => by rw [hF1]; exact Or.inl e
  have HOB : Hid (F1 y.heap.size) := by show F1 _; rw [hF1]; exact Or.inr ⟨Nat.le_refl _, hB.lt⟩
  rw [← hF1] at h1
  have HEW : Hid (ErrT W ∧ F1 1) := ⟨(Kept.of_below hb (fun _ => False)).cell h0.err id, HF.out _ h0.fe⟩
  have H0 := Lib.hid h0
  have HB := Lib.hid hb
  have HBX := Lib.hid hB
  have H1 := Lib.hid h1
  have OK := Lib.hid ok
  have OM := Lib.hid om
  have HDK : Hid (s.on a) := hdk
  have HN : Hid (n ≤ 400000) := hn
  clear h hb h1 hB hF1 ok om hdk hn h0
  clear HEW
  go_enter Tryz.func13, Tryz.ntmps13
  have q0 : (k == 0) = false := by rw [beq_eq_false_iff_ne]; exact k0
  have q1 : (k == 1) = false := by rw [beq_eq_false_iff_ne]; exact k1
  have q2 : (k == 2) = false := by rw [beq_eq_false_iff_ne]; exact k2
  have q3 : (k == 3) = false := by rw [beq_eq_false_iff_ne]; exact k3
  have q4 : (k == 4) = false := by rw [beq_eq_false_iff_ne]; exact k4
  have q5 : (k == 5) = false := by rw [beq_eq_false_iff_ne]; exact k5
  clear b1 b2 HOB HBX
  have HR := Lib.hid (left14 (n := n) H0.out HB.out HF.out H1.out (Kept.refl _ W) OK.out OM.out HDK.out (Nat.le_add_right n 200))
  go_wp2_with fail
  rw [← hW]
  go_ret2
  exact ⟨⟨_, rfl, by decide, fun e => absurd e (by decide)⟩, HR.out⟩

/-- Whatever the step is. -/
theorem do14_any (h : Bo14 F a y wb rb n) (hn : n ≤ 400000) (k at_ : Int) (data : ByteArray) (hw : (Lit.int .i64 at_).wf = true) : Calls Tryz.prog 13 #[.pointer (some ⟨wb, 0, none⟩), .pointer (some ⟨rb, 0, none⟩), .agg #[.int .i64 k, .int .i64 at_, .string data]] y fun e z => Says15 k e ∧ Left14 F a y wb rb (n + 200) z := by
  by_cases k0 : k = 0
  · subst k0; exact do14_begin h hn at_ data
  by_cases k1 : k = 1
  · subst k1; exact do14_stage h hn at_ data hw
  by_cases k2 : k = 2
  · subst k2; exact do14_commit h hn at_ data
  by_cases k3 : k = 3
  · subst k3; exact do14_abort h hn at_ data
  by_cases k4 : k = 4
  · subst k4; exact do14_flush h hn at_ data
  by_cases k5 : k = 5
  · subst k5; exact do14_check h hn at_ data
  exact do14_none k k0 k1 k2 k3 k4 k5 h hn at_ data
end
end Go.Proofs.YtigmcnnplnfakaaGreatDoor
