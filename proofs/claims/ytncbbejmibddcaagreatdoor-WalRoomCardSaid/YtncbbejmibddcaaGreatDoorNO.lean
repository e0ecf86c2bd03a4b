/-
  Walks over wal's small calls: Begin, Active, Abort, Read, Flush, Sure, Room, Stage; and of nil.
-/
import Derived.Test.YtncbbejmibddcaaGreatDoorNN
import Derived.Test.YtncbbejmibddcaaGreatDoorND
import Derived.Test.YtncbbejmibddcaaGreatDoorNI
import Derived.Test.YtncbbejmibddcaaGreatDoorME
namespace Go.Proofs.YtncbbejmibddcaaGreatDoor
open Go.RowKit Go.Maps

section
variable {w : World} {b fr mn : Nat} {P : Nat → Prop} {s : M.Wl}
theorem begin14_nil (w : World) : Calls Tryz.prog 26 #[.pointer none] w fun e w' => e = .returned (.int .i64 10) ∧ w' = w := by
  go_enter Tryz.func26, Tryz.ntmps26
  go_wp2_with fail
  go_ret
  exact ⟨rfl, rfl⟩
theorem active14_nil (w : World) : Calls Tryz.prog 16 #[.pointer none] w fun e w' => e = .returned (.bool false) ∧ w' = w := by
  go_enter Tryz.func16, Tryz.ntmps16
  go_wp2_with fail
  go_ret
  exact ⟨rfl, rfl⟩
theorem sure14_nil (w : World) : Calls Tryz.prog 17 #[.pointer none] w fun e w' => e = .returned (.bool false) ∧ w' = w := by
  go_enter Tryz.func17, Tryz.ntmps17
  go_wp2_with fail
  go_ret
  exact ⟨rfl, rfl⟩
theorem room14_nil (w : World) : Calls Tryz.prog 18 #[.pointer none] w fun e w' => e = .returned (.int .i64 0) ∧ w' = w := by
  go_enter Tryz.func18, Tryz.ntmps18
  go_wp2_with fail
  go_ret
  exact ⟨rfl, rfl⟩
theorem flush14_nil (w : World) : Calls Tryz.prog 32 #[.pointer none] w fun e w' => e = .returned (.int .i64 10) ∧ w' = w := by
  go_enter Tryz.func32, Tryz.ntmps32
  go_wp2_with fail
  go_ret
  exact ⟨rfl, rfl⟩
theorem checkpoint14_nil (w : World) : Calls Tryz.prog 25 #[.pointer none] w fun e w' => e = .returned (.int .i64 10) ∧ w' = w := by
  go_enter Tryz.func25, Tryz.ntmps25
  go_wp2_with fail
  go_ret
  exact ⟨rfl, rfl⟩
theorem abort14_nil (w : World) : Calls Tryz.prog 24 #[.pointer none] w fun e w' => e = .returned (.tuple #[]) ∧ w' = w := by
  go_enter Tryz.func24, Tryz.ntmps24
  go_wp2_with fail
  go_end0
  exact ⟨rfl, rfl⟩
theorem read14_nil (i : Int) (w : World) : Calls Tryz.prog 14 #[.pointer none, .int .i64 i] w fun e w' => e = .returned (.tuple #[.string ⟨#[]⟩, .int .i64 10]) ∧ w' = w := by
  go_enter Tryz.func14, Tryz.ntmps14
  go_wp2_with fail
  go_ret2
  exact ⟨rfl, rfl⟩
theorem stage14_nil (i : Int) (s : ByteArray) (w : World) : Calls Tryz.prog 27 #[.pointer none, .int .i64 i, .string s] w fun e w' => e = .returned (.int .i64 10) ∧ w' = w := by
  go_enter Tryz.func27, Tryz.ntmps27
  go_wp2_with fail
  refine (active14_nil w).mono ?_
  rintro e w1 ⟨rfl, rfl⟩
  go_wp2_with fail
  go_ret
  exact ⟨rfl, rfl⟩
theorem commit14_nil (w : World) : Calls Tryz.prog 29 #[.pointer none] w fun e w' => e = .returned (.int .i64 10) ∧ w' = w := by
  go_enter Tryz.func29, Tryz.ntmps29
  go_wp2_with fail
  refine (active14_nil w).mono ?_
  rintro e w1 ⟨rfl, rfl⟩
  go_wp2_with fail
  go_ret
  exact ⟨rfl, rfl⟩

theorem WalM.c8 {a ra rr sb : Nat} {PD PS : Nat → Prop} (h : WalM w b a ra rr sb PD PS fr mn s) : w.cell? ⟨b, 8, none⟩ = some (.bool s.act) := h.box.cell 8
theorem WalM.c9 {a ra rr sb : Nat} {PD PS : Nat → Prop} (h : WalM w b a ra rr sb PD PS fr mn s) : w.cell? ⟨b, 9, none⟩ = some (.bool s.uns) := h.box.cell 9
theorem WalM.c10 {a ra rr sb : Nat} {PD PS : Nat → Prop} (h : WalM w b a ra rr sb PD PS fr mn s) : w.cell? ⟨b, 10, none⟩ = some (.pointer (some ⟨sb, 0, none⟩)) := h.box.cell 10
theorem WalM.c0 {a ra rr sb : Nat} {PD PS : Nat → Prop} (h : WalM w b a ra rr sb PD PS fr mn s) : w.cell? ⟨b, 0, none⟩ = some (.pointer (some ⟨a, 0, none⟩)) := h.box.cell 0
theorem WalM.c1 {a ra rr sb : Nat} {PD PS : Nat → Prop} (h : WalM w b a ra rr sb PD PS fr mn s) : w.cell? ⟨b, 1, none⟩ = some (.int .i64 (fr : Nat)) := h.box.cell 1
theorem WalM.c2 {a ra rr sb : Nat} {PD PS : Nat → Prop} (h : WalM w b a ra rr sb PD PS fr mn s) : w.cell? ⟨b, 2, none⟩ = some (.pointer (some ⟨ra, 0, none⟩)) := h.box.cell 2
theorem WalM.c3 {a ra rr sb : Nat} {PD PS : Nat → Prop} (h : WalM w b a ra rr sb PD PS fr mn s) : w.cell? ⟨b, 3, none⟩ = some (.pointer (some ⟨rr, 0, none⟩)) := h.box.cell 3
theorem WalM.c4 {a ra rr sb : Nat} {PD PS : Nat → Prop} (h : WalM w b a ra rr sb PD PS fr mn s) : w.cell? ⟨b, 4, none⟩ = some (.int .i64 (s.gen : Nat)) := h.box.cell 4
theorem WalM.c5 {a ra rr sb : Nat} {PD PS : Nat → Prop} (h : WalM w b a ra rr sb PD PS fr mn s) : w.cell? ⟨b, 5, none⟩ = some (.int .i64 (s.seq : Nat)) := h.box.cell 5
theorem WalM.c6 {a ra rr sb : Nat} {PD PS : Nat → Prop} (h : WalM w b a ra rr sb PD PS fr mn s) : w.cell? ⟨b, 6, none⟩ = some (.int .i64 (s.pl : Nat)) := h.box.cell 6
theorem WalM.c7 {a ra rr sb : Nat} {PD PS : Nat → Prop} (h : WalM w b a ra rr sb PD PS fr mn s) : w.cell? ⟨b, 7, none⟩ = some (.int .i64 (s.used : Nat)) := h.box.cell 7
theorem WalM.fz {a ra rr sb : Nat} {PD PS : Nat → Prop} (h : WalM w b a ra rr sb PD PS fr mn s) (i : Nat) : w.frozen? ⟨b, i, none⟩ = false := h.box.frozen i

theorem active14_any (h : Wal w b P fr mn s) : Calls Tryz.prog 16 #[.pointer (some ⟨b, 0, none⟩)] w fun e w' => e = .returned (.bool s.act) ∧ w' = w := by
  obtain ⟨a, ra, rr, sb, PD, PS, h, -, -, -, -, -⟩ := h
  have c8 := h.c8
  clear h
  go_enter Tryz.func16, Tryz.ntmps16
  go_wp2_with fail
  go_ret
  exact ⟨rfl, rfl⟩
theorem sure14_any (h : Wal w b P fr mn s) : Calls Tryz.prog 17 #[.pointer (some ⟨b, 0, none⟩)] w fun e w' => e = .returned (.bool (!s.uns)) ∧ w' = w := by
  obtain ⟨a, ra, rr, sb, PD, PS, h, -, -, -, -, -⟩ := h
  have c9 := h.c9
  clear h
  go_enter Tryz.func17, Tryz.ntmps17
  go_wp2_with fail
  go_ret
  exact ⟨rfl, rfl⟩
theorem room14_any (h : Wal w b P fr mn s) (hu : s.used ≤ 1000000) (hm : mn ≤ 1000) : Calls Tryz.prog 18 #[.pointer (some ⟨b, 0, none⟩)] w fun e w' => e = .returned (.int .i64 (((mn - 2 : Nat) : Int) - (s.used : Nat))) ∧ ∃ n, w' = w.drewN n := by
  obtain ⟨a, ra, rr, sb, PD, PS, h, -, -, -, -, -⟩ := h
  have c3 := h.c3
  have c7 := h.c7
  have HM : Hid (∀ n, Calls Tryz.prog 46 #[.pointer (some ⟨rr, 0, none⟩)] (w.drewN n) fun e w' => e = .returned (.int .i64 ((mn - 2 : Nat) : Int)) ∧ w' = w.drewN n) := fun n => many_any _ (h.recs.kept ((Kept.refl (fun _ => False) w).drewN n) id)
  obtain ⟨m, hm2⟩ : ∃ x, x = mn - 2 := ⟨_, rfl⟩
  obtain ⟨u, hu2⟩ : ∃ x, x = s.used := ⟨_, rfl⟩
  rw [← hm2] at HM ⊢
  rw [← hu2] at c7 hu ⊢
  have b1 : (m : Int) ≤ 1000 := by omega
  have b2 : (u : Int) ≤ 1000000 := by omega
  have b3 : (0 : Int) ≤ (m : Int) := by omega
  have b4 : (0 : Int) ≤ (u : Int) := by omega
  clear h hm hm2 hu2 hu
  go_enter Tryz.func18, Tryz.ntmps18
  go_wp2_with fail
  go_quiet ((go_at_call 46; exact quiet_same (HM.out _)))
  go_wp2_with fail
  go_ret
  exact ⟨by simp, _, rfl⟩
theorem begin14_any (h : Wal w b P fr mn s) : Calls Tryz.prog 26 #[.pointer (some ⟨b, 0, none⟩)] w fun e w' => e = .returned (.int .i64 (if s.act = true then 10 else 0)) ∧ Wal w' b P fr mn { s with act := true } ∧ Kept P w w' := by
  obtain ⟨a, ra, rr, sb, PD, PS, h, h1, h2, h3, h4, h5⟩ := h
  have c8 := h.c8
  have f8 := h.fz 8
  have HH : Hid (Wal (w.setCell ⟨b, 8, none⟩ (.bool true)) b P fr mn { s with act := true } ∧ Kept P w (w.setCell ⟨b, 8, none⟩ (.bool true))) := ⟨⟨a, ra, rr, sb, PD, PS, h.setAct true, h1, h2, h3, h4, h5⟩, Kept.set (Kept.refl P w) (fun _ => h1) 8 _⟩
  have HS : Hid (s.act = true → Wal w b P fr mn { s with act := true }) := fun e => ⟨a, ra, rr, sb, PD, PS, by rw [show { s with act := true } = s by rw [← e]]; exact h, h1, h2, h3, h4, h5⟩
  clear h h1 h2 h3 h4 h5
  cases ha : s.act with
  | true =>
    rw [ha] at c8
    have HS2 := Lib.hid (HS.out ha)
    clear ha HS HH
    go_enter Tryz.func26, Tryz.ntmps26
    go_wp2_with fail
    go_ret
    exact ⟨rfl, HS2.out, Kept.refl _ _⟩
  | false =>
    rw [ha] at c8
    clear ha HS
    go_enter Tryz.func26, Tryz.ntmps26
    go_wp2_with fail
    go_ret
    exact ⟨rfl, HH.out⟩
theorem abort14_any (h : Wal w b P fr mn s) : Calls Tryz.prog 24 #[.pointer (some ⟨b, 0, none⟩)] w fun e w' => e = .returned (.tuple #[]) ∧ Wal w' b (fun j => P j ∨ w.heap.size ≤ j) fr mn { s with act := false, l := [] } ∧ Kept P w w' := by
  obtain ⟨a, ra, rr, sb, PD, PS, h, h1, h2, h3, h4, h5⟩ := h
  have c10 := h.c10
  have C1 := Lib.hid (Q.back_any w h.sh)
  have HN : Hid (∀ y, Sh 115 y sb PS [] s.k → Kept PS w y → WalM y b a ra rr sb PD (fun j => (PS j ∨ w.heap.size ≤ j) ∧ j < y.heap.size) fr mn { s with l := [], k := s.k }) := fun y hs hk => h.sh' (hs.mono (fun _ _ e => Or.inl e)) hk
  have HF : Hid (∀ y z, Kept PS w y → Kept (fun j => j = b) y z → WalM z b a ra rr sb PD (fun j => (PS j ∨ w.heap.size ≤ j) ∧ j < y.heap.size) fr mn { s with act := false, l := [] } → Wal z b (fun j => P j ∨ w.heap.size ≤ j) fr mn { s with act := false, l := [] } ∧ Kept P w z) := by
    intro y z hk hk2 hm
    exact ⟨hm.out h (fun _ e => Or.inl e) (fun j e => e.1) h1 h2 h3 h4 h5, (hk.mono (fun j _ e => h5 j e)).next hk2 (fun j _ e => by rw [e]; exact h1)⟩
  clear h h1 h2 h3 h4 h5
  go_enter Tryz.func24, Tryz.ntmps24
  go_wp2_with fail
  refine C1.out.mono ?_
  rintro e w1 ⟨rfl, hs1, hk1⟩
  have hM := HN.out w1 hs1 hk1
  have c8 := hM.c8
  have f8 := hM.fz 8
  have HR := Lib.hid (HF.out w1 _ hk1 ((Kept.refl (fun j => j = b) w1).set (fun _ => rfl) 8 (.bool false)) (hM.setAct false))
  clear hs1 hk1 hM HN HF C1 c10
  go_wp2_with fail
  go_end0
  exact ⟨rfl, HR.out⟩

theorem flush15_any (h : Wal w b P fr mn s) (ho : s.d.ops ≤ 1000000000) : Calls Tryz.prog 32 #[.pointer (some ⟨b, 0, none⟩)] w fun e w' => e = .returned (.int .i64 (M.beginE s.d)) ∧ Wal w' b (fun j => P j ∨ w.heap.size ≤ j) fr mn { s with d := M.flushD s.d, uns := if M.beginE s.d = 0 then false else s.uns } ∧ Kept P w w' := by
  obtain ⟨a, ra, rr, sb, PD, PS, h, h1, h2, h3, h4, h5⟩ := h
  have c0 := h.c0
  have C1 := Lib.hid (flush14_any w h.disk (by omega))
  have HN : Hid (∀ y, Disk y a (M.plus PD w.heap.size) (M.flushD s.d) → Kept PD w y → WalM y b a ra rr sb (fun j => (PD j ∨ w.heap.size ≤ j) ∧ j < y.heap.size) PS fr mn { s with d := M.flushD s.d }) := fun y hs hk => h.disk' hs hk
  have HF : Hid (∀ y z s', Kept PD w y → Kept (fun j => j = b) y z → WalM z b a ra rr sb (fun j => (PD j ∨ w.heap.size ≤ j) ∧ j < y.heap.size) PS fr mn s' → Wal z b (fun j => P j ∨ w.heap.size ≤ j) fr mn s' ∧ Kept P w z) := by
    intro y z s' hk hk2 hm
    exact ⟨hm.out h (fun j e => e.1) (fun _ e => Or.inl e) h1 h2 h3 h4 h5, (hk.mono (fun j _ e => h4 j e)).next hk2 (fun j _ e => by rw [e]; exact h1)⟩
  clear h h1 h2 h3 h4 h5 ho
  by_cases hE : M.beginE s.d = 0
  · rw [hE] at C1
    rw [hE, if_pos rfl]
    clear hE
    go_enter Tryz.func32, Tryz.ntmps32
    go_wp2_with fail
    refine C1.out.mono ?_
    rintro e w1 ⟨rfl, hs1, hk1⟩
    have hM := HN.out w1 hs1 hk1
    have c9 := hM.c9
    have f9 := hM.fz 9
    have HR := Lib.hid (HF.out w1 _ _ hk1 ((Kept.refl (fun j => j = b) w1).set (fun _ => rfl) 9 (.bool false)) (hM.setUns false))
    clear hs1 hk1 hM HN HF C1 c0
    go_wp2_with fail
    go_ret
    exact ⟨rfl, HR.out⟩
  · obtain ⟨E, hEE⟩ : ∃ E, E = M.beginE s.d := ⟨_, rfl⟩
    rw [if_neg hE]
    rw [← hEE] at C1 hE ⊢
    have hE' : (E == 0) = false := by rw [beq_eq_false_iff_ne]; exact hE
    clear hE hEE
    go_enter Tryz.func32, Tryz.ntmps32
    go_wp2_with fail
    refine C1.out.mono ?_
    rintro e w1 ⟨rfl, hs1, hk1⟩
    have hM := HN.out w1 hs1 hk1
    have HR := Lib.hid (HF.out w1 _ _ hk1 (Kept.refl (fun j => j = b) w1) hM)
    clear hs1 hk1 hM HN HF C1 c0
    go_wp2_with fail
    go_ret
    exact ⟨rfl, HR.out⟩

theorem read14_found (h : Wal w b P fr mn s) (i : Int) (t : ByteArray) (hw : (Lit.int .i64 i).wf = true) (hg : M.get13 i s.l s.k = some (.string t)) : Calls Tryz.prog 14 #[.pointer (some ⟨b, 0, none⟩), .int .i64 i] w fun e w' => e = .returned (.tuple #[.string t, .int .i64 0]) ∧ w' = w := by
  obtain ⟨a, ra, rr, sb, PD, PS, h, -, -, -, -, -⟩ := h
  have c10 := h.c10
  have C1 := Lib.hid (Q.get13_any w h.sh i hw)
  rw [hg] at C1
  clear h hw hg
  go_enter Tryz.func14, Tryz.ntmps14
  go_wp2_with fail
  refine C1.out.mono ?_
  rintro e w1 ⟨rfl, rfl⟩
  go_wp2_with fail
  go_ret2
  exact ⟨rfl, rfl⟩
end
end Go.Proofs.YtncbbejmibddcaaGreatDoor
