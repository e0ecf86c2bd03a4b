/-
  The steps of wal.Format and wal.moveOn as function values; a disk beside what stands apart.
-/
import Derived.Test.YtmgchfjfkdkaoaaGreatDoorNB
import Derived.Test.YtmgchfjfkdkaoaaGreatDoorMH
import Derived.Test.YtmgchfjfkdkaoaaGreatDoorMA
namespace Go.Proofs.YtmgchfjfkdkaoaaGreatDoor
open Go.RowKit

section
variable {y0 y y' : World} {a : Nat} {P F : Nat → Prop} {d d' : M.D}
/-- A call that is known for whatever blocks the disk has. -/
theorem One.call {f : FuncId} {args : Array Value} {v : Value} (h : One y0 y a P F d) (C : ∀ Q, (∀ k, Q k → k < y.heap.size ∧ ¬ F k) → Disk y a Q d → Calls Tryz.prog f args y fun e y' => e = .returned v ∧ Disk y' a (M.plus Q y.heap.size) d' ∧ Kept Q y y') :
    Calls Tryz.prog f args y fun e y' => e = .returned v ∧ One y0 y' a P F d' ∧ Kept (fun k => ¬ F k) y y' := by
  obtain ⟨Q, hd, hQ, hF, hk⟩ := h
  refine (C Q (fun k e => ⟨(hQ k e).2.1, (hQ k e).1⟩) hd).mono ?_
  rintro e y' ⟨he, h1, h2⟩
  obtain ⟨h3, h4⟩ := One.step (P := P) (y0 := y0) hQ hF hk h1 h2
  exact ⟨he, h3, h4⟩
end

/-- Flush, in this form. -/
theorem flush14_any (w : World) {a : Nat} {P : Nat → Prop} {d : M.D} (h : Disk w a P d) (ho : d.ops ≤ 1099511627776) :
    Calls Tryz.prog 28 #[.pointer (some ⟨a, 0, none⟩)] w fun e w' => e = .returned (.int .i64 (M.beginE d)) ∧ Disk w' a (M.plus P w.heap.size) (M.flushD d) ∧ Kept P w w' :=
  (flush_any w h ho).mono fun _ _ ⟨h1, h2, h3⟩ => ⟨h1, h2.mono (fun _ _ e => Or.inl e), h3⟩

theorem zeros14_any (c : Nat) (hc : c ≤ 100000) (w : World) : Calls Tryz.prog 46 #[.string ⟨#[0]⟩, .int .i64 (c : Nat)] w fun e w' => e = .returned (.string (M.zeros c)) ∧ Below w.heap.size w w' := by
  have h := Tryz.strings_Repeat ⟨#[0]⟩ c w (by omega) (by show 1 * c ≤ _; omega)
  rw [M.repeat_zero] at h
  exact h
/-- Blank sectors. -/
theorem blank14_any (n : Nat) (hn : n ≤ 1000) (w : World) : Calls Tryz.prog 54 #[.int .i64 (n : Nat)] w fun e w' => e = .returned (.string (M.zeros (64 * n))) ∧ Below w.heap.size w w' := by
  have C := Lib.hid (fun y => zeros14_any (64 * n) (by omega) y)
  have e1 : (n : Int) * 64 = ((64 * n : Nat) : Int) := by omega
  have h1 : (0 : Int) ≤ (n : Int) ∧ (n : Int) ≤ 1000 := by omega
  obtain ⟨z, hz⟩ : ∃ z, z = 64 * n := ⟨_, rfl⟩
  obtain ⟨s, hs⟩ : ∃ s, s = M.zeros (64 * n) := ⟨_, rfl⟩
  rw [← hs] at C ⊢
  rw [← hz] at C e1
  clear hs hz hn
  go_enter Tryz.func54, Tryz.ntmps54
  go_wp2_with fail
  refine (C.out _).mono ?_
  rintro e w1 ⟨rfl, hb⟩
  have HB := Lib.hid hb
  clear hb C
  go_wp2_with fail
  go_ret
  exact ⟨rfl, HB.out⟩
theorem blank1_any (w : World) : Calls Tryz.prog 54 #[.int .i64 1] w fun e w' => e = .returned (.string (M.zeros 64)) ∧ Below w.heap.size w w' := blank14_any 1 (by omega) w
/-- A write into a region, some time later. -/
theorem gwrite_late {w y : World} (hb : Below w.heap.size w y) (i : Int) (s : ByteArray) {rb a fr mn : Nat} {P : Nat → Prop} {d : M.D} (h : Disk w a P d) (hr : Reg w rb a fr mn) (hp : ¬ P rb) (hi : i ≤ 9223372036854775807) (hsz : s.size ≤ 1000000000) (hf : fr ≤ 1000) (hmn : mn ≤ 1000) (ho : d.ops ≤ 1000000000) :
    Calls Tryz.prog 53 #[.pointer (some ⟨rb, 0, none⟩), .int .i64 i, .string s] y fun e w' => e = .returned (.int .i64 (M.gwrite d fr mn i s).1) ∧ Disk w' a (M.plus P w.heap.size) (M.gwrite d fr mn i s).2 ∧ Kept P w w' ∧ Kept P y w' :=
  (gwrite_any i s y (h.beside hb) (hr.beside hb) hp hi hsz hf hmn ho).mono fun _ _ ⟨h1, h2, h3⟩ => ⟨h1, h2.mono (fun _ _ e => e.imp id (fun e => Nat.le_trans hb.size e)), (Kept.of_below hb P).trans h3, h3⟩

set_option maxHeartbeats 1000000 in
theorem format1_any (lb : Nat) (w : World) {a fr ra rr mn : Nat} {P : Nat → Prop} {d : M.D} (h : Disk w a P d) (hL : LogB w lb a fr ra rr) (hr : Reg w ra a fr mn) (hp : ¬ P ra) (hf : fr ≤ 1000) (hmn : mn ≤ 1000) (ho : d.ops ≤ 100000000) :
    Calls Tryz.prog 50 #[.pointer (some ⟨lb, 0, none⟩)] w fun e w' => e = .returned (.int .i64 (M.headW d fr mn 281474976710655 0 0).1) ∧ Disk w' a (M.plus P w.heap.size) (M.headW d fr mn 281474976710655 0 0).2 ∧ Kept P w w' := by
  have C1 := Lib.hid (putHead_any 281474976710655 0 0 ((M.hmay_iff _).2 (by refine ⟨⟨?_, ?_⟩, ⟨?_, ?_⟩, ?_, ?_⟩ <;> simp)) w h hr hp hf hmn ho (rr := rr))
  unfold M.logv at C1
  obtain ⟨c0, c1, c2, c3⟩ := hL.cells
  clear h hL hr hp hf hmn ho
  go_enter Tryz.func50, Tryz.ntmps50
  go_wp2_with fail
  refine C1.out.mono ?_
  rintro e w1 ⟨rfl, h1, h2⟩
  go_wp2_with fail
  go_ret
  exact ⟨rfl, h1, h2⟩

set_option maxHeartbeats 1000000 in
theorem format2_any (lb : Nat) (w : World) {a fr ra rr mn : Nat} {P : Nat → Prop} {d : M.D} (h : Disk w a P d) (hL : LogB w lb a fr ra rr) (hpl : ¬ P lb) (hr : Reg w ra a fr mn) (hp : ¬ P ra) (hf : fr ≤ 1000) (hmn : mn ≤ 1000) (ho : d.ops ≤ 100000000) :
    Calls Tryz.prog 52 #[.pointer (some ⟨lb, 0, none⟩)] w fun e w' => e = .returned (.int .i64 (M.gwrite d fr mn 0 (M.zeros 64)).1) ∧ Disk w' a (M.plus P w.heap.size) (M.gwrite d fr mn 0 (M.zeros 64)).2 ∧ Kept P w w' := by
  have CB := Lib.hid (fun y => blank1_any y)
  have CW : Hid (∀ y, Below w.heap.size w y → Calls Tryz.prog 53 #[.pointer (some ⟨ra, 0, none⟩), .int .i64 0, .string (M.zeros 64)] y fun e w' => e = .returned (.int .i64 (M.gwrite d fr mn 0 (M.zeros 64)).1) ∧ Disk w' a (M.plus P w.heap.size) (M.gwrite d fr mn 0 (M.zeros 64)).2 ∧ Kept P w w' ∧ Kept P y w') :=
    fun y hb => gwrite_late hb 0 (M.zeros 64) h hr hp (by omega) (by rw [M.zeros_size]; omega) hf hmn (by omega)
  have HC : Hid (∀ y, Below w.heap.size w y → y.cell? ⟨lb, 2, none⟩ = some (.pointer (some ⟨ra, 0, none⟩))) := fun y hy => (hL.below hy hL.lt).cells.2.2.1
  have HK : Hid (∀ y, Kept P w y → y.cell? ⟨lb, 2, none⟩ = some (.pointer (some ⟨ra, 0, none⟩))) := fun y hy => hy.cell hL.cells.2.2.1 hpl
  have HBD : Hid (Below w.heap.size w (w.drewN 1)) := below_drewN (Below.refl _ _) 1
  have c2 := HC.out w (Below.refl _ _)
  obtain ⟨s, hs⟩ : ∃ s, s = M.zeros 64 := ⟨_, rfl⟩
  rw [← hs] at CB CW ⊢
  clear h hL hr hp hf hmn ho hpl hs
  go_enter Tryz.func52, Tryz.ntmps52
  go_wp2_with fail
  go_region_held3 (fun y => y.cell? ⟨lb, 2, none⟩ = some (.pointer (some ⟨ra, 0, none⟩))) (first | exact HK.out _ k2 | exact HC.out _ hbS | exact HC.out _ HBD.out) (first
    | (go_at_call 54
       refine (CB.out _).mono ?_
       rintro e w1 ⟨rfl, hb1⟩
       have hbS : Below w.heap.size w w1 := HBD.out.trans (hb1.mono HBD.out.size))
    | (go_at_call 53
       refine (CW.out _ hbS).mono ?_
       rintro e w2 ⟨rfl, h2, k2, k3⟩))
  have HR := Lib.hid (And.intro h2 k2)
  clear h2 k2 k3 hb1 hbS CB CW HC HK
  go_wp2_with fail
  go_ret
  exact ⟨rfl, HR.out⟩

set_option maxHeartbeats 1000000 in
theorem format3_any (lb : Nat) (w : World) {a fr ra rr m2 : Nat} {P : Nat → Prop} {d : M.D} (h : Disk w a P d) (hL : LogB w lb a fr ra rr) (hpl : ¬ P lb) (hr : Reg w rr a (fr + 2) m2) (hp : ¬ P rr) (hf : fr + 2 ≤ 1000) (hmn : m2 ≤ 1000) (ho : d.ops ≤ 100000000) :
    Calls Tryz.prog 55 #[.pointer (some ⟨lb, 0, none⟩)] w fun e w' => e = .returned (.int .i64 (M.gwrite d (fr + 2) m2 0 (M.zeros (64 * m2))).1) ∧ Disk w' a (M.plus P w.heap.size) (M.gwrite d (fr + 2) m2 0 (M.zeros (64 * m2))).2 ∧ Kept P w w' := by
  have CB := Lib.hid (fun y => blank14_any m2 hmn y)
  have CM : Hid (∀ y, Below w.heap.size w y → Calls Tryz.prog 56 #[.pointer (some ⟨rr, 0, none⟩)] y fun e w' => e = .returned (.int .i64 (m2 : Nat)) ∧ w' = y) := fun y hb => many_any y (hr.beside hb)
  have CW : Hid (∀ y, Below w.heap.size w y → Calls Tryz.prog 53 #[.pointer (some ⟨rr, 0, none⟩), .int .i64 0, .string (M.zeros (64 * m2))] y fun e w' => e = .returned (.int .i64 (M.gwrite d (fr + 2) m2 0 (M.zeros (64 * m2))).1) ∧ Disk w' a (M.plus P w.heap.size) (M.gwrite d (fr + 2) m2 0 (M.zeros (64 * m2))).2 ∧ Kept P w w' ∧ Kept P y w') :=
    fun y hb => gwrite_late hb 0 (M.zeros (64 * m2)) h hr hp (by omega) (by rw [M.zeros_size]; omega) hf hmn (by omega)
  have HC : Hid (∀ y, Below w.heap.size w y → y.cell? ⟨lb, 3, none⟩ = some (.pointer (some ⟨rr, 0, none⟩))) := fun y hy => (hL.below hy hL.lt).cells.2.2.2
  have HK : Hid (∀ y, Kept P w y → y.cell? ⟨lb, 3, none⟩ = some (.pointer (some ⟨rr, 0, none⟩))) := fun y hy => hy.cell hL.cells.2.2.2 hpl
  have HBD : Hid (Below w.heap.size w (w.drewN 1)) := below_drewN (Below.refl _ _) 1
  have c3 := HC.out w (Below.refl _ _)
  obtain ⟨s, hs⟩ : ∃ s, s = M.zeros (64 * m2) := ⟨_, rfl⟩
  rw [← hs] at CB CW ⊢
  clear h hL hr hp hf hmn ho hpl hs
  go_enter Tryz.func55, Tryz.ntmps55
  go_wp2_with fail
  go_region_held3 (fun y => y.cell? ⟨lb, 3, none⟩ = some (.pointer (some ⟨rr, 0, none⟩))) (first | exact HK.out _ k2 | exact HC.out _ hbS | exact HC.out _ HBD.out) (first
    | (go_at_call 56
       refine (CM.out _ HBD.out).mono ?_
       rintro e w0 ⟨rfl, rfl⟩)
    | (go_at_call 54
       refine (CB.out _).mono ?_
       rintro e w1 ⟨rfl, hb1⟩
       have hbS : Below w.heap.size w w1 := HBD.out.trans (hb1.mono HBD.out.size))
    | (go_at_call 53
       refine (CW.out _ hbS).mono ?_
       rintro e w2 ⟨rfl, h2, k2, k3⟩))
  have HR := Lib.hid (And.intro h2 k2)
  clear h2 k2 k3 hb1 hbS CB CW CM HC HK
  go_wp2_with fail
  go_ret
  exact ⟨rfl, HR.out⟩

set_option maxHeartbeats 1000000 in
theorem format4_any (lb : Nat) (w : World) {a fr ra rr mn : Nat} {P : Nat → Prop} {d : M.D} (h : Disk w a P d) (hL : LogB w lb a fr ra rr) (hr : Reg w ra a fr mn) (hp : ¬ P ra) (hf : fr ≤ 1000) (hmn : mn ≤ 1000) (ho : d.ops ≤ 100000000) :
    Calls Tryz.prog 57 #[.pointer (some ⟨lb, 0, none⟩)] w fun e w' => e = .returned (.int .i64 (M.headW d fr mn 1 1 0).1) ∧ Disk w' a (M.plus P w.heap.size) (M.headW d fr mn 1 1 0).2 ∧ Kept P w w' := by
  have C1 := Lib.hid (putHead_any 1 1 0 (by decide) w h hr hp hf hmn ho (rr := rr))
  unfold M.logv at C1
  obtain ⟨c0, c1, c2, c3⟩ := hL.cells
  clear h hL hr hp hf hmn ho
  go_enter Tryz.func57, Tryz.ntmps57
  go_wp2_with fail
  refine C1.out.mono ?_
  rintro e w1 ⟨rfl, h1, h2⟩
  go_wp2_with fail
  go_ret
  exact ⟨rfl, h1, h2⟩

set_option maxHeartbeats 1000000 in
theorem ready1_any (lb hb g q k : Nat) (w : World) {a fr ra rr m2 : Nat} {P : Nat → Prop} {d : M.D} (h : Disk w a P d) (hL : LogB w lb a fr ra rr) (hpl : ¬ P lb) (hH : B3 w hb 73 (g : Nat) (q : Nat) (k : Nat)) (hph : ¬ P hb) (hr : Reg w rr a (fr + 2) m2) (hp : ¬ P rr) (hf : fr + 2 ≤ 1000) (hmn : m2 ≤ 1000) (hk : k ≤ 1000) (ho : d.ops ≤ 100000000) :
    Calls Tryz.prog 76 #[.pointer (some ⟨lb, 0, none⟩), .pointer (some ⟨hb, 0, none⟩)] w fun e w' => e = .returned (.int .i64 (M.gwrite d (fr + 2) m2 (k : Nat) (M.zeros 64)).1) ∧ Disk w' a (M.plus P w.heap.size) (M.gwrite d (fr + 2) m2 (k : Nat) (M.zeros 64)).2 ∧ Kept P w w' := by
  have CB := Lib.hid (fun y => blank1_any y)
  have CW : Hid (∀ y, Below w.heap.size w y → Calls Tryz.prog 53 #[.pointer (some ⟨rr, 0, none⟩), .int .i64 (k : Nat), .string (M.zeros 64)] y fun e w' => e = .returned (.int .i64 (M.gwrite d (fr + 2) m2 (k : Nat) (M.zeros 64)).1) ∧ Disk w' a (M.plus P w.heap.size) (M.gwrite d (fr + 2) m2 (k : Nat) (M.zeros 64)).2 ∧ Kept P w w' ∧ Kept P y w') :=
    fun y hb => gwrite_late hb (k : Nat) (M.zeros 64) h hr hp (by omega) (by rw [M.zeros_size]; omega) hf hmn (by omega)
  have HC : Hid (∀ y, Below w.heap.size w y → y.cell? ⟨lb, 3, none⟩ = some (.pointer (some ⟨rr, 0, none⟩)) ∧ y.cell? ⟨hb, 2, none⟩ = some (.int .i64 (k : Nat))) := fun y hy => ⟨(hL.below hy hL.lt).cells.2.2.2, (hH.below hy hH.lt).cells.2.2⟩
  have HK : Hid (∀ y, Kept P w y → y.cell? ⟨lb, 3, none⟩ = some (.pointer (some ⟨rr, 0, none⟩)) ∧ y.cell? ⟨hb, 2, none⟩ = some (.int .i64 (k : Nat))) := fun y hy => ⟨hy.cell hL.cells.2.2.2 hpl, hy.cell hH.cells.2.2 hph⟩
  have HBD : Hid (Below w.heap.size w (w.drewN 1)) := below_drewN (Below.refl _ _) 1
  obtain ⟨c3, d2⟩ := HC.out w (Below.refl _ _)
  obtain ⟨s, hs⟩ : ∃ s, s = M.zeros 64 := ⟨_, rfl⟩
  rw [← hs] at CB CW ⊢
  clear h hL hr hp hf hmn ho hpl hs hH hph hk
  go_enter Tryz.func76, Tryz.ntmps76
  go_wp2_with fail
  go_region_held3 (fun y => y.cell? ⟨lb, 3, none⟩ = some (.pointer (some ⟨rr, 0, none⟩)) ∧ y.cell? ⟨hb, 2, none⟩ = some (.int .i64 (k : Nat))) (first | exact HK.out _ k2 | exact HC.out _ hbS | exact HC.out _ HBD.out) (first
    | (go_at_call 54
       refine (CB.out _).mono ?_
       rintro e w1 ⟨rfl, hb1⟩
       have hbS : Below w.heap.size w w1 := HBD.out.trans (hb1.mono HBD.out.size))
    | (go_at_call 53
       refine (CW.out _ hbS).mono ?_
       rintro e w2 ⟨rfl, h2, k2, k3⟩))
  have HR := Lib.hid (And.intro h2 k2)
  clear h2 k2 k3 hb1 hbS CB CW HC HK
  go_wp2_with fail
  go_ret
  exact ⟨rfl, HR.out⟩

set_option maxHeartbeats 1000000 in
theorem ready2_any (lb hb g q k : Nat) (w : World) {a fr ra rr m2 : Nat} {P : Nat → Prop} {d : M.D} (h : Disk w a P d) (hL : LogB w lb a fr ra rr) (hpl : ¬ P lb) (hH : B3 w hb 73 (g : Nat) (q : Nat) (k : Nat)) (hph : ¬ P hb) (hr : Reg w rr a (fr + 2) m2) (hp : ¬ P rr) (hf : fr + 2 ≤ 1000) (hmn : m2 ≤ 1000) (hk : k ≤ 1000) (ho : d.ops ≤ 100000000) :
    Calls Tryz.prog 77 #[.pointer (some ⟨lb, 0, none⟩), .pointer (some ⟨hb, 0, none⟩)] w fun e w' => e = .returned (.int .i64 (M.gwrite d (fr + 2) m2 (k : Nat) (M.zeros 64)).1) ∧ Disk w' a (M.plus P w.heap.size) (M.gwrite d (fr + 2) m2 (k : Nat) (M.zeros 64)).2 ∧ Kept P w w' := by
  have CB := Lib.hid (fun y => blank1_any y)
  have CW : Hid (∀ y, Below w.heap.size w y → Calls Tryz.prog 53 #[.pointer (some ⟨rr, 0, none⟩), .int .i64 (k : Nat), .string (M.zeros 64)] y fun e w' => e = .returned (.int .i64 (M.gwrite d (fr + 2) m2 (k : Nat) (M.zeros 64)).1) ∧ Disk w' a (M.plus P w.heap.size) (M.gwrite d (fr + 2) m2 (k : Nat) (M.zeros 64)).2 ∧ Kept P w w' ∧ Kept P y w') :=
    fun y hb => gwrite_late hb (k : Nat) (M.zeros 64) h hr hp (by omega) (by rw [M.zeros_size]; omega) hf hmn (by omega)
  have HC : Hid (∀ y, Below w.heap.size w y → y.cell? ⟨lb, 3, none⟩ = some (.pointer (some ⟨rr, 0, none⟩)) ∧ y.cell? ⟨hb, 2, none⟩ = some (.int .i64 (k : Nat))) := fun y hy => ⟨(hL.below hy hL.lt).cells.2.2.2, (hH.below hy hH.lt).cells.2.2⟩
  have HK : Hid (∀ y, Kept P w y → y.cell? ⟨lb, 3, none⟩ = some (.pointer (some ⟨rr, 0, none⟩)) ∧ y.cell? ⟨hb, 2, none⟩ = some (.int .i64 (k : Nat))) := fun y hy => ⟨hy.cell hL.cells.2.2.2 hpl, hy.cell hH.cells.2.2 hph⟩
  have HBD : Hid (Below w.heap.size w (w.drewN 1)) := below_drewN (Below.refl _ _) 1
  obtain ⟨c3, d2⟩ := HC.out w (Below.refl _ _)
  obtain ⟨s, hs⟩ : ∃ s, s = M.zeros 64 := ⟨_, rfl⟩
  rw [← hs] at CB CW ⊢
  clear h hL hr hp hf hmn ho hpl hs hH hph hk
  go_enter Tryz.func77, Tryz.ntmps77
  go_wp2_with fail
  go_region_held3 (fun y => y.cell? ⟨lb, 3, none⟩ = some (.pointer (some ⟨rr, 0, none⟩)) ∧ y.cell? ⟨hb, 2, none⟩ = some (.int .i64 (k : Nat))) (first | exact HK.out _ k2 | exact HC.out _ hbS | exact HC.out _ HBD.out) (first
    | (go_at_call 54
       refine (CB.out _).mono ?_
       rintro e w1 ⟨rfl, hb1⟩
       have hbS : Below w.heap.size w w1 := HBD.out.trans (hb1.mono HBD.out.size))
    | (go_at_call 53
       refine (CW.out _ hbS).mono ?_
       rintro e w2 ⟨rfl, h2, k2, k3⟩))
  have HR := Lib.hid (And.intro h2 k2)
  clear h2 k2 k3 hb1 hbS CB CW HC HK
  go_wp2_with fail
  go_ret
  exact ⟨rfl, HR.out⟩

/-- A place of the records, round. -/
theorem lround_any (p : Nat) (w : World) {a fr ra rr m2 : Nat} (h : Reg w rr a (fr + 2) m2) (hm0 : 0 < m2) (hm : m2 ≤ 1000) (hp : p ≤ 1000000) :
    Calls Tryz.prog 98 #[M.logv a fr ra rr, .int .i64 (p : Nat)] w fun e w' => e = .returned (.int .i64 ((p % m2 : Nat) : Int)) ∧ Below w.heap.size w w' := by
  have hb := below1 w (.cells #[.pointer (some ⟨a, 0, none⟩), .int .i64 (fr : Nat), .pointer (some ⟨ra, 0, none⟩), .pointer (some ⟨rr, 0, none⟩)] 59)
  have HB := Lib.hid hb
  have CM := Lib.hid (many_any _ (h.beside hb))
  obtain ⟨c0, c1, c2, c3⟩ := (LogB.new w a fr ra rr).cells
  have ht : (p : Int).tmod (m2 : Int) = ((p % m2 : Nat) : Int) := by rw [Int.tmod_eq_emod_of_nonneg (by omega)]; omega
  have h1 : ((m2 : Int) == 0) = false := by rw [beq_eq_false_iff_ne]; omega
  have h2 : (0 : Int) < (m2 : Int) := by omega
  have h3 : (p : Int) ≤ 1000000 := by omega
  obtain ⟨x, hx⟩ : ∃ x : Int, x = ((p % m2 : Nat) : Int) := ⟨_, rfl⟩
  rw [← hx] at ht ⊢
  unfold M.logv
  clear h hx hm hp hb
  go_enter Tryz.func98, Tryz.ntmps98
  go_wp2_with fail
  refine CM.out.mono ?_
  rintro e w1 ⟨rfl, rfl⟩
  go_wp2_with fail
  go_ret
  exact ⟨rfl, HB.out⟩
/-- logscan.Put, some time later. -/
theorem lput_late {w y : World} (hb : Below w.heap.size w y) (p : Int) (s : ByteArray) {rb a fr mn : Nat} {P : Nat → Prop} {d : M.D} (h : Disk w a P d) (hr : Reg w rb a fr mn) (hp : ¬ P rb) (hsz : s.size ≤ 1000000) (hf : fr ≤ 1000) (hmn : mn ≤ 1000) (ho : d.ops ≤ 100000000) (hw : p ≤ 9223372036854775807) :
    Calls Tryz.prog 133 #[.pointer (some ⟨rb, 0, none⟩), .int .i64 p, .string s] y fun e w' => e = .returned (.int .i64 (M.lput d fr mn p s).1) ∧ Disk w' a (M.plus P w.heap.size) (M.lput d fr mn p s).2 ∧ Kept P w w' ∧ Kept P y w' :=
  (lput_any p s y (h.beside hb) (hr.beside hb) hp hsz hf hmn hw ho).mono fun _ _ ⟨h1, h2, h3⟩ => ⟨h1, h2.mono (fun _ _ e => e.imp id (fun e => Nat.le_trans hb.size e)), (Kept.of_below hb P).trans h3, h3⟩
set_option maxHeartbeats 2000000 in
theorem put1_any (lb pb ob p : Nat) (s : ByteArray) (w : World) {a fr ra rr m2 : Nat} {P : Nat → Prop} {d : M.D} (h : Disk w a P d) (hL : LogB w lb a fr ra rr) (hpl : ¬ P lb) (hB : Box w pb 3 #[.int .i64 (p : Nat)]) (hpb : ¬ P pb) (hO : Box w ob 9 #[.string s]) (hpo : ¬ P ob) (hr : Reg w rr a (fr + 2) m2) (hp : ¬ P rr) (hm0 : 0 < m2) (hp9 : p ≤ 1000) (hs : s.size ≤ 1000000) (hf : fr + 2 ≤ 1000) (hmn : m2 ≤ 1000) (ho : d.ops ≤ 100000000) :
    Calls Tryz.prog 132 #[.pointer (some ⟨lb, 0, none⟩), .pointer (some ⟨pb, 0, none⟩), .pointer (some ⟨ob, 0, none⟩)] w fun e w' => e = .returned (.int .i64 (M.lput d (fr + 2) m2 (((p + 1) % m2 : Nat) : Int) s).1) ∧ Disk w' a (M.plus P w.heap.size) (M.lput d (fr + 2) m2 (((p + 1) % m2 : Nat) : Int) s).2 ∧ Kept P w w' := by
  obtain ⟨p1, hp1⟩ : ∃ x, x = p + 1 := ⟨_, rfl⟩
  obtain ⟨p2, hp2⟩ : ∃ x, x = p1 % m2 := ⟨_, rfl⟩
  have hp2b : p2 ≤ 1000 := by rw [hp2]; have := Nat.mod_lt p1 hm0; omega
  have CR : Hid (∀ y, Below w.heap.size w y → Calls Tryz.prog 98 #[.agg #[.pointer (some ⟨a, 0, none⟩), .int .i64 (fr : Nat), .pointer (some ⟨ra, 0, none⟩), .pointer (some ⟨rr, 0, none⟩)], .int .i64 (p1 : Nat)] y fun e w' => e = .returned (.int .i64 (p2 : Nat)) ∧ Below y.heap.size y w') := by
    intro y hb
    rw [hp2]
    exact lround_any p1 y (hr.beside hb) hm0 hmn (by omega) (ra := ra)
  have CW : Hid (∀ y, Below w.heap.size w y → Calls Tryz.prog 133 #[.pointer (some ⟨rr, 0, none⟩), .int .i64 (p2 : Nat), .string s] y fun e w' => e = .returned (.int .i64 (M.lput d (fr + 2) m2 (p2 : Nat) s).1) ∧ Disk w' a (M.plus P w.heap.size) (M.lput d (fr + 2) m2 (p2 : Nat) s).2 ∧ Kept P w w' ∧ Kept P y w') :=
    fun y hb => lput_late hb (p2 : Nat) s h hr hp hs hf hmn ho (by omega)
  have HC : Hid (∀ y, Below w.heap.size w y → y.cell? ⟨lb, 0, none⟩ = some (.pointer (some ⟨a, 0, none⟩)) ∧ y.cell? ⟨lb, 1, none⟩ = some (.int .i64 (fr : Nat)) ∧ y.cell? ⟨lb, 2, none⟩ = some (.pointer (some ⟨ra, 0, none⟩)) ∧ y.cell? ⟨lb, 3, none⟩ = some (.pointer (some ⟨rr, 0, none⟩)) ∧ y.cell? ⟨pb, 0, none⟩ = some (.int .i64 (p : Nat)) ∧ y.cell? ⟨ob, 0, none⟩ = some (.string s)) := fun y hy => by
    obtain ⟨c0, c1, c2, c3⟩ := (hL.below hy hL.lt).cells
    exact ⟨c0, c1, c2, c3, ((hB.below hy hB.lt).cell 0).trans rfl, ((hO.below hy hO.lt).cell 0).trans rfl⟩
  have HK : Hid (∀ y, Kept P w y → y.cell? ⟨lb, 0, none⟩ = some (.pointer (some ⟨a, 0, none⟩)) ∧ y.cell? ⟨lb, 1, none⟩ = some (.int .i64 (fr : Nat)) ∧ y.cell? ⟨lb, 2, none⟩ = some (.pointer (some ⟨ra, 0, none⟩)) ∧ y.cell? ⟨lb, 3, none⟩ = some (.pointer (some ⟨rr, 0, none⟩)) ∧ y.cell? ⟨pb, 0, none⟩ = some (.int .i64 (p : Nat)) ∧ y.cell? ⟨ob, 0, none⟩ = some (.string s)) := fun y hy => by
    obtain ⟨c0, c1, c2, c3⟩ := LogB.cells (hy.box hL hpl)
    exact ⟨c0, c1, c2, c3, ((hy.box hB hpb).cell 0).trans rfl, ((hy.box hO hpo).cell 0).trans rfl⟩
  have e1 : IntKind.i64.wrap ((p : Int) + 1) = (p1 : Int) := by rw [IntKind.wrap_i64]; omega
  have HBD : Hid (Below w.heap.size w (w.drewN 1)) := below_drewN (Below.refl _ _) 1
  obtain ⟨c0, c1, c2, c3, c4, c5⟩ := HC.out w (Below.refl _ _)
  rw [← hp1, ← hp2]
  clear h hL hr hp hf hmn ho hpl hs hB hpb hO hpo hm0 hp9 hp1 hp2 hp2b
  go_enter Tryz.func132, Tryz.ntmps132
  go_wp2_with fail
  go_region_held3 (fun y => y.cell? ⟨lb, 0, none⟩ = some (.pointer (some ⟨a, 0, none⟩)) ∧ y.cell? ⟨lb, 1, none⟩ = some (.int .i64 (fr : Nat)) ∧ y.cell? ⟨lb, 2, none⟩ = some (.pointer (some ⟨ra, 0, none⟩)) ∧ y.cell? ⟨lb, 3, none⟩ = some (.pointer (some ⟨rr, 0, none⟩)) ∧ y.cell? ⟨pb, 0, none⟩ = some (.int .i64 (p : Nat)) ∧ y.cell? ⟨ob, 0, none⟩ = some (.string s)) (first | exact HK.out _ k2 | exact HC.out _ hbS | exact HC.out _ HBD.out) (first
    | (go_at_call 98
       refine (CR.out _ HBD.out).mono ?_
       rintro e w1 ⟨rfl, hb1⟩
       have hbS : Below w.heap.size w w1 := HBD.out.trans (hb1.mono HBD.out.size))
    | (go_at_call 133
       refine (CW.out _ hbS).mono ?_
       rintro e w2 ⟨rfl, h2, k2, k3⟩))
  have HR := Lib.hid (And.intro h2 k2)
  clear h2 k2 k3 hb1 hbS CR CW HC HK
  go_wp2_with fail
  go_ret
  exact ⟨rfl, HR.out⟩

set_option maxHeartbeats 1000000 in
theorem put2_any (lb pb ob p : Nat) (s : ByteArray) (w : World) {a fr ra rr m2 : Nat} {P : Nat → Prop} {d : M.D} (h : Disk w a P d) (hL : LogB w lb a fr ra rr) (hB : Box w pb 3 #[.int .i64 (p : Nat)]) (hO : Box w ob 9 #[.string s]) (hr : Reg w rr a (fr + 2) m2) (hp : ¬ P rr) (hp9 : p ≤ 1000) (hs : s.size ≤ 1000000) (hf : fr + 2 ≤ 1000) (hmn : m2 ≤ 1000) (ho : d.ops ≤ 100000000) :
    Calls Tryz.prog 134 #[.pointer (some ⟨lb, 0, none⟩), .pointer (some ⟨pb, 0, none⟩), .pointer (some ⟨ob, 0, none⟩)] w fun e w' => e = .returned (.int .i64 (M.lput d (fr + 2) m2 (p : Nat) s).1) ∧ Disk w' a (M.plus P w.heap.size) (M.lput d (fr + 2) m2 (p : Nat) s).2 ∧ Kept P w w' := by
  have C1 := Lib.hid (lput_any (p : Nat) s w h hr hp hs hf hmn (by omega) ho)
  obtain ⟨c0, c1, c2, c3⟩ := hL.cells
  have c4 := hB.cell 0
  have c5 := hO.cell 0
  simp only [List.getElem?_toArray, List.getElem?_cons_zero] at c4 c5
  clear h hL hB hO hr hp hp9 hs hf hmn ho
  go_enter Tryz.func134, Tryz.ntmps134
  go_wp2_with fail
  refine C1.out.mono ?_
  rintro e w1 ⟨rfl, h1, h2⟩
  go_wp2_with fail
  go_ret
  exact ⟨rfl, h1, h2⟩

set_option maxHeartbeats 1000000 in
theorem moveOn1_any (lb sb : Nat) (A : Option Addr) (c : Nat) (L : List (Nat × ByteArray)) (hl : L.length ≤ 100000) (w : World) {a fr ra rr : Nat} {P : Nat → Prop} {d : M.D} (h : Disk w a P d) (hL : LogB w lb a fr ra rr) (hs : Box w sb 66 #[.slice A L.length c]) (x : Nat → Int) (t : Nat → ByteArray) (hS : SecF w A L.length x t)
    (hx : ∀ k p, L[k]? = some p → x k = (p.1 : Nat) ∧ t k = p.2) (hP : ∀ ad, A = some ad → ¬ P ad.block) (ho : d.ops ≤ 1000000000) :
    Calls Tryz.prog 78 #[.pointer (some ⟨lb, 0, none⟩), .pointer (some ⟨sb, 0, none⟩)] w fun e w' => e = .returned (.int .i64 (M.wr L d).1) ∧ Disk w' a (M.plus P w.heap.size) (M.wr L d).2 ∧ Kept P w w' := by
  have C1 := Lib.hid (layDown_any A c fr ra rr L hl w h x t hS hx hP ho)
  unfold M.logv at C1
  obtain ⟨c0, c1, c2, c3⟩ := hL.cells
  have s0 := hs.cell 0
  clear h hL hs hS hx hP ho hl
  go_enter Tryz.func78, Tryz.ntmps78
  go_wp2_with fail
  refine C1.out.mono ?_
  rintro e w1 ⟨rfl, h1, h2⟩
  go_wp2_with fail
  go_ret
  exact ⟨rfl, h1, h2⟩

set_option maxHeartbeats 1000000 in
theorem moveOn2_any (lb hb : Nat) (g q k : Nat) (hm : M.hmay ⟨g, q, k⟩ = true) (w : World) {a fr ra rr mn : Nat} {P : Nat → Prop} {d : M.D} (h : Disk w a P d) (hL : LogB w lb a fr ra rr) (hH : B3 w hb 73 (g : Nat) (q : Nat) (k : Nat)) (hr : Reg w ra a fr mn) (hp : ¬ P ra) (hf : fr ≤ 1000) (hmn : mn ≤ 1000) (ho : d.ops ≤ 100000000) :
    Calls Tryz.prog 80 #[.pointer (some ⟨lb, 0, none⟩), .pointer (some ⟨hb, 0, none⟩)] w fun e w' => e = .returned (.int .i64 (M.headW d fr mn g q k).1) ∧ Disk w' a (M.plus P w.heap.size) (M.headW d fr mn g q k).2 ∧ Kept P w w' := by
  have C1 := Lib.hid (putHead_any g q k hm w h hr hp hf hmn ho (rr := rr))
  unfold M.logv at C1
  obtain ⟨c0, c1, c2, c3⟩ := hL.cells
  obtain ⟨h0, h1, h2⟩ := hH.cells
  clear h hL hH hr hp hf hmn ho hm
  go_enter Tryz.func80, Tryz.ntmps80
  go_wp2_with fail
  refine C1.out.mono ?_
  rintro e w1 ⟨rfl, h1, h2⟩
  go_wp2_with fail
  go_ret
  exact ⟨rfl, h1, h2⟩
end Go.Proofs.YtmgchfjfkdkaoaaGreatDoor
