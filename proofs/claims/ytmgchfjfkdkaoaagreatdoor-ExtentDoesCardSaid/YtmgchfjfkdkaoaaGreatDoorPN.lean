/-
  Walks over wal.findHead and wal.findRecords: where there is a head and no record, and where there is no head.
-/
import Derived.Test.YtmgchfjfkdkaoaaGreatDoorPB
import Derived.Test.YtmgchfjfkdkaoaaGreatDoorNG
import Derived.Test.YtmgchfjfkdkaoaaGreatDoorMP
import Derived.Test.YtmgchfjfkdkaoaaGreatDoorNH
import Derived.Test.YtmgchfjfkdkaoaaGreatDoorNF
namespace Go.Proofs.YtmgchfjfkdkaoaaGreatDoor
open Go.RowKit

theorem Env10.kept {P : Nat → Prop} {w w' : World} (h : Env10 w) (hk : Kept P w w') (hp : ¬ P 0) : Env10 w' := by
  unfold Env10 World.var? at h ⊢
  rw [Tryz.gNone] at h ⊢
  simp only [Option.bind_some] at h ⊢
  rw [hk.block 0 (by
    cases e : w.heap[0]? with
    | none => rw [e] at h; cases h
    | some o => exact lt_of_block e) hp]
  exact h

set_option maxHeartbeats 4000000 in
theorem findHead_yes (g q k : Nat) (w : World) {a fr ra rr mn : Nat} {P : Nat → Prop} {d : M.D} (h : Disk w a P d) {d' : M.D} {s0 s1 : ByteArray} (hG : M.gread d fr mn 0 2 = (s0 ++ s1, 0, d')) (hz0 : s0.size = 64) (hz1 : s1.size = 64) (hr : Reg w ra a fr mn) (hrr : Reg w rr a (fr + 2) (mn - 2)) (hp : ¬ P ra) (hpr : ¬ P rr) (hE : Env10 w) (hpe : ¬ P 0)
    (hlow : ∀ k, P k → k < w.heap.size) (hm2 : 2 ≤ mn) (hf : fr ≤ 1000) (hmn : mn ≤ 1000) (ho : d.ops ≤ 10000000) (hN : M.hnewer s0 s1 = (⟨(g : Nat), (q : Nat), (k : Nat)⟩, 0)) (hk : k < mn - 2) (hg9 : g ≤ 1000000000) (hq9 : q ≤ 1000000000) :
    Calls Tryz.prog 32 #[M.logv a fr ra rr] w fun e w' => e = .returned (.tuple #[.agg #[.int .i64 (g : Nat), .int .i64 (q : Nat), .int .i64 (k : Nat)], .int .i64 0]) ∧ Disk w' a P d' ∧ Kept P w w' := by
  obtain ⟨s, es⟩ : ∃ s, s = s0 ++ s1 := ⟨_, rfl⟩
  have hsz : s.size = 128 := by rw [es, ByteArray.size_append]; omega
  have x0 : s.extract 0 64 = s0 := by rw [es]; exact M.ex_mid (s0 ++ s1) ⟨#[]⟩ s0 s1 0 64 (by rw [M.nil_app14]) rfl (by rw [hz0]; rfl)
  have x1 : s.extract 64 128 = s1 := by rw [es]; exact M.ex_mid (s0 ++ s1) s0 s1 ⟨#[]⟩ 64 128 (ByteArray.append_empty (b := s0 ++ s1)).symm hz0.symm (by omega)
  rw [← es] at hG
  obtain ⟨W, hW⟩ : ∃ x, x = (w.alloc (.cells #[.pointer (some ⟨a, 0, none⟩), .int .i64 (fr : Nat), .pointer (some ⟨ra, 0, none⟩), .pointer (some ⟨rr, 0, none⟩)] 59)).alloc (.cells #[.int .i64 0, .int .i64 0, .int .i64 0] 73) := ⟨_, rfl⟩
  have hbW : Below w.heap.size w W := by rw [hW]; exact below2a _ _ _
  have C1 := Lib.hid (gread_any 0 2 W (h.beside hbW) (hr.beside hbW) hp (by omega) hf hmn (by omega))
  rw [hG] at C1
  have C2 : Hid (∀ y, Env10 y → Calls Tryz.prog 68 #[.string s0, .string s1] y fun e w' => e = .returned (.tuple #[.agg #[.int .i64 (g : Nat), .int .i64 (q : Nat), .int .i64 (k : Nat)], .int .i64 0]) ∧ Below y.heap.size y w') := by
    intro y hy
    have := newer10_any s0 s1 y hy
    rw [hN] at this
    exact this
  have HL0 : Hid (LogB W w.heap.size a fr ra rr) := by rw [hW]; have := LogB.new w a fr ra rr; exact this.below (below1 _ _) this.lt
  obtain ⟨c0, c1, c2, c3⟩ := HL0.out.cells
  have HKW : Hid (Kept P w W) := Kept.of_below hbW _
  have HEW := Lib.hid (hE.below hbW)
  obtain ⟨m2, hm2'⟩ : ∃ x, x = mn - 2 := ⟨_, rfl⟩
  rw [← hm2'] at hrr hk
  have hkm : decide (m2 ≤ k) = false := by simp; omega
  have hmay1 : M.hmay ⟨((g + 1 : Nat) : Int), ((q + 0 + mn : Nat) : Int), 0⟩ = true := by
    rw [M.hmay_iff]
    refine ⟨⟨?_, ?_⟩, ⟨?_, ?_⟩, ?_, ?_⟩ <;> simp only <;> omega
  obtain ⟨g1, hg1⟩ : ∃ x, x = g + 1 := ⟨_, rfl⟩
  obtain ⟨q1, hq1⟩ : ∃ x, x = q + 0 + mn := ⟨_, rfl⟩
  have CA : Hid (∀ y, Reg y ra a fr mn → Calls Tryz.prog 34 #[.agg #[.pointer (some ⟨a, 0, none⟩), .int .i64 (fr : Nat), .pointer (some ⟨ra, 0, none⟩), .pointer (some ⟨rr, 0, none⟩)], .agg #[.int .i64 (g : Nat), .int .i64 (q : Nat), .int .i64 (k : Nat)], .int .i64 0] y fun e w' => e = .returned (.agg #[.int .i64 (g1 : Nat), .int .i64 (q1 : Nat), .int .i64 0]) ∧ Below y.heap.size y w') := by
    intro y hy
    have := anew_any g q k 0 y hy hmn (by omega) (by omega) (by omega) (rr := rr)
    rw [← hg1, ← hq1] at this
    exact this
  have CY : Hid (∀ y, Calls Tryz.prog 35 #[.agg #[.int .i64 (g1 : Nat), .int .i64 (q1 : Nat), .int .i64 0]] y fun e w' => e = .returned (.bool true) ∧ Below y.heap.size y w') := by
    intro y
    have := may14_any (g1 : Nat) (q1 : Nat) 0 y
    rw [hg1, hq1, hmay1, ← hg1, ← hq1] at this
    exact this
  have CM : Hid (∀ y, Reg y rr a (fr + 2) m2 → Calls Tryz.prog 56 #[.pointer (some ⟨rr, 0, none⟩)] y fun e w' => e = .returned (.int .i64 (m2 : Nat)) ∧ w' = y) := fun y hy => many_any y hy
  have HZW : Hid (B3 W (w.heap.size + 1) 73 0 0 0 ∧ W.heap.size = w.heap.size + 2) := by
    refine ⟨?_, by rw [hW]; simp⟩
    rw [hW]
    have := B3.new (w.alloc (.cells #[.pointer (some ⟨a, 0, none⟩), .int .i64 (fr : Nat), .pointer (some ⟨ra, 0, none⟩), .pointer (some ⟨rr, 0, none⟩)] 59)) 73 0 0 0
    rwa [World.size_alloc] at this
  have HRW : Hid (Reg W ra a fr mn ∧ Reg W rr a (fr + 2) m2) := ⟨hr.beside hbW, hrr.beside hbW⟩
  have HPP : Hid (¬ P ra ∧ ¬ P rr) := ⟨hp, hpr⟩
  have HLO : Hid (∀ k, W.heap.size ≤ k → True) := fun _ _ => trivial
  clear h hr hrr hp hpr hE ho hN hG es hbW
  unfold M.logv
  go_enter Tryz.func32, Tryz.ntmps32
  go_wp2_with fail
  rw [← hW]
  refine C1.out.mono ?_
  rintro e w1 ⟨rfl, hd1, hk1⟩
  have HD1 := Lib.hid hd1
  have HK1 := Lib.hid hk1
  have HE1 := Lib.hid (HEW.out.kept hk1 hpe)
  clear hd1 hk1 C1
  have hsz1 : (64 : Nat) ≤ s.size := by omega
  go_wp2_with fail
  go_region_held3 (fun _ => True) (first | trivial) (first
    | (go_at_call 68
       refine (C2.out _ (by first | exact HE1.out.kept ((Kept.refl (fun _ => False) w1).drewN 1) id | exact HE1.out.kept (((Kept.refl (fun _ => False) w1).drewN 1).alloc _) id)).mono ?_
       rintro e w2 ⟨rfl, hb2⟩
       try (have z := (show Box (w1.alloc (.cells #[.int .i64 0, .int .i64 0, .int .i64 0] 73)).drew w1.heap.size 73 #[.int .i64 0, .int .i64 0, .int .i64 0] from Box.new w1 _ _).below hb2 (by simp)
            have z0 := z.cell 0
            have z1 := z.cell 1
            have z2 := z.cell 2
            have f0 := z.frozen 0
            have f1 := z.frozen 1
            have f2 := z.frozen 2)))
  · have hbx : Below w1.heap.size w1 w2 := ⟨hb2.os, hb2.tape, hb2.output, hb2.size, hb2.block⟩
    have HX : Hid (Below w1.heap.size w1 (w2.alloc (.cells #[.int .i64 (g : Nat), .int .i64 (q : Nat), .int .i64 (k : Nat)] 73))) := hbx.alloc hbx.size _
    have HB : Hid (B3 (w2.alloc (.cells #[.int .i64 (g : Nat), .int .i64 (q : Nat), .int .i64 (k : Nat)] 73)) w2.heap.size 73 (g : Nat) (q : Nat) (k : Nat) ∧ w1.heap.size ≤ w2.heap.size) := ⟨B3.new _ _ _ _ _, hbx.size⟩
    obtain ⟨X, hX⟩ : ∃ x, x = w2.alloc (.cells #[.int .i64 (g : Nat), .int .i64 (q : Nat), .int .i64 (k : Nat)] 73) := ⟨_, rfl⟩
    obtain ⟨hb, hhb⟩ : ∃ x, x = w2.heap.size := ⟨_, rfl⟩
    rw [← hX, ← hhb] at HB
    rw [← hX] at HX
    rw [← hX, ← hhb]
    clear hX hhb hb2 hbx
    have hWP : ∀ k, W.heap.size ≤ k + 2 → ¬ P k := fun k hk e => by have := hlow k e; have := HZW.out.2; omega
    have HRX : Hid (Reg X ra a fr mn ∧ Reg X rr a (fr + 2) m2) := ⟨(HRW.out.1.kept HK1.out HPP.out.1).beside HX.out, (HRW.out.2.kept HK1.out HPP.out.2).beside HX.out⟩
    have hLX : LogB X w.heap.size a fr ra rr := Box.below (HK1.out.box HL0.out (hWP _ (by have := HZW.out.2; omega))) HX.out (by have := HL0.out.lt; have := HK1.out.size; omega)
    have HZX : Hid (B3 X (w.heap.size + 1) 73 0 0 0) := Box.below (HK1.out.box HZW.out.1 (hWP _ (by have := HZW.out.2; omega))) HX.out (by have := HZW.out.1.lt; have := HK1.out.size; omega)
    have HST : Hid (∀ y, Below X.heap.size X y → y.cell? ⟨w.heap.size, 0, none⟩ = some (.pointer (some ⟨a, 0, none⟩)) ∧ y.cell? ⟨w.heap.size, 1, none⟩ = some (.int .i64 (fr : Nat)) ∧ y.cell? ⟨w.heap.size, 2, none⟩ = some (.pointer (some ⟨ra, 0, none⟩)) ∧ y.cell? ⟨w.heap.size, 3, none⟩ = some (.pointer (some ⟨rr, 0, none⟩)) ∧
        y.cell? ⟨hb, 0, none⟩ = some (.int .i64 (g : Nat)) ∧ y.cell? ⟨hb, 1, none⟩ = some (.int .i64 (q : Nat)) ∧ y.cell? ⟨hb, 2, none⟩ = some (.int .i64 (k : Nat))) := by
      intro y hy
      have h1 : LogB y w.heap.size a fr ra rr := Box.below hLX hy (Box.lt hLX)
      have h2 : B3 y hb 73 (g : Nat) (q : Nat) (k : Nat) := HB.out.1.below hy HB.out.1.lt
      exact ⟨h1.cells.1, h1.cells.2.1, h1.cells.2.2.1, h1.cells.2.2.2, h2.cells.1, h2.cells.2.1, h2.cells.2.2⟩
    have HB0 : Hid (Below X.heap.size X (X.drewN 1)) := below_drewN (Below.refl _ X) 1
    have HRD : Hid (Reg (X.drewN 1) ra a fr mn ∧ Reg (X.drewN 1) rr a (fr + 2) m2) := ⟨HRX.out.1.beside HB0.out, HRX.out.2.beside HB0.out⟩
    have HFIN : Hid (∀ y, Below X.heap.size X y → Disk y a P d' ∧ Kept P w y ∧ B3 y (w.heap.size + 1) 73 0 0 0) := by
      intro y hy
      have hby := HX.out.trans (hy.mono HX.out.size)
      exact ⟨HD1.out.beside hby, (HKW.out.trans HK1.out).trans (Kept.of_below hby P), HZX.out.below hy HZX.out.lt⟩
    have HFI2 : Hid (∀ y v0 v1 v2, Below X.heap.size X y → Disk (((y.setCell ⟨w.heap.size + 1, 0, none⟩ v0).setCell ⟨w.heap.size + 1, 1, none⟩ v1).setCell ⟨w.heap.size + 1, 2, none⟩ v2) a P d' ∧ Kept P w (((y.setCell ⟨w.heap.size + 1, 0, none⟩ v0).setCell ⟨w.heap.size + 1, 1, none⟩ v1).setCell ⟨w.heap.size + 1, 2, none⟩ v2)) := by
      intro y v0 v1 v2 hy
      obtain ⟨h1, h2, _⟩ := HFIN.out y hy
      have hks : Kept (fun j => j = w.heap.size + 1) y (((y.setCell ⟨w.heap.size + 1, 0, none⟩ v0).setCell ⟨w.heap.size + 1, 1, none⟩ v1).setCell ⟨w.heap.size + 1, 2, none⟩ v2) := (((Kept.refl (fun j => j = w.heap.size + 1) y).set (fun _ => rfl) 0 v0).set (fun _ => rfl) 1 v1).set (fun _ => rfl) 2 v2
      exact ⟨h1.kept hks (fun j e e' => by have := hlow j e; omega), h2.next hks (fun j hj e => by omega)⟩
    clear hWP hLX HX HB HRX HRW HPP HL0 HK1 HD1 HZW HKW HEW HE1 hz0 hz1 hsz hsz1 x0 x1 c0 c1 c2 c3 hg9 hq9 hk hm2 hf hmn hm2' hg1 hq1 hmay1 C2
    go_wp2_with fail
    go_region_held3 (fun y => y.cell? ⟨w.heap.size, 0, none⟩ = some (.pointer (some ⟨a, 0, none⟩)) ∧ y.cell? ⟨w.heap.size, 1, none⟩ = some (.int .i64 (fr : Nat)) ∧ y.cell? ⟨w.heap.size, 2, none⟩ = some (.pointer (some ⟨ra, 0, none⟩)) ∧ y.cell? ⟨w.heap.size, 3, none⟩ = some (.pointer (some ⟨rr, 0, none⟩)) ∧
        y.cell? ⟨hb, 0, none⟩ = some (.int .i64 (g : Nat)) ∧ y.cell? ⟨hb, 1, none⟩ = some (.int .i64 (q : Nat)) ∧ y.cell? ⟨hb, 2, none⟩ = some (.int .i64 (k : Nat))) (first | exact HST.out _ hbS4 | exact HST.out _ hbS3 | exact HST.out _ HB0.out) (first
      | (go_at_call 56
         refine (CM.out _ HRD.out.2).mono ?_
         rintro e y2 ⟨rfl, rfl⟩)
      | (go_at_call 34
         refine (CA.out _ HRD.out.1).mono ?_
         rintro e y3 ⟨rfl, hb3⟩
         have hbS3 : Below X.heap.size X y3 := HB0.out.trans (hb3.mono HB0.out.size))
      | (go_at_call 35
         refine (CY.out _).mono ?_
         rintro e y4 ⟨rfl, hb4⟩
         have hbS4 : Below X.heap.size X y4 := hbS3.trans (hb4.mono hbS3.size)))
    obtain ⟨r0, r1, r2, r3, r4, r5, r6⟩ := HST.out _ hbS4
    obtain ⟨hdf, hkf, hzf⟩ := HFIN.out _ hbS4
    have HBS := Lib.hid hbS4
    obtain ⟨t0, t1, t2⟩ := hzf.cells
    obtain ⟨u0, u1, u2⟩ := hzf.frozen
    clear hdf hkf hzf hb3 hbS3 hb4 hbS4
    go_wp2_with fail
    exact bodyPost_ret (v := .tuple #[.agg #[.int .i64 (g : Nat), .int .i64 (q : Nat), .int .i64 (k : Nat)], .int .i64 0]) (by simp [results, Tryz.results32, go_sem, *]) rfl ⟨rfl, (HFI2.out _ _ _ _ HBS.out).1, (HFI2.out _ _ _ _ HBS.out).2⟩
  · have hbx : Below w1.heap.size w1 w2 := ⟨hb2.os, hb2.tape, hb2.output, Nat.le_trans (Nat.le_succ _) (by have := hb2.size; simpa using this), fun k hk => (hb2.block k (by simp; omega)).trans (Below.heap_alloc w1 _ k hk)⟩
    have HB : Hid (B3 (((w2.setCell ⟨w1.heap.size, 0, none⟩ (.int .i64 (g : Nat))).setCell ⟨w1.heap.size, 1, none⟩ (.int .i64 (q : Nat))).setCell ⟨w1.heap.size, 2, none⟩ (.int .i64 (k : Nat))) w1.heap.size 73 (g : Nat) (q : Nat) (k : Nat) ∧ w1.heap.size ≤ w1.heap.size) := ⟨((z.set 0 _).set 1 _).set 2 _, Nat.le_refl _⟩
    have HX : Hid (Below w1.heap.size w1 (((w2.setCell ⟨w1.heap.size, 0, none⟩ (.int .i64 (g : Nat))).setCell ⟨w1.heap.size, 1, none⟩ (.int .i64 (q : Nat))).setCell ⟨w1.heap.size, 2, none⟩ (.int .i64 (k : Nat)))) := ((hbx.setCell (by simp) _).setCell (by simp) _).setCell (by simp) _
    obtain ⟨X, hX⟩ : ∃ x, x = ((w2.setCell ⟨w1.heap.size, 0, none⟩ (.int .i64 (g : Nat))).setCell ⟨w1.heap.size, 1, none⟩ (.int .i64 (q : Nat))).setCell ⟨w1.heap.size, 2, none⟩ (.int .i64 (k : Nat)) := ⟨_, rfl⟩
    obtain ⟨hb, hhb⟩ : ∃ x, x = w1.heap.size := ⟨_, rfl⟩
    rw [← hX] at HX HB
    have HB' : Hid (B3 X hb 73 (g : Nat) (q : Nat) (k : Nat) ∧ w1.heap.size ≤ hb) := by rw [hhb]; exact HB
    rw [← hX, ← hhb]
    clear hX hhb hb2 hbx z z0 z1 z2 f0 f1 f2 HB
    have HB := HB'
    clear HB'
    have hWP : ∀ k, W.heap.size ≤ k + 2 → ¬ P k := fun k hk e => by have := hlow k e; have := HZW.out.2; omega
    have HRX : Hid (Reg X ra a fr mn ∧ Reg X rr a (fr + 2) m2) := ⟨(HRW.out.1.kept HK1.out HPP.out.1).beside HX.out, (HRW.out.2.kept HK1.out HPP.out.2).beside HX.out⟩
    have hLX : LogB X w.heap.size a fr ra rr := Box.below (HK1.out.box HL0.out (hWP _ (by have := HZW.out.2; omega))) HX.out (by have := HL0.out.lt; have := HK1.out.size; omega)
    have HZX : Hid (B3 X (w.heap.size + 1) 73 0 0 0) := Box.below (HK1.out.box HZW.out.1 (hWP _ (by have := HZW.out.2; omega))) HX.out (by have := HZW.out.1.lt; have := HK1.out.size; omega)
    have HST : Hid (∀ y, Below X.heap.size X y → y.cell? ⟨w.heap.size, 0, none⟩ = some (.pointer (some ⟨a, 0, none⟩)) ∧ y.cell? ⟨w.heap.size, 1, none⟩ = some (.int .i64 (fr : Nat)) ∧ y.cell? ⟨w.heap.size, 2, none⟩ = some (.pointer (some ⟨ra, 0, none⟩)) ∧ y.cell? ⟨w.heap.size, 3, none⟩ = some (.pointer (some ⟨rr, 0, none⟩)) ∧
        y.cell? ⟨hb, 0, none⟩ = some (.int .i64 (g : Nat)) ∧ y.cell? ⟨hb, 1, none⟩ = some (.int .i64 (q : Nat)) ∧ y.cell? ⟨hb, 2, none⟩ = some (.int .i64 (k : Nat))) := by
      intro y hy
      have h1 : LogB y w.heap.size a fr ra rr := Box.below hLX hy (Box.lt hLX)
      have h2 : B3 y hb 73 (g : Nat) (q : Nat) (k : Nat) := HB.out.1.below hy HB.out.1.lt
      exact ⟨h1.cells.1, h1.cells.2.1, h1.cells.2.2.1, h1.cells.2.2.2, h2.cells.1, h2.cells.2.1, h2.cells.2.2⟩
    have HB0 : Hid (Below X.heap.size X (X.drewN 1)) := below_drewN (Below.refl _ X) 1
    have HRD : Hid (Reg (X.drewN 1) ra a fr mn ∧ Reg (X.drewN 1) rr a (fr + 2) m2) := ⟨HRX.out.1.beside HB0.out, HRX.out.2.beside HB0.out⟩
    have HFIN : Hid (∀ y, Below X.heap.size X y → Disk y a P d' ∧ Kept P w y ∧ B3 y (w.heap.size + 1) 73 0 0 0) := by
      intro y hy
      have hby := HX.out.trans (hy.mono HX.out.size)
      exact ⟨HD1.out.beside hby, (HKW.out.trans HK1.out).trans (Kept.of_below hby P), HZX.out.below hy HZX.out.lt⟩
    have HFI2 : Hid (∀ y v0 v1 v2, Below X.heap.size X y → Disk (((y.setCell ⟨w.heap.size + 1, 0, none⟩ v0).setCell ⟨w.heap.size + 1, 1, none⟩ v1).setCell ⟨w.heap.size + 1, 2, none⟩ v2) a P d' ∧ Kept P w (((y.setCell ⟨w.heap.size + 1, 0, none⟩ v0).setCell ⟨w.heap.size + 1, 1, none⟩ v1).setCell ⟨w.heap.size + 1, 2, none⟩ v2)) := by
      intro y v0 v1 v2 hy
      obtain ⟨h1, h2, _⟩ := HFIN.out y hy
      have hks : Kept (fun j => j = w.heap.size + 1) y (((y.setCell ⟨w.heap.size + 1, 0, none⟩ v0).setCell ⟨w.heap.size + 1, 1, none⟩ v1).setCell ⟨w.heap.size + 1, 2, none⟩ v2) := (((Kept.refl (fun j => j = w.heap.size + 1) y).set (fun _ => rfl) 0 v0).set (fun _ => rfl) 1 v1).set (fun _ => rfl) 2 v2
      exact ⟨h1.kept hks (fun j e e' => by have := hlow j e; omega), h2.next hks (fun j hj e => by omega)⟩
    clear hWP hLX HX HB HRX HRW HPP HL0 HK1 HD1 HZW HKW HEW HE1 hz0 hz1 hsz hsz1 x0 x1 c0 c1 c2 c3 hg9 hq9 hk hm2 hf hmn hm2' hg1 hq1 hmay1 C2
    go_wp2_with fail
    go_region_held3 (fun y => y.cell? ⟨w.heap.size, 0, none⟩ = some (.pointer (some ⟨a, 0, none⟩)) ∧ y.cell? ⟨w.heap.size, 1, none⟩ = some (.int .i64 (fr : Nat)) ∧ y.cell? ⟨w.heap.size, 2, none⟩ = some (.pointer (some ⟨ra, 0, none⟩)) ∧ y.cell? ⟨w.heap.size, 3, none⟩ = some (.pointer (some ⟨rr, 0, none⟩)) ∧
        y.cell? ⟨hb, 0, none⟩ = some (.int .i64 (g : Nat)) ∧ y.cell? ⟨hb, 1, none⟩ = some (.int .i64 (q : Nat)) ∧ y.cell? ⟨hb, 2, none⟩ = some (.int .i64 (k : Nat))) (first | exact HST.out _ hbS4 | exact HST.out _ hbS3 | exact HST.out _ HB0.out) (first
      | (go_at_call 56
         refine (CM.out _ HRD.out.2).mono ?_
         rintro e y2 ⟨rfl, rfl⟩)
      | (go_at_call 34
         refine (CA.out _ HRD.out.1).mono ?_
         rintro e y3 ⟨rfl, hb3⟩
         have hbS3 : Below X.heap.size X y3 := HB0.out.trans (hb3.mono HB0.out.size))
      | (go_at_call 35
         refine (CY.out _).mono ?_
         rintro e y4 ⟨rfl, hb4⟩
         have hbS4 : Below X.heap.size X y4 := hbS3.trans (hb4.mono hbS3.size)))
    obtain ⟨r0, r1, r2, r3, r4, r5, r6⟩ := HST.out _ hbS4
    obtain ⟨hdf, hkf, hzf⟩ := HFIN.out _ hbS4
    have HBS := Lib.hid hbS4
    obtain ⟨t0, t1, t2⟩ := hzf.cells
    obtain ⟨u0, u1, u2⟩ := hzf.frozen
    clear hdf hkf hzf hb3 hbS3 hb4 hbS4
    go_wp2_with fail
    exact bodyPost_ret (v := .tuple #[.agg #[.int .i64 (g : Nat), .int .i64 (q : Nat), .int .i64 (k : Nat)], .int .i64 0]) (by simp [results, Tryz.results32, go_sem, *]) rfl ⟨rfl, (HFI2.out _ _ _ _ HBS.out).1, (HFI2.out _ _ _ _ HBS.out).2⟩

set_option maxHeartbeats 1000000 in
/-- Where the heads cannot be read. -/
theorem findHead_err (w : World) {a fr ra rr mn : Nat} {P : Nat → Prop} {d d' : M.D} (h : Disk w a P d) {s : ByteArray} {E : Int} (hG : M.gread d fr mn 0 2 = (s, E, d')) (hE : E ≠ 0) (hr : Reg w ra a fr mn) (hp : ¬ P ra) (hlow : ∀ k, P k → k < w.heap.size) (hf : fr ≤ 1000) (hmn : mn ≤ 1000) (ho : d.ops ≤ 10000000) :
    Calls Tryz.prog 32 #[M.logv a fr ra rr] w fun e w' => e = .returned (.tuple #[.agg #[.int .i64 0, .int .i64 0, .int .i64 0], .int .i64 E]) ∧ Disk w' a P d' ∧ Kept P w w' := by
  obtain ⟨W, hW⟩ : ∃ x, x = (w.alloc (.cells #[.pointer (some ⟨a, 0, none⟩), .int .i64 (fr : Nat), .pointer (some ⟨ra, 0, none⟩), .pointer (some ⟨rr, 0, none⟩)] 59)).alloc (.cells #[.int .i64 0, .int .i64 0, .int .i64 0] 73) := ⟨_, rfl⟩
  have hbW : Below w.heap.size w W := by rw [hW]; exact below2a _ _ _
  have C1 := Lib.hid (gread_any 0 2 W (h.beside hbW) (hr.beside hbW) hp (by omega) hf hmn (by omega))
  rw [hG] at C1
  have hE' : (E == 0) = false := by rw [beq_eq_false_iff_ne]; exact hE
  have HL0 : LogB W w.heap.size a fr ra rr := by rw [hW]; have := LogB.new w a fr ra rr; exact this.below (below1 _ _) this.lt
  have HZ0 : B3 W (w.heap.size + 1) 73 0 0 0 := by
    rw [hW]
    have := B3.new (w.alloc (.cells #[.pointer (some ⟨a, 0, none⟩), .int .i64 (fr : Nat), .pointer (some ⟨ra, 0, none⟩), .pointer (some ⟨rr, 0, none⟩)] 59)) 73 0 0 0
    rwa [World.size_alloc] at this
  obtain ⟨c0, c1, c2, c3⟩ := HL0.cells
  have hP : ∀ j, w.heap.size ≤ j → ¬ P j := fun j hj e => by have := hlow j e; omega
  have HF : Hid (∀ y v0 v1 v2, Disk y a P d' → Kept P W y → B3 y (w.heap.size + 1) 73 0 0 0 ∧ Disk (((y.setCell ⟨w.heap.size + 1, 0, none⟩ v0).setCell ⟨w.heap.size + 1, 1, none⟩ v1).setCell ⟨w.heap.size + 1, 2, none⟩ v2) a P d' ∧ Kept P w (((y.setCell ⟨w.heap.size + 1, 0, none⟩ v0).setCell ⟨w.heap.size + 1, 1, none⟩ v1).setCell ⟨w.heap.size + 1, 2, none⟩ v2)) := by
    intro y v0 v1 v2 hd hk
    have hks : Kept (fun j => j = w.heap.size + 1) y (((y.setCell ⟨w.heap.size + 1, 0, none⟩ v0).setCell ⟨w.heap.size + 1, 1, none⟩ v1).setCell ⟨w.heap.size + 1, 2, none⟩ v2) := (((Kept.refl (fun j => j = w.heap.size + 1) y).set (fun _ => rfl) 0 v0).set (fun _ => rfl) 1 v1).set (fun _ => rfl) 2 v2
    exact ⟨hk.box HZ0 (hP _ (by omega)), hd.kept hks (fun j e e' => by have := hlow j e; omega), ((Kept.of_below hbW P).trans hk).next hks (fun j hj e => by omega)⟩
  clear h hG hE hr hp hlow hf hmn ho hbW HL0 HZ0 hP
  unfold M.logv
  go_enter Tryz.func32, Tryz.ntmps32
  go_wp2_with fail
  rw [← hW]
  clear hW
  refine C1.out.mono ?_
  rintro e w1 ⟨rfl, hd1, hk1⟩
  have hb3 := (HF.out w1 .nilFunc .nilFunc .nilFunc hd1 hk1).1
  obtain ⟨t0, t1, t2⟩ := hb3.cells
  obtain ⟨u0, u1, u2⟩ := hb3.frozen
  have HD1 := Lib.hid (And.intro hd1 hk1)
  clear hd1 hk1 hb3 C1 c0 c1 c2 c3
  go_wp2_with fail
  exact bodyPost_ret (v := .tuple #[.agg #[.int .i64 0, .int .i64 0, .int .i64 0], .int .i64 E]) (by simp [results, Tryz.results32, go_sem, *]) rfl ⟨rfl, (HF.out w1 _ _ _ HD1.out.1 HD1.out.2).2⟩

set_option maxHeartbeats 4000000 in
theorem findHead_no (w : World) {a fr ra rr mn : Nat} {P : Nat → Prop} {d : M.D} (h : Disk w a P d) (hs : M.Still d fr mn) (hr : Reg w ra a fr mn) (hp : ¬ P ra) (hE : Env10 w) (hpe : ¬ P 0)
    (hlow : ∀ k, P k → k < w.heap.size) (hm2 : 2 ≤ mn) (hf : fr ≤ 1000) (hmn : mn ≤ 1000) (ho : d.ops ≤ 10000000) (hN : M.hnewer (M.seen d.S d.L fr) (M.seen d.S d.L (fr + 1)) = (M.h0, 8)) :
    Calls Tryz.prog 32 #[M.logv a fr ra rr] w fun e w' => e = .returned (.tuple #[.agg #[.int .i64 0, .int .i64 0, .int .i64 0], .int .i64 32]) ∧ ∃ d', Disk w' a P d' ∧ M.Still d' fr mn ∧ d'.S = d.S ∧ d'.L = d.L ∧ d'.ops = d.ops + 2 ∧ Kept P w w' := by
  obtain ⟨d', hG, hs', hS', hL', hO'⟩ := M.heads14 hs hm2
  have hz0 := h.inv.seen (k := fr) (by have := hs.room; omega)
  have hz1 := h.inv.seen (k := fr + 1) (by have := hs.room; omega)
  obtain ⟨s0, e0⟩ : ∃ s, s = M.seen d.S d.L fr := ⟨_, rfl⟩
  obtain ⟨s1, e1⟩ : ∃ s, s = M.seen d.S d.L (fr + 1) := ⟨_, rfl⟩
  rw [← e0, ← e1] at hG hN
  rw [← e0] at hz0
  rw [← e1] at hz1
  obtain ⟨s, es⟩ : ∃ s, s = s0 ++ s1 := ⟨_, rfl⟩
  have hsz : s.size = 128 := by rw [es, ByteArray.size_append]; omega
  have x0 : s.extract 0 64 = s0 := by rw [es]; exact M.ex_mid (s0 ++ s1) ⟨#[]⟩ s0 s1 0 64 (by rw [M.nil_app14]) rfl (by rw [hz0]; rfl)
  have x1 : s.extract 64 128 = s1 := by rw [es]; exact M.ex_mid (s0 ++ s1) s0 s1 ⟨#[]⟩ 64 128 (ByteArray.append_empty (b := s0 ++ s1)).symm hz0.symm (by omega)
  rw [← es] at hG
  obtain ⟨W, hW⟩ : ∃ x, x = (w.alloc (.cells #[.pointer (some ⟨a, 0, none⟩), .int .i64 (fr : Nat), .pointer (some ⟨ra, 0, none⟩), .pointer (some ⟨rr, 0, none⟩)] 59)).alloc (.cells #[.int .i64 0, .int .i64 0, .int .i64 0] 73) := ⟨_, rfl⟩
  have hbW : Below w.heap.size w W := by rw [hW]; exact below2a _ _ _
  have C1 := Lib.hid (gread_any 0 2 W (h.beside hbW) (hr.beside hbW) hp (by omega) hf hmn (by omega))
  rw [hG] at C1
  have C2 : Hid (∀ y, Env10 y → Calls Tryz.prog 68 #[.string s0, .string s1] y fun e w' => e = .returned (.tuple #[.agg #[.int .i64 0, .int .i64 0, .int .i64 0], .int .i64 8]) ∧ Below y.heap.size y w') := by
    intro y hy
    have := newer10_any s0 s1 y hy
    rw [hN] at this
    exact this
  have HL0 : Hid (LogB W w.heap.size a fr ra rr) := by rw [hW]; have := LogB.new w a fr ra rr; exact this.below (below1 _ _) this.lt
  obtain ⟨c0, c1, c2, c3⟩ := HL0.out.cells
  have HKW : Hid (Kept P w W) := Kept.of_below hbW _
  have HEW := Lib.hid (hE.below hbW)
  have HZW : Hid (B3 W (w.heap.size + 1) 73 0 0 0 ∧ W.heap.size = w.heap.size + 2) := by
    refine ⟨?_, by rw [hW]; simp⟩
    rw [hW]
    have := B3.new (w.alloc (.cells #[.pointer (some ⟨a, 0, none⟩), .int .i64 (fr : Nat), .pointer (some ⟨ra, 0, none⟩), .pointer (some ⟨rr, 0, none⟩)] 59)) 73 0 0 0
    rwa [World.size_alloc] at this
  have HLO : Hid (∀ k, W.heap.size ≤ k → True) := fun _ _ => trivial
  have HD := Lib.hid (And.intro hs' (And.intro hS' (And.intro hL' hO')))
  clear h hs hr hp hE ho hN hG hs' hS' hL' hO' e0 e1 es hbW
  unfold M.logv
  go_enter Tryz.func32, Tryz.ntmps32
  go_wp2_with fail
  rw [← hW]
  refine C1.out.mono ?_
  rintro e w1 ⟨rfl, hd1, hk1⟩
  have HD1 := Lib.hid hd1
  have HK1 := Lib.hid hk1
  have HE1 := Lib.hid (HEW.out.kept hk1 hpe)
  clear hd1 hk1 C1
  have hsz1 : (64 : Nat) ≤ s.size := by omega
  go_wp2_with fail
  go_region_held3 (fun _ => True) (first | trivial) (first
    | (go_at_call 68
       refine (C2.out _ (by first | exact HE1.out.kept ((Kept.refl (fun _ => False) w1).drewN 1) id | exact HE1.out.kept (((Kept.refl (fun _ => False) w1).drewN 1).alloc _) id)).mono ?_
       rintro e w2 ⟨rfl, hb2⟩
       try (have z := (show Box (w1.alloc (.cells #[.int .i64 0, .int .i64 0, .int .i64 0] 73)).drew w1.heap.size 73 #[.int .i64 0, .int .i64 0, .int .i64 0] from Box.new w1 _ _).below hb2 (by simp)
            have z0 := z.cell 0
            have z1 := z.cell 1
            have z2 := z.cell 2
            have f0 := z.frozen 0
            have f1 := z.frozen 1
            have f2 := z.frozen 2)))
  · have hbx : Below w1.heap.size w1 w2 := ⟨hb2.os, hb2.tape, hb2.output, hb2.size, hb2.block⟩
    have HX : Hid (Below w1.heap.size w1 (w2.alloc (.cells #[.int .i64 0, .int .i64 0, .int .i64 0] 73))) := hbx.alloc hbx.size _
    obtain ⟨X, hX⟩ : ∃ x, x = w2.alloc (.cells #[.int .i64 0, .int .i64 0, .int .i64 0] 73) := ⟨_, rfl⟩
    obtain ⟨hb, hhb⟩ : ∃ x, x = w2.heap.size := ⟨_, rfl⟩
    rw [← hX] at HX
    rw [← hX, ← hhb]
    clear hX hhb hb2 hbx
    have hWP : ∀ k, W.heap.size ≤ k + 2 → ¬ P k := fun k hk e => by have := hlow k e; have := HZW.out.2; omega
    have HZX : Hid (B3 X (w.heap.size + 1) 73 0 0 0) := Box.below (HK1.out.box HZW.out.1 (hWP _ (by have := HZW.out.2; omega))) HX.out (by have := HZW.out.1.lt; have := HK1.out.size; omega)
    have HFIN : Hid (∀ n, Disk (X.drewN n) a P d' ∧ Kept P w (X.drewN n) ∧ B3 (X.drewN n) (w.heap.size + 1) 73 0 0 0) := by
      intro n
      have hy : Below X.heap.size X (X.drewN n) := below_drewN (Below.refl _ X) n
      have hby := HX.out.trans (hy.mono HX.out.size)
      exact ⟨HD1.out.beside hby, (HKW.out.trans HK1.out).trans (Kept.of_below hby P), HZX.out.below hy HZX.out.lt⟩
    have HFI2 : Hid (∀ n v0 v1 v2, Disk ((((X.drewN n).setCell ⟨w.heap.size + 1, 0, none⟩ v0).setCell ⟨w.heap.size + 1, 1, none⟩ v1).setCell ⟨w.heap.size + 1, 2, none⟩ v2) a P d' ∧ Kept P w ((((X.drewN n).setCell ⟨w.heap.size + 1, 0, none⟩ v0).setCell ⟨w.heap.size + 1, 1, none⟩ v1).setCell ⟨w.heap.size + 1, 2, none⟩ v2)) := by
      intro n v0 v1 v2
      obtain ⟨h1, h2, _⟩ := HFIN.out n
      have hks : Kept (fun j => j = w.heap.size + 1) (X.drewN n) ((((X.drewN n).setCell ⟨w.heap.size + 1, 0, none⟩ v0).setCell ⟨w.heap.size + 1, 1, none⟩ v1).setCell ⟨w.heap.size + 1, 2, none⟩ v2) := (((Kept.refl (fun j => j = w.heap.size + 1) (X.drewN n)).set (fun _ => rfl) 0 v0).set (fun _ => rfl) 1 v1).set (fun _ => rfl) 2 v2
      exact ⟨h1.kept hks (fun j e e' => by have := hlow j e; omega), h2.next hks (fun j hj e => by omega)⟩
    clear hWP HX HL0 HK1 HD1 HZW HKW HEW HE1 hz0 hz1 hsz hsz1 x0 x1 c0 c1 c2 c3 hm2 hf hmn C2
    go_wp2_with fail
    go_quiet (fail)
    obtain ⟨t0, t1, t2⟩ := HZX.out.cells
    obtain ⟨u0, u1, u2⟩ := HZX.out.frozen
    go_wp2_with fail
    exact bodyPost_ret (v := .tuple #[.agg #[.int .i64 0, .int .i64 0, .int .i64 0], .int .i64 32]) (by simp [results, Tryz.results32, go_sem, *]) rfl ⟨rfl, d', (HFI2.out _ _ _ _).1, HD.out.1, HD.out.2.1, HD.out.2.2.1, HD.out.2.2.2, (HFI2.out _ _ _ _).2⟩
  · have hbx : Below w1.heap.size w1 w2 := ⟨hb2.os, hb2.tape, hb2.output, Nat.le_trans (Nat.le_succ _) (by have := hb2.size; simpa using this), fun k hk => (hb2.block k (by simp; omega)).trans (Below.heap_alloc w1 _ k hk)⟩
    have HX : Hid (Below w1.heap.size w1 (((w2.setCell ⟨w1.heap.size, 0, none⟩ (.int .i64 0)).setCell ⟨w1.heap.size, 1, none⟩ (.int .i64 0)).setCell ⟨w1.heap.size, 2, none⟩ (.int .i64 0))) := ((hbx.setCell (by simp) _).setCell (by simp) _).setCell (by simp) _
    obtain ⟨X, hX⟩ : ∃ x, x = ((w2.setCell ⟨w1.heap.size, 0, none⟩ (.int .i64 0)).setCell ⟨w1.heap.size, 1, none⟩ (.int .i64 0)).setCell ⟨w1.heap.size, 2, none⟩ (.int .i64 0) := ⟨_, rfl⟩
    obtain ⟨hb, hhb⟩ : ∃ x, x = w1.heap.size := ⟨_, rfl⟩
    rw [← hX] at HX
    rw [← hX, ← hhb]
    clear hX hhb hb2 hbx z z0 z1 z2 f0 f1 f2
    have hWP : ∀ k, W.heap.size ≤ k + 2 → ¬ P k := fun k hk e => by have := hlow k e; have := HZW.out.2; omega
    have HZX : Hid (B3 X (w.heap.size + 1) 73 0 0 0) := Box.below (HK1.out.box HZW.out.1 (hWP _ (by have := HZW.out.2; omega))) HX.out (by have := HZW.out.1.lt; have := HK1.out.size; omega)
    have HFIN : Hid (∀ n, Disk (X.drewN n) a P d' ∧ Kept P w (X.drewN n) ∧ B3 (X.drewN n) (w.heap.size + 1) 73 0 0 0) := by
      intro n
      have hy : Below X.heap.size X (X.drewN n) := below_drewN (Below.refl _ X) n
      have hby := HX.out.trans (hy.mono HX.out.size)
      exact ⟨HD1.out.beside hby, (HKW.out.trans HK1.out).trans (Kept.of_below hby P), HZX.out.below hy HZX.out.lt⟩
    have HFI2 : Hid (∀ n v0 v1 v2, Disk ((((X.drewN n).setCell ⟨w.heap.size + 1, 0, none⟩ v0).setCell ⟨w.heap.size + 1, 1, none⟩ v1).setCell ⟨w.heap.size + 1, 2, none⟩ v2) a P d' ∧ Kept P w ((((X.drewN n).setCell ⟨w.heap.size + 1, 0, none⟩ v0).setCell ⟨w.heap.size + 1, 1, none⟩ v1).setCell ⟨w.heap.size + 1, 2, none⟩ v2)) := by
      intro n v0 v1 v2
      obtain ⟨h1, h2, _⟩ := HFIN.out n
      have hks : Kept (fun j => j = w.heap.size + 1) (X.drewN n) ((((X.drewN n).setCell ⟨w.heap.size + 1, 0, none⟩ v0).setCell ⟨w.heap.size + 1, 1, none⟩ v1).setCell ⟨w.heap.size + 1, 2, none⟩ v2) := (((Kept.refl (fun j => j = w.heap.size + 1) (X.drewN n)).set (fun _ => rfl) 0 v0).set (fun _ => rfl) 1 v1).set (fun _ => rfl) 2 v2
      exact ⟨h1.kept hks (fun j e e' => by have := hlow j e; omega), h2.next hks (fun j hj e => by omega)⟩
    clear hWP HX HL0 HK1 HD1 HZW HKW HEW HE1 hz0 hz1 hsz hsz1 x0 x1 c0 c1 c2 c3 hm2 hf hmn C2
    go_wp2_with fail
    go_quiet (fail)
    obtain ⟨t0, t1, t2⟩ := HZX.out.cells
    obtain ⟨u0, u1, u2⟩ := HZX.out.frozen
    go_wp2_with fail
    exact bodyPost_ret (v := .tuple #[.agg #[.int .i64 0, .int .i64 0, .int .i64 0], .int .i64 32]) (by simp [results, Tryz.results32, go_sem, *]) rfl ⟨rfl, d', (HFI2.out _ _ _ _).1, HD.out.1, HD.out.2.1, HD.out.2.2.1, HD.out.2.2.2, (HFI2.out _ _ _ _).2⟩

end Go.Proofs.YtmgchfjfkdkaoaaGreatDoor
