/-
  Walks over wal's log: logOn, guards, anew, may, putHead; of any disk.
-/
import Derived.Test.YtmgchfjfkdkaoaaGreatDoorMG
import Derived.Test.YtmgchfjfkdkaoaaGreatDoorMP
namespace Go.Proofs.YtmgchfjfkdkaoaaGreatDoor
open Go.RowKit

/-- Four cells of a log in a box. -/
def LogB (y : World) (b a fr ra rr : Nat) : Prop := Box y b 59 #[.pointer (some ⟨a, 0, none⟩), .int .i64 (fr : Nat), .pointer (some ⟨ra, 0, none⟩), .pointer (some ⟨rr, 0, none⟩)]
/-- A log as a value. -/
def M.logv (a fr ra rr : Nat) : Value := .agg #[.pointer (some ⟨a, 0, none⟩), .int .i64 (fr : Nat), .pointer (some ⟨ra, 0, none⟩), .pointer (some ⟨rr, 0, none⟩)]
theorem LogB.cells {y : World} {b a fr ra rr : Nat} (h : LogB y b a fr ra rr) : y.cell? ⟨b, 0, none⟩ = some (.pointer (some ⟨a, 0, none⟩)) ∧ y.cell? ⟨b, 1, none⟩ = some (.int .i64 (fr : Nat)) ∧ y.cell? ⟨b, 2, none⟩ = some (.pointer (some ⟨ra, 0, none⟩)) ∧ y.cell? ⟨b, 3, none⟩ = some (.pointer (some ⟨rr, 0, none⟩)) :=
  ⟨Box.cell h 0, Box.cell h 1, Box.cell h 2, Box.cell h 3⟩
theorem LogB.new (y : World) (a fr ra rr : Nat) : LogB (y.alloc (.cells #[.pointer (some ⟨a, 0, none⟩), .int .i64 (fr : Nat), .pointer (some ⟨ra, 0, none⟩), .pointer (some ⟨rr, 0, none⟩)] 59)) y.heap.size a fr ra rr := Box.new _ _ _
theorem LogB.below {y z : World} {b a fr ra rr B : Nat} (h : LogB y b a fr ra rr) (hb : Below B y z) (hB : b < B) : LogB z b a fr ra rr := Box.below h hb hB
theorem Disk.beside {y z : World} {a : Nat} {P : Nat → Prop} {d : M.D} (h : Disk y a P d) (hb : Below y.heap.size y z) : Disk z a P d := h.kept (Kept.of_below hb (fun _ => False)) (fun _ _ => id)
theorem Reg.beside {y z : World} {rb a fr mn : Nat} (h : Reg y rb a fr mn) (hb : Below y.heap.size y z) : Reg z rb a fr mn := h.kept (Kept.of_below hb (fun _ => False)) id

set_option maxHeartbeats 1000000 in
theorem logOn_yes (fr mn : Nat) (w : World) {a : Nat} {P : Nat → Prop} {d : M.D} (h : Disk w a P d) (h1 : 24 ≤ mn) (h2 : mn ≤ 200) (hin : fr + mn ≤ d.S.length) :
    Calls Tryz.prog 31 #[.pointer (some ⟨a, 0, none⟩), .int .i64 (fr : Nat), .int .i64 (mn : Nat)] w fun e w' =>
      e = .returned (.tuple #[M.logv a fr (w.heap.size + 1) (w.heap.size + 2), .int .i64 0]) ∧ Reg w' (w.heap.size + 1) a fr mn ∧ Reg w' (w.heap.size + 2) a (fr + 2) (mn - 2) ∧ Below w.heap.size w w' := by
  have hS := h.inv.many
  have b1 : (24 : Int) ≤ (mn : Int) := by omega
  have b2 : (mn : Int) ≤ 200 := by omega
  have b3 : (0 : Int) ≤ (fr : Int) := by omega
  have b4 : (fr : Int) ≤ 1000 := by omega
  have i1 : M.within (fr : Int) (mn : Int) (d.S.length : Nat) = true := by simp [M.within]; omega
  have i2 : M.within ((fr : Int) + 2) ((mn : Int) - 2) (d.S.length : Nat) = true := by simp [M.within]; omega
  have C1 := Lib.hid (fun y (hd : Disk y a P d) => new9_yes (fr : Int) (mn : Int) y hd (by omega) i1)
  have C2 := Lib.hid (fun y (hd : Disk y a P d) => new9_yes ((fr : Int) + 2) ((mn : Int) - 2) y hd (by omega) i2)
  obtain ⟨W, hW⟩ : ∃ x, x = w.alloc (.cells #[.pointer none, .int .i64 0, .pointer none, .pointer none] 59) := ⟨_, rfl⟩
  have HB0 : Hid (Below w.heap.size w W) := by rw [hW]; exact below1 _ _
  have HD0 : Hid (Disk W a P d) := h.beside HB0.out
  have HZ0 : Hid (W.heap.size = w.heap.size + 1) := by show W.heap.size = _; rw [hW]; simp
  have HX0 : Hid (Box W w.heap.size 59 #[.pointer none, .int .i64 0, .pointer none, .pointer none]) := by rw [hW]; exact Box.new _ _ _
  obtain ⟨W1, hW1⟩ : ∃ x, x = W.alloc (.cells #[.pointer (some ⟨a, 0, none⟩), .int .i64 (fr : Int), .int .i64 (mn : Int)] 146) := ⟨_, rfl⟩
  have HB1 : Hid (Below W.heap.size W W1) := by rw [hW1]; exact below1 _ _
  have HD1 : Hid (Disk W1 a P d) := HD0.out.beside HB1.out
  have HZ1 : Hid (W1.heap.size = w.heap.size + 2) := by show W1.heap.size = _; rw [hW1, World.size_alloc, HZ0.out]
  have HR1 : Hid (Reg W1 (w.heap.size + 1) a fr mn) := by rw [hW1, ← HZ0.out]; exact Box.new _ _ _
  have HX1 := Lib.hid (HX0.out.below HB1.out HX0.out.lt)
  obtain ⟨W2, hW2⟩ : ∃ x, x = W1.alloc (.cells #[.pointer (some ⟨a, 0, none⟩), .int .i64 ((fr : Int) + 2), .int .i64 ((mn : Int) - 2)] 146) := ⟨_, rfl⟩
  have HB2 : Hid (Below W1.heap.size W1 W2) := by rw [hW2]; exact below1 _ _
  have HR2 : Hid (Reg W2 (w.heap.size + 2) a (fr + 2) (mn - 2)) := by
    have e1 : (((fr + 2 : Nat) : Int)) = (fr : Int) + 2 := by omega
    have e2 : (((mn - 2 : Nat) : Int)) = (mn : Int) - 2 := by omega
    show Box _ _ _ _
    rw [hW2, ← HZ1.out, e1, e2]
    exact Box.new _ _ _
  have HR12 := Lib.hid (HR1.out.beside HB2.out)
  have HX2 := Lib.hid (HX1.out.below HB2.out HX1.out.lt)
  have HBB := Lib.hid ((HB0.out.trans (HB1.out.mono HB0.out.size)).trans (HB2.out.mono (Nat.le_trans HB0.out.size HB1.out.size)))
  have x0 := HX2.out.cell 0
  have x1 := HX2.out.cell 1
  have x2 := HX2.out.cell 2
  have x3 := HX2.out.cell 3
  have f0 := HX2.out.frozen 0
  have f1 := HX2.out.frozen 1
  have f2 := HX2.out.frozen 2
  have f3 := HX2.out.frozen 3
  have HM : Hid (∀ z, Below w.heap.size W2 z → z.heap.size = W2.heap.size → (∀ k, k ≠ w.heap.size → z.heap[k]? = W2.heap[k]?) → Reg z (w.heap.size + 1) a fr mn ∧ Reg z (w.heap.size + 2) a (fr + 2) (mn - 2) ∧ Below w.heap.size w z) := by
    intro z hz _ hk
    exact ⟨(hk _ (by omega)).trans HR12.out, (hk _ (by omega)).trans HR2.out, HBB.out.trans hz⟩
  clear h h1 h2 hin hS i1 i2 HX0 HX1 HX2 HR1 HR12 HR2
  go_enter Tryz.func31, Tryz.ntmps31
  go_wp2_with fail
  rw [← hW]
  clear hW
  refine (C1.out _ HD0.out).mono ?_
  rintro e w1 ⟨rfl, hw1⟩
  rw [← hW1] at hw1
  subst hw1
  clear hW1
  go_wp2_with fail
  refine (C2.out _ HD1.out).mono ?_
  rintro e w2 ⟨rfl, hw2⟩
  rw [← hW2] at hw2
  subst hw2
  clear hW2
  go_wp2_with fail
  unfold M.logv
  exact bodyPost_ret (v := .tuple #[.agg #[.pointer (some ⟨a, 0, none⟩), .int .i64 (fr : Nat), .pointer (some ⟨w.heap.size + 1, 0, none⟩), .pointer (some ⟨w.heap.size + 2, 0, none⟩)], .int .i64 0]) (by simp [results, Tryz.results31, go_sem, HZ0.out, HZ1.out, *]) rfl ⟨rfl, HM.out _ (by (repeat refine Below.setCell ?_ (by simp) _); exact Below.refl _ _) (by simp) (fun k hk => by (repeat rw [Below.heap_setCell _ _ _ _ (by simpa using hk)]))⟩

/-- Is a sector one that transactions may have? -/
def M.guards (n fr mn : Nat) (i : Int) : Bool := decide (0 ≤ i) && (decide (i < (n : Int)) && (decide (i < (fr : Int)) || decide (((fr + mn : Nat) : Int) ≤ i)))

set_option maxHeartbeats 1000000 in
theorem guards_any (i : Int) (w : World) {a fr ra rr mn : Nat} {P : Nat → Prop} {d : M.D} (h : Disk w a P d) (hr : Reg w ra a fr mn) (hf : fr ≤ 1000) (hm : mn ≤ 1000) :
    Calls Tryz.prog 73 #[M.logv a fr ra rr, .int .i64 i] w fun e w' => e = .returned (.bool (M.guards d.S.length fr mn i)) ∧ Below w.heap.size w w' := by
  have hS := h.inv.many
  obtain ⟨W, hW⟩ : ∃ x, x = w.alloc (.cells #[.pointer (some ⟨a, 0, none⟩), .int .i64 (fr : Nat), .pointer (some ⟨ra, 0, none⟩), .pointer (some ⟨rr, 0, none⟩)] 59) := ⟨_, rfl⟩
  have hb : Below w.heap.size w W := by rw [hW]; exact below1 _ _
  have HL : LogB W w.heap.size a fr ra rr := by rw [hW]; exact LogB.new _ _ _ _ _
  have C1 := Lib.hid (sectors_any W (h.beside hb))
  have C2 : Hid (∀ n, Calls Tryz.prog 56 #[.pointer (some ⟨ra, 0, none⟩)] (W.drewN n) fun e w' => e = .returned (.int .i64 (mn : Nat)) ∧ w' = W.drewN n) := fun n => many_any _ ((hr.beside hb).kept ((Kept.refl (fun _ => False) W).drewN n) id)
  obtain ⟨c0, c1, c2, c3⟩ := HL.cells
  have HB := Lib.hid hb
  have HF : Hid (∀ n, Below w.heap.size w (W.drewN n)) := fun n => below_drewN hb n
  have e1 : (fr : Int) + (mn : Int) = ((fr + mn : Nat) : Int) := by omega
  have b1 : (0 : Int) ≤ (fr : Int) ∧ (fr : Int) ≤ 1000 := by omega
  have b2 : (0 : Int) ≤ (mn : Int) ∧ (mn : Int) ≤ 1000 := by omega
  obtain ⟨n, hn⟩ : ∃ n, n = d.S.length := ⟨_, rfl⟩
  obtain ⟨fm, hfm⟩ : ∃ x, x = fr + mn := ⟨_, rfl⟩
  rw [← hn] at C1 ⊢
  rw [← hfm] at e1
  have HG : Hid (M.guards n fr mn i = (decide (0 ≤ i) && (decide (i < (n : Int)) && (decide (i < (fr : Int)) || decide ((fm : Int) ≤ i))))) := by rw [hfm]; rfl
  rw [HG.out]
  clear h hr hf hm hn hfm hS HL hb
  unfold M.logv
  by_cases h1 : i < 0
  · have hx : decide (0 ≤ i) = false := by simp; omega
    rw [hx]
    clear hx
    go_enter Tryz.func73, Tryz.ntmps73
    go_wp2_with fail
    go_ret
    rw [← hW]
    exact ⟨rfl, HB.out⟩
  · have h1' : decide (0 ≤ i) = true := by simp; omega
    rw [h1']
    by_cases h2 : i < (n : Int)
    · have h2' : ¬ (n : Int) ≤ i := by omega
      by_cases h3 : i < (fr : Int)
      · go_enter Tryz.func73, Tryz.ntmps73
        go_wp2_with fail
        rw [← hW]
        clear hW
        refine C1.out.mono ?_
        rintro e w1 ⟨rfl, rfl⟩
        go_wp2_with fail
        go_quiet (fail)
        go_wp2_with fail
        go_ret
        refine ⟨by simp [h2, h3], ?_⟩
        exact HF.out _
      · have h3' : ¬ i < (fr : Int) := h3
        go_enter Tryz.func73, Tryz.ntmps73
        go_wp2_with fail
        rw [← hW]
        clear hW
        refine C1.out.mono ?_
        rintro e w1 ⟨rfl, rfl⟩
        go_wp2_with fail
        go_quiet ((go_at_call 56; exact quiet_same (C2.out _)))
        go_wp2_with fail
        go_ret
        refine ⟨by rw [show IntKind.i64.wrap (fm : Int) = (fm : Int) by rw [IntKind.wrap_i64]; omega]; simp [h2], ?_⟩
        exact HF.out _
    · have h2' : (n : Int) ≤ i := by omega
      go_enter Tryz.func73, Tryz.ntmps73
      go_wp2_with fail
      rw [← hW]
      clear hW
      refine C1.out.mono ?_
      rintro e w1 ⟨rfl, rfl⟩
      go_wp2_with fail
      go_ret
      exact ⟨by rw [show decide (i < (n : Int)) = false by simp; omega]; rfl, HB.out⟩

set_option maxHeartbeats 1000000 in
theorem may14_any (g q k : Int) (w : World) :
    Calls Tryz.prog 35 #[.agg #[.int .i64 g, .int .i64 q, .int .i64 k]] w fun e w' => e = .returned (.bool (M.hmay ⟨g, q, k⟩)) ∧ Below w.heap.size w w' := by
  have HX := Lib.hid (B3.new w 73 g q k)
  have HB := Lib.hid (below1 w (.cells #[.int .i64 g, .int .i64 q, .int .i64 k] 73))
  have C1 := Lib.hid (fun x => put10_any g q k x)
  unfold M.hput at C1
  obtain ⟨c0, c1, c2⟩ := HX.out.cells
  by_cases hm : M.hmay ⟨g, q, k⟩ = true
  · rw [if_pos hm] at C1
    obtain ⟨s, hs⟩ : ∃ s, s = M.hwhole ⟨g, q, k⟩ := ⟨_, rfl⟩
    rw [← hs] at C1
    rw [hm]
    clear hs hm
    go_enter Tryz.func35, Tryz.ntmps35
    go_wp2_with fail
    refine (C1.out _).mono ?_
    rintro e w1 ⟨rfl, hb1⟩
    have HB1 := Lib.hid (HB.out.trans (hb1.mono HB.out.size))
    clear hb1
    go_wp2_with fail
    go_ret
    exact ⟨rfl, HB1.out⟩
  · rw [if_neg hm] at C1
    rw [show M.hmay ⟨g, q, k⟩ = false by simpa using hm]
    clear hm
    go_enter Tryz.func35, Tryz.ntmps35
    go_wp2_with fail
    refine (C1.out _).mono ?_
    rintro e w1 ⟨rfl, hb1⟩
    have HB1 := Lib.hid (HB.out.trans (hb1.mono HB.out.size))
    clear hb1
    go_wp2_with fail
    go_ret
    exact ⟨rfl, HB1.out⟩

set_option maxHeartbeats 2000000 in
/-- The head with which a log begins anew. -/
theorem anew_any (g q k m : Nat) (w : World) {a fr ra rr mn : Nat} (hr : Reg w ra a fr mn) (hm : mn ≤ 1000) (hg : g ≤ 281474976710656) (hq : q ≤ 281474976710656) (hk : m ≤ 1000) :
    Calls Tryz.prog 34 #[M.logv a fr ra rr, .agg #[.int .i64 (g : Nat), .int .i64 (q : Nat), .int .i64 (k : Nat)], .int .i64 (m : Nat)] w fun e w' => e = .returned (.agg #[.int .i64 ((g + 1 : Nat) : Int), .int .i64 ((q + m + mn : Nat) : Int), .int .i64 0]) ∧ Below w.heap.size w w' := by
  obtain ⟨W, hW⟩ : ∃ x, x = ((w.alloc (.cells #[.pointer (some ⟨a, 0, none⟩), .int .i64 (fr : Nat), .pointer (some ⟨ra, 0, none⟩), .pointer (some ⟨rr, 0, none⟩)] 59)).alloc (.cells #[.int .i64 (g : Nat), .int .i64 (q : Nat), .int .i64 (k : Nat)] 73)).alloc (.cells #[.int .i64 0, .int .i64 0, .int .i64 0] 73) := ⟨_, rfl⟩
  have hb : Below w.heap.size w W := by rw [hW]; exact (below2a _ _ _).alloc (by simp; omega) _
  have c2 : W.cell? ⟨w.heap.size, 2, none⟩ = some (.pointer (some ⟨ra, 0, none⟩)) := by
    rw [hW]
    have h1 := (LogB.new w a fr ra rr)
    have h2 : LogB W w.heap.size a fr ra rr := by rw [hW]; exact (h1.below (below1 _ _) h1.lt).below (below1 _ _) (by simp; omega)
    rw [← hW]; exact h2.cells.2.2.1
  have HH : Box W (w.heap.size + 1) 73 #[.int .i64 (g : Nat), .int .i64 (q : Nat), .int .i64 (k : Nat)] := by
    rw [hW]
    have h1 := Box.new (w.alloc (.cells #[.pointer (some ⟨a, 0, none⟩), .int .i64 (fr : Nat), .pointer (some ⟨ra, 0, none⟩), .pointer (some ⟨rr, 0, none⟩)] 59)) 73 #[.int .i64 (g : Nat), .int .i64 (q : Nat), .int .i64 (k : Nat)]
    rw [World.size_alloc] at h1
    exact h1.below (below1 _ _) (by simp)
  have HZ : Box W (w.heap.size + 2) 73 #[.int .i64 0, .int .i64 0, .int .i64 0] := by
    rw [hW]
    have h1 := Box.new ((w.alloc (.cells #[.pointer (some ⟨a, 0, none⟩), .int .i64 (fr : Nat), .pointer (some ⟨ra, 0, none⟩), .pointer (some ⟨rr, 0, none⟩)] 59)).alloc (.cells #[.int .i64 (g : Nat), .int .i64 (q : Nat), .int .i64 (k : Nat)] 73)) 73 #[.int .i64 0, .int .i64 0, .int .i64 0]
    rwa [World.size_alloc, World.size_alloc] at h1
  have HRW : Reg W ra a fr mn := hr.beside hb
  have C1 : Hid (∀ z, Reg z ra a fr mn → Calls Tryz.prog 56 #[.pointer (some ⟨ra, 0, none⟩)] z fun e w' => e = .returned (.int .i64 (mn : Nat)) ∧ w' = z) := fun z hz => many_any _ hz
  have h0 : W.cell? ⟨w.heap.size + 1, 0, none⟩ = some (.int .i64 (g : Nat)) := HH.cell 0
  have h1 : W.cell? ⟨w.heap.size + 1, 1, none⟩ = some (.int .i64 (q : Nat)) := HH.cell 1
  have z0 := HZ.cell 0
  have z1 := HZ.cell 1
  have z2 := HZ.cell 2
  have f0 := HZ.frozen 0
  have f1 := HZ.frozen 1
  have f2 := HZ.frozen 2
  obtain ⟨g1, e1⟩ : ∃ x : Nat, x = g + 1 := ⟨_, rfl⟩
  obtain ⟨q1, e2⟩ : ∃ x : Nat, x = q + m := ⟨_, rfl⟩
  obtain ⟨q2, e3⟩ : ∃ x : Nat, x = q1 + mn := ⟨_, rfl⟩
  have i1 : IntKind.i64.wrap ((g : Int) + 1) = (g1 : Int) := by rw [IntKind.wrap_i64]; omega
  have i2 : IntKind.i64.wrap ((q : Int) + (m : Int)) = (q1 : Int) := by rw [IntKind.wrap_i64]; omega
  have i3 : IntKind.i64.wrap ((q1 : Int) + (mn : Int)) = (q2 : Int) := by rw [IntKind.wrap_i64]; omega
  have HRD := Lib.hid (HRW.kept ((Kept.refl (fun _ => False) W).drewN 1) id)
  have HST : Hid (∀ v0 v1 v2, (((W.setCell ⟨w.heap.size + 2, 0, none⟩ v0).setCell ⟨w.heap.size + 2, 1, none⟩ v1).setCell ⟨w.heap.size + 2, 2, none⟩ v2).drew.cell? ⟨w.heap.size, 2, none⟩ = some (.pointer (some ⟨ra, 0, none⟩)) ∧ (((W.setCell ⟨w.heap.size + 2, 0, none⟩ v0).setCell ⟨w.heap.size + 2, 1, none⟩ v1).setCell ⟨w.heap.size + 2, 2, none⟩ v2).drew.cell? ⟨w.heap.size + 1, 0, none⟩ = some (.int .i64 (g : Nat)) ∧
      (((W.setCell ⟨w.heap.size + 2, 0, none⟩ v0).setCell ⟨w.heap.size + 2, 1, none⟩ v1).setCell ⟨w.heap.size + 2, 2, none⟩ v2).drew.cell? ⟨w.heap.size + 1, 1, none⟩ = some (.int .i64 (q : Nat)) ∧ Reg (((W.setCell ⟨w.heap.size + 2, 0, none⟩ v0).setCell ⟨w.heap.size + 2, 1, none⟩ v1).setCell ⟨w.heap.size + 2, 2, none⟩ v2).drew ra a fr mn) := by
    intro v0 v1 v2
    have hk : Kept (fun k => k = w.heap.size + 2) W (((W.setCell ⟨w.heap.size + 2, 0, none⟩ v0).setCell ⟨w.heap.size + 2, 1, none⟩ v1).setCell ⟨w.heap.size + 2, 2, none⟩ v2).drew := ((((Kept.refl (fun k => k = w.heap.size + 2) W).set (fun _ => rfl) 0 v0).set (fun _ => rfl) 1 v1).set (fun _ => rfl) 2 v2).drew
    exact ⟨hk.cell c2 (by simp only; omega), hk.cell h0 (by simp only; omega), hk.cell h1 (by simp only; omega), HRW.kept hk (by have := hr.lt; omega)⟩
  have HB := Lib.hid hb
  have HBD := Lib.hid (below_drewN hb 1)
  rw [← e1, ← e2, ← e3]
  clear hm hg hq hk hr HH HZ e1 e2 e3 hb HRW
  unfold M.logv
  go_enter Tryz.func34, Tryz.ntmps34
  go_wp2_with fail
  simp only [Nat.add_assoc, Nat.reduceAdd]
  rw [← hW]
  clear hW
  go_region_held3 (fun y => y.cell? ⟨w.heap.size, 2, none⟩ = some (.pointer (some ⟨ra, 0, none⟩)) ∧ y.cell? ⟨w.heap.size + 1, 0, none⟩ = some (.int .i64 (g : Nat)) ∧ y.cell? ⟨w.heap.size + 1, 1, none⟩ = some (.int .i64 (q : Nat)) ∧ Reg y ra a fr mn) (first | exact ⟨c2, h0, h1, HRD.out⟩ | exact HST.out _ _ _) (first | (go_at_call 56; refine (C1.out _ HRD.out).mono ?_; rintro e w2 ⟨rfl, rfl⟩))
  go_wp2_with fail
  exact bodyPost_ret (v := .agg #[.int .i64 (g1 : Nat), .int .i64 (q2 : Nat), .int .i64 0]) (by simp [results, Tryz.results34, go_sem, *]) rfl ⟨rfl, by (repeat refine Below.setCell ?_ (by simp) _); exact HBD.out⟩

/-- A head is written into its sector. -/
def M.headW (d : M.D) (fr mn g q k : Nat) : Int × M.D := M.gwrite d fr mn ((g % 2 : Nat) : Int) (M.hwhole ⟨(g : Nat), (q : Nat), (k : Nat)⟩)

set_option maxHeartbeats 1000000 in
theorem putHead_any (g q k : Nat) (hm : M.hmay ⟨(g : Nat), (q : Nat), (k : Nat)⟩ = true) (w : World) {a fr ra rr mn : Nat} {P : Nat → Prop} {d : M.D} (h : Disk w a P d) (hr : Reg w ra a fr mn) (hp : ¬ P ra) (hf : fr ≤ 1000) (hmn : mn ≤ 1000) (ho : d.ops ≤ 100000000) :
    Calls Tryz.prog 51 #[M.logv a fr ra rr, .agg #[.int .i64 (g : Nat), .int .i64 (q : Nat), .int .i64 (k : Nat)]] w fun e w' => e = .returned (.int .i64 (M.headW d fr mn g q k).1) ∧ Disk w' a (M.plus P w.heap.size) (M.headW d fr mn g q k).2 ∧ Kept P w w' := by
  have C1 := Lib.hid (fun x => put10_any (g : Nat) (q : Nat) (k : Nat) x)
  unfold M.hput at C1
  rw [if_pos hm] at C1
  have hws := M.hwhole_size ⟨(g : Nat), (q : Nat), (k : Nat)⟩
  have C2 : Hid (∀ y, Below w.heap.size w y → Calls Tryz.prog 53 #[.pointer (some ⟨ra, 0, none⟩), .int .i64 ((g % 2 : Nat) : Int), .string (M.hwhole ⟨(g : Nat), (q : Nat), (k : Nat)⟩)] y fun e w' => e = .returned (.int .i64 (M.headW d fr mn g q k).1) ∧ Disk w' a (M.plus P w.heap.size) (M.headW d fr mn g q k).2 ∧ Kept P w w') := by
    intro y hb
    have hk : Kept (fun _ => False) w y := Kept.of_below hb _
    have hl : ∀ j, P j ∧ j < w.heap.size → P j := fun j e => e.1
    have hd : Disk y a (fun j => P j ∧ j < w.heap.size) d := (h.mono (fun j hj e => ⟨e, hj⟩)).kept hk (fun _ _ => id)
    refine (gwrite_any ((g % 2 : Nat) : Int) (M.hwhole ⟨(g : Nat), (q : Nat), (k : Nat)⟩) y hd (hr.kept hk id) (fun e => hp e.1) (by omega) (by omega) hf hmn (by omega)).mono ?_
    rintro e w' ⟨h1, h2, h3⟩
    exact ⟨h1, h2.mono (fun j _ e => e.elim (fun e => Or.inl e.1) (fun e => Or.inr (Nat.le_trans hb.size e))), (hk.mono (fun _ _ e => e.elim)).trans (h3.mono (fun _ _ e => e.1))⟩
  have C2 := Lib.hid C2.out
  obtain ⟨s, hs⟩ : ∃ s, s = M.hwhole ⟨(g : Nat), (q : Nat), (k : Nat)⟩ := ⟨_, rfl⟩
  rw [← hs] at C1 C2
  obtain ⟨W, hW⟩ : ∃ x, x = (w.alloc (.cells #[.pointer (some ⟨a, 0, none⟩), .int .i64 (fr : Nat), .pointer (some ⟨ra, 0, none⟩), .pointer (some ⟨rr, 0, none⟩)] 59)).alloc (.cells #[.int .i64 (g : Nat), .int .i64 (q : Nat), .int .i64 (k : Nat)] 73) := ⟨_, rfl⟩
  have HB : Hid (Below w.heap.size w W) := by rw [hW]; exact below2a _ _ _
  have HL : LogB W w.heap.size a fr ra rr := by rw [hW]; have := LogB.new w a fr ra rr; exact this.below (below1 _ _) this.lt
  have HH : B3 W (w.heap.size + 1) 73 (g : Nat) (q : Nat) (k : Nat) := by
    rw [hW]
    have := B3.new (w.alloc (.cells #[.pointer (some ⟨a, 0, none⟩), .int .i64 (fr : Nat), .pointer (some ⟨ra, 0, none⟩), .pointer (some ⟨rr, 0, none⟩)] 59)) 73 (g : Nat) (q : Nat) (k : Nat)
    rwa [World.size_alloc] at this
  obtain ⟨c0, c1, c2, c3⟩ := HL.cells
  obtain ⟨h0, h1, h2⟩ := HH.cells
  have HLL := Lib.hid HL
  have HHH := Lib.hid HH
  have hgm : ((g : Int)).tmod 2 = ((g % 2 : Nat) : Int) := by rw [Int.tmod_eq_emod_of_nonneg (by omega)]; omega
  have hg0 : (0 : Int) ≤ (g : Int) := by omega
  clear HL HH hs hws hm h hr hp hf hmn ho c0 c1 c2 c3 h0 h1 h2
  obtain ⟨c0, c1, c2, c3⟩ := HLL.out.cells
  obtain ⟨h0, h1, h2⟩ := HHH.out.cells
  unfold M.logv
  go_enter Tryz.func51, Tryz.ntmps51
  go_wp2_with fail
  rw [← hW]
  clear hW
  refine (C1.out _).mono ?_
  rintro e w1 ⟨rfl, hb1⟩
  have HL1 := Lib.hid (HLL.out.below hb1 HLL.out.lt)
  have HH1 := Lib.hid (HHH.out.below hb1 HHH.out.lt)
  have HB1 := Lib.hid (HB.out.trans (hb1.mono HB.out.size))
  clear hb1 c0 c1 c2 c3 h0 h1 h2
  obtain ⟨c0, c1, c2, c3⟩ := HL1.out.cells
  obtain ⟨h0, h1, h2⟩ := HH1.out.cells
  go_wp2_with fail
  refine (C2.out _ HB1.out).mono ?_
  rintro e w2 ⟨rfl, hr2⟩
  go_wp2_with fail
  go_ret
  exact ⟨rfl, hr2⟩
end Go.Proofs.YtmgchfjfkdkaoaaGreatDoor
