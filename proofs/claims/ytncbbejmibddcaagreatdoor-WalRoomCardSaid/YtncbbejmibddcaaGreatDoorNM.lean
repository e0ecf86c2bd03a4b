/-
  Walks over wal.Open: of a log without records, and where there is no head.
-/
import Derived.Test.YtncbbejmibddcaaGreatDoorNL
import Derived.Test.YtncbbejmibddcaaGreatDoorNN
namespace Go.Proofs.YtncbbejmibddcaaGreatDoor
open Go.RowKit Go.Maps

set_option maxHeartbeats 4000000 in
theorem open_no (fr mn : Nat) (w : World) {a : Nat} {P : Nat → Prop} {d : M.D} (h : Disk w a P d) (hs : M.Still d fr mn) (hE : Env10 w) (hpe : ¬ P 0) (hlow : ∀ k, P k → k < w.heap.size) (h1 : 24 ≤ mn) (h2 : mn ≤ 200) (hf : fr ≤ 1000) (ho : d.ops ≤ 10000000)
    (hN : M.hnewer (M.seen d.S d.L fr) (M.seen d.S d.L (fr + 1)) = (M.h0, 8)) :
    Calls Tryz.prog 11 #[.pointer (some ⟨a, 0, none⟩), .int .i64 (fr : Nat), .int .i64 (mn : Nat)] w fun e w' => e = .returned (.tuple #[.pointer none, .int .i64 32]) ∧ Kept P w w' := by
  have C1 := Lib.hid (logOn_yes fr mn w h h1 h2 hs.room)
  unfold M.logv at C1
  have C2 : Hid (∀ y, Below w.heap.size w y → Reg y (w.heap.size + 1) a fr mn → Calls Tryz.prog 35 #[.agg #[.pointer (some ⟨a, 0, none⟩), .int .i64 (fr : Nat), .pointer (some ⟨w.heap.size + 1, 0, none⟩), .pointer (some ⟨w.heap.size + 2, 0, none⟩)]] y fun e w' => e = .returned (.tuple #[.agg #[.int .i64 0, .int .i64 0, .int .i64 0], .int .i64 32]) ∧ Kept P w w') := by
    intro y hy hr
    refine (findHead_no y (h.beside hy) hs hr (fun e => by have := hlow _ e; omega) (hE.below hy) hpe (fun k e => Nat.lt_of_lt_of_le (hlow k e) hy.size) (by omega) hf (by omega) ho hN (rr := w.heap.size + 2)).mono ?_
    rintro e w' ⟨h1, d', _, _, _, _, _, hk⟩
    exact ⟨h1, (Kept.of_below hy P).trans hk⟩
  clear h hs hE hpe hlow h1 h2 hf ho hN
  go_enter Tryz.func11, Tryz.ntmps11
  go_wp2_with fail
  refine C1.out.mono ?_
  rintro e w1 ⟨rfl, hr1, hr2, hb1⟩
  have HL := Lib.hid (LogB.new w1 a fr (w.heap.size + 1) (w.heap.size + 2))
  obtain ⟨W1, hW1⟩ : ∃ x, x = w1.alloc (.cells #[.pointer (some ⟨a, 0, none⟩), .int .i64 (fr : Nat), .pointer (some ⟨w.heap.size + 1, 0, none⟩), .pointer (some ⟨w.heap.size + 2, 0, none⟩)] 65) := ⟨_, rfl⟩
  have hbl : Below w1.heap.size w1 W1 := by rw [hW1]; exact below1 _ _
  rw [← hW1] at HL
  obtain ⟨c0, c1, c2, c3⟩ := HL.out.cells
  have C3 := Lib.hid (C2.out W1 (hb1.trans (hbl.mono hb1.size)) (hr1.beside hbl))
  rw [hW1] at c0 c1 c2 c3
  clear hr1 hr2 hb1 hbl C2 C1 HL
  go_wp2_with fail
  rw [← hW1]
  clear c0 c1 c2 c3 hW1
  refine C3.out.mono ?_
  rintro e w2 ⟨rfl, hk⟩
  have HK := Lib.hid hk
  clear hk C3
  go_wp2_with fail
  go_ret2
  exact ⟨rfl, HK.out.alloc _⟩

/-- Where Open stands: the log's box, the disk, the regions. -/
structure Op14 (w y : World) (lb a fr mn : Nat) (P : Nat → Prop) (d : M.D) : Prop where
  disk : Disk y a P d
  log : LogB y lb a fr (w.heap.size + 1) (w.heap.size + 2)
  all : Reg y (w.heap.size + 1) a fr mn
  recs : Reg y (w.heap.size + 2) a (fr + 2) (mn - 2)
  kept : Kept P w y
  lb : w.heap.size ≤ lb
theorem Op14.beside {w y z : World} {lb a fr mn : Nat} {P : Nat → Prop} {d : M.D} (h : Op14 w y lb a fr mn P d) (hb : Below y.heap.size y z) : Op14 w z lb a fr mn P d :=
  ⟨h.disk.beside hb, Box.below h.log hb (Box.lt h.log), h.all.beside hb, h.recs.beside hb, h.kept.trans (Kept.of_below hb P), h.lb⟩
theorem Op14.disk' {w y z : World} {lb a fr mn : Nat} {P : Nat → Prop} {d d' : M.D} (h : Op14 w y lb a fr mn P d) (hd : Disk z a P d') (hk : Kept P y z) (hlow : ∀ k, P k → k < w.heap.size) : Op14 w z lb a fr mn P d' :=
  ⟨hd, hk.box h.log (fun e => by have := hlow _ e; have := h.lb; omega), h.all.kept hk (fun e => by have := hlow _ e; omega), h.recs.kept hk (fun e => by have := hlow _ e; omega), h.kept.trans hk, h.lb⟩

set_option maxHeartbeats 8000000 in
/-- A log without records is opened. -/
theorem open_empty (g q k fr mn : Nat) (w : World) {a : Nat} {P : Nat → Prop} {d : M.D} (h : Disk w a P d) (hs : M.Still d fr mn) (hE : Env10 w) (hpe : ¬ P 0) (hlow : ∀ k, P k → k < w.heap.size) (h1 : 24 ≤ mn) (h2 : mn ≤ 200) (hf : fr ≤ 800) (ho : d.ops ≤ 100000)
    (hN : M.hnewer (M.seen d.S d.L fr) (M.seen d.S d.L (fr + 1)) = (⟨(g : Nat), (q : Nat), (k : Nat)⟩, 0)) (hk : k < mn - 2) (hg9 : g ≤ 1000000) (hq9 : q ≤ 1000000) (hz : M.szE (M.seen d.S d.L (fr + 2 + k % (mn - 2))) (q : Nat) ≠ 0) :
    Calls Tryz.prog 11 #[.pointer (some ⟨a, 0, none⟩), .int .i64 (fr : Nat), .int .i64 (mn : Nat)] w fun e w' => ∃ b d', e = .returned (.tuple #[.pointer (some ⟨b, 0, none⟩), .int .i64 0]) ∧ M.Still d' fr mn ∧ d'.S.length = d.S.length ∧ d'.ops ≤ d.ops + 100 ∧ Kept P w w' ∧
      Wal w' b (fun j => P j ∨ w.heap.size ≤ j) fr mn ⟨g + 1, q + mn, 0, 0, false, false, d', [], []⟩ := by
  obtain ⟨m2, hm2⟩ : ∃ x, x = mn - 2 := ⟨_, rfl⟩
  have hsz : d.S.length ≤ 1000 := h.inv.many
  have C1 := Lib.hid (logOn_yes fr mn w h h1 h2 hs.room)
  have C2 : Hid (∀ y lb, Op14 w y lb a fr mn P d → Calls Tryz.prog 35 #[.agg #[.pointer (some ⟨a, 0, none⟩), .int .i64 (fr : Nat), .pointer (some ⟨w.heap.size + 1, 0, none⟩), .pointer (some ⟨w.heap.size + 2, 0, none⟩)]] y fun e w' => e = .returned (.tuple #[.agg #[.int .i64 (g : Nat), .int .i64 (q : Nat), .int .i64 (k : Nat)], .int .i64 0]) ∧ ∃ d', Op14 w w' lb a fr mn P d' ∧ M.Still d' fr mn ∧ d'.S = d.S ∧ d'.L = d.L ∧ d'.ops = d.ops + 2) := by
    intro y lb hy
    refine (findHead_yes g q k y hy.disk hs hy.all hy.recs (fun e => by have := hlow _ e; omega) (fun e => by have := hlow _ e; omega) (hE.kept hy.kept hpe) hpe (fun j e => Nat.lt_of_lt_of_le (hlow j e) hy.kept.size) (by omega) (by omega) (by omega) (by omega) hN hk (by omega) (by omega)).mono ?_
    rintro e w' ⟨h1, d', h2, h3, h4, h5, h6, h7⟩
    exact ⟨h1, d', hy.disk' h2 h7 hlow, h3, h4, h5, h6⟩
  have C3 : Hid (∀ y lb d1, Op14 w y lb a fr mn P d1 → M.Still d1 fr mn → d1.S = d.S → d1.L = d.L → d1.ops = d.ops + 2 → Calls Tryz.prog 36 #[.agg #[.pointer (some ⟨a, 0, none⟩), .int .i64 (fr : Nat), .pointer (some ⟨w.heap.size + 1, 0, none⟩), .pointer (some ⟨w.heap.size + 2, 0, none⟩)], .agg #[.int .i64 (g : Nat), .int .i64 (q : Nat), .int .i64 (k : Nat)]] y fun e w' => e = .returned (.tuple #[.slice none 0 0, .int .i64 0, .int .i64 0]) ∧ ∃ d', Op14 w w' lb a fr mn P d' ∧ M.Still d' fr mn ∧ d'.S = d.S ∧ d'.L = d.L ∧ d'.ops ≤ d.ops + 19 ∧ Kept P y w') := by
    intro y lb d1 hy h1 h2 h3 h4
    have hr := hy.recs
    rw [← hm2] at hr hz hk
    refine (findRecords_no g q k y hy.disk ⟨h1.calm, by have := h1.room; omega, by omega⟩ hr (fun e => by have := hlow _ e; omega) (fun j e => Nat.lt_of_lt_of_le (hlow j e) hy.kept.size) (by omega) (by omega) hk (by omega) (by rw [h2, h3]; exact hz) (ra := w.heap.size + 1)).mono ?_
    rintro e w' ⟨e1, d', e2, e3, e4, e5, e6, e7⟩
    exact ⟨e1, d', hy.disk' e2 e7 hlow, ⟨e3.calm, by rw [e4]; exact h1.room, by omega⟩, by rw [e4, h2], by rw [e5, h3], by omega, e7⟩
  have C4 : Hid (∀ y, Reg y (w.heap.size + 1) a fr mn → Calls Tryz.prog 37 #[.agg #[.pointer (some ⟨a, 0, none⟩), .int .i64 (fr : Nat), .pointer (some ⟨w.heap.size + 1, 0, none⟩), .pointer (some ⟨w.heap.size + 2, 0, none⟩)], .agg #[.int .i64 (g : Nat), .int .i64 (q : Nat), .int .i64 (k : Nat)], .int .i64 0] y fun e w' => e = .returned (.agg #[.int .i64 ((g + 1 : Nat) : Int), .int .i64 ((q + mn : Nat) : Int), .int .i64 0]) ∧ Below y.heap.size y w') := fun y hy => anew_any g q k 0 y hy (by omega) (by omega) (by omega) (by omega) (rr := w.heap.size + 2)
  have hmay : M.hmay ⟨((g + 1 : Nat) : Int), ((q + mn : Nat) : Int), ((0 : Nat) : Int)⟩ = true := by
    rw [M.hmay_iff]
    refine ⟨⟨?_, ?_⟩, ⟨?_, ?_⟩, ?_, ?_⟩ <;> simp only <;> omega
  have C5 : Hid (∀ y, Calls Tryz.prog 38 #[.agg #[.int .i64 ((g + 1 : Nat) : Int), .int .i64 ((q + mn : Nat) : Int), .int .i64 0]] y fun e w' => e = .returned (.bool true) ∧ Below y.heap.size y w') := by
    intro y
    have := may14_any ((g + 1 : Nat) : Int) ((q + mn : Nat) : Int) 0 y
    rw [show M.hmay ⟨((g + 1 : Nat) : Int), ((q + mn : Nat) : Int), 0⟩ = true from hmay] at this
    exact this
  have C6 : Hid (∀ y lb d1, Op14 w y lb a fr mn P d1 → M.Still d1 fr mn → d1.S = d.S → d1.ops ≤ d.ops + 19 → Calls Tryz.prog 39 #[.agg #[.pointer (some ⟨a, 0, none⟩), .int .i64 (fr : Nat), .pointer (some ⟨w.heap.size + 1, 0, none⟩), .pointer (some ⟨w.heap.size + 2, 0, none⟩)], .slice none 0 0, .agg #[.int .i64 ((g + 1 : Nat) : Int), .int .i64 ((q + mn : Nat) : Int), .int .i64 0]] y fun e w' => e = .returned (.int .i64 0) ∧
      ∃ d', M.Still d' fr mn ∧ d'.S.length = d.S.length ∧ d'.ops ≤ d.ops + 100 ∧ Disk w' a (M.plus P y.heap.size) d' ∧ Kept P y w') := by
    intro y lb d1 hy hs1 hS1 ho1
    obtain ⟨d2, d3, d4, d5, d6, hM⟩ := M.mv14 (L := []) (g + 1) (q + mn) 0 hs1 (fun x hx => by cases hx) (by omega)
    refine (moveOn_ok (g + 1) (q + mn) 0 hmay none 0 [] (by simp) y hy.disk hy.all (fun e => by have := hlow _ e; omega) (by omega) (by omega) (fun _ => 0) (fun _ => ⟨#[]⟩) (SecF.nil _ _ _ _) (fun k p e => by cases e) (fun ad e => by cases e) hM (by omega) (rr := w.heap.size + 2)).mono ?_
    rintro e w' ⟨e1, e2, e3⟩
    exact ⟨e1, d6, hM.still, by rw [hM.len, hS1], by rw [hM.o5, hM.o4, hM.o3, hM.o2, hM.o1]; simp; omega, e2, e3⟩
  unfold M.logv at C1
  have HD := Lib.hid h
  have HLOW := Lib.hid hlow
  clear h hs hE hpe h1 h2 hf ho hN hk hg9 hq9 hz hm2 hsz hmay hlow
  obtain ⟨g1, hg1⟩ : ∃ x, x = g + 1 := ⟨_, rfl⟩
  obtain ⟨q1, hq1⟩ : ∃ x, x = q + mn := ⟨_, rfl⟩
  rw [← hg1, ← hq1] at C4 C5 C6
  rw [← hg1, ← hq1]
  clear hg1 hq1
  go_enter Tryz.func11, Tryz.ntmps11
  go_wp2_with fail
  refine C1.out.mono ?_
  rintro e w1 ⟨rfl, hr1, hr2, hb1⟩
  obtain ⟨W1, hW1⟩ : ∃ x, x = w1.alloc (.cells #[.pointer (some ⟨a, 0, none⟩), .int .i64 (fr : Nat), .pointer (some ⟨w.heap.size + 1, 0, none⟩), .pointer (some ⟨w.heap.size + 2, 0, none⟩)] 65) := ⟨_, rfl⟩
  have hO1 : Op14 w W1 w1.heap.size a fr mn P d := by
    have hbl : Below w1.heap.size w1 W1 := by rw [hW1]; exact below1 _ _
    have hbw := hb1.trans (hbl.mono hb1.size)
    exact ⟨HD.out.beside hbw, by rw [hW1]; exact LogB.new _ _ _ _ _, hr1.beside hbl, hr2.beside hbl, Kept.of_below hbw P, hb1.size⟩
  have HO1 := Lib.hid hO1
  obtain ⟨c0, c1, c2, c3⟩ := hO1.log.cells
  rw [hW1] at c0 c1 c2 c3
  obtain ⟨lb, hlb⟩ : ∃ x, x = w1.heap.size := ⟨_, rfl⟩
  rw [← hlb] at HO1
  clear hr1 hr2 hb1 C1 HD hO1
  go_wp2_with fail
  rw [← hW1]
  clear c0 c1 c2 c3
  rw [← hlb]
  clear hW1 hlb
  refine (C2.out W1 lb HO1.out).mono ?_
  rintro e w2 ⟨rfl, d2, hO2, hs2, e2, f2, g2⟩
  have HO2 := Lib.hid hO2
  have HF2 := Lib.hid (And.intro hs2 (And.intro e2 (And.intro f2 g2)))
  clear hO2 hs2 e2 f2 g2 HO1 C2
  have HLE : Hid (w.heap.size ≤ w2.heap.size) := HO2.out.kept.size
  have HHB := Lib.hid (B3.new w2 69 (g : Nat) (q : Nat) (k : Nat))
  obtain ⟨W2, hW2⟩ : ∃ x, x = w2.alloc (.cells #[.int .i64 (g : Nat), .int .i64 (q : Nat), .int .i64 (k : Nat)] 69) := ⟨_, rfl⟩
  have HO3 : Hid (Op14 w W2 lb a fr mn P d2) := HO2.out.beside (by rw [hW2]; exact below1 _ _)
  rw [← hW2] at HHB
  obtain ⟨c0, c1, c2, c3⟩ := HO3.out.log.cells
  obtain ⟨k0, k1, k2⟩ := HHB.out.cells
  rw [hW2] at c0 c1 c2 c3 k0 k1 k2
  go_wp2_with fail
  rw [← hW2]
  clear c0 c1 c2 c3 k0 k1 k2 HO2
  obtain ⟨hb, hhb⟩ : ∃ x, x = w2.heap.size := ⟨_, rfl⟩
  have HHL : Hid (w.heap.size ≤ hb) := by show _ ≤ hb; rw [hhb]; exact HLE.out
  rw [← hhb] at HHB
  rw [← hhb]
  clear hW2 hhb
  refine (C3.out W2 lb d2 HO3.out HF2.out.1 HF2.out.2.1 HF2.out.2.2.1 HF2.out.2.2.2).mono ?_
  rintro e w3 ⟨rfl, d3, hO3, hs3, e3, f3, g3, hk3⟩
  have hP0 : ∀ j, w.heap.size ≤ j → ¬ P j := fun j hj e => by have := HLOW.out j e; omega
  have hwW : w.heap.size ≤ hb := HHL.out
  have hH3 : B3 w3 hb 69 (g : Nat) (q : Nat) (k : Nat) := hk3.box HHB.out (hP0 _ hwW)
  have HO4 := Lib.hid hO3
  have HF4 := Lib.hid (And.intro hs3 (And.intro e3 g3))
  have HHB3 := Lib.hid hH3
  clear hO3 hs3 e3 f3 g3 hk3 hP0 hwW hH3 HO3 HF2 HHB HHL C3
  obtain ⟨c0, c1, c2, c3⟩ := HO4.out.log.cells
  obtain ⟨k0, k1, k2⟩ := HHB3.out.cells
  go_wp2_with fail
  refine (C4.out w3 HO4.out.all).mono ?_
  rintro e w4 ⟨rfl, hb4⟩
  have HNB := Lib.hid (B3.new w4 69 (g1 : Nat) (q1 : Nat) 0)
  obtain ⟨W4, hW4⟩ : ∃ x, x = w4.alloc (.cells #[.int .i64 (g1 : Nat), .int .i64 (q1 : Nat), .int .i64 0] 69) := ⟨_, rfl⟩
  have HO5 : Hid (Op14 w W4 lb a fr mn P d3) := (HO4.out.beside hb4).beside (by rw [hW4]; exact below1 _ _)
  rw [← hW4] at HNB
  obtain ⟨n0, n1, n2⟩ := HNB.out.cells
  rw [hW4] at n0 n1 n2
  have HLE4 : Hid (w.heap.size ≤ w4.heap.size) := Nat.le_trans HO4.out.kept.size hb4.size
  clear c0 c1 c2 c3 k0 k1 k2 hb4 HO4 HHB3 C4
  go_wp2_with fail
  rw [← hW4]
  obtain ⟨nb, hnb⟩ : ∃ x, x = w4.heap.size := ⟨_, rfl⟩
  have HNL : Hid (w.heap.size ≤ nb) := by show _ ≤ nb; rw [hnb]; exact HLE4.out
  rw [← hnb] at HNB
  rw [← hnb]
  clear hW4 hnb n0 n1 n2
  refine (C5.out W4).mono ?_
  rintro e w5 ⟨rfl, hb5⟩
  have HO6 := Lib.hid (HO5.out.beside hb5)
  have HNB5 := Lib.hid (HNB.out.below hb5 HNB.out.lt)
  clear hb5 HO5 HNB C5
  obtain ⟨c0, c1, c2, c3⟩ := HO6.out.log.cells
  obtain ⟨n0, n1, n2⟩ := HNB5.out.cells
  go_wp2_with fail
  refine (C6.out w5 lb d3 HO6.out HF4.out.1 HF4.out.2.1 HF4.out.2.2).mono ?_
  rintro e w6 ⟨rfl, d6, hs6, e6, f6, hd6, hk6⟩
  clear c0 c1 c2 c3 n0 n1 n2
  have hP0 : ∀ j, w.heap.size ≤ j → ¬ P j := fun j hj e => by have := HLOW.out j e; omega
  have hL6 : LogB w6 lb a fr (w.heap.size + 1) (w.heap.size + 2) := hk6.box HO6.out.log (hP0 _ HO6.out.lb)
  have hN6 : B3 w6 nb 69 (g1 : Nat) (q1 : Nat) 0 := hk6.box HNB5.out (hP0 _ HNL.out)
  have hR1 : Reg w6 (w.heap.size + 1) a fr mn := HO6.out.all.kept hk6 (hP0 _ (by omega))
  have hR2 : Reg w6 (w.heap.size + 2) a (fr + 2) (mn - 2) := HO6.out.recs.kept hk6 (hP0 _ (by omega))
  have HST : Hid (∀ y, Below w6.heap.size w6 y → y.cell? ⟨lb, 0, none⟩ = some (.pointer (some ⟨a, 0, none⟩)) ∧ y.cell? ⟨lb, 1, none⟩ = some (.int .i64 (fr : Nat)) ∧ y.cell? ⟨lb, 2, none⟩ = some (.pointer (some ⟨w.heap.size + 1, 0, none⟩)) ∧ y.cell? ⟨lb, 3, none⟩ = some (.pointer (some ⟨w.heap.size + 2, 0, none⟩)) ∧
      y.cell? ⟨nb, 0, none⟩ = some (.int .i64 (g1 : Nat)) ∧ y.cell? ⟨nb, 1, none⟩ = some (.int .i64 (q1 : Nat)) ∧ y.cell? ⟨nb, 2, none⟩ = some (.int .i64 0)) := by
    intro y hy
    have h1 : LogB y lb a fr (w.heap.size + 1) (w.heap.size + 2) := Box.below hL6 hy (Box.lt hL6)
    have h2 : B3 y nb 69 (g1 : Nat) (q1 : Nat) 0 := hN6.below hy hN6.lt
    exact ⟨h1.cells.1, h1.cells.2.1, h1.cells.2.2.1, h1.cells.2.2.2, h2.cells.1, h2.cells.2.1, h2.cells.2.2⟩
  have HB0 : Hid (Below w6.heap.size w6 (w6.drewN 1)) := below_drewN (Below.refl _ w6) 1
  have HFIN : Hid (∀ w7, Sh 115 w7 w6.heap.size (fun k => w6.heap.size ≤ k) [] [] → Below w6.heap.size w6 w7 → M.Still d6 fr mn ∧ d6.S.length = d.S.length ∧ d6.ops ≤ d.ops + 100 ∧ Kept P w (w7.alloc (.cells #[.pointer (some ⟨a, 0, none⟩), .int .i64 (fr : Nat), .pointer (some ⟨w.heap.size + 1, 0, none⟩), .pointer (some ⟨w.heap.size + 2, 0, none⟩), .int .i64 (g1 : Nat), .int .i64 (q1 : Nat), .int .i64 0, .int .i64 0, .bool false, .bool false, .pointer (some ⟨w6.heap.size, 0, none⟩)] 80)) ∧
      Wal (w7.alloc (.cells #[.pointer (some ⟨a, 0, none⟩), .int .i64 (fr : Nat), .pointer (some ⟨w.heap.size + 1, 0, none⟩), .pointer (some ⟨w.heap.size + 2, 0, none⟩), .int .i64 (g1 : Nat), .int .i64 (q1 : Nat), .int .i64 0, .int .i64 0, .bool false, .bool false, .pointer (some ⟨w6.heap.size, 0, none⟩)] 80)) w7.heap.size (fun j => P j ∨ w.heap.size ≤ j) fr mn ⟨g1, q1, 0, 0, false, false, d6, [], []⟩) := by
    intro w7 hsh hb7
    have hb8 : Below w7.heap.size w7 (w7.alloc (.cells #[.pointer (some ⟨a, 0, none⟩), .int .i64 (fr : Nat), .pointer (some ⟨w.heap.size + 1, 0, none⟩), .pointer (some ⟨w.heap.size + 2, 0, none⟩), .int .i64 (g1 : Nat), .int .i64 (q1 : Nat), .int .i64 0, .int .i64 0, .bool false, .bool false, .pointer (some ⟨w6.heap.size, 0, none⟩)] 80)) := below1 _ _
    have hb9 : Below w6.heap.size w6 (w7.alloc (.cells #[.pointer (some ⟨a, 0, none⟩), .int .i64 (fr : Nat), .pointer (some ⟨w.heap.size + 1, 0, none⟩), .pointer (some ⟨w.heap.size + 2, 0, none⟩), .int .i64 (g1 : Nat), .int .i64 (q1 : Nat), .int .i64 0, .int .i64 0, .bool false, .bool false, .pointer (some ⟨w6.heap.size, 0, none⟩)] 80)) := hb7.trans (hb8.mono hb7.size)
    have z1 := HO6.out.all.lt
    have z2 := HO6.out.recs.lt
    have z3 := hk6.size
    have z4 := hb7.size
    have z5 := HO6.out.kept.size
    have z6 := hsh.lt
    refine ⟨hs6, e6, f6, (HO6.out.kept.trans hk6).trans (Kept.of_below hb9 P), a, w.heap.size + 1, w.heap.size + 2, w6.heap.size, fun j => (P j ∨ w5.heap.size ≤ j) ∧ j < w6.heap.size, fun j => w6.heap.size ≤ j ∧ j < w7.heap.size,
      ⟨Box.new _ _ _, (hd6.mono (fun j hj e => ⟨e, hj⟩)).beside hb9, hR1.beside hb9, hR2.beside hb9, (hsh.mono (fun j hj e => ⟨e, hj⟩)).kept (Kept.of_below hb8 (fun _ => False)) (fun _ _ => id), fun j e => by have := e.2; have := hb9.size; omega, fun j e => by have := e.2; rw [World.size_alloc]; omega,
        fun e => by have := e.2; omega, fun e => e.1.elim (hP0 _ (by omega)) (fun e => by omega), fun e => e.1.elim (hP0 _ (by omega)) (fun e => by omega), fun e => by have := e.2; omega, fun e => by have := e.1; omega, fun e => by have := e.1; omega, by omega, by omega, fun j e e' => by have := e.2; have := e'.1; omega⟩,
      Or.inr (by omega), Or.inr (by omega), Or.inr (by omega), fun j e => e.1.imp id (fun e => by omega), fun j e => Or.inr (by have := e.1; omega)⟩
  clear hP0 hL6 hN6 hR1 hR2 hs6 e6 f6 hd6 hk6 HO6 HNB5 HNL HLOW HF4 HLE HLE4 C6
  go_wp2_with fail
  go_region_held3 (fun y => y.cell? ⟨lb, 0, none⟩ = some (.pointer (some ⟨a, 0, none⟩)) ∧ y.cell? ⟨lb, 1, none⟩ = some (.int .i64 (fr : Nat)) ∧ y.cell? ⟨lb, 2, none⟩ = some (.pointer (some ⟨w.heap.size + 1, 0, none⟩)) ∧ y.cell? ⟨lb, 3, none⟩ = some (.pointer (some ⟨w.heap.size + 2, 0, none⟩)) ∧
      y.cell? ⟨nb, 0, none⟩ = some (.int .i64 (g1 : Nat)) ∧ y.cell? ⟨nb, 1, none⟩ = some (.int .i64 (q1 : Nat)) ∧ y.cell? ⟨nb, 2, none⟩ = some (.int .i64 0)) (first | exact HST.out _ hbS8 | exact HST.out _ hbS7 | exact HST.out _ HB0.out) (first
    | (go_at_call 40
       refine (Q.new13_any _).mono ?_
       rintro e w7 ⟨rfl, hsh, hb7⟩
       have hbS7 : Below w6.heap.size w6 w7 := HB0.out.trans hb7
       have hbS8 : Below w6.heap.size w6 (w7.alloc (.cells #[.pointer (some ⟨a, 0, none⟩), .int .i64 (fr : Nat), .pointer (some ⟨w.heap.size + 1, 0, none⟩), .pointer (some ⟨w.heap.size + 2, 0, none⟩), .int .i64 (g1 : Nat), .int .i64 (q1 : Nat), .int .i64 0, .int .i64 0, .bool false, .bool false, .pointer (some ⟨w6.heap.size, 0, none⟩)] 80)) := hbS7.trans ((below1 _ _).mono hbS7.size)))
  have HR := Lib.hid (HFIN.out w7 hsh hbS7)
  clear hsh hb7 hbS7 hbS8 HFIN HST
  go_wp2_with fail
  go_ret2
  exact ⟨_, d6, rfl, HR.out.1, HR.out.2.1, HR.out.2.2.1, HR.out.2.2.2.1, HR.out.2.2.2.2⟩
end Go.Proofs.YtncbbejmibddcaaGreatDoor
