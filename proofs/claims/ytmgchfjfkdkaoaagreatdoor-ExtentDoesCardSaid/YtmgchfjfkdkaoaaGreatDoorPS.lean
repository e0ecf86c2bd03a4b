/-
  Walks over wal.Open: where there is no head; on any disk. (Written by wip/gen_bopen.py.)
-/
import Derived.Test.YtmgchfjfkdkaoaaGreatDoorPQ
import Derived.Test.YtmgchfjfkdkaoaaGreatDoorPJ
import Derived.Test.YtmgchfjfkdkaoaaGreatDoorPL
import Derived.Test.YtmgchfjfkdkaoaaGreatDoorPF
import Derived.Test.YtmgchfjfkdkaoaaGreatDoorPH
namespace Go.Proofs.YtmgchfjfkdkaoaaGreatDoor
open Go.RowKit Go.Maps

set_option maxHeartbeats 4000000 in
theorem open_no (fr mn : Nat) (w : World) {a : Nat} {P : Nat → Prop} {d : M.D} (h : Disk w a P d) (hs : M.Still d fr mn) (hE : Env10 w) (hpe : ¬ P 0) (hlow : ∀ k, P k → k < w.heap.size) (h1 : 24 ≤ mn) (h2 : mn ≤ 200) (hf : fr ≤ 1000) (ho : d.ops ≤ 10000000)
    (hN : M.hnewer (M.seen d.S d.L fr) (M.seen d.S d.L (fr + 1)) = (M.h0, 8)) :
    Calls Tryz.prog 16 #[.pointer (some ⟨a, 0, none⟩), .int .i64 (fr : Nat), .int .i64 (mn : Nat)] w fun e w' => e = .returned (.tuple #[.pointer none, .int .i64 32]) ∧ Kept P w w' := by
  have C1 := Lib.hid (logOn_yes fr mn w h h1 h2 hs.room)
  unfold M.logv at C1
  have C2 : Hid (∀ y, Below w.heap.size w y → Reg y (w.heap.size + 1) a fr mn → Calls Tryz.prog 32 #[.agg #[.pointer (some ⟨a, 0, none⟩), .int .i64 (fr : Nat), .pointer (some ⟨w.heap.size + 1, 0, none⟩), .pointer (some ⟨w.heap.size + 2, 0, none⟩)]] y fun e w' => e = .returned (.tuple #[.agg #[.int .i64 0, .int .i64 0, .int .i64 0], .int .i64 32]) ∧ Kept P w w') := by
    intro y hy hr
    refine (findHead_no y (h.beside hy) hs hr (fun e => by have := hlow _ e; omega) (hE.below hy) hpe (fun k e => Nat.lt_of_lt_of_le (hlow k e) hy.size) (by omega) hf (by omega) ho hN (rr := w.heap.size + 2)).mono ?_
    rintro e w' ⟨h1, d', _, _, _, _, _, hk⟩
    exact ⟨h1, (Kept.of_below hy P).trans hk⟩
  clear h hs hE hpe hlow h1 h2 hf ho hN
  go_enter Tryz.func16, Tryz.ntmps16
  go_wp2_with fail
  refine C1.out.mono ?_
  rintro e w1 ⟨rfl, hr1, hr2, hb1⟩
  have HL := Lib.hid (LogB.new w1 a fr (w.heap.size + 1) (w.heap.size + 2))
  obtain ⟨W1, hW1⟩ : ∃ x, x = w1.alloc (.cells #[.pointer (some ⟨a, 0, none⟩), .int .i64 (fr : Nat), .pointer (some ⟨w.heap.size + 1, 0, none⟩), .pointer (some ⟨w.heap.size + 2, 0, none⟩)] 59) := ⟨_, rfl⟩
  have hbl : Below w1.heap.size w1 W1 := by rw [hW1]; exact below1 _ _
  rw [← hW1] at HL
  obtain ⟨c0, c1, c2, c3⟩ := HL.out.cells
  have C3 := Lib.hid (C2.out W1 (hb1.trans (hbl.mono hb1.size)) (hr1.beside hbl))
  rw [hW1] at c0 c1 c2 c3
  clear hr1 hr2 hb1 hbl C2 C1 HL
  go_wp2_with fail
  rw [← hW1]
  clear c0 c1 c2 c3 hW1
  refine C3.out.mono ?_
  rintro e w2 ⟨rfl, hk⟩
  have HK := Lib.hid hk
  clear hk C3
  go_wp2_with fail
  go_ret2
  exact ⟨rfl, HK.out.alloc _⟩

/-- Where Open stands: the log's box, the disk, the regions. -/
structure Op14 (w y : World) (lb a fr mn : Nat) (P : Nat → Prop) (d : M.D) : Prop where
  disk : Disk y a P d
  log : LogB y lb a fr (w.heap.size + 1) (w.heap.size + 2)
  all : Reg y (w.heap.size + 1) a fr mn
  recs : Reg y (w.heap.size + 2) a (fr + 2) (mn - 2)
  kept : Kept P w y
  lb : w.heap.size ≤ lb
theorem Op14.beside {w y z : World} {lb a fr mn : Nat} {P : Nat → Prop} {d : M.D} (h : Op14 w y lb a fr mn P d) (hb : Below y.heap.size y z) : Op14 w z lb a fr mn P d :=
  ⟨h.disk.beside hb, Box.below h.log hb (Box.lt h.log), h.all.beside hb, h.recs.beside hb, h.kept.trans (Kept.of_below hb P), h.lb⟩
theorem Op14.disk' {w y z : World} {lb a fr mn : Nat} {P : Nat → Prop} {d d' : M.D} (h : Op14 w y lb a fr mn P d) (hd : Disk z a P d') (hk : Kept P y z) (hlow : ∀ k, P k → k < w.heap.size) : Op14 w z lb a fr mn P d' :=
  ⟨hd, hk.box h.log (fun e => by have := hlow _ e; have := h.lb; omega), h.all.kept hk (fun e => by have := hlow _ e; omega), h.recs.kept hk (fun e => by have := hlow _ e; omega), h.kept.trans hk, h.lb⟩

/-! The walks. -/
set_option maxHeartbeats 4000000 in
/-- Where the heads cannot be read. -/
theorem open_err1 (fr mn : Nat) (w : World) {a : Nat} {P : Nat → Prop} {d : M.D} (h : Disk w a P d) (hlow : ∀ k, P k → k < w.heap.size) (h1 : 24 ≤ mn) (h2 : mn ≤ 200) (hin : fr + mn ≤ d.S.length) (hf : fr ≤ 800) (ho : d.ops ≤ 900000) {d1 : M.D} {s0 : ByteArray} {E : Int} (hG : M.gread d fr mn 0 2 = (s0, E, d1)) (hE0 : E ≠ 0) :
    Calls Tryz.prog 16 #[.pointer (some ⟨a, 0, none⟩), .int .i64 (fr : Nat), .int .i64 (mn : Nat)] w fun e w' => e = .returned (.tuple #[.pointer none, .int .i64 E]) ∧ Disk w' a P d1 ∧ Kept P w w' := by
  have C1 := Lib.hid (logOn_yes fr mn w h h1 h2 hin)
  unfold M.logv at C1
  have hE' : (E == 0) = false := by rw [beq_eq_false_iff_ne]; exact hE0
  have C2 : Hid (∀ y lb, Op14 w y lb a fr mn P d → Calls Tryz.prog 32 #[.agg #[.pointer (some ⟨a, 0, none⟩), .int .i64 (fr : Nat), .pointer (some ⟨w.heap.size + 1, 0, none⟩), .pointer (some ⟨w.heap.size + 2, 0, none⟩)]] y fun e w' => e = .returned (.tuple #[.agg #[.int .i64 0, .int .i64 0, .int .i64 0], .int .i64 E]) ∧ Disk w' a P d1 ∧ Kept P w w') := by
    intro y lb hy
    refine (findHead_err y hy.disk hG hE0 hy.all (fun e => by have := hlow _ e; omega) (fun j e => Nat.lt_of_lt_of_le (hlow j e) hy.kept.size) (by omega) (by omega) (by omega) (rr := w.heap.size + 2)).mono ?_
    rintro e w' ⟨h1, h2, h3⟩
    exact ⟨h1, h2, hy.kept.trans h3⟩
  have HD := Lib.hid h
  clear h hlow h1 h2 hin hf ho hG hE0
  go_enter Tryz.func16, Tryz.ntmps16
  go_wp2_with fail
  refine C1.out.mono ?_
  rintro e w1 ⟨rfl, hr1, hr2, hb1⟩
  obtain ⟨W1, hW1⟩ : ∃ x, x = w1.alloc (.cells #[.pointer (some ⟨a, 0, none⟩), .int .i64 (fr : Nat), .pointer (some ⟨w.heap.size + 1, 0, none⟩), .pointer (some ⟨w.heap.size + 2, 0, none⟩)] 59) := ⟨_, rfl⟩
  have hO1 : Op14 w W1 w1.heap.size a fr mn P d := by
    have hbl : Below w1.heap.size w1 W1 := by rw [hW1]; exact below1 _ _
    have hbw := hb1.trans (hbl.mono hb1.size)
    exact ⟨HD.out.beside hbw, by rw [hW1]; exact LogB.new _ _ _ _ _, hr1.beside hbl, hr2.beside hbl, Kept.of_below hbw P, hb1.size⟩
  have HO1 := Lib.hid hO1
  obtain ⟨c0, c1, c2, c3⟩ := hO1.log.cells
  rw [hW1] at c0 c1 c2 c3
  obtain ⟨lb, hlb⟩ : ∃ x, x = w1.heap.size := ⟨_, rfl⟩
  rw [← hlb] at HO1
  clear hr1 hr2 hb1 C1 HD hO1
  go_wp2_with fail
  rw [← hW1]
  clear c0 c1 c2 c3
  try rw [← hlb]
  clear hW1 hlb
  refine (C2.out W1 lb HO1.out).mono ?_
  rintro e w2 ⟨rfl, hd2, hk2⟩
  have HR : Hid (Disk (w2.alloc (.cells #[.int .i64 0, .int .i64 0, .int .i64 0] 73)) a P d1 ∧ Kept P w (w2.alloc (.cells #[.int .i64 0, .int .i64 0, .int .i64 0] 73))) := ⟨hd2.beside (below1 _ _), hk2.alloc _⟩
  clear hd2 hk2 HO1 C2
  go_wp2_with fail
  go_ret2
  exact ⟨rfl, HR.out⟩

set_option maxHeartbeats 8000000 in
/-- Where the records cannot be read. -/
theorem open_err2 (g q k fr mn : Nat) (w : World) {a : Nat} {P : Nat → Prop} {d : M.D} (h : Disk w a P d) (hlow : ∀ k, P k → k < w.heap.size) (h1 : 24 ≤ mn) (h2 : mn ≤ 200) (hin : fr + mn ≤ d.S.length) (hf : fr ≤ 800) (ho : d.ops ≤ 900000) (hE : Env10 w) (hpe : ¬ P 0) {d1 : M.D} {s0 s1 : ByteArray} (hG : M.gread d fr mn 0 2 = (s0 ++ s1, 0, d1)) (hz0 : s0.size = 64) (hz1 : s1.size = 64) (ho1 : d1.ops ≤ 900100)
    (hN : M.hnewer s0 s1 = (⟨(g : Nat), (q : Nat), (k : Nat)⟩, 0)) (hk : k < mn - 2) (hg9 : g ≤ 100000000) (hq9 : q ≤ 100000000) {d2 : M.D} {u : Nat} {l : List M.Rec} {E : Int} (hsc : M.scan M.dR (fr + 2) (mn - 2) k (q : Nat) 2000 (mn - 2 + 1) d1 0 [] = (E, d2, u, l)) (hE0 : E ≠ 0) (hgd : ∀ x ∈ l, M.getE x.s = 0 → ∀ i, i < M.gN x.s → M.guards d1.S.length fr mn (M.gA x.s i) = true) :
    Calls Tryz.prog 16 #[.pointer (some ⟨a, 0, none⟩), .int .i64 (fr : Nat), .int .i64 (mn : Nat)] w fun e w' => e = .returned (.tuple #[.pointer none, .int .i64 E]) ∧ Disk w' a P d2 ∧ Kept P w w' := by
  have C1 := Lib.hid (logOn_yes fr mn w h h1 h2 hin)
  have hE' : (E == 0) = false := by rw [beq_eq_false_iff_ne]; exact hE0
  have C2 : Hid (∀ y lb, Op14 w y lb a fr mn P d → Calls Tryz.prog 32 #[.agg #[.pointer (some ⟨a, 0, none⟩), .int .i64 (fr : Nat), .pointer (some ⟨w.heap.size + 1, 0, none⟩), .pointer (some ⟨w.heap.size + 2, 0, none⟩)]] y fun e w' => e = .returned (.tuple #[.agg #[.int .i64 (g : Nat), .int .i64 (q : Nat), .int .i64 (k : Nat)], .int .i64 0]) ∧ Op14 w w' lb a fr mn P d1) := by
    intro y lb hy
    refine (findHead_yes g q k y hy.disk hG hz0 hz1 hy.all hy.recs (fun e => by have := hlow _ e; omega) (fun e => by have := hlow _ e; omega) (hE.kept hy.kept hpe) hpe (fun j e => Nat.lt_of_lt_of_le (hlow j e) hy.kept.size) (by omega) (by omega) (by omega) (by omega) hN hk (by omega) (by omega)).mono ?_
    rintro e w' ⟨h1, h2, h3⟩
    exact ⟨h1, hy.disk' h2 h3 hlow⟩
  have C3 : Hid (∀ y lb, Op14 w y lb a fr mn P d1 → Calls Tryz.prog 33 #[.agg #[.pointer (some ⟨a, 0, none⟩), .int .i64 (fr : Nat), .pointer (some ⟨w.heap.size + 1, 0, none⟩), .pointer (some ⟨w.heap.size + 2, 0, none⟩)], .agg #[.int .i64 (g : Nat), .int .i64 (q : Nat), .int .i64 (k : Nat)]] y fun e w' => e = .returned (.tuple #[.slice none 0 0, .int .i64 0, .int .i64 E]) ∧ Disk w' a P d2 ∧ Kept P w w') := by
    intro y lb hy
    refine (findRecords_err g q k y hy.disk hy.all (fun e => by have := hlow _ e; omega) hy.recs (fun e => by have := hlow _ e; omega) (fun j e => Nat.lt_of_lt_of_le (hlow j e) hy.kept.size) (by omega) (by omega) (by omega) hk (by omega) hE0 hsc hgd).mono ?_
    rintro e w' ⟨h1, h2, h3⟩
    exact ⟨h1, h2, hy.kept.trans h3⟩
  unfold M.logv at C1
  have HD := Lib.hid h
  clear h hlow h1 h2 hin hf ho hE hpe hG hz0 hz1 ho1 hN hk hg9 hq9 hsc hE0 hgd
  go_enter Tryz.func16, Tryz.ntmps16
  go_wp2_with fail
  refine C1.out.mono ?_
  rintro e w1 ⟨rfl, hr1, hr2, hb1⟩
  obtain ⟨W1, hW1⟩ : ∃ x, x = w1.alloc (.cells #[.pointer (some ⟨a, 0, none⟩), .int .i64 (fr : Nat), .pointer (some ⟨w.heap.size + 1, 0, none⟩), .pointer (some ⟨w.heap.size + 2, 0, none⟩)] 59) := ⟨_, rfl⟩
  have hO1 : Op14 w W1 w1.heap.size a fr mn P d := by
    have hbl : Below w1.heap.size w1 W1 := by rw [hW1]; exact below1 _ _
    have hbw := hb1.trans (hbl.mono hb1.size)
    exact ⟨HD.out.beside hbw, by rw [hW1]; exact LogB.new _ _ _ _ _, hr1.beside hbl, hr2.beside hbl, Kept.of_below hbw P, hb1.size⟩
  have HO1 := Lib.hid hO1
  obtain ⟨c0, c1, c2, c3⟩ := hO1.log.cells
  rw [hW1] at c0 c1 c2 c3
  obtain ⟨lb, hlb⟩ : ∃ x, x = w1.heap.size := ⟨_, rfl⟩
  rw [← hlb] at HO1
  clear hr1 hr2 hb1 C1 HD hO1
  go_wp2_with fail
  rw [← hW1]
  clear c0 c1 c2 c3
  try rw [← hlb]
  clear hW1 hlb
  refine (C2.out W1 lb HO1.out).mono ?_
  rintro e w2 ⟨rfl, hO2⟩
  have HO2 := Lib.hid hO2
  clear hO2 HO1 C2
  have HLE : Hid (w.heap.size ≤ w2.heap.size) := HO2.out.kept.size
  have HHB := Lib.hid (B3.new w2 73 (g : Nat) (q : Nat) (k : Nat))
  obtain ⟨W2, hW2⟩ : ∃ x, x = w2.alloc (.cells #[.int .i64 (g : Nat), .int .i64 (q : Nat), .int .i64 (k : Nat)] 73) := ⟨_, rfl⟩
  have HO3 : Hid (Op14 w W2 lb a fr mn P d1) := HO2.out.beside (by rw [hW2]; exact below1 _ _)
  rw [← hW2] at HHB
  obtain ⟨c0, c1, c2, c3⟩ := HO3.out.log.cells
  obtain ⟨k0, k1, k2⟩ := HHB.out.cells
  rw [hW2] at c0 c1 c2 c3 k0 k1 k2
  go_wp2_with fail
  rw [← hW2]
  clear c0 c1 c2 c3 k0 k1 k2 HO2
  obtain ⟨hb, hhb⟩ : ∃ x, x = w2.heap.size := ⟨_, rfl⟩
  have HHL : Hid (w.heap.size ≤ hb) := by show _ ≤ hb; rw [hhb]; exact HLE.out
  rw [← hhb] at HHB
  try rw [← hhb]
  clear hW2 hhb HLE
  refine (C3.out W2 lb HO3.out).mono ?_
  rintro e w3 ⟨rfl, hd3, hk3⟩
  have HR := Lib.hid (And.intro hd3 hk3)
  clear hd3 hk3 HO3 HHB HHL C3
  go_wp2_with fail
  go_returns
  exact ⟨rfl, HR.out⟩

set_option maxRecDepth 100000 in
set_option maxHeartbeats 8000000 in
theorem open_good (g q k fr mn : Nat) (w : World) {a : Nat} {P : Nat → Prop} {d : M.D} (h : Disk w a P d) (hlow : ∀ k, P k → k < w.heap.size) (h1 : 24 ≤ mn) (h2 : mn ≤ 200) (hin : fr + mn ≤ d.S.length) (hf : fr ≤ 800) (ho : d.ops ≤ 900000) (hE : Env10 w) (hpe : ¬ P 0) {d1 : M.D} {s0 s1 : ByteArray} (hG : M.gread d fr mn 0 2 = (s0 ++ s1, 0, d1)) (hz0 : s0.size = 64) (hz1 : s1.size = 64) (ho1 : d1.ops ≤ 900100)
    (hN : M.hnewer s0 s1 = (⟨(g : Nat), (q : Nat), (k : Nat)⟩, 0)) (hk : k < mn - 2) (hg9 : g ≤ 100000000) (hq9 : q ≤ 100000000) {d2 : M.D} {u : Nat} {l : List M.Rec} (hsc : M.scan M.dR (fr + 2) (mn - 2) k (q : Nat) 2000 (mn - 2 + 1) d1 0 [] = (0, d2, u, l)) (hgd : ∀ x ∈ l, M.getE x.s = 0 → ∀ i, i < M.gN x.s → M.guards d1.S.length fr mn (M.gA x.s i) = true)
    (hl9 : l.length ≤ 1000) (hs9 : (M.allSecs l).length ≤ 1000) (hp9 : ∀ p ∈ M.allSecs l, p.1 ≤ 1000) (ho2 : d2.ops ≤ 1000000) (hET : ErrT w) (hPE : ¬ P 1)
    {R : Int × M.D} (hR : M.steps14 (M.mvR (M.readyF (fr + 2) (mn - 2) k 0 (q + l.length + mn)) (M.allSecs l) fr mn (g + 1) (q + l.length + mn) 0) d2 = R) (hR0 : R.1 = 0) :
    Calls Tryz.prog 16 #[.pointer (some ⟨a, 0, none⟩), .int .i64 (fr : Nat), .int .i64 (mn : Nat)] w fun e w' => ∃ b, e = .returned (.tuple #[.pointer (some ⟨b, 0, none⟩), .int .i64 0]) ∧ Wal w' b (fun j => P j ∨ w.heap.size ≤ j) fr mn ⟨g + 1, q + l.length + mn, 0, 0, false, false, R.2, [], [], a⟩ ∧ Kept P w w' := by
  have C1 := Lib.hid (logOn_yes fr mn w h h1 h2 hin)
  have C2 : Hid (∀ y lb, Op14 w y lb a fr mn P d → Calls Tryz.prog 32 #[.agg #[.pointer (some ⟨a, 0, none⟩), .int .i64 (fr : Nat), .pointer (some ⟨w.heap.size + 1, 0, none⟩), .pointer (some ⟨w.heap.size + 2, 0, none⟩)]] y fun e w' => e = .returned (.tuple #[.agg #[.int .i64 (g : Nat), .int .i64 (q : Nat), .int .i64 (k : Nat)], .int .i64 0]) ∧ Op14 w w' lb a fr mn P d1) := by
    intro y lb hy
    refine (findHead_yes g q k y hy.disk hG hz0 hz1 hy.all hy.recs (fun e => by have := hlow _ e; omega) (fun e => by have := hlow _ e; omega) (hE.kept hy.kept hpe) hpe (fun j e => Nat.lt_of_lt_of_le (hlow j e) hy.kept.size) (by omega) (by omega) (by omega) (by omega) hN hk (by omega) (by omega)).mono ?_
    rintro e w' ⟨h1, h2, h3⟩
    exact ⟨h1, hy.disk' h2 h3 hlow⟩
  obtain ⟨n, hn⟩ : ∃ n, n = l.length := ⟨_, rfl⟩
  obtain ⟨SL, hSL⟩ : ∃ x, x = M.allSecs l := ⟨_, rfl⟩
  obtain ⟨g1, hg1⟩ : ∃ x, x = g + 1 := ⟨_, rfl⟩
  obtain ⟨q1, hq1⟩ : ∃ x, x = q + n + mn := ⟨_, rfl⟩
  have C3 : Hid (∀ y lb, Op14 w y lb a fr mn P d1 → Calls Tryz.prog 33 #[.agg #[.pointer (some ⟨a, 0, none⟩), .int .i64 (fr : Nat), .pointer (some ⟨w.heap.size + 1, 0, none⟩), .pointer (some ⟨w.heap.size + 2, 0, none⟩)], .agg #[.int .i64 (g : Nat), .int .i64 (q : Nat), .int .i64 (k : Nat)]] y fun e w' => ∃ A c, e = .returned (.tuple #[.slice A SL.length c, .int .i64 (n : Nat), .int .i64 0]) ∧ Op14 w w' lb a fr mn P d2 ∧ Kept P y w' ∧ SecF w' A SL.length (M.aF SL) (M.tF SL) ∧ ∀ ad, A = some ad → w.heap.size ≤ ad.block ∧ ad.block < w'.heap.size) := by
    intro y lb hy
    refine (findRecords_ok g q k y hy.disk hy.all (fun e => by have := hlow _ e; omega) hy.recs (fun e => by have := hlow _ e; omega) (fun j e => Nat.lt_of_lt_of_le (hlow j e) hy.kept.size) (by omega) (by omega) (by omega) hk (by omega) hsc hgd).mono ?_
    rintro e w' ⟨v, h1, h2, h3, h4⟩
    rw [← hSL] at h2
    obtain ⟨A, c, e1, e2, e3, e4, e5⟩ := secs14 h2 (by rw [hSL]; exact hp9)
    refine ⟨A, c, by rw [h1, e1, hn], hy.disk' h3 h4 hlow, h4, e4, fun ad e => ⟨Nat.le_trans hy.kept.size (e5 ad e).2, (e5 ad e).1⟩⟩
  have C4 : Hid (∀ y, Reg y (w.heap.size + 1) a fr mn → Calls Tryz.prog 34 #[.agg #[.pointer (some ⟨a, 0, none⟩), .int .i64 (fr : Nat), .pointer (some ⟨w.heap.size + 1, 0, none⟩), .pointer (some ⟨w.heap.size + 2, 0, none⟩)], .agg #[.int .i64 (g : Nat), .int .i64 (q : Nat), .int .i64 (k : Nat)], .int .i64 (n : Nat)] y fun e w' => e = .returned (.agg #[.int .i64 (g1 : Nat), .int .i64 (q1 : Nat), .int .i64 0]) ∧ Below y.heap.size y w') := fun y hy => by
    rw [hg1, hq1]
    exact anew_any g q k n y hy (by omega) (by omega) (by omega) (by omega) (rr := w.heap.size + 2)
  have hmay : M.hmay ⟨(g1 : Nat), (q1 : Nat), ((0 : Nat) : Int)⟩ = true := by
    rw [M.hmay_iff]
    refine ⟨⟨?_, ?_⟩, ⟨?_, ?_⟩, ?_, ?_⟩ <;> simp only <;> omega
  have C5 : Hid (∀ y, Calls Tryz.prog 35 #[.agg #[.int .i64 (g1 : Nat), .int .i64 (q1 : Nat), .int .i64 0]] y fun e w' => e = .returned (.bool true) ∧ Below y.heap.size y w') := by
    intro y
    have := may14_any (g1 : Nat) (q1 : Nat) 0 y
    rw [show M.hmay ⟨(g1 : Nat), (q1 : Nat), 0⟩ = true from hmay] at this
    exact this
  have C6 : Hid (∀ y lb hb nb rb A c, Op14 w y lb a fr mn P d2 → B3 y hb 73 (g : Nat) (q : Nat) (k : Nat) → w.heap.size ≤ hb → B3 y nb 73 (g1 : Nat) (q1 : Nat) 0 → w.heap.size ≤ nb → Box y rb 82 #[.string (⟨#[109, 97, 107, 101, 32, 105, 116, 115, 32, 112, 108, 97, 99, 101, 32, 114, 101, 97, 100, 121]⟩ : ByteArray), .func (.func 36) #[] #[.pointer (some ⟨lb, 0, none⟩), .pointer (some ⟨hb, 0, none⟩), .pointer (some ⟨nb, 0, none⟩)]] → SecF y A SL.length (M.aF SL) (M.tF SL) → (∀ ad, A = some ad → w.heap.size ≤ ad.block ∧ ad.block < y.heap.size) →
      Calls Tryz.prog 38 #[.agg #[.pointer (some ⟨a, 0, none⟩), .int .i64 (fr : Nat), .pointer (some ⟨w.heap.size + 1, 0, none⟩), .pointer (some ⟨w.heap.size + 2, 0, none⟩)], .slice A SL.length c, .agg #[.int .i64 (g1 : Nat), .int .i64 (q1 : Nat), .int .i64 0], .slice (some ⟨rb, 0, none⟩) 1 1] y fun e w' => e = .returned (.int .i64 R.1) ∧ Disk w' a (M.plus P y.heap.size) R.2 ∧ Kept P y w') := by
    intro y lb hb nb rb A c hy hhb hhl hnb hnl hrb hS hA
    have hP0 : ∀ j, w.heap.size ≤ j → ¬ P j := fun j hj e => by have := hlow j e; omega
    have hEy : ErrT y := hy.kept.cell hET hPE
    have hyl : ∀ j, P j → j < y.heap.size := fun j e => Nat.lt_of_lt_of_le (hlow j e) hy.kept.size
    refine moveOn_one g1 q1 0 hmay A c SL (by rw [hSL]; exact hs9) y hy.disk (by omega) hy.all (hP0 _ (by omega)) (by omega) (by omega) (M.aF SL) (M.tF SL) hS (fun k p hk => M.aF_at hk) (fun ad e => ⟨(hA ad e).2, hP0 _ (hA ad e).1⟩) (by omega)
      (⟨#[109, 97, 107, 101, 32, 105, 116, 115, 32, 112, 108, 97, 99, 101, 32, 114, 101, 97, 100, 121]⟩ : ByteArray) 36 #[] #[.pointer (some ⟨lb, 0, none⟩), .pointer (some ⟨hb, 0, none⟩), .pointer (some ⟨nb, 0, none⟩)] (M.readyF (fr + 2) (mn - 2) k 0 q1) (fun args y => enters_of Tryz.func36 (by kernel_rfl) rfl args y) (fun dk => M.readyF_ops (fr + 2) (mn - 2) k 0 q1 dk) ?_ rb 1 hrb ?_ (fun _ => ⟨hEy, hPE⟩) (rr := w.heap.size + 2)
    · intro dk hdk y' Q hk' hQ hq
      have hnot : ∀ j, w.heap.size ≤ j → j < y.heap.size → ¬ (P j ∨ y.heap.size ≤ j) := fun j h1 h2 e => e.elim (hP0 j h1) (fun e => by omega)
      have hnq : ∀ j, w.heap.size ≤ j → j < y.heap.size → ¬ Q j := fun j h1 h2 e => hP0 j h1 ((hQ j e).2 h2)
      have z1 := hy.recs.lt
      have hel : 1 < y.heap.size := World.block_lt_of_cell? y _ hEy
      exact openStep_any lb hb nb g q k g1 q1 0 y' hq (fun j e => (hQ j e).1) (hk'.box hy.log (hnot _ hy.lb (Box.lt hy.log))) (hk'.box hhb (hnot _ hhl hhb.lt)) (hk'.box hnb (hnot _ hnl hnb.lt)) (hy.recs.kept hk' (hnot _ (by omega) z1)) (hnq _ (by omega) z1) (by omega) (by omega) (by omega) (by omega) (by omega) (fun _ => ⟨hk'.cell hEy (fun e => e.elim hPE (fun e => Nat.lt_irrefl _ (Nat.lt_of_lt_of_le hel e))), fun e => hPE ((hQ _ e).2 hel)⟩) (ra := w.heap.size + 1)
    · rw [hq1, hg1, hSL, hn]
      exact hR
  unfold M.logv at C1
  have HD := Lib.hid h
  have HLOW := Lib.hid hlow
  obtain ⟨d6, hd6⟩ : ∃ x, x = R.2 := ⟨_, rfl⟩
  have HD6 : Hid (d6 = R.2) := hd6
  have HGQ : Hid (g1 = g + 1 ∧ q1 = q + l.length + mn) := ⟨hg1, by rw [hq1, hn]⟩
  rw [← hd6] at C6
  rw [hR0] at C6
  clear h hlow h1 h2 hin hf ho hE hpe hG hz0 hz1 ho1 hN hk hg9 hq9 hsc hgd hl9 hs9 hp9 ho2 hET hPE hR hmay hg1 hq1 hd6 hR0 hSL hn
  go_enter Tryz.func16, Tryz.ntmps16
  go_wp2_with fail
  refine C1.out.mono ?_
  rintro e w1 ⟨rfl, hr1, hr2, hb1⟩
  obtain ⟨W1, hW1⟩ : ∃ x, x = w1.alloc (.cells #[.pointer (some ⟨a, 0, none⟩), .int .i64 (fr : Nat), .pointer (some ⟨w.heap.size + 1, 0, none⟩), .pointer (some ⟨w.heap.size + 2, 0, none⟩)] 59) := ⟨_, rfl⟩
  have hO1 : Op14 w W1 w1.heap.size a fr mn P d := by
    have hbl : Below w1.heap.size w1 W1 := by rw [hW1]; exact below1 _ _
    have hbw := hb1.trans (hbl.mono hb1.size)
    exact ⟨HD.out.beside hbw, by rw [hW1]; exact LogB.new _ _ _ _ _, hr1.beside hbl, hr2.beside hbl, Kept.of_below hbw P, hb1.size⟩
  have HO1 := Lib.hid hO1
  obtain ⟨c0, c1, c2, c3⟩ := hO1.log.cells
  rw [hW1] at c0 c1 c2 c3
  obtain ⟨lb, hlb⟩ : ∃ x, x = w1.heap.size := ⟨_, rfl⟩
  rw [← hlb] at HO1
  clear hr1 hr2 hb1 C1 HD hO1
  go_wp2_with fail
  rw [← hW1]
  clear c0 c1 c2 c3
  try rw [← hlb]
  clear hW1 hlb
  refine (C2.out W1 lb HO1.out).mono ?_
  rintro e w2 ⟨rfl, hO2⟩
  have HO2 := Lib.hid hO2
  clear hO2 HO1 C2
  have HLE : Hid (w.heap.size ≤ w2.heap.size) := HO2.out.kept.size
  have HHB := Lib.hid (B3.new w2 73 (g : Nat) (q : Nat) (k : Nat))
  obtain ⟨W2, hW2⟩ : ∃ x, x = w2.alloc (.cells #[.int .i64 (g : Nat), .int .i64 (q : Nat), .int .i64 (k : Nat)] 73) := ⟨_, rfl⟩
  have HO3 : Hid (Op14 w W2 lb a fr mn P d1) := HO2.out.beside (by rw [hW2]; exact below1 _ _)
  rw [← hW2] at HHB
  obtain ⟨c0, c1, c2, c3⟩ := HO3.out.log.cells
  obtain ⟨k0, k1, k2⟩ := HHB.out.cells
  rw [hW2] at c0 c1 c2 c3 k0 k1 k2
  go_wp2_with fail
  rw [← hW2]
  clear c0 c1 c2 c3 k0 k1 k2 HO2
  obtain ⟨hb, hhb⟩ : ∃ x, x = w2.heap.size := ⟨_, rfl⟩
  have HHL : Hid (w.heap.size ≤ hb) := by show _ ≤ hb; rw [hhb]; exact HLE.out
  rw [← hhb] at HHB
  try rw [← hhb]
  clear hW2 hhb HLE
  refine (C3.out W2 lb HO3.out).mono ?_
  rintro e w3 ⟨A, c, rfl, hO3, hk3, hs3, ha3⟩
  have hP0 : ∀ j, w.heap.size ≤ j → ¬ P j := fun j hj e => by have := HLOW.out j e; omega
  have hwW : w.heap.size ≤ hb := HHL.out
  have hH3 : B3 w3 hb 73 (g : Nat) (q : Nat) (k : Nat) := hk3.box HHB.out (hP0 _ hwW)
  have HO4 := Lib.hid hO3
  have HS4 := Lib.hid (And.intro hs3 ha3)
  have HHB3 := Lib.hid hH3
  clear hO3 hs3 ha3 hk3 hP0 hwW hH3 HO3 HHB C3
  obtain ⟨c0, c1, c2, c3⟩ := HO4.out.log.cells
  obtain ⟨k0, k1, k2⟩ := HHB3.out.cells
  go_wp2_with fail
  refine (C4.out w3 HO4.out.all).mono ?_
  rintro e w4 ⟨rfl, hb4⟩
  have HNB := Lib.hid (B3.new w4 73 (g1 : Nat) (q1 : Nat) 0)
  have HB34 := Lib.hid hb4
  obtain ⟨W4, hW4⟩ : ∃ x, x = w4.alloc (.cells #[.int .i64 (g1 : Nat), .int .i64 (q1 : Nat), .int .i64 0] 73) := ⟨_, rfl⟩
  have hb44 : Below w3.heap.size w3 W4 := hb4.trans ((by rw [hW4]; exact below1 _ _ : Below w4.heap.size w4 W4).mono hb4.size)
  have HO5 : Hid (Op14 w W4 lb a fr mn P d2) := HO4.out.beside hb44
  have HS5 : Hid (SecF W4 A SL.length (M.aF SL) (M.tF SL) ∧ ∀ ad, A = some ad → w.heap.size ≤ ad.block ∧ ad.block < W4.heap.size) := ⟨HS4.out.1.below (Nat.le_refl _) hb44, fun ad e => ⟨(HS4.out.2 ad e).1, Nat.lt_of_lt_of_le (HS4.out.2 ad e).2 hb44.size⟩⟩
  have HH5 := Lib.hid (HHB3.out.below hb44 HHB3.out.lt)
  rw [← hW4] at HNB
  obtain ⟨n0, n1, n2⟩ := HNB.out.cells
  rw [hW4] at n0 n1 n2
  have HLE4 : Hid (w.heap.size ≤ w4.heap.size) := Nat.le_trans HO4.out.kept.size hb4.size
  clear c0 c1 c2 c3 k0 k1 k2 hb4 hb44 HO4 HHB3 C4 HS4 HB34
  go_wp2_with fail
  rw [← hW4]
  obtain ⟨nb, hnb⟩ : ∃ x, x = w4.heap.size := ⟨_, rfl⟩
  have HNL : Hid (w.heap.size ≤ nb) := by show _ ≤ nb; rw [hnb]; exact HLE4.out
  rw [← hnb] at HNB
  rw [← hnb]
  clear hW4 hnb n0 n1 n2
  refine (C5.out W4).mono ?_
  rintro e w5 ⟨rfl, hb5⟩
  have HNB5 := Lib.hid (HNB.out.below hb5 HNB.out.lt)
  obtain ⟨W5, hW5⟩ : ∃ x, x = (w5.alloc (.cells #[.string (⟨#[109, 97, 107, 101, 32, 105, 116, 115, 32, 112, 108, 97, 99, 101, 32, 114, 101, 97, 100, 121]⟩ : ByteArray), .nilFunc] 82)).setCell ⟨w5.heap.size, 1, none⟩ (.func (.func 36) #[] #[.pointer (some ⟨lb, 0, none⟩), .pointer (some ⟨hb, 0, none⟩), .pointer (some ⟨nb, 0, none⟩)]) := ⟨_, rfl⟩
  have v1 : (w5.alloc (.cells #[.string (⟨#[109, 97, 107, 101, 32, 105, 116, 115, 32, 112, 108, 97, 99, 101, 32, 114, 101, 97, 100, 121]⟩ : ByteArray), .nilFunc] 82)).cell? ⟨w5.heap.size, 1, none⟩ = some .nilFunc := (Box.new w5 82 #[.string (⟨#[109, 97, 107, 101, 32, 105, 116, 115, 32, 112, 108, 97, 99, 101, 32, 114, 101, 97, 100, 121]⟩ : ByteArray), .nilFunc]).cell 1
  have v2 : (w5.alloc (.cells #[.string (⟨#[109, 97, 107, 101, 32, 105, 116, 115, 32, 112, 108, 97, 99, 101, 32, 114, 101, 97, 100, 121]⟩ : ByteArray), .nilFunc] 82)).frozen? ⟨w5.heap.size, 1, none⟩ = false := (Box.new w5 82 #[.string (⟨#[109, 97, 107, 101, 32, 105, 116, 115, 32, 112, 108, 97, 99, 101, 32, 114, 101, 97, 100, 121]⟩ : ByteArray), .nilFunc]).frozen 1
  have hst : (store ⟨w5.heap.size, 1, none⟩ (.func (.func 36) #[] #[.pointer (some ⟨lb, 0, none⟩), .pointer (some ⟨hb, 0, none⟩), .pointer (some ⟨nb, 0, none⟩)])).run Tryz.prog (w5.alloc (.cells #[.string (⟨#[109, 97, 107, 101, 32, 105, 116, 115, 32, 112, 108, 97, 99, 101, 32, 114, 101, 97, 100, 121]⟩ : ByteArray), .nilFunc] 82)) = .ok () W5 := by
    rw [run_store _ _ _ _ _ rfl, v1, v2, hW5]
    rfl
  obtain ⟨W6, hW6⟩ : ∃ x, x = W5.alloc (.cells #[.string (⟨#[109, 97, 107, 101, 32, 105, 116, 115, 32, 112, 108, 97, 99, 101, 32, 114, 101, 97, 100, 121]⟩ : ByteArray), .func (.func 36) #[] #[.pointer (some ⟨lb, 0, none⟩), .pointer (some ⟨hb, 0, none⟩), .pointer (some ⟨nb, 0, none⟩)]] 82) := ⟨_, rfl⟩
  have hb55 : Below w5.heap.size w5 W5 := by rw [hW5]; exact (below1 _ _).setCell (by simp) _
  have hb56 : Below W5.heap.size W5 W6 := by rw [hW6]; exact below1 _ _
  have hb5a : Below W4.heap.size W4 W5 := hb5.trans (hb55.mono hb5.size)
  have hb5b : Below W4.heap.size W4 W6 := hb5a.trans (hb56.mono hb5a.size)
  have HO6 := Lib.hid (HO5.out.beside hb5a)
  have HO7 := Lib.hid (HO5.out.beside hb5b)
  have HSB : Box W5 w5.heap.size 82 #[.string (⟨#[109, 97, 107, 101, 32, 105, 116, 115, 32, 112, 108, 97, 99, 101, 32, 114, 101, 97, 100, 121]⟩ : ByteArray), .func (.func 36) #[] #[.pointer (some ⟨lb, 0, none⟩), .pointer (some ⟨hb, 0, none⟩), .pointer (some ⟨nb, 0, none⟩)]] := by rw [hW5]; exact (Box.new w5 82 #[.string (⟨#[109, 97, 107, 101, 32, 105, 116, 115, 32, 112, 108, 97, 99, 101, 32, 114, 101, 97, 100, 121]⟩ : ByteArray), .nilFunc]).set 1 _
  have HRB : Hid (Box W6 W5.heap.size 82 #[.string (⟨#[109, 97, 107, 101, 32, 105, 116, 115, 32, 112, 108, 97, 99, 101, 32, 114, 101, 97, 100, 121]⟩ : ByteArray), .func (.func 36) #[] #[.pointer (some ⟨lb, 0, none⟩), .pointer (some ⟨hb, 0, none⟩), .pointer (some ⟨nb, 0, none⟩)]]) := by rw [hW6]; exact Box.new _ _ _
  have HNB7 := Lib.hid (HNB.out.below hb5b HNB.out.lt)
  have HNB6 := Lib.hid (HNB.out.below hb5a HNB.out.lt)
  have HH7 := Lib.hid (HH5.out.below hb5b HH5.out.lt)
  have HS7 : Hid (SecF W6 A SL.length (M.aF SL) (M.tF SL) ∧ ∀ ad, A = some ad → w.heap.size ≤ ad.block ∧ ad.block < W6.heap.size) := ⟨HS5.out.1.below (Nat.le_refl _) hb5b, fun ad e => ⟨(HS5.out.2 ad e).1, Nat.lt_of_lt_of_le (HS5.out.2 ad e).2 hb5b.size⟩⟩
  have HC6 := Lib.hid (C6.out W6 lb hb nb W5.heap.size A c HO7.out HH7.out HHL.out HNB7.out HNL.out HRB.out HS7.out.1 HS7.out.2)
  have s0 := HSB.cell 0
  have s1 := HSB.cell 1
  simp only [List.getElem?_toArray, List.getElem?_cons_zero, List.getElem?_cons_succ] at s0 s1
  obtain ⟨c0, c1, c2, c3⟩ := HO6.out.log.cells
  obtain ⟨n0, n1, n2⟩ := HNB6.out.cells
  clear hW5 v1 v2 hb5 hb55 hb56 hb5a hb5b HO5 HNB C5 C6 HSB HH5 HS5 HNB6 HO6 HRB HS7 HNB5
  go_wp2_with fail
  rw [← hW6]
  clear hW6 c0 c1 c2 c3 n0 n1 n2 s0 s1 hst
  refine HC6.out.mono ?_
  rintro e w6 ⟨rfl, hd6, hk6⟩
  clear HC6
  have hP0 : ∀ j, w.heap.size ≤ j → ¬ P j := fun j hj e => by have := HLOW.out j e; omega
  have hL6 : LogB w6 lb a fr (w.heap.size + 1) (w.heap.size + 2) := hk6.box HO7.out.log (hP0 _ HO7.out.lb)
  have hN6 : B3 w6 nb 73 (g1 : Nat) (q1 : Nat) 0 := hk6.box HNB7.out (hP0 _ HNL.out)
  have hR1 : Reg w6 (w.heap.size + 1) a fr mn := HO7.out.all.kept hk6 (hP0 _ (by omega))
  have hR2 : Reg w6 (w.heap.size + 2) a (fr + 2) (mn - 2) := HO7.out.recs.kept hk6 (hP0 _ (by omega))
  have HST : Hid (∀ y, Below w6.heap.size w6 y → y.cell? ⟨lb, 0, none⟩ = some (.pointer (some ⟨a, 0, none⟩)) ∧ y.cell? ⟨lb, 1, none⟩ = some (.int .i64 (fr : Nat)) ∧ y.cell? ⟨lb, 2, none⟩ = some (.pointer (some ⟨w.heap.size + 1, 0, none⟩)) ∧ y.cell? ⟨lb, 3, none⟩ = some (.pointer (some ⟨w.heap.size + 2, 0, none⟩)) ∧
      y.cell? ⟨nb, 0, none⟩ = some (.int .i64 (g1 : Nat)) ∧ y.cell? ⟨nb, 1, none⟩ = some (.int .i64 (q1 : Nat)) ∧ y.cell? ⟨nb, 2, none⟩ = some (.int .i64 0)) := by
    intro y hy
    have h1 : LogB y lb a fr (w.heap.size + 1) (w.heap.size + 2) := Box.below hL6 hy (Box.lt hL6)
    have h2 : B3 y nb 73 (g1 : Nat) (q1 : Nat) 0 := hN6.below hy hN6.lt
    exact ⟨h1.cells.1, h1.cells.2.1, h1.cells.2.2.1, h1.cells.2.2.2, h2.cells.1, h2.cells.2.1, h2.cells.2.2⟩
  have HB0 : Hid (Below w6.heap.size w6 (w6.drewN 1)) := below_drewN (Below.refl _ w6) 1
  have HFIN : Hid (∀ w7, Sh 128 w7 w6.heap.size (fun k => w6.heap.size ≤ k) [] [] → Below w6.heap.size w6 w7 → Kept P w (w7.alloc (.cells #[.pointer (some ⟨a, 0, none⟩), .int .i64 (fr : Nat), .pointer (some ⟨w.heap.size + 1, 0, none⟩), .pointer (some ⟨w.heap.size + 2, 0, none⟩), .int .i64 (g1 : Nat), .int .i64 (q1 : Nat), .int .i64 0, .int .i64 0, .bool false, .bool false, .pointer (some ⟨w6.heap.size, 0, none⟩)] 62)) ∧
      Wal (w7.alloc (.cells #[.pointer (some ⟨a, 0, none⟩), .int .i64 (fr : Nat), .pointer (some ⟨w.heap.size + 1, 0, none⟩), .pointer (some ⟨w.heap.size + 2, 0, none⟩), .int .i64 (g1 : Nat), .int .i64 (q1 : Nat), .int .i64 0, .int .i64 0, .bool false, .bool false, .pointer (some ⟨w6.heap.size, 0, none⟩)] 62)) w7.heap.size (fun j => P j ∨ w.heap.size ≤ j) fr mn ⟨g1, q1, 0, 0, false, false, d6, [], [], a⟩) := by
    intro w7 hsh hb7
    have hb8 : Below w7.heap.size w7 (w7.alloc (.cells #[.pointer (some ⟨a, 0, none⟩), .int .i64 (fr : Nat), .pointer (some ⟨w.heap.size + 1, 0, none⟩), .pointer (some ⟨w.heap.size + 2, 0, none⟩), .int .i64 (g1 : Nat), .int .i64 (q1 : Nat), .int .i64 0, .int .i64 0, .bool false, .bool false, .pointer (some ⟨w6.heap.size, 0, none⟩)] 62)) := below1 _ _
    have hb9 : Below w6.heap.size w6 (w7.alloc (.cells #[.pointer (some ⟨a, 0, none⟩), .int .i64 (fr : Nat), .pointer (some ⟨w.heap.size + 1, 0, none⟩), .pointer (some ⟨w.heap.size + 2, 0, none⟩), .int .i64 (g1 : Nat), .int .i64 (q1 : Nat), .int .i64 0, .int .i64 0, .bool false, .bool false, .pointer (some ⟨w6.heap.size, 0, none⟩)] 62)) := hb7.trans (hb8.mono hb7.size)
    have z1 := HO7.out.all.lt
    have z2 := HO7.out.recs.lt
    have z3 := hk6.size
    have z4 := hb7.size
    have z5 := HO7.out.kept.size
    have z6 := hsh.lt
    refine ⟨(HO7.out.kept.trans hk6).trans (Kept.of_below hb9 P), a, w.heap.size + 1, w.heap.size + 2, w6.heap.size, fun j => (P j ∨ W6.heap.size ≤ j) ∧ j < w6.heap.size, fun j => w6.heap.size ≤ j ∧ j < w7.heap.size,
      ⟨Box.new _ _ _, (hd6.mono (fun j hj e => ⟨e, hj⟩)).beside hb9, hR1.beside hb9, hR2.beside hb9, (hsh.mono (fun j hj e => ⟨e, hj⟩)).kept (Kept.of_below hb8 (fun _ => False)) (fun _ _ => id), fun j e => by have := e.2; have := hb9.size; omega, fun j e => by have := e.2; rw [World.size_alloc]; omega,
        fun e => by have := e.2; omega, fun e => e.1.elim (hP0 _ (by omega)) (fun e => by omega), fun e => e.1.elim (hP0 _ (by omega)) (fun e => by omega), fun e => by have := e.2; omega, fun e => by have := e.1; omega, fun e => by have := e.1; omega, by omega, by omega, fun j e e' => by have := e.2; have := e'.1; omega, rfl⟩,
      Or.inr (by omega), Or.inr (by omega), Or.inr (by omega), fun j e => e.1.imp id (fun e => by omega), fun j e => Or.inr (by have := e.1; omega)⟩
  clear hP0 hL6 hN6 hR1 hR2 hd6 hk6 HO7 HNB7 HNL HLOW HLE4 HH7 HHL
  go_wp2_with fail
  go_region_held3 (fun y => y.cell? ⟨lb, 0, none⟩ = some (.pointer (some ⟨a, 0, none⟩)) ∧ y.cell? ⟨lb, 1, none⟩ = some (.int .i64 (fr : Nat)) ∧ y.cell? ⟨lb, 2, none⟩ = some (.pointer (some ⟨w.heap.size + 1, 0, none⟩)) ∧ y.cell? ⟨lb, 3, none⟩ = some (.pointer (some ⟨w.heap.size + 2, 0, none⟩)) ∧
      y.cell? ⟨nb, 0, none⟩ = some (.int .i64 (g1 : Nat)) ∧ y.cell? ⟨nb, 1, none⟩ = some (.int .i64 (q1 : Nat)) ∧ y.cell? ⟨nb, 2, none⟩ = some (.int .i64 0)) (first | exact HST.out _ hbS8 | exact HST.out _ hbS7 | exact HST.out _ HB0.out) (first
    | (go_at_call 39
       refine (Q.new13_any _).mono ?_
       rintro e w7 ⟨rfl, hsh, hb7⟩
       have hbS7 : Below w6.heap.size w6 w7 := HB0.out.trans hb7
       have hbS8 : Below w6.heap.size w6 (w7.alloc (.cells #[.pointer (some ⟨a, 0, none⟩), .int .i64 (fr : Nat), .pointer (some ⟨w.heap.size + 1, 0, none⟩), .pointer (some ⟨w.heap.size + 2, 0, none⟩), .int .i64 (g1 : Nat), .int .i64 (q1 : Nat), .int .i64 0, .int .i64 0, .bool false, .bool false, .pointer (some ⟨w6.heap.size, 0, none⟩)] 62)) := hbS7.trans ((below1 _ _).mono hbS7.size)))
  have HR := Lib.hid (HFIN.out w7 hsh hbS7)
  clear hsh hb7 hbS7 hbS8 HFIN HST
  go_wp2_with fail
  go_ret2
  refine ⟨_, rfl, ?_, HR.out.1⟩
  rw [← HGQ.out.1, ← HGQ.out.2, ← HD6.out]
  exact HR.out.2

set_option maxRecDepth 100000 in
set_option maxHeartbeats 8000000 in
theorem open_bad (g q k fr mn : Nat) (w : World) {a : Nat} {P : Nat → Prop} {d : M.D} (h : Disk w a P d) (hlow : ∀ k, P k → k < w.heap.size) (h1 : 24 ≤ mn) (h2 : mn ≤ 200) (hin : fr + mn ≤ d.S.length) (hf : fr ≤ 800) (ho : d.ops ≤ 900000) (hE : Env10 w) (hpe : ¬ P 0) {d1 : M.D} {s0 s1 : ByteArray} (hG : M.gread d fr mn 0 2 = (s0 ++ s1, 0, d1)) (hz0 : s0.size = 64) (hz1 : s1.size = 64) (ho1 : d1.ops ≤ 900100)
    (hN : M.hnewer s0 s1 = (⟨(g : Nat), (q : Nat), (k : Nat)⟩, 0)) (hk : k < mn - 2) (hg9 : g ≤ 100000000) (hq9 : q ≤ 100000000) {d2 : M.D} {u : Nat} {l : List M.Rec} (hsc : M.scan M.dR (fr + 2) (mn - 2) k (q : Nat) 2000 (mn - 2 + 1) d1 0 [] = (0, d2, u, l)) (hgd : ∀ x ∈ l, M.getE x.s = 0 → ∀ i, i < M.gN x.s → M.guards d1.S.length fr mn (M.gA x.s i) = true)
    (hl9 : l.length ≤ 1000) (hs9 : (M.allSecs l).length ≤ 1000) (hp9 : ∀ p ∈ M.allSecs l, p.1 ≤ 1000) (ho2 : d2.ops ≤ 1000000) (hET : ErrT w) (hPE : ¬ P 1)
    {R : Int × M.D} (hR : M.steps14 (M.mvR (M.readyF (fr + 2) (mn - 2) k 0 (q + l.length + mn)) (M.allSecs l) fr mn (g + 1) (q + l.length + mn) 0) d2 = R) (hR0 : R.1 ≠ 0) :
    Calls Tryz.prog 16 #[.pointer (some ⟨a, 0, none⟩), .int .i64 (fr : Nat), .int .i64 (mn : Nat)] w fun e w' => e = .returned (.tuple #[.pointer none, .int .i64 R.1]) ∧ Disk w' a (M.plus P w.heap.size) R.2 ∧ Kept P w w' := by
  have C1 := Lib.hid (logOn_yes fr mn w h h1 h2 hin)
  have C2 : Hid (∀ y lb, Op14 w y lb a fr mn P d → Calls Tryz.prog 32 #[.agg #[.pointer (some ⟨a, 0, none⟩), .int .i64 (fr : Nat), .pointer (some ⟨w.heap.size + 1, 0, none⟩), .pointer (some ⟨w.heap.size + 2, 0, none⟩)]] y fun e w' => e = .returned (.tuple #[.agg #[.int .i64 (g : Nat), .int .i64 (q : Nat), .int .i64 (k : Nat)], .int .i64 0]) ∧ Op14 w w' lb a fr mn P d1) := by
    intro y lb hy
    refine (findHead_yes g q k y hy.disk hG hz0 hz1 hy.all hy.recs (fun e => by have := hlow _ e; omega) (fun e => by have := hlow _ e; omega) (hE.kept hy.kept hpe) hpe (fun j e => Nat.lt_of_lt_of_le (hlow j e) hy.kept.size) (by omega) (by omega) (by omega) (by omega) hN hk (by omega) (by omega)).mono ?_
    rintro e w' ⟨h1, h2, h3⟩
    exact ⟨h1, hy.disk' h2 h3 hlow⟩
  obtain ⟨n, hn⟩ : ∃ n, n = l.length := ⟨_, rfl⟩
  obtain ⟨SL, hSL⟩ : ∃ x, x = M.allSecs l := ⟨_, rfl⟩
  obtain ⟨g1, hg1⟩ : ∃ x, x = g + 1 := ⟨_, rfl⟩
  obtain ⟨q1, hq1⟩ : ∃ x, x = q + n + mn := ⟨_, rfl⟩
  have C3 : Hid (∀ y lb, Op14 w y lb a fr mn P d1 → Calls Tryz.prog 33 #[.agg #[.pointer (some ⟨a, 0, none⟩), .int .i64 (fr : Nat), .pointer (some ⟨w.heap.size + 1, 0, none⟩), .pointer (some ⟨w.heap.size + 2, 0, none⟩)], .agg #[.int .i64 (g : Nat), .int .i64 (q : Nat), .int .i64 (k : Nat)]] y fun e w' => ∃ A c, e = .returned (.tuple #[.slice A SL.length c, .int .i64 (n : Nat), .int .i64 0]) ∧ Op14 w w' lb a fr mn P d2 ∧ Kept P y w' ∧ SecF w' A SL.length (M.aF SL) (M.tF SL) ∧ ∀ ad, A = some ad → w.heap.size ≤ ad.block ∧ ad.block < w'.heap.size) := by
    intro y lb hy
    refine (findRecords_ok g q k y hy.disk hy.all (fun e => by have := hlow _ e; omega) hy.recs (fun e => by have := hlow _ e; omega) (fun j e => Nat.lt_of_lt_of_le (hlow j e) hy.kept.size) (by omega) (by omega) (by omega) hk (by omega) hsc hgd).mono ?_
    rintro e w' ⟨v, h1, h2, h3, h4⟩
    rw [← hSL] at h2
    obtain ⟨A, c, e1, e2, e3, e4, e5⟩ := secs14 h2 (by rw [hSL]; exact hp9)
    refine ⟨A, c, by rw [h1, e1, hn], hy.disk' h3 h4 hlow, h4, e4, fun ad e => ⟨Nat.le_trans hy.kept.size (e5 ad e).2, (e5 ad e).1⟩⟩
  have C4 : Hid (∀ y, Reg y (w.heap.size + 1) a fr mn → Calls Tryz.prog 34 #[.agg #[.pointer (some ⟨a, 0, none⟩), .int .i64 (fr : Nat), .pointer (some ⟨w.heap.size + 1, 0, none⟩), .pointer (some ⟨w.heap.size + 2, 0, none⟩)], .agg #[.int .i64 (g : Nat), .int .i64 (q : Nat), .int .i64 (k : Nat)], .int .i64 (n : Nat)] y fun e w' => e = .returned (.agg #[.int .i64 (g1 : Nat), .int .i64 (q1 : Nat), .int .i64 0]) ∧ Below y.heap.size y w') := fun y hy => by
    rw [hg1, hq1]
    exact anew_any g q k n y hy (by omega) (by omega) (by omega) (by omega) (rr := w.heap.size + 2)
  have hmay : M.hmay ⟨(g1 : Nat), (q1 : Nat), ((0 : Nat) : Int)⟩ = true := by
    rw [M.hmay_iff]
    refine ⟨⟨?_, ?_⟩, ⟨?_, ?_⟩, ?_, ?_⟩ <;> simp only <;> omega
  have C5 : Hid (∀ y, Calls Tryz.prog 35 #[.agg #[.int .i64 (g1 : Nat), .int .i64 (q1 : Nat), .int .i64 0]] y fun e w' => e = .returned (.bool true) ∧ Below y.heap.size y w') := by
    intro y
    have := may14_any (g1 : Nat) (q1 : Nat) 0 y
    rw [show M.hmay ⟨(g1 : Nat), (q1 : Nat), 0⟩ = true from hmay] at this
    exact this
  have C6 : Hid (∀ y lb hb nb rb A c, Op14 w y lb a fr mn P d2 → B3 y hb 73 (g : Nat) (q : Nat) (k : Nat) → w.heap.size ≤ hb → B3 y nb 73 (g1 : Nat) (q1 : Nat) 0 → w.heap.size ≤ nb → Box y rb 82 #[.string (⟨#[109, 97, 107, 101, 32, 105, 116, 115, 32, 112, 108, 97, 99, 101, 32, 114, 101, 97, 100, 121]⟩ : ByteArray), .func (.func 36) #[] #[.pointer (some ⟨lb, 0, none⟩), .pointer (some ⟨hb, 0, none⟩), .pointer (some ⟨nb, 0, none⟩)]] → SecF y A SL.length (M.aF SL) (M.tF SL) → (∀ ad, A = some ad → w.heap.size ≤ ad.block ∧ ad.block < y.heap.size) →
      Calls Tryz.prog 38 #[.agg #[.pointer (some ⟨a, 0, none⟩), .int .i64 (fr : Nat), .pointer (some ⟨w.heap.size + 1, 0, none⟩), .pointer (some ⟨w.heap.size + 2, 0, none⟩)], .slice A SL.length c, .agg #[.int .i64 (g1 : Nat), .int .i64 (q1 : Nat), .int .i64 0], .slice (some ⟨rb, 0, none⟩) 1 1] y fun e w' => e = .returned (.int .i64 R.1) ∧ Disk w' a (M.plus P y.heap.size) R.2 ∧ Kept P y w') := by
    intro y lb hb nb rb A c hy hhb hhl hnb hnl hrb hS hA
    have hP0 : ∀ j, w.heap.size ≤ j → ¬ P j := fun j hj e => by have := hlow j e; omega
    have hEy : ErrT y := hy.kept.cell hET hPE
    have hyl : ∀ j, P j → j < y.heap.size := fun j e => Nat.lt_of_lt_of_le (hlow j e) hy.kept.size
    refine moveOn_one g1 q1 0 hmay A c SL (by rw [hSL]; exact hs9) y hy.disk (by omega) hy.all (hP0 _ (by omega)) (by omega) (by omega) (M.aF SL) (M.tF SL) hS (fun k p hk => M.aF_at hk) (fun ad e => ⟨(hA ad e).2, hP0 _ (hA ad e).1⟩) (by omega)
      (⟨#[109, 97, 107, 101, 32, 105, 116, 115, 32, 112, 108, 97, 99, 101, 32, 114, 101, 97, 100, 121]⟩ : ByteArray) 36 #[] #[.pointer (some ⟨lb, 0, none⟩), .pointer (some ⟨hb, 0, none⟩), .pointer (some ⟨nb, 0, none⟩)] (M.readyF (fr + 2) (mn - 2) k 0 q1) (fun args y => enters_of Tryz.func36 (by kernel_rfl) rfl args y) (fun dk => M.readyF_ops (fr + 2) (mn - 2) k 0 q1 dk) ?_ rb 1 hrb ?_ (fun _ => ⟨hEy, hPE⟩) (rr := w.heap.size + 2)
    · intro dk hdk y' Q hk' hQ hq
      have hnot : ∀ j, w.heap.size ≤ j → j < y.heap.size → ¬ (P j ∨ y.heap.size ≤ j) := fun j h1 h2 e => e.elim (hP0 j h1) (fun e => by omega)
      have hnq : ∀ j, w.heap.size ≤ j → j < y.heap.size → ¬ Q j := fun j h1 h2 e => hP0 j h1 ((hQ j e).2 h2)
      have z1 := hy.recs.lt
      have hel : 1 < y.heap.size := World.block_lt_of_cell? y _ hEy
      exact openStep_any lb hb nb g q k g1 q1 0 y' hq (fun j e => (hQ j e).1) (hk'.box hy.log (hnot _ hy.lb (Box.lt hy.log))) (hk'.box hhb (hnot _ hhl hhb.lt)) (hk'.box hnb (hnot _ hnl hnb.lt)) (hy.recs.kept hk' (hnot _ (by omega) z1)) (hnq _ (by omega) z1) (by omega) (by omega) (by omega) (by omega) (by omega) (fun _ => ⟨hk'.cell hEy (fun e => e.elim hPE (fun e => Nat.lt_irrefl _ (Nat.lt_of_lt_of_le hel e))), fun e => hPE ((hQ _ e).2 hel)⟩) (ra := w.heap.size + 1)
    · rw [hq1, hg1, hSL, hn]
      exact hR
  unfold M.logv at C1
  have HD := Lib.hid h
  have HLOW := Lib.hid hlow
  obtain ⟨d6, hd6⟩ : ∃ x, x = R.2 := ⟨_, rfl⟩
  have HD6 : Hid (d6 = R.2) := hd6
  have HGQ : Hid (g1 = g + 1 ∧ q1 = q + l.length + mn) := ⟨hg1, by rw [hq1, hn]⟩
  rw [← hd6] at C6
  have hR1 : (R.1 == 0) = false := by rw [beq_eq_false_iff_ne]; exact hR0
  obtain ⟨E, hE6⟩ : ∃ E, E = R.1 := ⟨_, rfl⟩
  rw [← hE6] at C6 hR1
  rw [← hE6]
  clear h hlow h1 h2 hin hf ho hE hpe hG hz0 hz1 ho1 hN hk hg9 hq9 hsc hgd hl9 hs9 hp9 ho2 hET hPE hR hmay hg1 hq1 hd6 hR0 hE6 hSL hn
  go_enter Tryz.func16, Tryz.ntmps16
  go_wp2_with fail
  refine C1.out.mono ?_
  rintro e w1 ⟨rfl, hr1, hr2, hb1⟩
  obtain ⟨W1, hW1⟩ : ∃ x, x = w1.alloc (.cells #[.pointer (some ⟨a, 0, none⟩), .int .i64 (fr : Nat), .pointer (some ⟨w.heap.size + 1, 0, none⟩), .pointer (some ⟨w.heap.size + 2, 0, none⟩)] 59) := ⟨_, rfl⟩
  have hO1 : Op14 w W1 w1.heap.size a fr mn P d := by
    have hbl : Below w1.heap.size w1 W1 := by rw [hW1]; exact below1 _ _
    have hbw := hb1.trans (hbl.mono hb1.size)
    exact ⟨HD.out.beside hbw, by rw [hW1]; exact LogB.new _ _ _ _ _, hr1.beside hbl, hr2.beside hbl, Kept.of_below hbw P, hb1.size⟩
  have HO1 := Lib.hid hO1
  obtain ⟨c0, c1, c2, c3⟩ := hO1.log.cells
  rw [hW1] at c0 c1 c2 c3
  obtain ⟨lb, hlb⟩ : ∃ x, x = w1.heap.size := ⟨_, rfl⟩
  rw [← hlb] at HO1
  clear hr1 hr2 hb1 C1 HD hO1
  go_wp2_with fail
  rw [← hW1]
  clear c0 c1 c2 c3
  try rw [← hlb]
  clear hW1 hlb
  refine (C2.out W1 lb HO1.out).mono ?_
  rintro e w2 ⟨rfl, hO2⟩
  have HO2 := Lib.hid hO2
  clear hO2 HO1 C2
  have HLE : Hid (w.heap.size ≤ w2.heap.size) := HO2.out.kept.size
  have HHB := Lib.hid (B3.new w2 73 (g : Nat) (q : Nat) (k : Nat))
  obtain ⟨W2, hW2⟩ : ∃ x, x = w2.alloc (.cells #[.int .i64 (g : Nat), .int .i64 (q : Nat), .int .i64 (k : Nat)] 73) := ⟨_, rfl⟩
  have HO3 : Hid (Op14 w W2 lb a fr mn P d1) := HO2.out.beside (by rw [hW2]; exact below1 _ _)
  rw [← hW2] at HHB
  obtain ⟨c0, c1, c2, c3⟩ := HO3.out.log.cells
  obtain ⟨k0, k1, k2⟩ := HHB.out.cells
  rw [hW2] at c0 c1 c2 c3 k0 k1 k2
  go_wp2_with fail
  rw [← hW2]
  clear c0 c1 c2 c3 k0 k1 k2 HO2
  obtain ⟨hb, hhb⟩ : ∃ x, x = w2.heap.size := ⟨_, rfl⟩
  have HHL : Hid (w.heap.size ≤ hb) := by show _ ≤ hb; rw [hhb]; exact HLE.out
  rw [← hhb] at HHB
  try rw [← hhb]
  clear hW2 hhb HLE
  refine (C3.out W2 lb HO3.out).mono ?_
  rintro e w3 ⟨A, c, rfl, hO3, hk3, hs3, ha3⟩
  have hP0 : ∀ j, w.heap.size ≤ j → ¬ P j := fun j hj e => by have := HLOW.out j e; omega
  have hwW : w.heap.size ≤ hb := HHL.out
  have hH3 : B3 w3 hb 73 (g : Nat) (q : Nat) (k : Nat) := hk3.box HHB.out (hP0 _ hwW)
  have HO4 := Lib.hid hO3
  have HS4 := Lib.hid (And.intro hs3 ha3)
  have HHB3 := Lib.hid hH3
  clear hO3 hs3 ha3 hk3 hP0 hwW hH3 HO3 HHB C3
  obtain ⟨c0, c1, c2, c3⟩ := HO4.out.log.cells
  obtain ⟨k0, k1, k2⟩ := HHB3.out.cells
  go_wp2_with fail
  refine (C4.out w3 HO4.out.all).mono ?_
  rintro e w4 ⟨rfl, hb4⟩
  have HNB := Lib.hid (B3.new w4 73 (g1 : Nat) (q1 : Nat) 0)
  have HB34 := Lib.hid hb4
  obtain ⟨W4, hW4⟩ : ∃ x, x = w4.alloc (.cells #[.int .i64 (g1 : Nat), .int .i64 (q1 : Nat), .int .i64 0] 73) := ⟨_, rfl⟩
  have hb44 : Below w3.heap.size w3 W4 := hb4.trans ((by rw [hW4]; exact below1 _ _ : Below w4.heap.size w4 W4).mono hb4.size)
  have HO5 : Hid (Op14 w W4 lb a fr mn P d2) := HO4.out.beside hb44
  have HS5 : Hid (SecF W4 A SL.length (M.aF SL) (M.tF SL) ∧ ∀ ad, A = some ad → w.heap.size ≤ ad.block ∧ ad.block < W4.heap.size) := ⟨HS4.out.1.below (Nat.le_refl _) hb44, fun ad e => ⟨(HS4.out.2 ad e).1, Nat.lt_of_lt_of_le (HS4.out.2 ad e).2 hb44.size⟩⟩
  have HH5 := Lib.hid (HHB3.out.below hb44 HHB3.out.lt)
  rw [← hW4] at HNB
  obtain ⟨n0, n1, n2⟩ := HNB.out.cells
  rw [hW4] at n0 n1 n2
  have HLE4 : Hid (w.heap.size ≤ w4.heap.size) := Nat.le_trans HO4.out.kept.size hb4.size
  clear c0 c1 c2 c3 k0 k1 k2 hb4 hb44 HO4 HHB3 C4 HS4 HB34
  go_wp2_with fail
  rw [← hW4]
  obtain ⟨nb, hnb⟩ : ∃ x, x = w4.heap.size := ⟨_, rfl⟩
  have HNL : Hid (w.heap.size ≤ nb) := by show _ ≤ nb; rw [hnb]; exact HLE4.out
  rw [← hnb] at HNB
  rw [← hnb]
  clear hW4 hnb n0 n1 n2
  refine (C5.out W4).mono ?_
  rintro e w5 ⟨rfl, hb5⟩
  have HNB5 := Lib.hid (HNB.out.below hb5 HNB.out.lt)
  obtain ⟨W5, hW5⟩ : ∃ x, x = (w5.alloc (.cells #[.string (⟨#[109, 97, 107, 101, 32, 105, 116, 115, 32, 112, 108, 97, 99, 101, 32, 114, 101, 97, 100, 121]⟩ : ByteArray), .nilFunc] 82)).setCell ⟨w5.heap.size, 1, none⟩ (.func (.func 36) #[] #[.pointer (some ⟨lb, 0, none⟩), .pointer (some ⟨hb, 0, none⟩), .pointer (some ⟨nb, 0, none⟩)]) := ⟨_, rfl⟩
  have v1 : (w5.alloc (.cells #[.string (⟨#[109, 97, 107, 101, 32, 105, 116, 115, 32, 112, 108, 97, 99, 101, 32, 114, 101, 97, 100, 121]⟩ : ByteArray), .nilFunc] 82)).cell? ⟨w5.heap.size, 1, none⟩ = some .nilFunc := (Box.new w5 82 #[.string (⟨#[109, 97, 107, 101, 32, 105, 116, 115, 32, 112, 108, 97, 99, 101, 32, 114, 101, 97, 100, 121]⟩ : ByteArray), .nilFunc]).cell 1
  have v2 : (w5.alloc (.cells #[.string (⟨#[109, 97, 107, 101, 32, 105, 116, 115, 32, 112, 108, 97, 99, 101, 32, 114, 101, 97, 100, 121]⟩ : ByteArray), .nilFunc] 82)).frozen? ⟨w5.heap.size, 1, none⟩ = false := (Box.new w5 82 #[.string (⟨#[109, 97, 107, 101, 32, 105, 116, 115, 32, 112, 108, 97, 99, 101, 32, 114, 101, 97, 100, 121]⟩ : ByteArray), .nilFunc]).frozen 1
  have hst : (store ⟨w5.heap.size, 1, none⟩ (.func (.func 36) #[] #[.pointer (some ⟨lb, 0, none⟩), .pointer (some ⟨hb, 0, none⟩), .pointer (some ⟨nb, 0, none⟩)])).run Tryz.prog (w5.alloc (.cells #[.string (⟨#[109, 97, 107, 101, 32, 105, 116, 115, 32, 112, 108, 97, 99, 101, 32, 114, 101, 97, 100, 121]⟩ : ByteArray), .nilFunc] 82)) = .ok () W5 := by
    rw [run_store _ _ _ _ _ rfl, v1, v2, hW5]
    rfl
  obtain ⟨W6, hW6⟩ : ∃ x, x = W5.alloc (.cells #[.string (⟨#[109, 97, 107, 101, 32, 105, 116, 115, 32, 112, 108, 97, 99, 101, 32, 114, 101, 97, 100, 121]⟩ : ByteArray), .func (.func 36) #[] #[.pointer (some ⟨lb, 0, none⟩), .pointer (some ⟨hb, 0, none⟩), .pointer (some ⟨nb, 0, none⟩)]] 82) := ⟨_, rfl⟩
  have hb55 : Below w5.heap.size w5 W5 := by rw [hW5]; exact (below1 _ _).setCell (by simp) _
  have hb56 : Below W5.heap.size W5 W6 := by rw [hW6]; exact below1 _ _
  have hb5a : Below W4.heap.size W4 W5 := hb5.trans (hb55.mono hb5.size)
  have hb5b : Below W4.heap.size W4 W6 := hb5a.trans (hb56.mono hb5a.size)
  have HO6 := Lib.hid (HO5.out.beside hb5a)
  have HO7 := Lib.hid (HO5.out.beside hb5b)
  have HSB : Box W5 w5.heap.size 82 #[.string (⟨#[109, 97, 107, 101, 32, 105, 116, 115, 32, 112, 108, 97, 99, 101, 32, 114, 101, 97, 100, 121]⟩ : ByteArray), .func (.func 36) #[] #[.pointer (some ⟨lb, 0, none⟩), .pointer (some ⟨hb, 0, none⟩), .pointer (some ⟨nb, 0, none⟩)]] := by rw [hW5]; exact (Box.new w5 82 #[.string (⟨#[109, 97, 107, 101, 32, 105, 116, 115, 32, 112, 108, 97, 99, 101, 32, 114, 101, 97, 100, 121]⟩ : ByteArray), .nilFunc]).set 1 _
  have HRB : Hid (Box W6 W5.heap.size 82 #[.string (⟨#[109, 97, 107, 101, 32, 105, 116, 115, 32, 112, 108, 97, 99, 101, 32, 114, 101, 97, 100, 121]⟩ : ByteArray), .func (.func 36) #[] #[.pointer (some ⟨lb, 0, none⟩), .pointer (some ⟨hb, 0, none⟩), .pointer (some ⟨nb, 0, none⟩)]]) := by rw [hW6]; exact Box.new _ _ _
  have HNB7 := Lib.hid (HNB.out.below hb5b HNB.out.lt)
  have HNB6 := Lib.hid (HNB.out.below hb5a HNB.out.lt)
  have HH7 := Lib.hid (HH5.out.below hb5b HH5.out.lt)
  have HS7 : Hid (SecF W6 A SL.length (M.aF SL) (M.tF SL) ∧ ∀ ad, A = some ad → w.heap.size ≤ ad.block ∧ ad.block < W6.heap.size) := ⟨HS5.out.1.below (Nat.le_refl _) hb5b, fun ad e => ⟨(HS5.out.2 ad e).1, Nat.lt_of_lt_of_le (HS5.out.2 ad e).2 hb5b.size⟩⟩
  have HC6 := Lib.hid (C6.out W6 lb hb nb W5.heap.size A c HO7.out HH7.out HHL.out HNB7.out HNL.out HRB.out HS7.out.1 HS7.out.2)
  have s0 := HSB.cell 0
  have s1 := HSB.cell 1
  simp only [List.getElem?_toArray, List.getElem?_cons_zero, List.getElem?_cons_succ] at s0 s1
  obtain ⟨c0, c1, c2, c3⟩ := HO6.out.log.cells
  obtain ⟨n0, n1, n2⟩ := HNB6.out.cells
  clear hW5 v1 v2 hb5 hb55 hb56 hb5a hb5b HO5 HNB C5 C6 HSB HH5 HS5 HNB6 HO6 HRB HS7 HNB5
  go_wp2_with fail
  rw [← hW6]
  clear hW6 c0 c1 c2 c3 n0 n1 n2 s0 s1 hst
  refine HC6.out.mono ?_
  rintro e w6 ⟨rfl, hd6, hk6⟩
  clear HC6
  have HR : Hid (Disk w6 a (M.plus P w.heap.size) d6 ∧ Kept P w w6) := ⟨hd6.mono (fun _ _ e => e.imp id (fun e => Nat.le_trans HO7.out.kept.size e)), HO7.out.kept.trans hk6⟩
  clear hd6 hk6 HO7 HNB7 HNL HLOW HLE4 HH7 HHL
  go_wp2_with fail
  go_ret2
  rw [← HD6.out]
  exact ⟨rfl, HR.out⟩
end Go.Proofs.YtmgchfjfkdkaoaaGreatDoor
