/-
  A walk over wal.Checkpoint on any disk: where it goes well, and where it does not.
-/
import Derived.Test.YtmgchfjfkdkaoaaGreatDoorPL
import Derived.Test.YtmgchfjfkdkaoaaGreatDoorPH
namespace Go.Proofs.YtmgchfjfkdkaoaaGreatDoor
open Go.RowKit Go.Maps

set_option maxHeartbeats 8000000 in
theorem checkpoint14_good {w : World} {b fr mn : Nat} {P : Nat → Prop} {s : M.Wl} (h : Wal w b P fr mn s) (lk : List (Nat × ByteArray)) (hlk : s.k = M.vs14 lk) (hl : ∀ p ∈ lk, p.1 ≤ 1000) (hlen : lk.length ≤ 1000) (hET : ErrT w) (hPE : ¬ P 1) {R : Int × M.D} (hR : M.steps14 (M.mvF lk fr mn (s.gen + 1) s.seq s.pl) s.d = R) (hR0 : R.1 = 0) (hm2 : 2 ≤ mn) (hm : mn ≤ 200) (hf : fr ≤ 800)
    (hg : s.gen ≤ 1000000000) (hq : s.seq ≤ 1000000000) (hp : s.pl ≤ 200) (ho : s.d.ops ≤ 1000000) :
    Calls Tryz.prog 27 #[.pointer (some ⟨b, 0, none⟩)] w fun e w' => e = .returned (.int .i64 0) ∧ Wal w' b (fun j => P j ∨ w.heap.size ≤ j) fr mn ⟨s.gen + 1, s.seq, s.pl, 0, s.act, false, R.2, s.l, [], s.dk⟩ ∧ Kept P w w' := by
  obtain ⟨a, ra, rr, sb, PD, PS, h, h1, h2, h3, h4, h5⟩ := h
  have HPP : Hid (P b ∧ P ra ∧ P rr ∧ (∀ j, PD j → P j) ∧ ∀ j, PS j → P j) := ⟨h1, h2, h3, h4, h5⟩
  obtain ⟨g1, hg1⟩ : ∃ x, x = s.gen + 1 := ⟨_, rfl⟩
  obtain ⟨q, hq'⟩ : ∃ x, x = s.seq := ⟨_, rfl⟩
  obtain ⟨pl, hpl⟩ : ∃ x, x = s.pl := ⟨_, rfl⟩
  obtain ⟨g, hg'⟩ : ∃ x, x = s.gen := ⟨_, rfl⟩
  have hmay : M.hmay ⟨(g1 : Nat), (q : Nat), (pl : Nat)⟩ = true := by
    rw [M.hmay_iff]
    refine ⟨⟨?_, ?_⟩, ⟨?_, ?_⟩, ?_, ?_⟩ <;> simp only <;> omega
  have CY : Hid (∀ y, Calls Tryz.prog 35 #[.agg #[.int .i64 (g1 : Nat), .int .i64 (q : Nat), .int .i64 (pl : Nat)]] y fun e w' => e = .returned (.bool true) ∧ Below y.heap.size y w') := by
    intro y
    have := may14_any (g1 : Nat) (q : Nat) (pl : Nat) y
    rw [hmay] at this
    exact this
  have HC : Hid (∀ y, Below w.heap.size w y → y.cell? ⟨b, 0, none⟩ = some (.pointer (some ⟨a, 0, none⟩)) ∧ y.cell? ⟨b, 1, none⟩ = some (.int .i64 (fr : Nat)) ∧ y.cell? ⟨b, 2, none⟩ = some (.pointer (some ⟨ra, 0, none⟩)) ∧ y.cell? ⟨b, 3, none⟩ = some (.pointer (some ⟨rr, 0, none⟩)) ∧ y.cell? ⟨b, 10, none⟩ = some (.pointer (some ⟨sb, 0, none⟩))) :=
    fun y hy => ⟨(h.beside hy).c0, (h.beside hy).c1, (h.beside hy).c2, (h.beside hy).c3, (h.beside hy).c10⟩
  have HKE : Hid (∀ y, Below w.heap.size w y → Tells14 (y.alloc (.cells #[.pointer (some ⟨sb, 0, none⟩)] 60)) 99 y.heap.size lk) := by
    intro y hy
    have hs1 := ((h.beside hy).sh).kept (Kept.of_below (below1 y (.cells #[.pointer (some ⟨sb, 0, none⟩)] 60)) (fun _ => False)) (fun _ _ => id)
    rw [hlk] at hs1
    exact kept_tells hs1 (((Box.new y 60 #[.pointer (some ⟨sb, 0, none⟩)]).cell 0).trans rfl) (by omega)
  have CSO : Hid (∀ y, Below w.heap.size w y → Calls Tryz.prog 61 #[.func (.func 99) #[] #[.pointer (some ⟨y.heap.size, 0, none⟩)]] (y.alloc (.cells #[.pointer (some ⟨sb, 0, none⟩)] 60)) fun e w' => ∃ A c, e = .returned (.slice A lk.length c) ∧ Below y.heap.size y w' ∧ SecF w' A lk.length (M.aF lk) (M.tF lk) ∧ ∀ ad, A = some ad → ad.block < w'.heap.size ∧ y.heap.size ≤ ad.block) := by
    intro y hy
    refine (sectorsOf_any _ _ lk (by omega) _ (HKE.out y hy)).mono ?_
    rintro e w' ⟨v, rfl, ho, hb, hnew⟩
    obtain ⟨A, c, e1, e2, e3, e4, e5⟩ := secs14 ho hl
    refine ⟨A, c, by rw [e1], (below1 y _).trans (hb.mono (by rw [World.size_alloc]; omega)), e4, fun ad e => ⟨(e5 ad e).1, ?_⟩⟩
    have := hnew ad.block (by rw [e1, e]; rfl)
    rw [World.size_alloc] at this
    omega
  have hR' : M.steps14 (M.mvF lk fr mn g1 q pl) s.d = R := by rw [hg1, hq', hpl]; exact hR
  obtain ⟨E, hE⟩ : ∃ E, E = R.1 := ⟨_, rfl⟩
  obtain ⟨d5, hd5⟩ : ∃ x, x = R.2 := ⟨_, rfl⟩
  have CMV : Hid (∀ y A c, Below w.heap.size w y → SecF y A lk.length (M.aF lk) (M.tF lk) → (∀ ad, A = some ad → ad.block < y.heap.size ∧ w.heap.size ≤ ad.block) → Calls Tryz.prog 38 #[.agg #[.pointer (some ⟨a, 0, none⟩), .int .i64 (fr : Nat), .pointer (some ⟨ra, 0, none⟩), .pointer (some ⟨rr, 0, none⟩)], .slice A lk.length c, .agg #[.int .i64 (g1 : Nat), .int .i64 (q : Nat), .int .i64 (pl : Nat)], .slice none 0 0] y fun e w' => e = .returned (.int .i64 0) ∧ Disk w' a (M.plus PD y.heap.size) d5 ∧ Kept PD y w') := by
    intro y A c hy hS hA
    rw [← hR0, hd5]
    exact moveOn_none g1 q pl hmay A c lk (by omega) y (h.beside hy).disk hm2 (h.beside hy).all h.dra (by omega) (by omega) (M.aF lk) (M.tF lk) hS (fun k p hk => M.aF_at hk) (fun ad e => ⟨(hA ad e).1, fun e' => by have := h.dl _ e'; have := (hA ad e).2; omega⟩) (by omega) hR' (fun _ => ⟨(Kept.of_below hy (fun _ => False)).cell hET id, fun e => hPE (h4 _ e)⟩) (rr := rr)
  have HMV : Hid (∀ y z, Below w.heap.size w y → Disk z a (M.plus PD y.heap.size) d5 → Kept PD y z → WalM z b a ra rr sb (fun j => (PD j ∨ y.heap.size ≤ j) ∧ j < z.heap.size) PS fr mn { s with d := d5 }) := fun y z hy hd hk => (h.beside hy).disk' hd hk
  have CCL : Hid (∀ (PD' : Nat → Prop) z s', WalM z b a ra rr sb PD' PS fr mn s' → Calls Tryz.prog 63 #[.pointer (some ⟨sb, 0, none⟩)] z fun e w' => e = .returned (.tuple #[]) ∧ WalM w' b a ra rr sb PD' (fun j => (PS j ∨ z.heap.size ≤ j) ∧ j < w'.heap.size) fr mn { s' with l := s'.l, k := [] } ∧ Kept PS z w') := by
    intro PD' z s' hz
    refine (Q.clear_any z hz.sh).mono ?_
    rintro e w' ⟨h1, h2, h3⟩
    exact ⟨h1, hz.sh' (h2.mono (fun _ _ e => Or.inl e)) h3, h3⟩
  have HDE : Hid (d5 = R.2 ∧ E = R.1) := ⟨hd5, hE⟩
  obtain ⟨c0, c1, c2, c3, c10⟩ := HC.out w (Below.refl _ w)
  have c4 := h.c4
  have c5 := h.c5
  have c6 := h.c6
  have HC4 := Lib.hid (fun y (hy : Below w.heap.size w y) => And.intro (h.beside hy).c4 (And.intro (h.beside hy).c5 (h.beside hy).c6))
  rw [← hg', ← hq', ← hpl] at HC4
  obtain ⟨k4, k5, k6⟩ := HC4.out _ (below1 w (.cells #[.int .i64 0, .int .i64 0, .int .i64 0] 73))
  rw [← hg'] at c4
  rw [← hq'] at c5
  rw [← hpl] at c6
  have e1 : IntKind.i64.wrap ((g : Int) + 1) = (g1 : Int) := by rw [IntKind.wrap_i64]; omega
  have HH0 := Lib.hid h
  have HQE : Hid (g1 = s.gen + 1 ∧ q = s.seq ∧ pl = s.pl) := ⟨hg1, hq', hpl⟩
  clear h h1 h2 h3 h4 h5 hlk hl hlen hm2 hm hf hg hq hp ho hg1 hq' hpl hg' hmay HKE hET hPE hR hR0 hR' hE hd5
  go_enter Tryz.func27, Tryz.ntmps27
  go_wp2_with fail
  go_region
  have HB1 : Hid (Below w.heap.size w (w.alloc (.cells #[.int .i64 (g1 : Nat), .int .i64 (q : Nat), .int .i64 (pl : Nat)] 73)).drew) := (below1 _ _).drew
  have HN1 : Hid (B3 (w.alloc (.cells #[.int .i64 (g1 : Nat), .int .i64 (q : Nat), .int .i64 (pl : Nat)] 73)).drew w.heap.size 73 (g1 : Nat) (q : Nat) (pl : Nat)) := B3.new w 73 (g1 : Nat) (q : Nat) (pl : Nat)
  obtain ⟨W1, hW1⟩ : ∃ x, x = (w.alloc (.cells #[.int .i64 (g1 : Nat), .int .i64 (q : Nat), .int .i64 (pl : Nat)] 73)).drew := ⟨_, rfl⟩
  rw [← hW1] at HB1 HN1 ⊢
  obtain ⟨hb, hhb⟩ : ∃ x, x = w.heap.size := ⟨_, rfl⟩
  have HHB : Hid (hb = w.heap.size) := hhb
  rw [← hhb] at HN1
  rw [show (Value.pointer (some ⟨w.heap.size, 0, none⟩)) = .pointer (some ⟨hb, 0, none⟩) by rw [hhb]]
  clear hW1 hhb c0 c1 c2 c3 c4 c5 c6 c10 k4 k5 k6 e1 HC4
  obtain ⟨n0, n1, n2⟩ := HN1.out.cells
  go_wp2_with fail
  refine (CY.out W1).mono ?_
  rintro e w2 ⟨rfl, hb2⟩
  have HB2 : Hid (Below w.heap.size w w2) := HB1.out.trans (hb2.mono HB1.out.size)
  have HN2 : Hid (B3 w2 hb 73 (g1 : Nat) (q : Nat) (pl : Nat)) := HN1.out.below hb2 HN1.out.lt
  clear hb2 n0 n1 n2 HB1 HN1 CY
  have HST : Hid (∀ y, Below w2.heap.size w2 y → (y.cell? ⟨b, 0, none⟩ = some (.pointer (some ⟨a, 0, none⟩)) ∧ y.cell? ⟨b, 1, none⟩ = some (.int .i64 (fr : Nat)) ∧ y.cell? ⟨b, 2, none⟩ = some (.pointer (some ⟨ra, 0, none⟩)) ∧ y.cell? ⟨b, 3, none⟩ = some (.pointer (some ⟨rr, 0, none⟩)) ∧ y.cell? ⟨b, 10, none⟩ = some (.pointer (some ⟨sb, 0, none⟩))) ∧
      y.cell? ⟨hb, 0, none⟩ = some (.int .i64 (g1 : Nat)) ∧ y.cell? ⟨hb, 1, none⟩ = some (.int .i64 (q : Nat)) ∧ y.cell? ⟨hb, 2, none⟩ = some (.int .i64 (pl : Nat))) := by
    intro y hy
    have h2 : B3 y hb 73 (g1 : Nat) (q : Nat) (pl : Nat) := HN2.out.below hy HN2.out.lt
    exact ⟨HC.out y (HB2.out.trans (hy.mono HB2.out.size)), h2.cells.1, h2.cells.2.1, h2.cells.2.2⟩
  have HBD : Hid (Below w2.heap.size w2 (w2.drewN 1)) := below_drewN (Below.refl _ _) 1
  have HBW : Hid (∀ y, Below w2.heap.size w2 y → Below w.heap.size w y) := fun y hy => HB2.out.trans (hy.mono HB2.out.size)
  go_wp2_with fail
  go_region_held3 (fun y => (y.cell? ⟨b, 0, none⟩ = some (.pointer (some ⟨a, 0, none⟩)) ∧ y.cell? ⟨b, 1, none⟩ = some (.int .i64 (fr : Nat)) ∧ y.cell? ⟨b, 2, none⟩ = some (.pointer (some ⟨ra, 0, none⟩)) ∧ y.cell? ⟨b, 3, none⟩ = some (.pointer (some ⟨rr, 0, none⟩)) ∧ y.cell? ⟨b, 10, none⟩ = some (.pointer (some ⟨sb, 0, none⟩))) ∧
      y.cell? ⟨hb, 0, none⟩ = some (.int .i64 (g1 : Nat)) ∧ y.cell? ⟨hb, 1, none⟩ = some (.int .i64 (q : Nat)) ∧ y.cell? ⟨hb, 2, none⟩ = some (.int .i64 (pl : Nat))) (first | exact ⟨⟨hM6.c0, hM6.c1, hM6.c2, hM6.c3, hM6.c10⟩, hN6.cells.1, hN6.cells.2.1, hN6.cells.2.2⟩ | exact HST.out _ hbS4 | exact HST.out _ HBD.out | exact HST.out _ (HBD.out.alloc HBD.out.size _)) (first
    | (go_at_call 62
       refine (Q.kept_any _ _).mono ?_
       rintro e w3 ⟨rfl, rfl⟩)
    | (go_at_call 61
       refine (CSO.out _ (HBW.out _ HBD.out)).mono ?_
       rintro e w4 ⟨A, c, rfl, hb4, hsf, hnew⟩
       have hbS4 : Below w2.heap.size w2 w4 := HBD.out.trans (hb4.mono HBD.out.size)
       have hN4 : B3 w4 hb 73 (g1 : Nat) (q : Nat) (pl : Nat) := HN2.out.below hbS4 HN2.out.lt)
    | (go_at_call 38
       refine (CMV.out _ A c (HBW.out _ hbS4) hsf (fun ad e => ⟨(hnew ad e).1, Nat.le_trans (HB2.out.size) (hnew ad e).2⟩)).mono ?_
       rintro e w6 ⟨rfl, hd6, hk6⟩
       have hM6 := HMV.out _ _ (HBW.out _ hbS4) hd6 hk6
       have hN6 : B3 w6 hb 73 (g1 : Nat) (q : Nat) (pl : Nat) := hk6.box hN4 (fun e => by have := HH0.out.dl _ e; have := HHB.out; omega)))
  have HK6 : Hid (Kept (fun j => P j) w w6) := (Kept.of_below (HBW.out _ hbS4) _).trans (hk6.mono (fun j _ e => HPP.out.2.2.2.1 j e))
  have HZ4 : Hid (w.heap.size ≤ w4.heap.size) := (HBW.out _ hbS4).size
  have HM6 := Lib.hid hM6
  obtain ⟨n0, n1, n2⟩ := hN6.cells
  have c4 := hM6.c4
  have f4 := hM6.fz 4
  have HM7 : Hid (WalM (w6.setCell ⟨b, 4, none⟩ (.int .i64 (g1 : Nat))) b a ra rr sb _ PS fr mn _) := hM6.setGen g1
  have c7 := HM7.out.c7
  have f7 := HM7.out.fz 7
  have HM8 : Hid (WalM ((w6.setCell ⟨b, 4, none⟩ (.int .i64 (g1 : Nat))).setCell ⟨b, 7, none⟩ (.int .i64 0)) b a ra rr sb _ PS fr mn _) := HM7.out.setUsed 0
  have c9 := HM8.out.c9
  have f9 := HM8.out.fz 9
  have HM9 : Hid (WalM (((w6.setCell ⟨b, 4, none⟩ (.int .i64 (g1 : Nat))).setCell ⟨b, 7, none⟩ (.int .i64 0)).setCell ⟨b, 9, none⟩ (.bool false)) b a ra rr sb _ PS fr mn _) := HM8.out.setUns false
  have HK9 : Hid (Kept (fun j => P j) w (((w6.setCell ⟨b, 4, none⟩ (.int .i64 (g1 : Nat))).setCell ⟨b, 7, none⟩ (.int .i64 0)).setCell ⟨b, 9, none⟩ (.bool false))) := ((HK6.out.set (fun _ => HPP.out.1) 4 _).set (fun _ => HPP.out.1) 7 _).set (fun _ => HPP.out.1) 9 _
  have c10 := HM9.out.c10
  obtain ⟨x9, hx9⟩ : ∃ x, x = ((w6.setCell ⟨b, 4, none⟩ (.int .i64 (g1 : Nat))).setCell ⟨b, 7, none⟩ (.int .i64 0)).setCell ⟨b, 9, none⟩ (.bool false) := ⟨_, rfl⟩
  have CC := Lib.hid (CCL.out _ _ _ HM9.out)
  clear hM6 hd6 hk6 hN6 hN4 hbS4 hb4 hsf hnew HM7 HM8 HST CSO CMV HMV CCL HC HBD HBW HB2 HN2 HM6
  go_wp2_with fail
  refine CC.out.mono ?_
  rintro e w7 ⟨rfl, hM7, hk7⟩
  have HR : Hid (Wal w7 b (fun j => P j ∨ w.heap.size ≤ j) fr mn ⟨g1, q, pl, 0, s.act, false, d5, s.l, [], s.dk⟩ ∧ Kept P w w7) := by
    refine ⟨?_, HK9.out.trans (hk7.mono (fun j _ e => HPP.out.2.2.2.2 j e))⟩
    rw [HQE.out.2.1, HQE.out.2.2]
    exact hM7.out HH0.out (fun j e => e.1.imp id (fun e => Nat.le_trans HZ4.out e)) (fun j e => e.1.imp id (fun e => Nat.le_trans HK9.out.size e)) HPP.out.1 HPP.out.2.1 HPP.out.2.2.1 HPP.out.2.2.2.1 HPP.out.2.2.2.2
  clear hM7 hk7 CC
  go_wp2_with fail
  go_ret
  refine ⟨rfl, ?_, HR.out.2⟩
  rw [← HQE.out.1, ← HQE.out.2.1, ← HQE.out.2.2, ← HDE.out.1]
  exact HR.out.1
end Go.Proofs.YtmgchfjfkdkaoaaGreatDoor
