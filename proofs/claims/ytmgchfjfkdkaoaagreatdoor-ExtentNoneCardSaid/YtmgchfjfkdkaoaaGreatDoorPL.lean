/-
  Walks over wal.putRecord and Commit, on any disk.
-/
import Derived.Test.YtmgchfjfkdkaoaaGreatDoorPJ
import Derived.Test.YtmgchfjfkdkaoaaGreatDoorPG
import Derived.Test.YtmgchfjfkdkaoaaGreatDoorMB
import Derived.Test.YtmgchfjfkdkaoaaGreatDoorMH
namespace Go.Proofs.YtmgchfjfkdkaoaaGreatDoor
open Go.RowKit Go.Maps

/-- Sectors of a list, as functions. -/
def M.aF (l : List (Nat × ByteArray)) (i : Nat) : Int := (((l[i]?).getD (0, ⟨#[]⟩)).1 : Nat)
def M.tF (l : List (Nat × ByteArray)) (i : Nat) : ByteArray := ((l[i]?).getD (0, ⟨#[]⟩)).2
theorem M.aF_at {l : List (Nat × ByteArray)} {i : Nat} {p : Nat × ByteArray} (h : l[i]? = some p) : M.aF l i = (p.1 : Nat) ∧ M.tF l i = p.2 := by simp [M.aF, M.tF, h]
theorem secs14 {y : World} {B : Nat} {v : Value} {l : List (Nat × ByteArray)} (h : y.ownsRow B 111 2 v l.length (M.cells l)) (hl : ∀ p ∈ l, p.1 ≤ 1000) :
    ∃ A c, v = .slice A l.length c ∧ l.length ≤ c ∧ c ≤ maxLen ∧ SecF y A l.length (M.aF l) (M.tF l) ∧ ∀ ad, A = some ad → ad.block < y.heap.size ∧ B ≤ ad.block := by
  rcases h.2 with ⟨e1, e2⟩ | ⟨g, cap, cur, e1, e2, e3, e4, e5, e6, e7⟩
  · rw [e1, e2]
    exact ⟨none, 0, rfl, Nat.le_refl _, Nat.zero_le _, SecF.nil _ _ _ _, fun ad e => by cases e⟩
  · subst e1
    refine ⟨some ⟨g, 0, none⟩, cap, rfl, e4, e5, fun i hi => ?_, fun ad e => by injection e with e; subst e; exact ⟨(h.lt g rfl).2, (h.lt g rfl).1⟩⟩
    obtain ⟨p, hp⟩ : ∃ p, l[i]? = some p := ⟨l[i]'hi, List.getElem?_eq_getElem _⟩
    have h1 := h.cells (g := g) rfl _ _ (M.cells_at hp).1
    have h2 := h.cells (g := g) rfl _ _ (M.cells_at hp).2
    obtain ⟨f1, f2⟩ := M.aF_at hp
    rw [f1, f2]
    refine ⟨_, rfl, (h.lt g rfl).2, h1, ?_, by have := hl p (List.mem_of_getElem? hp); omega⟩
    rw [blk_add] at h2 ⊢
    exact h2

/-- A transaction's record. -/
def M.recW (s : M.Wl) (lp : List (Nat × ByteArray)) : ByteArray := M.rec (M.aF lp) (M.tF lp) s.seq lp.length
/-- What putting it comes to. -/
def M.prR (fr mn : Nat) (s : M.Wl) (lp : List (Nat × ByteArray)) : Int × M.D := M.steps14 (M.pbF (fr + 2) (mn - 2) s.pl ((M.recW s lp).extract 0 64) (M.pbO (M.recW s lp) (((mn - 2 : Nat) : Int) - (s.used : Nat) - (1 + (lp.length : Int))))) s.d
/-- The log behind a record of sectors. -/
def M.wlPut (fr mn : Nat) (s : M.Wl) (lp : List (Nat × ByteArray)) : M.Wl :=
  ⟨s.gen, s.seq + 1, (s.pl + (lp.length + 1)) % (mn - 2), s.used + (lp.length + 1), s.act, true, (M.prR fr mn s lp).2, [], M.puts s.l s.k, s.dk⟩
def M.prE (fr mn : Nat) (s : M.Wl) (lp : List (Nat × ByteArray)) : Int := if s.used + lp.length + 1 ≤ mn - 2 then (M.prR fr mn s lp).1 else 6
def M.prW (fr mn : Nat) (s : M.Wl) (lp : List (Nat × ByteArray)) : M.Wl := if s.used + lp.length + 1 ≤ mn - 2 then (if (M.prR fr mn s lp).1 = 0 then M.wlPut fr mn s lp else { s with d := (M.prR fr mn s lp).2 }) else s

set_option maxHeartbeats 8000000 in
theorem putRecord_any {w : World} {b fr mn : Nat} {P : Nat → Prop} {s : M.Wl} (h : Wal w b P fr mn s) (lp : List (Nat × ByteArray)) (hlp : s.l = M.vs14 lp) (hl : ∀ p ∈ lp, p.1 ≤ 1000) (hr : M.rE (M.aF lp) (M.tF lp) (s.seq : Nat) lp.length = 0) (hm : mn ≤ 1000) (hm0 : 2 < mn) (hf : fr + 2 ≤ 1000) (hp : s.pl < mn - 2) (hu : s.used ≤ mn - 2) (ho : s.d.ops ≤ 10000000) (hk : s.k.length ≤ 50000) (hET : ErrT w ∧ ¬ P 1) :
    Calls Tryz.prog 60 #[.pointer (some ⟨b, 0, none⟩)] w fun e w' => e = .returned (.int .i64 (M.prE fr mn s lp)) ∧ Wal w' b (fun j => P j ∨ w.heap.size ≤ j) fr mn (M.prW fr mn s lp) ∧ Kept P w w' := by
  obtain ⟨hq, hn16, hall⟩ := M.rE_ok _ _ hr
  have HRM := Lib.hid (room14_any h (by omega) hm)
  obtain ⟨a, ra, rr, sb, PD, PS, h, h1, h2, h3, h4, h5⟩ := h
  have hlen : s.l.length = lp.length := by rw [hlp, M.vs14_len]
  obtain ⟨n, hn⟩ : ∃ n, n = lp.length := ⟨_, rfl⟩
  obtain ⟨m2, hm2⟩ : ∃ n, n = mn - 2 := ⟨_, rfl⟩
  obtain ⟨u, hu'⟩ : ∃ n, n = s.used := ⟨_, rfl⟩
  have CL : Hid (∀ y, Below w.heap.size w y → Calls Tryz.prog 59 #[.pointer (some ⟨sb, 0, none⟩)] y fun e w' => e = .returned (.int .i64 (n : Nat)) ∧ w' = y) := fun y hy => by
    have := Q.loose_any y (h.beside hy).sh
    rw [hlen, ← hn] at this
    exact this
  have HC : Hid (∀ y, Below w.heap.size w y → y.cell? ⟨b, 5, none⟩ = some (.int .i64 (s.seq : Nat)) ∧ y.cell? ⟨b, 10, none⟩ = some (.pointer (some ⟨sb, 0, none⟩))) :=
    fun y hy => ⟨(h.beside hy).c5, (h.beside hy).c10⟩
  have HC2 : Hid (∀ y, Below w.heap.size w y → y.cell? ⟨b, 0, none⟩ = some (.pointer (some ⟨a, 0, none⟩)) ∧ y.cell? ⟨b, 1, none⟩ = some (.int .i64 (fr : Nat)) ∧ y.cell? ⟨b, 2, none⟩ = some (.pointer (some ⟨ra, 0, none⟩)) ∧ y.cell? ⟨b, 3, none⟩ = some (.pointer (some ⟨rr, 0, none⟩)) ∧ y.cell? ⟨b, 6, none⟩ = some (.int .i64 (s.pl : Nat))) :=
    fun y hy => ⟨(h.beside hy).c0, (h.beside hy).c1, (h.beside hy).c2, (h.beside hy).c3, (h.beside hy).c6⟩
  obtain ⟨c5, c10⟩ := HC.out w (Below.refl _ w)
  rw [← hm2, ← hu'] at HRM
  unfold M.prE M.prW
  rw [← hm2, ← hn, ← hu']
  have b1 : (0 : Int) ≤ (n : Int) ∧ (n : Int) ≤ 16 := by omega
  by_cases hroom : u + n + 1 ≤ m2
  · rw [if_pos hroom, if_pos hroom]
    obtain ⟨lf, hlf⟩ : ∃ x : Int, x = (m2 : Int) - (u : Int) - (1 + (n : Int)) := ⟨_, rfl⟩
    have d1 : ¬ (lf < 0) := by omega
    have e0 : IntKind.i64.wrap ((m2 : Int) - (u : Int) - (1 + (n : Int))) = lf := by rw [IntKind.wrap_i64]; omega
    obtain ⟨q, hq'⟩ : ∃ q, q = s.seq := ⟨_, rfl⟩
    obtain ⟨pl, hpl⟩ : ∃ q, q = s.pl := ⟨_, rfl⟩
    obtain ⟨rc, hrc⟩ : ∃ q, q = M.recW s lp := ⟨_, rfl⟩
    obtain ⟨R, hR⟩ : ∃ q, q = M.prR fr mn s lp := ⟨_, rfl⟩
    have hrs : rc.size = 64 * (n + 1) := by rw [hrc, hn]; exact M.rec_size _ _ _ _ hn16.2 (fun i hi => (hall i hi).2)
    have HFR : Hid (∀ y, Below w.heap.size w y → Tells14 (y.alloc (.cells #[.pointer (some ⟨sb, 0, none⟩)] 60)) 131 y.heap.size lp) := by
      intro y hy
      have hs1 := ((h.beside hy).sh).kept (Kept.of_below (below1 y (.cells #[.pointer (some ⟨sb, 0, none⟩)] 60)) (fun _ => False)) (fun _ _ => id)
      rw [hlp] at hs1
      exact fresh_tells hs1 (((Box.new y 60 #[.pointer (some ⟨sb, 0, none⟩)]).cell 0).trans rfl) (by omega)
    have CSO : Hid (∀ y, Below w.heap.size w y → Calls Tryz.prog 61 #[.func (.func 131) #[] #[.pointer (some ⟨y.heap.size, 0, none⟩)]] (y.alloc (.cells #[.pointer (some ⟨sb, 0, none⟩)] 60)) fun e w' => ∃ A c, e = .returned (.slice A n c) ∧ n ≤ c ∧ c ≤ maxLen ∧ SecF w' A n (M.aF lp) (M.tF lp) ∧ Below y.heap.size y w') := by
      intro y hy
      refine (sectorsOf_any _ _ lp (by omega) _ (HFR.out y hy)).mono ?_
      rintro e w' ⟨v, rfl, ho, hb, _⟩
      obtain ⟨A, c, e1, e2, e3, e4, _⟩ := secs14 ho hl
      rw [← hn] at e1 e2 e4
      exact ⟨A, c, by rw [e1], e2, e3, e4, (below1 y _).trans (hb.mono (by rw [World.size_alloc]; omega))⟩
    have CPU : Hid (∀ A c y, SecF y A n (M.aF lp) (M.tF lp) → n ≤ c → c ≤ maxLen → Calls Tryz.prog 94 #[.int .i64 (q : Nat), .slice A n c] y fun e w' => e = .returned (.tuple #[.string rc, .int .i64 0]) ∧ Below y.heap.size y w') := by
      intro A c y h1 h2 h3
      rw [hn] at h1 h2 ⊢
      have := put11_yes A lp.length c (M.aF lp) (M.tF lp) (s.seq : Nat) y h1 h2 h3 hr
      rw [Int.toNat_natCast, show M.rec (M.aF lp) (M.tF lp) s.seq lp.length = rc from hrc.symm] at this
      rw [hq']
      exact this
    have CLP : Hid (∀ y, Below w.heap.size w y → Calls Tryz.prog 96 #[.agg #[.pointer (some ⟨a, 0, none⟩), .int .i64 (fr : Nat), .pointer (some ⟨ra, 0, none⟩), .pointer (some ⟨rr, 0, none⟩)], .int .i64 (pl : Nat), .string rc, .int .i64 lf] y fun e w' => e = .returned (.int .i64 R.1) ∧ Disk w' a (M.plus PD y.heap.size) R.2 ∧ Kept PD y w') := by
      intro y hy
      refine putBehind_any pl rc lf y (h.beside hy).disk (h.beside hy).recs h.drr (by omega) (by omega) (by omega) (by omega) hf (by omega) (by omega) ?_ (fun _ => ⟨(Kept.of_below hy (fun _ => False)).cell hET.1 id, fun e => hET.2 (h4 _ e)⟩) (ra := ra)
      rw [hR, hlf, hrc, hpl, hm2, hu', hn]
      rfl
    have HM6 : Hid (∀ y z, Below w.heap.size w y → Disk z a (M.plus PD y.heap.size) R.2 → Kept PD y z → WalM z b a ra rr sb (fun j => (PD j ∨ y.heap.size ≤ j) ∧ j < z.heap.size) PS fr mn { s with d := R.2 }) := fun y z hy hd hk => (h.beside hy).disk' hd hk
    have CKE : Hid (∀ (PD' : Nat → Prop) z, WalM z b a ra rr sb PD' PS fr mn { s with d := R.2 } → Calls Tryz.prog 97 #[.pointer (some ⟨sb, 0, none⟩)] z fun e w' => e = .returned (.tuple #[]) ∧ WalM w' b a ra rr sb PD' (fun j => (PS j ∨ z.heap.size ≤ j) ∧ j < w'.heap.size) fr mn { s with d := R.2, l := [], k := M.puts s.l s.k } ∧ Kept PS z w') := by
      intro PD' z hz
      refine (Q.keep_any z hz.sh (by simp only; omega)).mono ?_
      rintro e w' ⟨h1, h2, h3⟩
      exact ⟨h1, hz.sh' h2 h3, h3⟩
    have HPP : Hid (P b ∧ P ra ∧ P rr ∧ (∀ j, PD j → P j) ∧ ∀ j, PS j → P j) := ⟨h1, h2, h3, h4, h5⟩
    have HH0 := Lib.hid h
    have HQE : Hid (q = s.seq ∧ pl = s.pl ∧ u = s.used ∧ m2 = mn - 2) := ⟨hq', hpl, hu', hm2⟩
    rw [← hq'] at HC c5
    rw [← hpl] at HC2
    have HEQ : Hid (M.wlPut fr mn s lp = ⟨s.gen, q + 1, (pl + (n + 1)) % m2, u + (n + 1), s.act, true, R.2, [], M.puts s.l s.k, s.dk⟩) := by
      show M.wlPut fr mn s lp = _
      unfold M.wlPut
      rw [hR, hq', hpl, hu', hm2, hn]
    rw [← hR]
    have HBD : Hid (q ≤ 281474976710656 ∧ pl < m2 ∧ m2 ≤ 1000 ∧ u ≤ 1000 ∧ n ≤ 16) := ⟨by omega, by omega, by omega, by omega, by omega⟩
    have HRG : Hid (∀ y, Kept (fun j => P j) w y → WalM y b a ra rr sb PD PS fr mn s → True) := fun _ _ _ => trivial
    have HSAME : Hid (∀ (PD' : Nat → Prop) z, WalM z b a ra rr sb PD' PS fr mn { s with d := R.2 } → (∀ j, PD' j → PD j ∨ w.heap.size ≤ j) → Wal z b (fun j => P j ∨ w.heap.size ≤ j) fr mn { s with d := R.2 }) := fun PD' z hz hd => hz.out h hd (fun _ e => Or.inl e) h1 h2 h3 h4 h5
    clear h h1 h2 h3 h4 h5 hlp hl hr hm hm0 hf hp hu ho hk hq hn16 hall hlen hn hm2 hu' hq' hpl hrc hrs hroom HFR hET hR HRG hlf
    by_cases hR0 : R.1 = 0
    · rw [if_pos hR0, hR0]
      rw [hR0] at CLP
      clear HSAME hR0
      go_enter Tryz.func60, Tryz.ntmps60
      go_wp2_with fail
      refine (CL.out _ (Below.refl _ w)).mono ?_
      rintro e w1 ⟨rfl, rfl⟩
      go_wp2_with fail
      refine HRM.out.mono ?_
      rintro e w2 ⟨rfl, n2, rfl⟩
      obtain ⟨W, hW⟩ : ∃ x, x = w1.drewN n2 := ⟨_, rfl⟩
      have HBW : Hid (Below w1.heap.size w1 W) := by rw [hW]; exact below_drewN (Below.refl _ _) n2
      have HBW1 : Hid (Below w1.heap.size w1 (W.drewN 1)) := below_drewN HBW.out 1
      rw [← hW]
      clear hW c5 c10 HRM CL
      obtain ⟨c5, c10⟩ := HC.out W HBW.out
      go_wp2_with fail
      go_region_held3 (fun y => y.cell? ⟨b, 5, none⟩ = some (.int .i64 (q : Nat)) ∧ y.cell? ⟨b, 10, none⟩ = some (.pointer (some ⟨sb, 0, none⟩))) (first | exact HC.out _ hbS5 | exact HC.out _ hbS4 | exact HC.out _ HBW1.out | exact HC.out _ (HBW1.out.alloc HBW1.out.size _)) (first
        | (go_at_call 95
           refine (Q.fresh_any _ _).mono ?_
           rintro e w3 ⟨rfl, rfl⟩)
        | (go_at_call 61
           refine (CSO.out _ HBW1.out).mono ?_
           rintro e w4 ⟨A, c, rfl, hc1, hc2, hsf, hb4⟩
           have hbS4 : Below w1.heap.size w1 w4 := HBW1.out.trans (hb4.mono HBW1.out.size))
        | (go_at_call 94
           refine (CPU.out A c _ hsf hc1 hc2).mono ?_
           rintro e w5 ⟨rfl, hb5⟩
           have hbS5 : Below w1.heap.size w1 w5 := hbS4.trans (hb5.mono hbS4.size)))
      have HB5 := Lib.hid hbS5
      have HB5d : Hid (Below w1.heap.size w1 (w5.drewN 1)) := below_drewN hbS5 1
      clear c5 c10 hc1 hc2 hsf hb4 hbS4 hb5 hbS5 CSO CPU HBW HBW1
      obtain ⟨c0, c1, c2, c3, c6⟩ := HC2.out w5 HB5.out
      go_wp2_with fail
      go_region_held3 (fun y => y.cell? ⟨b, 0, none⟩ = some (.pointer (some ⟨a, 0, none⟩)) ∧ y.cell? ⟨b, 1, none⟩ = some (.int .i64 (fr : Nat)) ∧ y.cell? ⟨b, 2, none⟩ = some (.pointer (some ⟨ra, 0, none⟩)) ∧ y.cell? ⟨b, 3, none⟩ = some (.pointer (some ⟨rr, 0, none⟩)) ∧ y.cell? ⟨b, 6, none⟩ = some (.int .i64 (pl : Nat))) (first | exact ⟨hM6.c0, hM6.c1, hM6.c2, hM6.c3, q6⟩ | exact HC2.out _ HB5d.out) (first
        | (go_at_call 96
           refine (CLP.out _ HB5d.out).mono ?_
           rintro e w6 ⟨rfl, hd6, hk6⟩
           have hM6 := HM6.out _ _ HB5d.out hd6 hk6
           have q6 := hM6.c6
           simp only at q6
           rw [← HQE.out.2.1] at q6))
      clear c0 c1 c2 c3 c6 q6
      have HM6' := Lib.hid hM6
      have HK6 : Hid (Kept (fun j => P j) w1 w6) := (Kept.of_below HB5d.out _).trans (hk6.mono (fun j _ e => HPP.out.2.2.2.1 j e))
      have HZ5 : Hid (w1.heap.size ≤ w5.heap.size) := HB5.out.size
      have c10 := hM6.c10
      clear hM6 hd6 hk6 HM6 HB5d HB5 CLP HC HC2
      go_wp2_with fail
      refine (CKE.out _ w6 HM6'.out).mono ?_
      rintro e w7 ⟨rfl, hM7, hk7⟩
      have HK7 : Hid (Kept (fun j => P j) w1 w7) := HK6.out.trans (hk7.mono (fun j _ e => HPP.out.2.2.2.2 j e))
      have HM7 := Lib.hid hM7
      have c9 := hM7.c9
      have f9 := hM7.fz 9
      clear hM7 hk7 CKE c10
      go_wp2_with fail
      have HM8 : Hid _ := HM7.out.setUns true
      have HK8 : Hid (Kept (fun j => P j) w1 (w7.setCell ⟨b, 9, none⟩ (.bool true))) := HK7.out.set (fun _ => HPP.out.1) 9 _
      obtain ⟨x8, hx8⟩ : ∃ x, x = w7.setCell ⟨b, 9, none⟩ (.bool true) := ⟨_, rfl⟩
      rw [← hx8] at HM8 HK8 ⊢
      clear hx8 c9 f9
      have c0 := HM8.out.c0
      have c1 := HM8.out.c1
      have c2 := HM8.out.c2
      have c3 := HM8.out.c3
      have c6 := HM8.out.c6
      simp only at c6
      rw [← HQE.out.2.1] at c6
      have f6 := HM8.out.fz 6
      obtain ⟨p1, hp1⟩ : ∃ x : Nat, x = pl + (n + 1) := ⟨_, rfl⟩
      obtain ⟨p2, hp2⟩ : ∃ x : Nat, x = p1 % m2 := ⟨_, rfl⟩
      have CM : Hid (∀ y, Below x8.heap.size x8 y → Calls Tryz.prog 98 #[.agg #[.pointer (some ⟨a, 0, none⟩), .int .i64 (fr : Nat), .pointer (some ⟨ra, 0, none⟩), .pointer (some ⟨rr, 0, none⟩)], .int .i64 (p1 : Nat)] y fun e w' => e = .returned (.int .i64 (p2 : Nat)) ∧ Below y.heap.size y w') := by
        intro y hy
        have h9 := HBD.out
        have h8 := HM8.out.recs.beside hy
        rw [← HQE.out.2.2.2] at h8
        rw [hp2]
        exact lround_any p1 y h8 (by omega) (by omega) (by omega) (ra := ra)
      have e1 : IntKind.i64.wrap ((pl : Int) + (1 + (n : Int))) = (p1 : Int) := by rw [IntKind.wrap_i64]; have := HBD.out; omega
      have HP12 : Hid (p2 = (pl + (n + 1)) % m2) := by show p2 = _; rw [hp2, hp1]
      have HXD : Hid (Below x8.heap.size x8 (x8.drewN 1)) := below_drewN (Below.refl _ _) 1
      have HC8 : Hid (∀ y, Below x8.heap.size x8 y → y.cell? ⟨b, 6, none⟩ = some (.int .i64 (pl : Nat)) ∧ y.frozen? ⟨b, 6, none⟩ = false) := fun y hy => by
        have h9 := HM8.out.beside hy
        have z := h9.c6
        simp only at z
        rw [← HQE.out.2.1] at z
        exact ⟨z, h9.fz 6⟩
      clear hp1 hp2 b1 d1
      go_region_with (first | (go_at_call 98; refine (CM.out _ HXD.out).mono ?_; rintro e y2 ⟨rfl, hb2⟩; have hb3 : Below x8.heap.size x8 y2 := HXD.out.trans (hb2.mono HXD.out.size); obtain ⟨v6, g6⟩ := HC8.out _ hb3))
      all_goals
        have HM9 := Lib.hid ((HM8.out.beside hb3).setPl p2)
        have HK9 : Hid (Kept (fun j => P j) w1 (y2.setCell ⟨b, 6, none⟩ (.int .i64 (p2 : Nat)))) := (HK8.out.trans (Kept.of_below hb3 _)).set (fun _ => HPP.out.1) 6 _
        have HZ9 : Hid (x8.heap.size ≤ y2.heap.size) := hb3.size
        obtain ⟨x9, hx9⟩ : ∃ x, x = y2.setCell ⟨b, 6, none⟩ (.int .i64 (p2 : Nat)) := ⟨_, rfl⟩
        rw [← hx9] at HM9 HK9 ⊢
        obtain ⟨q1, hq1⟩ : ∃ x : Nat, x = q + 1 := ⟨_, rfl⟩
        obtain ⟨u1, hu1⟩ : ∃ x : Nat, x = u + (n + 1) := ⟨_, rfl⟩
        have e5 : IntKind.i64.wrap ((q : Int) + 1) = (q1 : Int) := by rw [IntKind.wrap_i64]; have := HBD.out; omega
        have e6 : IntKind.i64.wrap ((u : Int) + (1 + (n : Int))) = (u1 : Int) := by rw [IntKind.wrap_i64]; have := HBD.out; omega
        have HQ1 : Hid (q1 = q + 1 ∧ u1 = u + (n + 1)) := ⟨hq1, hu1⟩
        have c5 := HM9.out.c5
        simp only at c5
        rw [← HQE.out.1] at c5
        have f5 := HM9.out.fz 5
        have HM10 := Lib.hid (HM9.out.setSeq q1)
        have c7 := HM10.out.c7
        simp only at c7
        rw [← HQE.out.2.2.1] at c7
        have f7 := HM10.out.fz 7
        have HM11 := Lib.hid (HM10.out.setUsed u1)
        have HK11 : Hid (Kept (fun j => P j) w1 ((x9.setCell ⟨b, 5, none⟩ (.int .i64 (q1 : Nat))).setCell ⟨b, 7, none⟩ (.int .i64 (u1 : Nat)))) := (HK9.out.set (fun _ => HPP.out.1) 5 _).set (fun _ => HPP.out.1) 7 _
        clear hx9 hq1 hu1 c0 c1 c2 c3 c6 f6 e1 CM HM8 HK8 HM10 HM9 HK9 v6 g6 hb2 hb3 HC8 HXD
        go_wp2_with fail
        go_wp2_with fail
        go_ret
        refine ⟨rfl, ?_, HK11.out⟩
        rw [HEQ.out, ← HP12.out, ← HQ1.out.1, ← HQ1.out.2]
        exact HM11.out.out HH0.out (fun j e => e.1.imp id (fun e => Nat.le_trans HZ5.out e)) (fun j e => e.1.imp id (fun e => Nat.le_trans HK6.out.size e)) HPP.out.1 HPP.out.2.1 HPP.out.2.2.1 HPP.out.2.2.2.1 HPP.out.2.2.2.2
    · rw [if_neg hR0]
      have hR1 : (R.1 == 0) = false := by rw [beq_eq_false_iff_ne]; exact hR0
      obtain ⟨E, hE⟩ : ∃ E, E = R.1 := ⟨_, rfl⟩
      rw [← hE] at CLP hR1
      rw [← hE]
      clear hR0 hE HEQ CKE
      go_enter Tryz.func60, Tryz.ntmps60
      go_wp2_with fail
      refine (CL.out _ (Below.refl _ w)).mono ?_
      rintro e w1 ⟨rfl, rfl⟩
      go_wp2_with fail
      refine HRM.out.mono ?_
      rintro e w2 ⟨rfl, n2, rfl⟩
      obtain ⟨W, hW⟩ : ∃ x, x = w1.drewN n2 := ⟨_, rfl⟩
      have HBW : Hid (Below w1.heap.size w1 W) := by rw [hW]; exact below_drewN (Below.refl _ _) n2
      have HBW1 : Hid (Below w1.heap.size w1 (W.drewN 1)) := below_drewN HBW.out 1
      rw [← hW]
      clear hW c5 c10 HRM CL
      obtain ⟨c5, c10⟩ := HC.out W HBW.out
      go_wp2_with fail
      go_region_held3 (fun y => y.cell? ⟨b, 5, none⟩ = some (.int .i64 (q : Nat)) ∧ y.cell? ⟨b, 10, none⟩ = some (.pointer (some ⟨sb, 0, none⟩))) (first | exact HC.out _ hbS5 | exact HC.out _ hbS4 | exact HC.out _ HBW1.out | exact HC.out _ (HBW1.out.alloc HBW1.out.size _)) (first
        | (go_at_call 95
           refine (Q.fresh_any _ _).mono ?_
           rintro e w3 ⟨rfl, rfl⟩)
        | (go_at_call 61
           refine (CSO.out _ HBW1.out).mono ?_
           rintro e w4 ⟨A, c, rfl, hc1, hc2, hsf, hb4⟩
           have hbS4 : Below w1.heap.size w1 w4 := HBW1.out.trans (hb4.mono HBW1.out.size))
        | (go_at_call 94
           refine (CPU.out A c _ hsf hc1 hc2).mono ?_
           rintro e w5 ⟨rfl, hb5⟩
           have hbS5 : Below w1.heap.size w1 w5 := hbS4.trans (hb5.mono hbS4.size)))
      have HB5 := Lib.hid hbS5
      have HB5d : Hid (Below w1.heap.size w1 (w5.drewN 1)) := below_drewN hbS5 1
      clear c5 c10 hc1 hc2 hsf hb4 hbS4 hb5 hbS5 CSO CPU HBW HBW1
      obtain ⟨c0, c1, c2, c3, c6⟩ := HC2.out w5 HB5.out
      go_wp2_with fail
      go_region_held3 (fun y => y.cell? ⟨b, 0, none⟩ = some (.pointer (some ⟨a, 0, none⟩)) ∧ y.cell? ⟨b, 1, none⟩ = some (.int .i64 (fr : Nat)) ∧ y.cell? ⟨b, 2, none⟩ = some (.pointer (some ⟨ra, 0, none⟩)) ∧ y.cell? ⟨b, 3, none⟩ = some (.pointer (some ⟨rr, 0, none⟩)) ∧ y.cell? ⟨b, 6, none⟩ = some (.int .i64 (pl : Nat))) (first | exact ⟨hM6.c0, hM6.c1, hM6.c2, hM6.c3, q6⟩ | exact HC2.out _ HB5d.out) (first
        | (go_at_call 96
           refine (CLP.out _ HB5d.out).mono ?_
           rintro e w6 ⟨rfl, hd6, hk6⟩
           have hM6 := HM6.out _ _ HB5d.out hd6 hk6
           have q6 := hM6.c6
           simp only at q6
           rw [← HQE.out.2.1] at q6))
      clear c0 c1 c2 c3 c6 q6
      have HRR : Hid (Wal w6 b (fun j => P j ∨ w1.heap.size ≤ j) fr mn { s with d := R.2 } ∧ Kept P w1 w6) := ⟨HSAME.out _ _ hM6 (fun j e => e.1.imp id (fun e => Nat.le_trans HB5.out.size e)), (Kept.of_below HB5d.out _).trans (hk6.mono (fun j _ e => HPP.out.2.2.2.1 j e))⟩
      clear hM6 hd6 hk6 HM6 HB5d HB5 CLP HC HC2 HSAME
      go_wp2_with fail
      go_ret
      rw [HQE.out.2.2.1]
      exact ⟨rfl, HRR.out⟩
  · rw [if_neg hroom, if_neg hroom]
    obtain ⟨lf, hlf⟩ : ∃ x : Int, x = (m2 : Int) - (u : Int) - (1 + (n : Int)) := ⟨_, rfl⟩
    have d1 : lf < 0 := by omega
    have e0 : IntKind.i64.wrap ((m2 : Int) - (u : Int) - (1 + (n : Int))) = lf := by rw [IntKind.wrap_i64]; omega
    have HSAME : Hid (∀ y, Below w.heap.size w y → Wal y b (fun j => P j ∨ w.heap.size ≤ j) fr mn s ∧ Kept P w y) := fun y hy => ⟨⟨a, ra, rr, sb, PD, PS, h.beside hy, Or.inl h1, Or.inl h2, Or.inl h3, fun j e => Or.inl (h4 j e), fun j e => Or.inl (h5 j e)⟩, Kept.of_below hy P⟩
    clear h h1 h2 h3 h4 h5 hlp hl hr hm hm0 hf hp hu ho hk hq hn16 hall hlen hn hm2 hu' HC HC2 c5 hroom hET hlf
    go_enter Tryz.func60, Tryz.ntmps60
    go_wp2_with fail
    refine (CL.out _ (Below.refl _ w)).mono ?_
    rintro e w1 ⟨rfl, rfl⟩
    go_wp2_with fail
    refine HRM.out.mono ?_
    rintro e w2 ⟨rfl, n2, rfl⟩
    have HR := Lib.hid (HSAME.out _ (below_drewN (Below.refl _ _) n2))
    go_wp2_with fail
    go_ret
    exact ⟨rfl, HR.out⟩

/-- What Commit answers, and leaves. -/
def M.wlCommitE (fr mn : Nat) (s : M.Wl) (lp : List (Nat × ByteArray)) : Int := if s.act = false then 10 else if lp.length = 0 then 0 else M.prE fr mn s lp
def M.wlCommit (fr mn : Nat) (s : M.Wl) (lp : List (Nat × ByteArray)) : M.Wl :=
  if s.act = false then s else if lp.length = 0 then { s with act := false } else if M.prE fr mn s lp = 0 then { M.prW fr mn s lp with act := false } else M.prW fr mn s lp
theorem Wal.setAct {w : World} {b fr mn : Nat} {P : Nat → Prop} {s : M.Wl} (h : Wal w b P fr mn s) (x : Bool) : w.cell? ⟨b, 8, none⟩ = some (.bool s.act) ∧ w.frozen? ⟨b, 8, none⟩ = false ∧ Hid (Wal (w.setCell ⟨b, 8, none⟩ (.bool x)) b P fr mn { s with act := x } ∧ Kept P w (w.setCell ⟨b, 8, none⟩ (.bool x))) := by
  obtain ⟨a, ra, rr, sb, PD, PS, h, h1, h2, h3, h4, h5⟩ := h
  exact ⟨h.c8, h.fz 8, ⟨a, ra, rr, sb, PD, PS, h.setAct x, h1, h2, h3, h4, h5⟩, Kept.set (Kept.refl P w) (fun _ => h1) 8 _⟩

set_option maxHeartbeats 4000000 in
theorem commit14_any {w : World} {b fr mn : Nat} {P : Nat → Prop} {s : M.Wl} (h : Wal w b P fr mn s) (lp : List (Nat × ByteArray)) (hlp : s.l = M.vs14 lp) (hl : ∀ p ∈ lp, p.1 ≤ 1000) (hr : lp.length ≠ 0 → M.rE (M.aF lp) (M.tF lp) (s.seq : Nat) lp.length = 0) (hm : mn ≤ 1000) (hm0 : 2 < mn) (hf : fr + 2 ≤ 1000) (hp : s.pl < mn - 2) (hu : s.used ≤ mn - 2) (ho : s.d.ops ≤ 10000000) (hk : s.k.length ≤ 50000) (h16 : lp.length ≤ 16) (hET : ErrT w ∧ ¬ P 1) :
    Calls Tryz.prog 26 #[.pointer (some ⟨b, 0, none⟩)] w fun e w' => e = .returned (.int .i64 (M.wlCommitE fr mn s lp)) ∧ Wal w' b (fun j => P j ∨ w.heap.size ≤ j) fr mn (M.wlCommit fr mn s lp) ∧ Kept P w w' := by
  have HA := Lib.hid (active14_any h)
  have HSAME : Hid (Wal w b (fun j => P j ∨ w.heap.size ≤ j) fr mn s ∧ Kept P w w) := ⟨h.mono (fun j _ e => Or.inl e), Kept.refl _ _⟩
  have hlen : s.l.length = lp.length := by rw [hlp, M.vs14_len]
  have HL : Hid (∃ sb, w.cell? ⟨b, 10, none⟩ = some (.pointer (some ⟨sb, 0, none⟩)) ∧ Calls Tryz.prog 59 #[.pointer (some ⟨sb, 0, none⟩)] w fun e w' => e = .returned (.int .i64 (lp.length : Nat)) ∧ w' = w) := by
    obtain ⟨a, ra, rr, sb, PD, PS, h, -, -, -, -, -⟩ := h
    have := Q.loose_any w h.sh
    rw [hlen] at this
    exact ⟨sb, h.c10, this⟩
  obtain ⟨sb, c10, hL⟩ := HL.out
  have CL := Lib.hid hL
  have HP : Hid (lp.length ≠ 0 → Calls Tryz.prog 60 #[.pointer (some ⟨b, 0, none⟩)] w fun e w' => e = .returned (.int .i64 (M.prE fr mn s lp)) ∧ Wal w' b (fun j => P j ∨ w.heap.size ≤ j) fr mn (M.prW fr mn s lp) ∧ Kept P w w') :=
    fun hn => putRecord_any h lp hlp hl (hr hn) hm hm0 hf hp hu ho hk hET
  have HW := Lib.hid h
  unfold M.wlCommitE M.wlCommit
  obtain ⟨n, hn⟩ : ∃ n, n = lp.length := ⟨_, rfl⟩
  obtain ⟨PE, hPE⟩ : ∃ n, n = M.prE fr mn s lp := ⟨_, rfl⟩
  obtain ⟨PW, hPW⟩ : ∃ n, n = M.prW fr mn s lp := ⟨_, rfl⟩
  rw [← hn] at CL HP h16
  rw [← hPE, ← hPW] at HP
  rw [← hn, ← hPE, ← hPW]
  have hn9 : (0 : Int) ≤ (n : Int) ∧ (n : Int) ≤ 16 := by omega
  clear h hlp hl hr hm hm0 hf hp hu ho hk hlen HL hL hn hPE hPW hET
  cases ha : s.act with
  | false =>
    rw [if_pos rfl, if_pos rfl]
    rw [ha] at HA
    clear ha c10 CL HP HW hn9 h16
    go_enter Tryz.func26, Tryz.ntmps26
    go_wp2_with fail
    refine HA.out.mono ?_
    rintro e w1 ⟨rfl, rfl⟩
    go_wp2_with fail
    go_ret
    exact ⟨rfl, HSAME.out⟩
  | true =>
    rw [if_neg (show ¬ true = false by decide), if_neg (show ¬ true = false by decide)]
    rw [ha] at HA
    clear ha
    by_cases hn0 : n = 0
    · subst hn0
      rw [if_pos rfl, if_pos rfl]
      obtain ⟨c8, f8, HR⟩ := HSAME.out.1.setAct false
      have HK := Lib.hid (HR.out.2.mono (Q := fun j => P j) (fun j hj e => e.elim id (fun e => absurd hj (by omega))))
      clear hn9 h16 HP HSAME HW
      go_enter Tryz.func26, Tryz.ntmps26
      go_wp2_with fail
      refine HA.out.mono ?_
      rintro e w1 ⟨rfl, rfl⟩
      go_wp2_with fail
      refine CL.out.mono ?_
      rintro e w2 ⟨rfl, rfl⟩
      go_wp2_with fail
      go_ret
      exact ⟨rfl, HR.out.1, HK.out⟩
    · have C1 := Lib.hid (HP.out hn0)
      have hn1 : (0 : Int) < (n : Int) := by omega
      rw [if_neg hn0, if_neg hn0]
      by_cases hroom : PE = 0
      · subst hroom
        rw [if_pos rfl]
        clear hn0 HP HSAME h16 HW
        go_enter Tryz.func26, Tryz.ntmps26
        go_wp2_with fail
        refine HA.out.mono ?_
        rintro e w1 ⟨rfl, rfl⟩
        go_wp2_with fail
        refine CL.out.mono ?_
        rintro e w2 ⟨rfl, rfl⟩
        go_wp2_with fail
        refine C1.out.mono ?_
        rintro e w3 ⟨rfl, hw3, hk3⟩
        obtain ⟨c8, f8, HR⟩ := hw3.setAct false
        have HK := Lib.hid (hk3.next HR.out.2 (fun j hj e => e.elim id (fun e => absurd hj (by omega))))
        clear hw3 hk3
        go_wp2_with fail
        go_ret
        exact ⟨rfl, HR.out.1, HK.out⟩
      · rw [if_neg hroom]
        have hroom' : (PE == 0) = false := by rw [beq_eq_false_iff_ne]; exact hroom
        clear hn0 HP HSAME h16 HW
        go_enter Tryz.func26, Tryz.ntmps26
        go_wp2_with fail
        refine HA.out.mono ?_
        rintro e w1 ⟨rfl, rfl⟩
        go_wp2_with fail
        refine CL.out.mono ?_
        rintro e w2 ⟨rfl, rfl⟩
        go_wp2_with fail
        refine C1.out.mono ?_
        rintro e w3 ⟨rfl, hw3, hk3⟩
        have HR := Lib.hid (And.intro hw3 hk3)
        clear hw3 hk3
        go_wp2_with fail
        go_ret
        exact ⟨rfl, HR.out⟩
end Go.Proofs.YtmgchfjfkdkaoaaGreatDoor
