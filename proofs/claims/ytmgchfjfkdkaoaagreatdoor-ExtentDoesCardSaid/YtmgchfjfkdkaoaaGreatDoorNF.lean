/-
  A walk over scan.run, with the callback (solder/wal.log).findRecords$1; Each with it.
-/
import Derived.Test.YtmgchfjfkdkaoaaGreatDoorMJ
namespace Go.Proofs.YtmgchfjfkdkaoaaGreatDoor
open Go.RowKit

theorem M.scan_extF {σ : Type} {X : M.Rdr σ} {fr mn p0 : Nat} {q0 : Int} {most : Nat} : ∀ (k : Nat) (d : σ) (u : Nat) (l : List M.Rec), ∃ t, (M.scan X fr mn p0 q0 most k d u l).2.2.2 = l ++ t
  | 0, d, u, l => ⟨[], by rw [M.scan]; simp⟩
  | k + 1, d, u, l => by
    rw [M.scan]
    unfold M.scanE
    split
    · exact ⟨[], by simp⟩
    · split
      · obtain ⟨t, h⟩ := M.scan_extF k _ _ _
        exact ⟨_, by rw [h, List.append_assoc]⟩
      · exact ⟨_, rfl⟩

set_option maxRecDepth 100000 in
set_option maxHeartbeats 4000000 in
theorem runF_any (c0 c1 c2 c3 p0 : Nat) (q0 : Int) (most : Nat) (w : World) {sb rb a fr mn : Nat} {P Y : Nat → Prop} {I : World → List M.Rec → Prop} {d : M.D} (o : RunOf w sb rb a mn P Y I)
    (hA : RunAt w w sb rb a fr mn p0 q0 (.func (.func 70) #[] #[.pointer (some ⟨c0, 0, none⟩), .pointer (some ⟨c1, 0, none⟩), .pointer (some ⟨c2, 0, none⟩), .pointer (some ⟨c3, 0, none⟩)]) P Y I d 0 [])
    (hY : ∀ y0 y l q p s VA VL VC, I y0 l → w.heap.size ≤ y0.heap.size → Kept (fun k => P k ∨ k = sb) y0 y → M.getE s = 0 → SecV y (.slice VA VL VC) (M.gN s) (M.gA s) (M.gT s) → NewV y0 (.slice VA VL VC) → l.length ≤ 1000 → (∃ t, (M.scan M.dR fr mn p0 q0 most (mn + 1) d 0 []).2.2.2 = (l ++ [(⟨q, p, s⟩ : M.Rec)]) ++ t) → (∃ dk, Disk y a P dk ∧ dk.S = d.S) →
      Calls Tryz.prog 70 #[.agg #[.int .i64 q, .int .i64 (p : Nat), .slice VA VL VC], .pointer (some ⟨c0, 0, none⟩), .pointer (some ⟨c1, 0, none⟩), .pointer (some ⟨c2, 0, none⟩), .pointer (some ⟨c3, 0, none⟩)] y fun e y' => e = .returned (.bool (decide (l.length + 1 < most))) ∧ I y' (l ++ [⟨q, p, s⟩]) ∧ Kept Y y y')
    (hf : fr ≤ 1000) (hmn : mn ≤ 1000) (hp : p0 < mn) (ho : d.ops ≤ 1000000) :
    Calls Tryz.prog 105 #[.pointer (some ⟨sb, 0, none⟩)] w fun e w' => ∃ d' u l, (∃ E, M.scan M.dR fr mn p0 q0 most (mn + 1) d 0 [] = (E, d', u, l) ∧ e = .returned (.int .i64 E)) ∧
      RunAt w w' sb rb a fr mn p0 q0 (.func (.func 70) #[] #[.pointer (some ⟨c0, 0, none⟩), .pointer (some ⟨c1, 0, none⟩), .pointer (some ⟨c2, 0, none⟩), .pointer (some ⟨c3, 0, none⟩)]) P Y I d' u l ∧ u ≤ mn := by
  obtain ⟨fv, hfv⟩ : ∃ fv, fv = Value.func (.func 70) #[] #[.pointer (some ⟨c0, 0, none⟩), .pointer (some ⟨c1, 0, none⟩), .pointer (some ⟨c2, 0, none⟩), .pointer (some ⟨c3, 0, none⟩)] := ⟨_, rfl⟩
  have hfn : ∀ (f : Fn) (a b : Array Value) (W : World), (binOp .eql 121 (.func f a b) .nilFunc).run Tryz.prog W = .ok (.bool false) W := fun f a b W => eql_fn W _ f a b Tryz.underlying121
  have HFV := Lib.hid hfv
  obtain ⟨R, hR⟩ : ∃ R, R = M.scan M.dR fr mn p0 q0 most (mn + 1) d 0 [] := ⟨_, rfl⟩
  have HO := Lib.hid o
  rw [← hR, ← hfv]
  rw [← hR] at hY
  rw [← hfv] at hA
  have HR0 := Lib.hid hR
  have HA0 := Lib.hid hA
  have HP0 : Hid (∀ y, Reg y rb a fr mn → Calls Tryz.prog 140 #[.pointer (some ⟨rb, 0, none⟩), .int .i64 (p0 : Nat)] y fun e w' => e = .returned (.tuple #[.int .i64 ((fr + p0 : Nat) : Int), .int .i64 0]) ∧ w' = y) := fun y hy => place_yes p0 y hy hf hmn hp
  have HNX : Hid (∀ y dk u l, RunAt w y sb rb a fr mn p0 q0 fv P Y I dk u l → u ≤ mn → dk.ops ≤ 10000000 → Calls Tryz.prog 141 #[.pointer (some ⟨sb, 0, none⟩)] y fun e w' => Nx12 y w' a P (q0 + (l.length : Nat)) ((p0 + u) % mn) (M.next M.dR fr mn dk ((p0 + u) % mn) (q0 + (l.length : Nat)) (mn - u)) e) := fun y dk u l hy hu hdo =>
    next_any ((p0 + u) % mn) u (q0 + (l.length : Nat)) fv y hy.disk hy.reg o.rP hy.sc o.sP (fun k e => Nat.lt_of_lt_of_le (o.low k e) hy.kept.size) hf hmn (Nat.mod_lt _ (by omega)) hu hdo
  have HRO : Hid (∀ (q : Nat) y, q ≤ 2000 → Reg y rb a fr mn → Calls Tryz.prog 142 #[.pointer (some ⟨rb, 0, none⟩), .int .i64 (q : Nat)] y fun e y' => e = .returned (.int .i64 ((q % mn : Nat) : Int)) ∧ y' = y) := fun q y hq hy => round_any q y hy (by omega) hmn (by omega)
  have HYY := Lib.hid hY
  have HB : Hid (mn ≤ 1000 ∧ p0 < mn ∧ d.ops ≤ 1000000) := ⟨hmn, hp, ho⟩
  obtain ⟨c0, c1, c2, c3, c4⟩ := HA0.out.sc.cells
  rw [Nat.add_zero, Nat.mod_eq_of_lt hp] at c1
  clear hA hY hf hmn hp ho o hR hfv
  go_enter Tryz.func105, Tryz.ntmps105
  go_wp2_with fail
  go_region_held3 (fun y => y.cell? ⟨sb, 0, none⟩ = some (.pointer (some ⟨rb, 0, none⟩)) ∧ y.cell? ⟨sb, 1, none⟩ = some (.int .i64 (p0 : Nat))) (first | exact ⟨c0, c1⟩) (first
    | (go_at_call 140
       refine (HP0.out _ (HA0.out.drew HO.out).reg).mono ?_
       rintro e w2 ⟨rfl, rfl⟩))
  have HA1 := Lib.hid (HA0.out.drew HO.out)
  obtain ⟨w1, hw1⟩ : ∃ w1, w1 = w.drew := ⟨_, rfl⟩
  rw [← hw1] at HA1 ⊢
  clear c0 c1 c2 c3 c4 HA0 HP0
  clear hw1
  go_wp2_with fail
  go_loopw [2] (fun v wr => v = .int .i64 0 ∧ ∃ (k : Nat) (dk : M.D) (u : Nat) (l : List M.Rec), Hid (RunAt w wr sb rb a fr mn p0 q0 fv P Y I dk u l) ∧ Hid (mn - u < k ∧ u ≤ mn ∧ 2 * l.length ≤ u ∧ dk.ops ≤ d.ops + 17 * u ∧ dk.S = d.S) ∧ Hid (R = M.scan M.dR fr mn p0 q0 most k dk u l)) (fun v wr => mn - usedOf sb wr)
  case atStart => exact ⟨rfl, mn + 1, d, 0, [], HA1, ⟨by omega, by omega, by simp, by omega, rfl⟩, HR0.out⟩
  case round =>
    clear HR0 HA1
    obtain ⟨rfl, k, dk, u, l, HA, HK, HRk⟩ := hrel
    obtain ⟨k', rfl⟩ : ∃ k', k = k' + 1 := ⟨k - 1, by have := HK.out; omega⟩
    have C1 := Lib.hid (HNX.out wr dk u l HA.out HK.out.2.1 (by have := HK.out; have := HB.out; omega))
    have hxn := M.next_n (X := M.dR) (fr := fr) (mn := mn) (d := dk) (p := (p0 + u) % mn) (q := q0 + (l.length : Nat)) (left := mn - u)
    have hxk := M.next_keeps fr mn dk ((p0 + u) % mn) (q0 + (l.length : Nat)) (mn - u)
    obtain ⟨x, hx⟩ : ∃ x, x = M.next M.dR fr mn dk ((p0 + u) % mn) (q0 + (l.length : Nat)) (mn - u) := ⟨_, rfl⟩
    have hRk := HRk.out
    rw [M.scan, ← hx] at hRk
    rw [← hx] at C1 hxn hxk
    obtain ⟨E, n, s, dn⟩ := x
    simp only at hxn hxk
    have HXN := Lib.hid hxn
    have HXK := Lib.hid hxk
    have HRN : Hid (E ≠ 0 ∨ n = 0 → R = (E, dn, u, l)) := fun e => by rw [hRk, M.scanE, if_pos e]
    have HRY : Hid (¬ (E ≠ 0 ∨ n = 0) → (l.length + 1 < most → R = M.scan M.dR fr mn p0 q0 most k' dn (u + n) (l ++ [⟨q0 + (l.length : Nat), (p0 + u) % mn, s⟩])) ∧ (¬ l.length + 1 < most → R = (0, dn, u + n, l ++ [⟨q0 + (l.length : Nat), (p0 + u) % mn, s⟩]))) := fun e => by
      rw [hRk, M.scanE, if_neg e]
      exact ⟨fun h => by rw [if_pos h], fun h => by rw [if_neg h]⟩
    clear hx hRk HRk HNX hxn hxk
    go_wp2_with fail
    refine C1.out.mono ?_
    rintro e w2 ⟨⟨Q, At, VA, VL, VC, rfl, hV⟩, hd2, hk2⟩
    have HA2 := Lib.hid (HA.out.none_ HO.out hd2 hk2)
    have HV := Lib.hid hV
    have HK2 := Lib.hid hk2
    have HA3 := Lib.hid (HA2.out.alloc HO.out (.cells #[.int .i64 Q, .int .i64 At, .slice VA VL VC] 118))
    clear hV hd2 hk2 C1
    by_cases hno : E ≠ 0 ∨ n = 0
    · have HRE := Lib.hid (HRN.out hno)
      have hcase : ((E == 0) = false ∧ ¬ E = 0) ∨ (E = 0 ∧ n = 0) := by
        by_cases e : E = 0
        · exact Or.inr ⟨e, by omega⟩
        · exact Or.inl ⟨by rw [beq_eq_false_iff_ne]; exact e, e⟩
      clear hno HRN HRY
      rcases hcase with ⟨hE1, hE2⟩ | ⟨rfl, rfl⟩
      · go_wp2_with fail
        go_ret
        exact ⟨dn, u, l, ⟨E, HRE.out, rfl⟩, HA3.out, HK.out.2.1⟩
      · go_wp2_with fail
        go_ret
        exact ⟨dn, u, l, ⟨0, HRE.out, rfl⟩, HA3.out, HK.out.2.1⟩
    · have HRE := Lib.hid (HRY.out hno)
      have hE : E = 0 := by omega
      have hn0 : n ≠ 0 := by omega
      subst hE
      have hn1 : ((n : Int) == 0) = false := by rw [beq_eq_false_iff_ne]; omega
      have hn2 : ¬ (n : Int) = 0 := by omega
      have HNN := Lib.hid (HXN.out hn0)
      have HVV := Lib.hid (HV.out hn0)
      clear hno HRN HRY HXN HV hn0
      go_wp2_with fail
      have HBX : Hid (Box (w2.alloc (.cells #[.int .i64 Q, .int .i64 At, .slice VA VL VC] 118)) w2.heap.size 118 #[.int .i64 Q, .int .i64 At, .slice VA VL VC]) := Box.new _ _ _
      have HXS : Hid (w.heap.size ≤ w2.heap.size) := HA2.out.kept.size
      have HK3 : Hid (Kept P wr (w2.alloc (.cells #[.int .i64 Q, .int .i64 At, .slice VA VL VC] 118)) ∧ Kept (fun _ => False) w2 (w2.alloc (.cells #[.int .i64 Q, .int .i64 At, .slice VA VL VC] 118))) := ⟨HK2.out.alloc _, (Kept.refl _ w2).alloc _⟩
      obtain ⟨xb, hxb⟩ : ∃ xb, xb = w2.heap.size := ⟨_, rfl⟩
      obtain ⟨y3, hy3⟩ : ∃ y3, y3 = w2.alloc (.cells #[.int .i64 Q, .int .i64 At, .slice VA VL VC] 118) := ⟨_, rfl⟩
      rw [← hxb] at HBX HXS ⊢
      rw [← hy3] at HBX HA3 HK3 ⊢
      have HXB : Hid (xb < y3.heap.size) := HBX.out.lt
      clear hy3 hxb HA2 HK2
      have C7 : Hid (∀ y, Kept (fun _ => False) y3 y → Calls Tryz.prog 142 #[.pointer (some ⟨rb, 0, none⟩), .int .i64 (((p0 + u) % mn + n : Nat) : Int)] y fun e y' => e = .returned (.int .i64 ((((p0 + u) % mn + n) % mn : Nat) : Int)) ∧ y' = y) := fun y hy =>
        HRO.out ((p0 + u) % mn + n) y (by have h1 : (p0 + u) % mn < mn := Nat.mod_lt _ (by have := HB.out; omega); have := HB.out; have := HNN.out; omega) (HA3.out.reg.kept hy id)
      have hmm : ((p0 + u) % mn + n) % mn = (p0 + (u + n)) % mn := by rw [Nat.mod_add_mod, Nat.add_assoc]
      rw [hmm] at C7
      obtain ⟨c0, c1, c2, c3, c4⟩ := HA3.out.sc.cells
      have f1 : y3.frozen? ⟨sb, 1, none⟩ = false := Box.frozen HA3.out.sc 1
      obtain ⟨p, hp⟩ : ∃ p, p = (p0 + u) % mn := ⟨_, rfl⟩
      have hp9 : (p : Int) ≤ 1000 := by have h1 : (p0 + u) % mn < mn := Nat.mod_lt _ (by have := HB.out; omega); have := HB.out; omega
      have hn9 : (n : Int) ≤ 17 := by have := HNN.out; omega
      obtain ⟨pn, hpn⟩ : ∃ pn, pn = p + n := ⟨_, rfl⟩
      have e1 : IntKind.i64.wrap ((p : Int) + (n : Int)) = (pn : Int) := by rw [IntKind.wrap_i64]; omega
      obtain ⟨p2, hp2⟩ : ∃ p2, p2 = (p0 + (u + n)) % mn := ⟨_, rfl⟩
      obtain ⟨q, hq⟩ : ∃ q : Int, q = q0 + (l.length : Nat) := ⟨_, rfl⟩
      obtain ⟨u2, hu2⟩ : ∃ u2, u2 = u + n := ⟨_, rfl⟩
      have HE : Hid (p = (p0 + u) % mn ∧ p2 = (p0 + (u + n)) % mn ∧ q = q0 + (l.length : Nat) ∧ u2 = u + n) := ⟨hp, hp2, hq, hu2⟩
      have hq1 : (0 : Int) ≤ q ∧ q < 281474976710656 := by have := HNN.out; omega
      have hq2 : IntKind.i64.wrap (q + 1) = q + 1 := by rw [IntKind.wrap_i64]; omega
      have HSC1 : Hid (Sc (y3.setCell ⟨sb, 1, none⟩ (.int .i64 (p2 : Nat))).drew sb rb p2 q u fv) := by have := HA3.out.sc; rw [← hq] at this; exact this.set1
      have HKS1 := Lib.hid (set1_kept y3 sb (.int .i64 (p2 : Nat)))
      rw [← hp] at C7 c1
      rw [← hpn, ← hp2] at C7
      rw [← hq] at c2
      have HQU : Hid (0 ≤ q ∧ q < 281474976710656) := hq1
      have hu9 : (u : Int) ≤ 1000 := by have := HB.out; have := HK.out; omega
      have e3 : (u : Int) + (n : Int) = (u2 : Int) := by omega
      have HY10 := Lib.hid (HYY.out wr)
      clear hp hpn hp2 hq hu2 hmm c2 c3 c4 HYY
      go_region_with (first | (go_at_call 142; refine (C7.out _ (by first | exact Kept.refl _ _ | exact (Kept.refl _ _).drew)).mono ?_; rintro e w4 ⟨rfl, rfl⟩))
      all_goals (obtain ⟨y4, hy4⟩ : ∃ y4, y4 = (y3.setCell ⟨sb, 1, none⟩ (.int .i64 (p2 : Nat))).drew := ⟨_, rfl⟩; rw [← hy4] at HSC1 HKS1; rw [← hy4]; clear hy4 c0 c1 f1 e1 C7)
      all_goals
        obtain ⟨c0, c1, c2, c3, c4⟩ := HSC1.out.cells
        have f2 : y4.frozen? ⟨sb, 2, none⟩ = false := Box.frozen HSC1.out 2
        have HBQ : Box (y4.setCell ⟨sb, 2, none⟩ (.int .i64 (q + 1))) sb 155 #[.pointer (some ⟨rb, 0, none⟩), .int .i64 (p2 : Nat), .int .i64 (q + 1), .int .i64 (u : Nat), fv] := Box.set (show Box y4 sb _ _ from HSC1.out) 2 _
        have d3 : (y4.setCell ⟨sb, 2, none⟩ (.int .i64 (q + 1))).cell? ⟨sb, 3, none⟩ = some (.int .i64 (u : Nat)) := by simpa using HBQ.cell 3
        have f3 : (y4.setCell ⟨sb, 2, none⟩ (.int .i64 (q + 1))).frozen? ⟨sb, 3, none⟩ = false := HBQ.frozen 3
        have HSC2 : Hid (Sc ((y4.setCell ⟨sb, 2, none⟩ (.int .i64 (q + 1))).setCell ⟨sb, 3, none⟩ (.int .i64 (u2 : Nat))) sb rb p2 (q + 1) u2 fv) := HSC1.out.set23
        have HKS2 := Lib.hid (set23_kept y4 sb (.int .i64 (q + 1)) (.int .i64 (u2 : Nat)))
        clear HBQ hq2 c0 c1 c3 c4
        go_wp2_with fail
        obtain ⟨y5, hy5⟩ : ∃ y5, y5 = (y4.setCell ⟨sb, 2, none⟩ (.int .i64 (q + 1))).setCell ⟨sb, 3, none⟩ (.int .i64 (u2 : Nat)) := ⟨_, rfl⟩
        rw [← hy5] at HSC2 HKS2 ⊢
        clear hy5 c2 f2 d3 f3
        have HKS := Lib.hid (HKS1.out.trans HKS2.out)
        have HTU := Lib.hid (HA3.out.turn HO.out HKS.out)
        obtain ⟨_, _, _, _, c4⟩ := HSC2.out.cells
        rw [HFV.out] at c4
        have hxs : xb ≠ sb := by have := HXS.out; have := HO.out.sl; omega
        have HBX5 := Lib.hid (HKS.out.box HBX.out hxs)
        have r0 : y5.cell? ⟨xb, 0, none⟩ = some (.int .i64 Q) := by simpa using HBX5.out.cell 0
        have r1 : y5.cell? ⟨xb, 1, none⟩ = some (.int .i64 At) := by simpa using HBX5.out.cell 1
        have r2 : y5.cell? ⟨xb, 2, none⟩ = some (.slice VA VL VC) := by simpa using HBX5.out.cell 2
        obtain ⟨b, hb⟩ : ∃ b, b = decide (l.length + 1 < most) := ⟨_, rfl⟩
        have HQA : Hid (Q = q ∧ At = (p : Nat)) := ⟨by rw [HVV.out.1, HE.out.2.2.1], by rw [HVV.out.2.1, HE.out.1]⟩
        have HPRE : Hid (∃ t, R.2.2.2 = (l ++ [(⟨q, p, s⟩ : M.Rec)]) ++ t) := by
          have e := HE.out
          have e1 := HRE.out
          rw [← e.1, ← e.2.2.1] at e1
          by_cases h : l.length + 1 < most
          · rw [e1.1 h]
            exact M.scan_extF _ _ _ _
          · rw [e1.2 h]
            exact ⟨[], by simp⟩
        have C10 : Hid (∀ y, Kept (fun _ => False) y5 y → Calls Tryz.prog 70 #[.agg #[.int .i64 Q, .int .i64 At, .slice VA VL VC], .pointer (some ⟨c0, 0, none⟩), .pointer (some ⟨c1, 0, none⟩), .pointer (some ⟨c2, 0, none⟩), .pointer (some ⟨c3, 0, none⟩)] y fun e y' => e = .returned (.bool b) ∧ I y' (l ++ [⟨q, p, s⟩]) ∧ Kept Y y5 y') := fun y hy => by
          have hnv := HVV.out.2.2.2
          have hkk : Kept (fun k => k = sb) w2 y := (HK3.out.2.mono (fun _ _ e => e.elim)).trans (HKS.out.trans (hy.mono (fun _ _ e => e.elim)))
          have := HY10.out y l q p s VA VL VC HA.out.inv HA.out.kept.size ((HK3.out.1.mono (fun _ _ e => Or.inl e)).trans ((HKS.out.mono (fun _ _ e => Or.inr e)).trans (hy.mono (fun _ _ e => e.elim)))) HNN.out.2.2.2.2.1 (HVV.out.2.2.1.kept hkk (fun ad n c e e' => by have := hnv ad n c e; have := HA.out.kept.size; have := HO.out.sl; omega)) hnv (by have := HK.out; have := HB.out; omega) HPRE.out ⟨dn, HTU.out.1.kept hy (fun _ _ => id), HXK.out.1.trans HK.out.2.2.2.2⟩
          rw [HQA.out.1, HQA.out.2, hb]
          exact this.mono fun _ _ ⟨h1, h2, h3⟩ => ⟨h1, h2, (hy.mono (fun _ _ e => e.elim)).trans h3⟩
        have HEND : Hid (∀ y', I y' (l ++ [⟨q, p, s⟩]) → Kept Y y5 y' → RunAt w y' sb rb a fr mn p0 q0 fv P Y I dn (u + n) (l ++ [⟨q, p, s⟩])) := fun y' hI hk => by
          obtain ⟨t1, t2, t3⟩ := HTU.out
          have hsc : Sc y' sb rb p2 (q + 1) u2 fv := hk.box HSC2.out (fun e => (HO.out.Y _ e).2.1 rfl)
          refine ⟨t1.kept hk (fun k e e' => (HO.out.Y k e').1 e), t2.kept hk (fun e => (HO.out.Y _ e).2.2 rfl), ?_, hI, t3.trans (hk.mono (fun _ _ e => Or.inr (Or.inr e)))⟩
          have e := HE.out
          rw [List.length_append, ← e.2.1, ← e.2.2.2, show q0 + ((l.length + [(⟨q, p, s⟩ : M.Rec)].length : Nat) : Int) = q + 1 by rw [e.2.2.1]; simp; omega]
          exact hsc
        have HRT : Hid ((b = true → R = M.scan M.dR fr mn p0 q0 most k' dn (u + n) (l ++ [⟨q, p, s⟩])) ∧ (b = false → R = (0, dn, u + n, l ++ [⟨q, p, s⟩]))) := by
          have e := HE.out
          have e1 := HRE.out
          rw [← e.1, ← e.2.2.1] at e1
          exact ⟨fun h => e1.1 (by rw [hb] at h; simpa using h), fun h => e1.2 (by rw [hb] at h; simpa using h)⟩
        clear hb HBX5 HSC1 HKS1 HSC2 HKS2 HBX HRE
        cases b with
        | true =>
          have HRT1 := Lib.hid (HRT.out.1 rfl)
          clear HRT
          go_region_with (first | (go_at_call 70; refine (C10.out _ (by first | exact Kept.refl _ _ | exact (Kept.refl _ _).drew)).mono ?_; rintro e w5 ⟨rfl, hI, hk5⟩; have H5 := Lib.hid (HEND.out _ hI hk5); clear hI hk5))
          all_goals have HM : Hid (u + n ≤ mn ∧ mn - (u + n) < k' ∧ 2 * (l ++ [(⟨q, p, s⟩ : M.Rec)]).length ≤ u + n ∧ dn.ops ≤ d.ops + 17 * (u + n) ∧ usedOf sb w5 = u + n ∧ usedOf sb wr = u ∧ 2 ≤ n ∧ dn.S = d.S) := by
                      have h1 := HNN.out
                      have h2 := HK.out
                      have h3 := HXK.out
                      refine ⟨by omega, by omega, by simp; omega, by omega, usedOf_sc H5.out.sc, usedOf_sc HA.out.sc, by omega, HXK.out.1.trans h2.2.2.2.2⟩
          all_goals go_wp2_with fail
          all_goals (have h := HM.out; clear HM; have HM := Lib.hid h; clear h)
          all_goals first
            | (go_roundw; done)
            | (refine ⟨?_, ?_⟩
               · first
                 | (refine ⟨_, _, _, _, _, _, _, _, _, _, _, _, _, _, _, _, _, _, _, _, _, _, _, _, _, _, _, _, _, _, _, _, _, _, _, _, _, _, _, _, _, _, _, _, _, _, _, _, _, _, _, _, _, _, _, _, _, _, _, _, ?_, rfl⟩; exact ⟨rfl, k', dn, u + n, _, (by first | exact H5 | exact Lib.hid (H5.out.drew HO.out)), ⟨HM.out.2.1, HM.out.1, HM.out.2.2.1, HM.out.2.2.2.1, HM.out.2.2.2.2.2.2.2⟩, HRT1.out⟩)
                 | (refine ⟨_, _, _, _, _, _, _, _, _, _, _, _, _, _, _, _, _, _, _, _, _, _, _, _, _, _, _, _, _, _, _, _, _, _, _, _, _, _, _, _, _, _, _, _, _, _, _, _, _, _, _, _, _, _, _, _, _, _, _, ?_, rfl⟩; exact ⟨rfl, k', dn, u + n, _, (by first | exact H5 | exact Lib.hid (H5.out.drew HO.out)), ⟨HM.out.2.1, HM.out.1, HM.out.2.2.1, HM.out.2.2.2.1, HM.out.2.2.2.2.2.2.2⟩, HRT1.out⟩)
                 | (refine ⟨_, _, _, _, _, _, _, _, _, _, _, _, _, _, _, _, _, _, _, _, _, _, _, _, _, _, _, _, _, _, _, _, _, _, _, _, _, _, _, _, _, _, _, _, _, _, _, _, _, _, _, _, _, _, _, _, _, _, _, _, _, ?_, rfl⟩; exact ⟨rfl, k', dn, u + n, _, (by first | exact H5 | exact Lib.hid (H5.out.drew HO.out)), ⟨HM.out.2.1, HM.out.1, HM.out.2.2.1, HM.out.2.2.2.1, HM.out.2.2.2.2.2.2.2⟩, HRT1.out⟩)
                 | (refine ⟨_, _, _, _, _, _, _, _, _, _, _, _, _, _, _, _, _, _, _, _, _, _, _, _, _, _, _, _, _, _, _, _, _, _, _, _, _, _, _, _, _, _, _, _, _, _, _, _, _, _, _, _, _, _, _, _, _, _, ?_, rfl⟩; exact ⟨rfl, k', dn, u + n, _, (by first | exact H5 | exact Lib.hid (H5.out.drew HO.out)), ⟨HM.out.2.1, HM.out.1, HM.out.2.2.1, HM.out.2.2.2.1, HM.out.2.2.2.2.2.2.2⟩, HRT1.out⟩)
                 | (refine ⟨_, _, _, _, _, _, _, _, _, _, _, _, _, _, _, _, _, _, _, _, _, _, _, _, _, _, _, _, _, _, _, _, _, _, _, _, _, _, _, _, _, _, _, _, _, _, _, _, _, _, _, _, _, _, _, _, _, _, _, _, _, _, ?_, rfl⟩; exact ⟨rfl, k', dn, u + n, _, (by first | exact H5 | exact Lib.hid (H5.out.drew HO.out)), ⟨HM.out.2.1, HM.out.1, HM.out.2.2.1, HM.out.2.2.2.1, HM.out.2.2.2.2.2.2.2⟩, HRT1.out⟩)
                 | (refine ⟨_, _, _, _, _, _, _, _, _, _, _, _, _, _, _, _, _, _, _, _, _, _, _, _, _, _, _, _, _, _, _, _, _, _, _, _, _, _, _, _, _, _, _, _, _, _, _, _, _, _, _, _, _, _, _, _, _, ?_, rfl⟩; exact ⟨rfl, k', dn, u + n, _, (by first | exact H5 | exact Lib.hid (H5.out.drew HO.out)), ⟨HM.out.2.1, HM.out.1, HM.out.2.2.1, HM.out.2.2.2.1, HM.out.2.2.2.2.2.2.2⟩, HRT1.out⟩)
                 | (refine ⟨_, _, _, _, _, _, _, _, _, _, _, _, _, _, _, _, _, _, _, _, _, _, _, _, _, _, _, _, _, _, _, _, _, _, _, _, _, _, _, _, _, _, _, _, _, _, _, _, _, _, _, _, _, _, _, _, _, _, _, _, _, _, _, ?_, rfl⟩; exact ⟨rfl, k', dn, u + n, _, (by first | exact H5 | exact Lib.hid (H5.out.drew HO.out)), ⟨HM.out.2.1, HM.out.1, HM.out.2.2.1, HM.out.2.2.2.1, HM.out.2.2.2.2.2.2.2⟩, HRT1.out⟩)
               · have h := HM.out
                 first
                   | (show mn - usedOf sb w5 < mn - usedOf sb wr; omega)
                   | (show mn - usedOf sb w5.drew < mn - usedOf sb wr; have e : usedOf sb w5.drew = usedOf sb w5 := rfl; omega))
        | false =>
          have HRT1 := Lib.hid (HRT.out.2 rfl)
          clear HRT
          go_region_with (first | (go_at_call 70; refine (C10.out _ (by first | exact Kept.refl _ _ | exact (Kept.refl _ _).drew)).mono ?_; rintro e w5 ⟨rfl, hI, hk5⟩; have H5 := Lib.hid (HEND.out _ hI hk5); clear hI hk5))
          all_goals have HM : Hid (u + n ≤ mn) := by have := HNN.out; have := HK.out; show _ ≤ _; omega
          all_goals go_wp2_with fail
          all_goals go_ret
          all_goals first
            | exact ⟨dn, u + n, _, ⟨0, HRT1.out, rfl⟩, H5.out, HM.out⟩
            | exact ⟨dn, u + n, _, ⟨0, HRT1.out, rfl⟩, H5.out.drew HO.out, HM.out⟩
set_option maxHeartbeats 1000000 in
/-- Each with it: a scan is made in block w.heap.size. Y: what the callback writes. -/
theorem eachF_yes (c0 c1 c2 c3 p0 : Nat) (q0 : Int) (most : Nat) (w : World) {rb a fr mn : Nat} {P Y : Nat → Prop} {I : World → List M.Rec → Prop} {d : M.D} (h : Disk w a P d) (hr : Reg w rb a fr mn) (hP : ¬ P rb) (hlow : ∀ k, P k → k < w.heap.size)
    (hYk : ∀ k, Y k → ¬ P k ∧ k ≠ w.heap.size ∧ k ≠ rb) (hI0 : I w []) (hIk : ∀ y z l, I y l → Kept (fun k => P k ∨ k = w.heap.size) y z → w.heap.size ≤ y.heap.size → I z l)
    (hY : ∀ y0 y l q p s VA VL VC, I y0 l → w.heap.size < y0.heap.size → Kept (fun k => P k ∨ k = w.heap.size) y0 y → M.getE s = 0 → SecV y (.slice VA VL VC) (M.gN s) (M.gA s) (M.gT s) → NewV y0 (.slice VA VL VC) → l.length ≤ 1000 → (∃ t, (M.scan M.dR fr mn p0 q0 most (mn + 1) d 0 []).2.2.2 = (l ++ [(⟨q, p, s⟩ : M.Rec)]) ++ t) → (∃ dk, Disk y a P dk ∧ dk.S = d.S) →
      Calls Tryz.prog 70 #[.agg #[.int .i64 q, .int .i64 (p : Nat), .slice VA VL VC], .pointer (some ⟨c0, 0, none⟩), .pointer (some ⟨c1, 0, none⟩), .pointer (some ⟨c2, 0, none⟩), .pointer (some ⟨c3, 0, none⟩)] y fun e y' => e = .returned (.bool (decide (l.length + 1 < most))) ∧ I y' (l ++ [⟨q, p, s⟩]) ∧ Kept Y y y')
    (hf : fr ≤ 1000) (hmn : mn ≤ 1000) (hp : p0 < mn) (ho : d.ops ≤ 1000000) :
    Calls Tryz.prog 69 #[.pointer (some ⟨rb, 0, none⟩), .int .i64 (p0 : Nat), .int .i64 q0, .func (.func 70) #[] #[.pointer (some ⟨c0, 0, none⟩), .pointer (some ⟨c1, 0, none⟩), .pointer (some ⟨c2, 0, none⟩), .pointer (some ⟨c3, 0, none⟩)]] w fun e w' => ∃ (E : Int) (d' : M.D) (u : Nat) (l : List M.Rec),
      M.scan M.dR fr mn p0 q0 most (mn + 1) d 0 [] = (E, d', u, l) ∧ e = .returned (.int .i64 E) ∧ Disk w' a P d' ∧ I w' l ∧ Kept (fun k => P k ∨ Y k) w w' ∧ u ≤ mn := by
  obtain ⟨fv, hfv⟩ : ∃ fv, fv = Value.func (.func 70) #[] #[.pointer (some ⟨c0, 0, none⟩), .pointer (some ⟨c1, 0, none⟩), .pointer (some ⟨c2, 0, none⟩), .pointer (some ⟨c3, 0, none⟩)] := ⟨_, rfl⟩
  obtain ⟨w3, hw3⟩ : ∃ w3, w3 = w.alloc (.cells #[.pointer (some ⟨rb, 0, none⟩), .int .i64 (p0 : Nat), .int .i64 q0, .int .i64 0, fv] 155) := ⟨_, rfl⟩
  have hz3 : w3.heap.size = w.heap.size + 1 := by rw [hw3, World.size_alloc]
  have k3 : Kept (fun _ => False) w w3 := by rw [hw3]; exact (Kept.refl _ w).alloc _
  have hbs : Box w3 w.heap.size 155 #[.pointer (some ⟨rb, 0, none⟩), .int .i64 (p0 : Nat), .int .i64 q0, .int .i64 0, fv] := by
    rw [hw3]; exact Box.new _ _ _
  have hrl := hr.lt
  have o : RunOf w3 w.heap.size rb a mn P Y I :=
    ⟨hP, fun e => by have := hlow _ e; omega, by omega, by omega, fun k e => by have := hlow k e; omega, fun k e => ⟨(hYk k e).1, (hYk k e).2.1, (hYk k e).2.2⟩, fun y z l h1 h2 h3 => hIk y z l h1 h2 (by omega)⟩
  have hA : RunAt w3 w3 w.heap.size rb a fr mn p0 q0 fv P Y I d 0 [] := by
    refine ⟨h.kept k3 (fun _ _ => id), hr.kept k3 id, ?_, hIk w w3 [] hI0 (k3.mono (fun _ _ e => e.elim)) (Nat.le_refl _), Kept.refl _ _⟩
    have e1 : (p0 + 0) % mn = p0 := Nat.mod_eq_of_lt hp
    have e2 : q0 + ((([] : List M.Rec).length : Nat) : Int) = q0 := by simp
    rw [e1, e2]
    exact hbs
  rw [hfv] at hA
  have C := runF_any c0 c1 c2 c3 p0 q0 most w3 o hA (fun y0 y l q p s VA VL VC a1 a2 a3 a4 a5 a6 a7 a8 a9 => hY y0 y l q p s VA VL VC a1 (by omega) a3 a4 a5 a6 a7 a8 a9) hf hmn hp ho
  have C0 := Lib.hid C
  have HW3 : Hid (w3 = w.alloc (.cells #[.pointer (some ⟨rb, 0, none⟩), .int .i64 (p0 : Nat), .int .i64 q0, .int .i64 0, .func (.func 70) #[] #[.pointer (some ⟨c0, 0, none⟩), .pointer (some ⟨c1, 0, none⟩), .pointer (some ⟨c2, 0, none⟩), .pointer (some ⟨c3, 0, none⟩)]] 155)) := by show _ = _; rw [hw3, hfv]
  have HKK : Hid (Kept (fun _ => False) w w3) := k3
  obtain ⟨S, hSS⟩ : ∃ S, S = M.scan M.dR fr mn p0 q0 most (mn + 1) d 0 [] := ⟨_, rfl⟩
  rw [← hSS] at C0 ⊢
  clear C hA o hbs k3 hz3 hw3 hfv h hr hP hlow hf hmn hp ho hrl hSS hYk hI0 hIk hY
  go_enter Tryz.func69, Tryz.ntmps69
  go_wp2_with fail
  rw [← HW3.out]
  refine C0.out.mono ?_
  rintro e w4 ⟨d', u, l, ⟨E, hS, rfl⟩, hR, hu⟩
  have HS := Lib.hid hS
  have HR := Lib.hid hR
  have HU := Lib.hid hu
  clear hS hR hu C0
  go_wp2_with fail
  go_ret
  refine ⟨E, d', u, l, HS.out, rfl, HR.out.disk, HR.out.inv, ?_, HU.out⟩
  have hk := (HKK.out.mono (Q := fun k => P k ∨ k = w.heap.size ∨ Y k) (fun _ _ e => e.elim)).trans HR.out.kept
  exact hk.mono (fun k hk e => e.elim Or.inl (fun e => e.elim (fun e => by omega) Or.inr))
end Go.Proofs.YtmgchfjfkdkaoaaGreatDoor
