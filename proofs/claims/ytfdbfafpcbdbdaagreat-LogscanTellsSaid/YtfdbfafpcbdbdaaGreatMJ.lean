/-
  Walks over scan.run, with the callback of told. A walk over scan.run, with the callback of told. Walks over scan.run, Each, End and told where the place is none of the log's; over End's callback.
-/
import Derived.Test.YtfdbfafpcbdbdaaGreatMI
import Derived.Test.YtfdbfafpcbdbdaaGreatMH
namespace Go.Proofs.YtfdbfafpcbdbdaaGreat
open Go.RowKit

theorem new3_kept (w : World) (o : Obj) (u0 u1 u2 : Value) : Kept (fun _ => False) w ((((w.alloc o).setCell ⟨w.heap.size, 0, none⟩ u0).setCell ⟨w.heap.size, 1, none⟩ u1).setCell ⟨w.heap.size, 2, none⟩ u2) :=
  ((((Kept.refl (fun _ => False) w).alloc o).set (fun h => absurd h (Nat.lt_irrefl _)) 0 u0).set (fun h => absurd h (Nat.lt_irrefl _)) 1 u1).set (fun h => absurd h (Nat.lt_irrefl _)) 2 u2
def usedOf (sb : Nat) (w : World) : Nat := match w.cell? ⟨sb, 3, none⟩ with
  | some (.int _ v) => v.toNat
  | _ => 0
theorem usedOf_sc {sb rb p u : Nat} {q : Int} {fv : Value} {w : World} (h : Sc w sb rb p q u fv) : usedOf sb w = u := by
  unfold usedOf
  rw [h.cells.2.2.2.1]
  rfl

/-- The midst of run. -/
structure RunAt (w y : World) (sb rb a fr mn p0 : Nat) (q0 : Int) (fv : Value) (P Y : Nat → Prop) (I : World → List M.Rec → Prop) (d : M.D) (u : Nat) (l : List M.Rec) : Prop where
  disk : Disk y a P d
  reg : Reg y rb a fr mn
  sc : Sc y sb rb ((p0 + u) % mn) (q0 + (l.length : Nat)) u fv
  inv : I y l
  kept : Kept (fun k => P k ∨ k = sb ∨ Y k) w y
/-- What run is given. -/
structure RunOf (w : World) (sb rb a mn : Nat) (P Y : Nat → Prop) (I : World → List M.Rec → Prop) : Prop where
  rP : ¬ P rb
  sP : ¬ P sb
  rs : rb ≠ sb
  sl : sb < w.heap.size
  low : ∀ k, P k → k < w.heap.size
  Y : ∀ k, Y k → ¬ P k ∧ k ≠ sb ∧ k ≠ rb
  I : ∀ y z l, I y l → Kept (fun k => P k ∨ k = sb) y z → w.heap.size ≤ y.heap.size → I z l
section
variable {w y z : World} {sb rb a fr mn p0 : Nat} {q0 : Int} {fv : Value} {P Y : Nat → Prop} {I : World → List M.Rec → Prop} {d d' : M.D} {u : Nat} {l : List M.Rec}
theorem RunAt.none_ (h : RunAt w y sb rb a fr mn p0 q0 fv P Y I d u l) (o : RunOf w sb rb a mn P Y I) (hd : Disk z a P d') (hk : Kept P y z) : RunAt w z sb rb a fr mn p0 q0 fv P Y I d' u l :=
  ⟨hd, h.reg.kept hk o.rP, hk.box h.sc o.sP, o.I y z l h.inv (hk.mono (fun _ _ e => Or.inl e)) h.kept.size, h.kept.trans (hk.mono (fun _ _ e => Or.inl e))⟩
theorem RunAt.drew (h : RunAt w y sb rb a fr mn p0 q0 fv P Y I d u l) (o : RunOf w sb rb a mn P Y I) : RunAt w y.drew sb rb a fr mn p0 q0 fv P Y I d u l :=
  h.none_ o (h.disk.drewN 1) ((Kept.refl P y).drew)
theorem RunAt.alloc (h : RunAt w y sb rb a fr mn p0 q0 fv P Y I d u l) (o : RunOf w sb rb a mn P Y I) (ob : Obj) : RunAt w (y.alloc ob) sb rb a fr mn p0 q0 fv P Y I d u l :=
  h.none_ o (h.disk.kept ((Kept.refl (fun _ => False) y).alloc ob) (fun _ _ => id)) ((Kept.refl P y).alloc ob)
/-- The scan's cells are turned. -/
theorem RunAt.turn (h : RunAt w y sb rb a fr mn p0 q0 fv P Y I d u l) (o : RunOf w sb rb a mn P Y I) (hk : Kept (fun k => k = sb) y z) : Disk z a P d ∧ Reg z rb a fr mn ∧ Kept (fun k => P k ∨ k = sb ∨ Y k) w z :=
  ⟨h.disk.kept hk (fun _ e e' => o.sP (e' ▸ e)), h.reg.kept hk o.rs, h.kept.trans (hk.mono (fun _ _ e => Or.inr (Or.inl e)))⟩
theorem Sc.set1 {y : World} {sb rb p p' : Nat} {q : Int} {u : Nat} {fv : Value} (h : Sc y sb rb p q u fv) : Sc (y.setCell ⟨sb, 1, none⟩ (.int .i64 (p' : Nat))).drew sb rb p' q u fv := Box.set (show Box y sb _ _ from h) 1 _
theorem Sc.set23 {y : World} {sb rb p : Nat} {q q' : Int} {u u' : Nat} {fv : Value} (h : Sc y sb rb p q u fv) : Sc ((y.setCell ⟨sb, 2, none⟩ (.int .i64 q')).setCell ⟨sb, 3, none⟩ (.int .i64 (u' : Nat))) sb rb p q' u' fv := Box.set (Box.set (show Box y sb _ _ from h) 2 _) 3 _
theorem set1_kept (y : World) (sb : Nat) (v : Value) : Kept (fun k => k = sb) y (y.setCell ⟨sb, 1, none⟩ v).drew := ((Kept.refl (fun k => k = sb) y).set (fun _ => rfl) 1 v).drew
theorem set23_kept (y : World) (sb : Nat) (v v' : Value) : Kept (fun k => k = sb) y ((y.setCell ⟨sb, 2, none⟩ v).setCell ⟨sb, 3, none⟩ v') := ((Kept.refl (fun k => k = sb) y).set (fun _ => rfl) 2 v).set (fun _ => rfl) 3 v'
theorem RunAt.new3 (h : RunAt w y sb rb a fr mn p0 q0 fv P Y I d u l) (o : RunOf w sb rb a mn P Y I) (ob : Obj) (u0 u1 u2 : Value) : RunAt w ((((y.alloc ob).setCell ⟨y.heap.size, 0, none⟩ u0).setCell ⟨y.heap.size, 1, none⟩ u1).setCell ⟨y.heap.size, 2, none⟩ u2) sb rb a fr mn p0 q0 fv P Y I d u l :=
  h.none_ o (h.disk.kept (new3_kept y ob u0 u1 u2) (fun _ _ => id)) ((new3_kept y ob u0 u1 u2).mono (fun _ _ e => e.elim))
end
end Go.Proofs.YtfdbfafpcbdbdaaGreat
namespace Go.Proofs.YtfdbfafpcbdbdaaGreat
open Go.RowKit

set_option maxRecDepth 100000 in
set_option maxHeartbeats 4000000 in
theorem runT_any (lb mb p0 : Nat) (q0 : Int) (most : Nat) (w : World) {sb rb a fr mn : Nat} {P Y : Nat → Prop} {I : World → List M.Rec → Prop} {d : M.D} (o : RunOf w sb rb a mn P Y I)
    (hA : RunAt w w sb rb a fr mn p0 q0 (.func (.func 37) #[] #[.pointer (some ⟨lb, 0, none⟩), .pointer (some ⟨mb, 0, none⟩)]) P Y I d 0 [])
    (hY : ∀ y0 y l q p s VA VL VC, I y0 l → w.heap.size ≤ y0.heap.size → Kept (fun k => P k ∨ k = sb) y0 y → M.getE s = 0 → SecV y (.slice VA VL VC) (M.gN s) (M.gA s) (M.gT s) → NewV y0 (.slice VA VL VC) → l.length ≤ 1000 →
      Calls Tryz.prog 37 #[.agg #[.int .i64 q, .int .i64 (p : Nat), .slice VA VL VC], .pointer (some ⟨lb, 0, none⟩), .pointer (some ⟨mb, 0, none⟩)] y fun e y' => e = .returned (.bool (decide (l.length + 1 < most))) ∧ I y' (l ++ [⟨q, p, s⟩]) ∧ Kept Y y y')
    (hf : fr ≤ 1000) (hmn : mn ≤ 1000) (hp : p0 < mn) (ho : d.ops ≤ 1000000) :
    Calls Tryz.prog 43 #[.pointer (some ⟨sb, 0, none⟩)] w fun e w' => ∃ d' u l, (∃ E, M.scan M.dR fr mn p0 q0 most (mn + 1) d 0 [] = (E, d', u, l) ∧ e = .returned (.int .i64 E)) ∧
      RunAt w w' sb rb a fr mn p0 q0 (.func (.func 37) #[] #[.pointer (some ⟨lb, 0, none⟩), .pointer (some ⟨mb, 0, none⟩)]) P Y I d' u l ∧ u ≤ mn := by
  obtain ⟨fv, hfv⟩ : ∃ fv, fv = Value.func (.func 37) #[] #[.pointer (some ⟨lb, 0, none⟩), .pointer (some ⟨mb, 0, none⟩)] := ⟨_, rfl⟩
  have hfn : ∀ (f : Fn) (a b : Array Value) (W : World), (binOp .eql 91 (.func f a b) .nilFunc).run Tryz.prog W = .ok (.bool false) W := fun f a b W => eql_fn W _ f a b Tryz.underlying91
  have HFV := Lib.hid hfv
  obtain ⟨R, hR⟩ : ∃ R, R = M.scan M.dR fr mn p0 q0 most (mn + 1) d 0 [] := ⟨_, rfl⟩
  have HO := Lib.hid o
  rw [← hR, ← hfv]
  rw [← hfv] at hA
  have HR0 := Lib.hid hR
  have HA0 := Lib.hid hA
  have HP0 : Hid (∀ y, Reg y rb a fr mn → Calls Tryz.prog 29 #[.pointer (some ⟨rb, 0, none⟩), .int .i64 (p0 : Nat)] y fun e w' => e = .returned (.tuple #[.int .i64 ((fr + p0 : Nat) : Int), .int .i64 0]) ∧ w' = y) := fun y hy => place_yes p0 y hy hf hmn hp
  have HNX : Hid (∀ y dk u l, RunAt w y sb rb a fr mn p0 q0 fv P Y I dk u l → u ≤ mn → dk.ops ≤ 10000000 → Calls Tryz.prog 63 #[.pointer (some ⟨sb, 0, none⟩)] y fun e w' => Nx12 y w' a P (q0 + (l.length : Nat)) ((p0 + u) % mn) (M.next M.dR fr mn dk ((p0 + u) % mn) (q0 + (l.length : Nat)) (mn - u)) e) := fun y dk u l hy hu hdo =>
    next_any ((p0 + u) % mn) u (q0 + (l.length : Nat)) fv y hy.disk hy.reg o.rP hy.sc o.sP (fun k e => Nat.lt_of_lt_of_le (o.low k e) hy.kept.size) hf hmn (Nat.mod_lt _ (by omega)) hu hdo
  have HRO : Hid (∀ (q : Nat) y, q ≤ 2000 → Reg y rb a fr mn → Calls Tryz.prog 32 #[.pointer (some ⟨rb, 0, none⟩), .int .i64 (q : Nat)] y fun e y' => e = .returned (.int .i64 ((q % mn : Nat) : Int)) ∧ y' = y) := fun q y hq hy => round_any q y hy (by omega) hmn (by omega)
  have HYY := Lib.hid hY
  have HB : Hid (mn ≤ 1000 ∧ p0 < mn ∧ d.ops ≤ 1000000) := ⟨hmn, hp, ho⟩
  obtain ⟨c0, c1, c2, c3, c4⟩ := HA0.out.sc.cells
  rw [Nat.add_zero, Nat.mod_eq_of_lt hp] at c1
  clear hA hY hf hmn hp ho o hR hfv
  go_enter Tryz.func43, Tryz.ntmps43
  go_wp2_with fail
  go_region_held3 (fun y => y.cell? ⟨sb, 0, none⟩ = some (.pointer (some ⟨rb, 0, none⟩)) ∧ y.cell? ⟨sb, 1, none⟩ = some (.int .i64 (p0 : Nat))) (first | exact ⟨c0, c1⟩) (first
    | (go_at_call 29
       refine (HP0.out _ (HA0.out.drew HO.out).reg).mono ?_
       rintro e w2 ⟨rfl, rfl⟩))
  have HA1 := Lib.hid (HA0.out.drew HO.out)
  obtain ⟨w1, hw1⟩ : ∃ w1, w1 = w.drew := ⟨_, rfl⟩
  rw [← hw1] at HA1 ⊢
  clear c0 c1 c2 c3 c4 HA0 HP0
  clear hw1
  go_wp2_with fail
  go_loopw [2] (fun v wr => v = .int .i64 0 ∧ ∃ (k : Nat) (dk : M.D) (u : Nat) (l : List M.Rec), Hid (RunAt w wr sb rb a fr mn p0 q0 fv P Y I dk u l) ∧ Hid (mn - u < k ∧ u ≤ mn ∧ 2 * l.length ≤ u ∧ dk.ops ≤ d.ops + 17 * u) ∧ Hid (R = M.scan M.dR fr mn p0 q0 most k dk u l)) (fun v wr => mn - usedOf sb wr)
  case atStart => exact ⟨rfl, mn + 1, d, 0, [], HA1, ⟨by omega, by omega, by simp, by omega⟩, HR0.out⟩
  case round =>
    clear HR0 HA1
    obtain ⟨rfl, k, dk, u, l, HA, HK, HRk⟩ := hrel
    obtain ⟨k', rfl⟩ : ∃ k', k = k' + 1 := ⟨k - 1, by have := HK.out; omega⟩
    have C1 := Lib.hid (HNX.out wr dk u l HA.out HK.out.2.1 (by have := HK.out; have := HB.out; omega))
    have hxn := M.next_n (X := M.dR) (fr := fr) (mn := mn) (d := dk) (p := (p0 + u) % mn) (q := q0 + (l.length : Nat)) (left := mn - u)
    have hxk := M.next_keeps fr mn dk ((p0 + u) % mn) (q0 + (l.length : Nat)) (mn - u)
    obtain ⟨x, hx⟩ : ∃ x, x = M.next M.dR fr mn dk ((p0 + u) % mn) (q0 + (l.length : Nat)) (mn - u) := ⟨_, rfl⟩
    have hRk := HRk.out
    rw [M.scan, ← hx] at hRk
    rw [← hx] at C1 hxn hxk
    obtain ⟨E, n, s, dn⟩ := x
    simp only at hxn hxk
    have HXN := Lib.hid hxn
    have HXK := Lib.hid hxk
    have HRN : Hid (E ≠ 0 ∨ n = 0 → R = (E, dn, u, l)) := fun e => by rw [hRk, M.scanE, if_pos e]
    have HRY : Hid (¬ (E ≠ 0 ∨ n = 0) → (l.length + 1 < most → R = M.scan M.dR fr mn p0 q0 most k' dn (u + n) (l ++ [⟨q0 + (l.length : Nat), (p0 + u) % mn, s⟩])) ∧ (¬ l.length + 1 < most → R = (0, dn, u + n, l ++ [⟨q0 + (l.length : Nat), (p0 + u) % mn, s⟩]))) := fun e => by
      rw [hRk, M.scanE, if_neg e]
      exact ⟨fun h => by rw [if_pos h], fun h => by rw [if_neg h]⟩
    clear hx hRk HRk HNX hxn hxk
    go_wp2_with fail
    refine C1.out.mono ?_
    rintro e w2 ⟨⟨Q, At, VA, VL, VC, rfl, hV⟩, hd2, hk2⟩
    have HA2 := Lib.hid (HA.out.none_ HO.out hd2 hk2)
    have HV := Lib.hid hV
    have HK2 := Lib.hid hk2
    have HA3 := Lib.hid (HA2.out.alloc HO.out (.cells #[.int .i64 Q, .int .i64 At, .slice VA VL VC] 90))
    clear hV hd2 hk2 C1
    by_cases hno : E ≠ 0 ∨ n = 0
    · have HRE := Lib.hid (HRN.out hno)
      have hcase : ((E == 0) = false ∧ ¬ E = 0) ∨ (E = 0 ∧ n = 0) := by
        by_cases e : E = 0
        · exact Or.inr ⟨e, by omega⟩
        · exact Or.inl ⟨by rw [beq_eq_false_iff_ne]; exact e, e⟩
      clear hno HRN HRY
      rcases hcase with ⟨hE1, hE2⟩ | ⟨rfl, rfl⟩
      · go_wp2_with fail
        go_ret
        exact ⟨dn, u, l, ⟨E, HRE.out, rfl⟩, HA3.out, HK.out.2.1⟩
      · go_wp2_with fail
        go_ret
        exact ⟨dn, u, l, ⟨0, HRE.out, rfl⟩, HA3.out, HK.out.2.1⟩
    · have HRE := Lib.hid (HRY.out hno)
      have hE : E = 0 := by omega
      have hn0 : n ≠ 0 := by omega
      subst hE
      have hn1 : ((n : Int) == 0) = false := by rw [beq_eq_false_iff_ne]; omega
      have hn2 : ¬ (n : Int) = 0 := by omega
      have HNN := Lib.hid (HXN.out hn0)
      have HVV := Lib.hid (HV.out hn0)
      clear hno HRN HRY HXN HV hn0
      go_wp2_with fail
      have HBX : Hid (Box (w2.alloc (.cells #[.int .i64 Q, .int .i64 At, .slice VA VL VC] 90)) w2.heap.size 90 #[.int .i64 Q, .int .i64 At, .slice VA VL VC]) := Box.new _ _ _
      have HXS : Hid (w.heap.size ≤ w2.heap.size) := HA2.out.kept.size
      have HK3 : Hid (Kept P wr (w2.alloc (.cells #[.int .i64 Q, .int .i64 At, .slice VA VL VC] 90)) ∧ Kept (fun _ => False) w2 (w2.alloc (.cells #[.int .i64 Q, .int .i64 At, .slice VA VL VC] 90))) := ⟨HK2.out.alloc _, (Kept.refl _ w2).alloc _⟩
      obtain ⟨xb, hxb⟩ : ∃ xb, xb = w2.heap.size := ⟨_, rfl⟩
      obtain ⟨y3, hy3⟩ : ∃ y3, y3 = w2.alloc (.cells #[.int .i64 Q, .int .i64 At, .slice VA VL VC] 90) := ⟨_, rfl⟩
      rw [← hxb] at HBX HXS ⊢
      rw [← hy3] at HBX HA3 HK3 ⊢
      have HXB : Hid (xb < y3.heap.size) := HBX.out.lt
      clear hy3 hxb HA2 HK2
      have C7 : Hid (∀ y, Kept (fun _ => False) y3 y → Calls Tryz.prog 32 #[.pointer (some ⟨rb, 0, none⟩), .int .i64 (((p0 + u) % mn + n : Nat) : Int)] y fun e y' => e = .returned (.int .i64 ((((p0 + u) % mn + n) % mn : Nat) : Int)) ∧ y' = y) := fun y hy =>
        HRO.out ((p0 + u) % mn + n) y (by have h1 : (p0 + u) % mn < mn := Nat.mod_lt _ (by have := HB.out; omega); have := HB.out; have := HNN.out; omega) (HA3.out.reg.kept hy id)
      have hmm : ((p0 + u) % mn + n) % mn = (p0 + (u + n)) % mn := by rw [Nat.mod_add_mod, Nat.add_assoc]
      rw [hmm] at C7
      obtain ⟨c0, c1, c2, c3, c4⟩ := HA3.out.sc.cells
      have f1 : y3.frozen? ⟨sb, 1, none⟩ = false := Box.frozen HA3.out.sc 1
      obtain ⟨p, hp⟩ : ∃ p, p = (p0 + u) % mn := ⟨_, rfl⟩
      have hp9 : (p : Int) ≤ 1000 := by have h1 : (p0 + u) % mn < mn := Nat.mod_lt _ (by have := HB.out; omega); have := HB.out; omega
      have hn9 : (n : Int) ≤ 17 := by have := HNN.out; omega
      obtain ⟨pn, hpn⟩ : ∃ pn, pn = p + n := ⟨_, rfl⟩
      have e1 : IntKind.i64.wrap ((p : Int) + (n : Int)) = (pn : Int) := by rw [IntKind.wrap_i64]; omega
      obtain ⟨p2, hp2⟩ : ∃ p2, p2 = (p0 + (u + n)) % mn := ⟨_, rfl⟩
      obtain ⟨q, hq⟩ : ∃ q : Int, q = q0 + (l.length : Nat) := ⟨_, rfl⟩
      obtain ⟨u2, hu2⟩ : ∃ u2, u2 = u + n := ⟨_, rfl⟩
      have HE : Hid (p = (p0 + u) % mn ∧ p2 = (p0 + (u + n)) % mn ∧ q = q0 + (l.length : Nat) ∧ u2 = u + n) := ⟨hp, hp2, hq, hu2⟩
      have hq1 : (0 : Int) ≤ q ∧ q < 281474976710656 := by have := HNN.out; omega
      have hq2 : IntKind.i64.wrap (q + 1) = q + 1 := by rw [IntKind.wrap_i64]; omega
      have HSC1 : Hid (Sc (y3.setCell ⟨sb, 1, none⟩ (.int .i64 (p2 : Nat))).drew sb rb p2 q u fv) := by have := HA3.out.sc; rw [← hq] at this; exact this.set1
      have HKS1 := Lib.hid (set1_kept y3 sb (.int .i64 (p2 : Nat)))
      rw [← hp] at C7 c1
      rw [← hpn, ← hp2] at C7
      rw [← hq] at c2
      have HQU : Hid (0 ≤ q ∧ q < 281474976710656) := hq1
      have hu9 : (u : Int) ≤ 1000 := by have := HB.out; have := HK.out; omega
      have e3 : (u : Int) + (n : Int) = (u2 : Int) := by omega
      have HY10 := Lib.hid (HYY.out wr)
      clear hp hpn hp2 hq hu2 hmm c2 c3 c4 HYY
      go_region_with (first | (go_at_call 32; refine (C7.out _ (by first | exact Kept.refl _ _ | exact (Kept.refl _ _).drew)).mono ?_; rintro e w4 ⟨rfl, rfl⟩))
      all_goals (obtain ⟨y4, hy4⟩ : ∃ y4, y4 = (y3.setCell ⟨sb, 1, none⟩ (.int .i64 (p2 : Nat))).drew := ⟨_, rfl⟩; rw [← hy4] at HSC1 HKS1; rw [← hy4]; clear hy4 c0 c1 f1 e1 C7)
      all_goals
        obtain ⟨c0, c1, c2, c3, c4⟩ := HSC1.out.cells
        have f2 : y4.frozen? ⟨sb, 2, none⟩ = false := Box.frozen HSC1.out 2
        have HBQ : Box (y4.setCell ⟨sb, 2, none⟩ (.int .i64 (q + 1))) sb 100 #[.pointer (some ⟨rb, 0, none⟩), .int .i64 (p2 : Nat), .int .i64 (q + 1), .int .i64 (u : Nat), fv] := Box.set (show Box y4 sb _ _ from HSC1.out) 2 _
        have d3 : (y4.setCell ⟨sb, 2, none⟩ (.int .i64 (q + 1))).cell? ⟨sb, 3, none⟩ = some (.int .i64 (u : Nat)) := by simpa using HBQ.cell 3
        have f3 : (y4.setCell ⟨sb, 2, none⟩ (.int .i64 (q + 1))).frozen? ⟨sb, 3, none⟩ = false := HBQ.frozen 3
        have HSC2 : Hid (Sc ((y4.setCell ⟨sb, 2, none⟩ (.int .i64 (q + 1))).setCell ⟨sb, 3, none⟩ (.int .i64 (u2 : Nat))) sb rb p2 (q + 1) u2 fv) := HSC1.out.set23
        have HKS2 := Lib.hid (set23_kept y4 sb (.int .i64 (q + 1)) (.int .i64 (u2 : Nat)))
        clear HBQ hq2 c0 c1 c3 c4
        go_wp2_with fail
        obtain ⟨y5, hy5⟩ : ∃ y5, y5 = (y4.setCell ⟨sb, 2, none⟩ (.int .i64 (q + 1))).setCell ⟨sb, 3, none⟩ (.int .i64 (u2 : Nat)) := ⟨_, rfl⟩
        rw [← hy5] at HSC2 HKS2 ⊢
        clear hy5 c2 f2 d3 f3
        have HKS := Lib.hid (HKS1.out.trans HKS2.out)
        have HTU := Lib.hid (HA3.out.turn HO.out HKS.out)
        obtain ⟨_, _, _, _, c4⟩ := HSC2.out.cells
        rw [HFV.out] at c4
        have hxs : xb ≠ sb := by have := HXS.out; have := HO.out.sl; omega
        have HBX5 := Lib.hid (HKS.out.box HBX.out hxs)
        have r0 : y5.cell? ⟨xb, 0, none⟩ = some (.int .i64 Q) := by simpa using HBX5.out.cell 0
        have r1 : y5.cell? ⟨xb, 1, none⟩ = some (.int .i64 At) := by simpa using HBX5.out.cell 1
        have r2 : y5.cell? ⟨xb, 2, none⟩ = some (.slice VA VL VC) := by simpa using HBX5.out.cell 2
        obtain ⟨b, hb⟩ : ∃ b, b = decide (l.length + 1 < most) := ⟨_, rfl⟩
        have HQA : Hid (Q = q ∧ At = (p : Nat)) := ⟨by rw [HVV.out.1, HE.out.2.2.1], by rw [HVV.out.2.1, HE.out.1]⟩
        have C10 : Hid (∀ y, Kept (fun _ => False) y5 y → Calls Tryz.prog 37 #[.agg #[.int .i64 Q, .int .i64 At, .slice VA VL VC], .pointer (some ⟨lb, 0, none⟩), .pointer (some ⟨mb, 0, none⟩)] y fun e y' => e = .returned (.bool b) ∧ I y' (l ++ [⟨q, p, s⟩]) ∧ Kept Y y5 y') := fun y hy => by
          have hnv := HVV.out.2.2.2
          have hkk : Kept (fun k => k = sb) w2 y := (HK3.out.2.mono (fun _ _ e => e.elim)).trans (HKS.out.trans (hy.mono (fun _ _ e => e.elim)))
          have := HY10.out y l q p s VA VL VC HA.out.inv HA.out.kept.size ((HK3.out.1.mono (fun _ _ e => Or.inl e)).trans ((HKS.out.mono (fun _ _ e => Or.inr e)).trans (hy.mono (fun _ _ e => e.elim)))) HNN.out.2.2.2.2.1 (HVV.out.2.2.1.kept hkk (fun ad n c e e' => by have := hnv ad n c e; have := HA.out.kept.size; have := HO.out.sl; omega)) hnv (by have := HK.out; have := HB.out; omega)
          rw [HQA.out.1, HQA.out.2, hb]
          exact this.mono fun _ _ ⟨h1, h2, h3⟩ => ⟨h1, h2, (hy.mono (fun _ _ e => e.elim)).trans h3⟩
        have HEND : Hid (∀ y', I y' (l ++ [⟨q, p, s⟩]) → Kept Y y5 y' → RunAt w y' sb rb a fr mn p0 q0 fv P Y I dn (u + n) (l ++ [⟨q, p, s⟩])) := fun y' hI hk => by
          obtain ⟨t1, t2, t3⟩ := HTU.out
          have hsc : Sc y' sb rb p2 (q + 1) u2 fv := hk.box HSC2.out (fun e => (HO.out.Y _ e).2.1 rfl)
          refine ⟨t1.kept hk (fun k e e' => (HO.out.Y k e').1 e), t2.kept hk (fun e => (HO.out.Y _ e).2.2 rfl), ?_, hI, t3.trans (hk.mono (fun _ _ e => Or.inr (Or.inr e)))⟩
          have e := HE.out
          rw [List.length_append, ← e.2.1, ← e.2.2.2, show q0 + ((l.length + [(⟨q, p, s⟩ : M.Rec)].length : Nat) : Int) = q + 1 by rw [e.2.2.1]; simp; omega]
          exact hsc
        have HRT : Hid ((b = true → R = M.scan M.dR fr mn p0 q0 most k' dn (u + n) (l ++ [⟨q, p, s⟩])) ∧ (b = false → R = (0, dn, u + n, l ++ [⟨q, p, s⟩]))) := by
          have e := HE.out
          have e1 := HRE.out
          rw [← e.1, ← e.2.2.1] at e1
          exact ⟨fun h => e1.1 (by rw [hb] at h; simpa using h), fun h => e1.2 (by rw [hb] at h; simpa using h)⟩
        clear hb HBX5 HSC1 HKS1 HSC2 HKS2 HBX HRE
        cases b with
        | true =>
          have HRT1 := Lib.hid (HRT.out.1 rfl)
          clear HRT
          go_region_with (first | (go_at_call 37; refine (C10.out _ (by first | exact Kept.refl _ _ | exact (Kept.refl _ _).drew)).mono ?_; rintro e w5 ⟨rfl, hI, hk5⟩; have H5 := Lib.hid (HEND.out _ hI hk5); clear hI hk5))
          all_goals have HM : Hid (u + n ≤ mn ∧ mn - (u + n) < k' ∧ 2 * (l ++ [(⟨q, p, s⟩ : M.Rec)]).length ≤ u + n ∧ dn.ops ≤ d.ops + 17 * (u + n) ∧ usedOf sb w5 = u + n ∧ usedOf sb wr = u ∧ 2 ≤ n) := by
                      have h1 := HNN.out
                      have h2 := HK.out
                      have h3 := HXK.out
                      refine ⟨by omega, by omega, by simp; omega, by omega, usedOf_sc H5.out.sc, usedOf_sc HA.out.sc, by omega⟩
          all_goals go_wp2_with fail
          all_goals (have h := HM.out; clear HM; have HM := Lib.hid h; clear h)
          all_goals first
            | (go_roundw; done)
            | (refine ⟨?_, ?_⟩
               · first
                 | (refine ⟨_, _, _, _, _, _, _, _, _, _, _, _, _, _, _, _, _, _, _, _, _, _, _, _, _, _, _, _, _, _, _, _, _, _, _, _, _, _, _, _, _, _, _, _, _, _, _, _, _, _, _, _, _, _, _, _, _, _, _, _, ?_, rfl⟩; exact ⟨rfl, k', dn, u + n, _, (by first | exact H5 | exact Lib.hid (H5.out.drew HO.out)), ⟨HM.out.2.1, HM.out.1, HM.out.2.2.1, HM.out.2.2.2.1⟩, HRT1.out⟩)
                 | (refine ⟨_, _, _, _, _, _, _, _, _, _, _, _, _, _, _, _, _, _, _, _, _, _, _, _, _, _, _, _, _, _, _, _, _, _, _, _, _, _, _, _, _, _, _, _, _, _, _, _, _, _, _, _, _, _, _, _, _, _, _, ?_, rfl⟩; exact ⟨rfl, k', dn, u + n, _, (by first | exact H5 | exact Lib.hid (H5.out.drew HO.out)), ⟨HM.out.2.1, HM.out.1, HM.out.2.2.1, HM.out.2.2.2.1⟩, HRT1.out⟩)
                 | (refine ⟨_, _, _, _, _, _, _, _, _, _, _, _, _, _, _, _, _, _, _, _, _, _, _, _, _, _, _, _, _, _, _, _, _, _, _, _, _, _, _, _, _, _, _, _, _, _, _, _, _, _, _, _, _, _, _, _, _, _, _, _, _, ?_, rfl⟩; exact ⟨rfl, k', dn, u + n, _, (by first | exact H5 | exact Lib.hid (H5.out.drew HO.out)), ⟨HM.out.2.1, HM.out.1, HM.out.2.2.1, HM.out.2.2.2.1⟩, HRT1.out⟩)
                 | (refine ⟨_, _, _, _, _, _, _, _, _, _, _, _, _, _, _, _, _, _, _, _, _, _, _, _, _, _, _, _, _, _, _, _, _, _, _, _, _, _, _, _, _, _, _, _, _, _, _, _, _, _, _, _, _, _, _, _, _, _, ?_, rfl⟩; exact ⟨rfl, k', dn, u + n, _, (by first | exact H5 | exact Lib.hid (H5.out.drew HO.out)), ⟨HM.out.2.1, HM.out.1, HM.out.2.2.1, HM.out.2.2.2.1⟩, HRT1.out⟩)
                 | (refine ⟨_, _, _, _, _, _, _, _, _, _, _, _, _, _, _, _, _, _, _, _, _, _, _, _, _, _, _, _, _, _, _, _, _, _, _, _, _, _, _, _, _, _, _, _, _, _, _, _, _, _, _, _, _, _, _, _, _, _, _, _, _, _, ?_, rfl⟩; exact ⟨rfl, k', dn, u + n, _, (by first | exact H5 | exact Lib.hid (H5.out.drew HO.out)), ⟨HM.out.2.1, HM.out.1, HM.out.2.2.1, HM.out.2.2.2.1⟩, HRT1.out⟩)
                 | (refine ⟨_, _, _, _, _, _, _, _, _, _, _, _, _, _, _, _, _, _, _, _, _, _, _, _, _, _, _, _, _, _, _, _, _, _, _, _, _, _, _, _, _, _, _, _, _, _, _, _, _, _, _, _, _, _, _, _, _, ?_, rfl⟩; exact ⟨rfl, k', dn, u + n, _, (by first | exact H5 | exact Lib.hid (H5.out.drew HO.out)), ⟨HM.out.2.1, HM.out.1, HM.out.2.2.1, HM.out.2.2.2.1⟩, HRT1.out⟩)
                 | (refine ⟨_, _, _, _, _, _, _, _, _, _, _, _, _, _, _, _, _, _, _, _, _, _, _, _, _, _, _, _, _, _, _, _, _, _, _, _, _, _, _, _, _, _, _, _, _, _, _, _, _, _, _, _, _, _, _, _, _, _, _, _, _, _, _, ?_, rfl⟩; exact ⟨rfl, k', dn, u + n, _, (by first | exact H5 | exact Lib.hid (H5.out.drew HO.out)), ⟨HM.out.2.1, HM.out.1, HM.out.2.2.1, HM.out.2.2.2.1⟩, HRT1.out⟩)
               · have h := HM.out
                 first
                   | (show mn - usedOf sb w5 < mn - usedOf sb wr; omega)
                   | (show mn - usedOf sb w5.drew < mn - usedOf sb wr; have e : usedOf sb w5.drew = usedOf sb w5 := rfl; omega))
        | false =>
          have HRT1 := Lib.hid (HRT.out.2 rfl)
          clear HRT
          go_region_with (first | (go_at_call 37; refine (C10.out _ (by first | exact Kept.refl _ _ | exact (Kept.refl _ _).drew)).mono ?_; rintro e w5 ⟨rfl, hI, hk5⟩; have H5 := Lib.hid (HEND.out _ hI hk5); clear hI hk5))
          all_goals have HM : Hid (u + n ≤ mn) := by have := HNN.out; have := HK.out; show _ ≤ _; omega
          all_goals go_wp2_with fail
          all_goals go_ret
          all_goals first
            | exact ⟨dn, u + n, _, ⟨0, HRT1.out, rfl⟩, H5.out, HM.out⟩
            | exact ⟨dn, u + n, _, ⟨0, HRT1.out, rfl⟩, H5.out.drew HO.out, HM.out⟩
end Go.Proofs.YtfdbfafpcbdbdaaGreat
namespace Go.Proofs.YtfdbfafpcbdbdaaGreat
open Go.RowKit

theorem run_no (p q : Int) (fv rv : Value) (w : World) (sb : Nat) (E : Int) (hE : E ≠ 0) (hsc : Box w sb 100 #[rv, .int .i64 p, .int .i64 q, .int .i64 0, fv])
    (hC : ∀ n, Calls Tryz.prog 29 #[rv, .int .i64 p] (w.drewN n) fun e w' => e = .returned (.tuple #[.int .i64 0, .int .i64 E]) ∧ w' = w.drewN n) :
    Calls Tryz.prog 43 #[.pointer (some ⟨sb, 0, none⟩)] w fun e w' => e = .returned (.int .i64 E) ∧ w' = w.drew := by
  have c0 : w.cell? ⟨sb, 0, none⟩ = some rv := by simpa using hsc.cell 0
  have c1 : w.cell? ⟨sb, 1, none⟩ = some (.int .i64 p) := by simpa using hsc.cell 1
  have HC := Lib.hid (hC 1)
  have hE1 : (E == 0) = false := by rw [beq_eq_false_iff_ne]; exact hE
  clear hsc hC
  go_enter Tryz.func43, Tryz.ntmps43
  go_wp2_with fail
  go_region_held3 (fun y => y.cell? ⟨sb, 0, none⟩ = some rv ∧ y.cell? ⟨sb, 1, none⟩ = some (.int .i64 p)) (first | exact ⟨c0, c1⟩) (first
    | (go_at_call 29
       refine HC.out.mono ?_
       rintro e w2 ⟨rfl, rfl⟩))
  go_wp2_with fail
  go_ret
  exact ⟨rfl, rfl⟩

theorem end1_any (r0 r1 r2 : Value) (w : World) : Calls Tryz.prog 42 #[.agg #[r0, r1, r2]] w fun e w' => e = .returned (.bool true) ∧ w' = w.alloc (.cells #[r0, r1, r2] 90) := by
  go_enter Tryz.func42, Tryz.ntmps42
  go_wp2_with fail
  go_ret
  exact ⟨rfl, rfl⟩

/-- A log that is none, or has no such place. -/
theorem told_no (rp : Option Addr) (p q most : Int) (w : World) (E : Int) (hE : E ≠ 0) (hC : ∀ y, Below w.heap.size w y → Calls Tryz.prog 29 #[.pointer rp, .int .i64 p] y fun e w' => e = .returned (.tuple #[.int .i64 0, .int .i64 E]) ∧ w' = y) :
    Calls Tryz.prog 13 #[.pointer rp, .int .i64 p, .int .i64 q, .int .i64 most] w fun e w' => e = .returned (.tuple #[.slice none 0 0, .int .i64 E]) ∧ Below w.heap.size w w' := by
  have HR : Hid (∀ y sb fv, Below w.heap.size w y → Box y sb 100 #[.pointer rp, .int .i64 p, .int .i64 q, .int .i64 0, fv] → Calls Tryz.prog 43 #[.pointer (some ⟨sb, 0, none⟩)] y fun e w' => e = .returned (.int .i64 E) ∧ w' = y.drew) := fun y sb fv hb hB =>
    run_no p q fv (.pointer rp) y sb E hE hB (fun n => hC _ (below_drewN hb n))
  have HEA : Hid (∀ y lb mb, Below w.heap.size w y → Calls Tryz.prog 36 #[.pointer rp, .int .i64 p, .int .i64 q, .func (.func 37) #[] #[.pointer (some ⟨lb, 0, none⟩), .pointer (some ⟨mb, 0, none⟩)]] y fun e w' => e = .returned (.int .i64 E) ∧ w' = (y.alloc (.cells #[.pointer rp, .int .i64 p, .int .i64 q, .int .i64 0, .func (.func 37) #[] #[.pointer (some ⟨lb, 0, none⟩), .pointer (some ⟨mb, 0, none⟩)]] 100)).drew) := by
    intro y lb mb hb
    have C := Lib.hid (HR.out _ y.heap.size _ (hb.alloc hb.size (.cells #[.pointer rp, .int .i64 p, .int .i64 q, .int .i64 0, .func (.func 37) #[] #[.pointer (some ⟨lb, 0, none⟩), .pointer (some ⟨mb, 0, none⟩)]] 100)) (Box.new _ _ _))
    clear HR
    go_enter Tryz.func36, Tryz.ntmps36
    go_wp2_with fail
    refine C.out.mono ?_
    rintro e w2 ⟨rfl, rfl⟩
    go_wp2_with fail
    go_ret
    exact ⟨rfl, rfl⟩
  have C := Lib.hid (HEA.out ((w.alloc (.cells #[.int .i64 most] 3)).alloc (.cells #[.slice none 0 0] 45)) (w.heap.size + 1) w.heap.size (((Below.refl w.heap.size w).alloc (Nat.le_refl _) _).alloc (by rw [World.size_alloc]; omega) _))
  have HBB : Hid (Below w.heap.size w (((w.alloc (.cells #[.int .i64 most] 3)).alloc (.cells #[.slice none 0 0] 45)).alloc (.cells #[.pointer rp, .int .i64 p, .int .i64 q, .int .i64 0, .func (.func 37) #[] #[.pointer (some ⟨w.heap.size + 1, 0, none⟩), .pointer (some ⟨w.heap.size, 0, none⟩)]] 100)).drew) :=
    ((((Below.refl w.heap.size w).alloc (Nat.le_refl _) _).alloc (by rw [World.size_alloc]; omega) _).alloc (by rw [World.size_alloc, World.size_alloc]; omega) _).drew
  have HCL : (((w.alloc (.cells #[.int .i64 most] 3)).alloc (.cells #[.slice none 0 0] 45)).alloc (.cells #[.pointer rp, .int .i64 p, .int .i64 q, .int .i64 0, .func (.func 37) #[] #[.pointer (some ⟨w.heap.size + 1, 0, none⟩), .pointer (some ⟨w.heap.size, 0, none⟩)]] 100)).drew.cell? ⟨w.heap.size + 1, 0, none⟩ = some (.slice none 0 0) := by
    have h1 := Box.new (w.alloc (.cells #[.int .i64 most] 3)) 45 #[.slice none 0 0]
    rw [World.size_alloc] at h1
    have h2 := ((Kept.refl (fun _ => False) _).alloc (Obj.cells #[.pointer rp, .int .i64 p, .int .i64 q, .int .i64 0, .func (.func 37) #[] #[.pointer (some ⟨w.heap.size + 1, 0, none⟩), .pointer (some ⟨w.heap.size, 0, none⟩)]] 100)).drew.box h1 id
    simpa using h2.cell 0
  clear HR HEA hC
  go_enter Tryz.func13, Tryz.ntmps13
  go_wp2_with fail
  refine C.out.mono ?_
  rintro e w2 ⟨rfl, rfl⟩
  obtain ⟨W, hW⟩ : ∃ W, W = (((w.alloc (.cells #[.int .i64 most] 3)).alloc (.cells #[.slice none 0 0] 45)).alloc (.cells #[.pointer rp, .int .i64 p, .int .i64 q, .int .i64 0, .func (.func 37) #[] #[.pointer (some ⟨w.heap.size + 1, 0, none⟩), .pointer (some ⟨w.heap.size, 0, none⟩)]] 100)).drew := ⟨_, rfl⟩
  rw [← hW] at HBB HCL ⊢
  clear hW
  go_wp2_with fail
  go_ret2
  exact ⟨rfl, HBB.out⟩
theorem end_no (rp : Option Addr) (p q : Int) (w : World) (E : Int) (hE : E ≠ 0) (hC : ∀ y, Below w.heap.size w y → Calls Tryz.prog 29 #[.pointer rp, .int .i64 p] y fun e w' => e = .returned (.tuple #[.int .i64 0, .int .i64 E]) ∧ w' = y) :
    Calls Tryz.prog 16 #[.pointer rp, .int .i64 p, .int .i64 q] w fun e w' => e = .returned (.tuple #[.int .i64 0, .int .i64 0, .int .i64 0, .int .i64 E]) ∧ Below w.heap.size w w' := by
  have hB0 : Below w.heap.size w (w.alloc (.cells #[.pointer rp, .int .i64 p, .int .i64 q, .int .i64 0, .func (.func 42) #[] #[]] 100)) := (Below.refl w.heap.size w).alloc (Nat.le_refl _) _
  have C := Lib.hid (run_no p q _ (.pointer rp) _ w.heap.size E hE (Box.new w 100 #[.pointer rp, .int .i64 p, .int .i64 q, .int .i64 0, .func (.func 42) #[] #[]]) (fun n => hC _ (below_drewN hB0 n)))
  have HB := Lib.hid hB0.drew
  have hE1 : (E == 0) = false := by rw [beq_eq_false_iff_ne]; exact hE
  clear hB0 hC
  go_enter Tryz.func16, Tryz.ntmps16
  go_wp2_with fail
  refine C.out.mono ?_
  rintro e w2 ⟨rfl, rfl⟩
  go_wp2_with fail
  go_returns
  exact ⟨rfl, HB.out⟩
theorem M.scan_most {σ : Type} {X : M.Rdr σ} {fr mn p0 : Nat} {q0 : Int} {m1 m2 : Nat} (h1 : mn < m1) (h2 : mn < m2) (k : Nat) (d : σ) (u : Nat) (l : List M.Rec) (hl : 2 * l.length ≤ u) (hu : u ≤ mn) : M.scan X fr mn p0 q0 m1 k d u l = M.scan X fr mn p0 q0 m2 k d u l := by
  induction k generalizing d u l with
  | zero => rfl
  | succ k ih =>
    have hn := M.next_n (X := X) (fr := fr) (mn := mn) (d := d) (p := (p0 + u) % mn) (q := q0 + (l.length : Nat)) (left := mn - u)
    rw [M.scan, M.scan]
    unfold M.scanE
    by_cases h : (M.next X fr mn d ((p0 + u) % mn) (q0 + (l.length : Nat)) (mn - u)).1 ≠ 0 ∨ (M.next X fr mn d ((p0 + u) % mn) (q0 + (l.length : Nat)) (mn - u)).2.1 = 0
    · rw [if_pos h, if_pos h]
    · obtain ⟨_, n2, n3, _⟩ := hn (fun e => h (Or.inr e))
      rw [if_neg h, if_neg h, if_pos (by omega), if_pos (by omega)]
      exact ih _ _ _ (by simp; omega) (by omega)
end Go.Proofs.YtfdbfafpcbdbdaaGreat
