/-
  Proved: for every int many, every slice l of slices of sectors, every two ints at, seq and every slice old of what is laid, solderlaw12.LogscanOrder answers true: transactions that are put one behind the other, with rising numbers, from any place of a log on, are told in their order, as far as they have room, whatever stood there, as the chapter of the layer logscan says in 12.3.
  Conditions: none (the whole statement: every input that its row reads).
-/
import Derived.Test.YtfdbfafpcbdbdaaMP
import Derived.Test.YtfdbfafpcbdbdaaRows
import Derived.Deep.AppendLies
import Derived.OwnWalk
import Derived.WalkKit
import Derived.ProofKit
import Derived.OpenShut
import Derived.ShutString
import Derived.ChangeOld
import Derived.Below
namespace Go.Proofs.Ytfdbfafpcbdbdaa
open Go.RowKit Go.Deep

theorem infoSl : (Try.prog.info? 34).map (fun i => (i.zero, i.size, i.bytes)) = some (some (.slice none 0 0), 1, 24) := by kernel_rfl
theorem cell1_new (w : World) (x : Value) (t : TypeId) : ∀ j u, [x][j]? = some u → (w.alloc (.cells #[x] t)).cell? ((⟨w.heap.size, 0, none⟩ : Addr).add j) = some u := by
  intro j u hj
  rw [blk_add, (Box.new w t #[x]).cell]
  match j, hj with
  | 0, hj => exact hj
  | j + 1, hj => simp at hj

/-- What holds at the start of the second loop, and behind it. -/
structure OrdAt (w y : World) (N a ra mn : Nat) (d : M.D) (p0 : Nat) (q0 : Int) (m : Nat) (v : Value) (A : Nat → Nat → Int) (T : Nat → Nat → ByteArray) (Nn : Nat → Nat) : Prop where
  log : Lg w y N a ra mn (fun k => v.ownBlock = some k) d
  still : M.Still d 5 mn
  chain : M.Chain A T Nn d 5 mn p0 q0 m
  put : ∃ xs, y.ownsRow N 34 1 v m xs ∧ PutX w m A T Nn xs
section
variable {w y z : World} {N a ra mn : Nat} {d : M.D} {p0 : Nat} {q0 : Int} {m : Nat} {v : Value} {A : Nat → Nat → Int} {T : Nat → Nat → ByteArray} {Nn : Nat → Nat}
theorem OrdAt.start {F : Nat → Prop} (h : Lg w y N a ra mn F d) (hs : M.Still d 5 mn) : OrdAt w y N a ra mn d p0 q0 0 (.slice none 0 0) (fun _ _ => 0) (fun _ _ => ⟨#[]⟩) (fun _ => 0) :=
  ⟨h.to (fun k e => by cases e), hs, ⟨fun i hi => absurd hi (by omega), fun i hi => absurd hi (by omega), Nat.zero_le _⟩, ⟨[], World.ownsRow_nil _ _ _ _, PutX.nil _ _ _ _⟩⟩
/-- One more is put, and laid behind what was put. -/
theorem OrdAt.snoc {x : M.Sl} (h : OrdAt w y N a ra mn d p0 q0 m v A T Nn) (hx : SlAt w x) (hr : M.rE x.a x.t (q0 + (m : Nat)) x.n = 0) (hn : x.n + 1 ≤ mn - M.us Nn m) {y2 y3 : World} {v' : Value}
    (hl : Lg w y2 N a ra mn (fun k => v.ownBlock = some k) (M.wr (M.lay12 5 mn ((p0 + M.us Nn m) % mn) (x.n + 1) (M.rec x.a x.t (q0 + (m : Nat)).toNat x.n)) d).2)
    {ob : Obj} (hg : (y2.alloc ob).grownBy y3 v.ownBlock) (hb : ∀ k, v'.ownBlock = some k → v.ownBlock = some k ∨ y2.heap.size ≤ k) {xs : List Value} (hX : y.ownsRow N 34 1 v m xs) (hP : PutX w m A T Nn xs) (ho : y3.ownsRow N 34 1 v' (m + 1) (xs ++ [x.val])) :
    OrdAt w y3 N a ra mn (M.wr (M.lay12 5 mn ((p0 + M.us Nn m) % mn) (x.n + 1) (M.rec x.a x.t (q0 + (m : Nat)).toNat x.n)) d).2 p0 q0 (m + 1) v' (fun i => if i = m then x.a else A i) (fun i => if i = m then x.t else T i) (fun i => if i = m then x.n else Nn i)
    ∧ M.us (fun i => if i = m then x.n else Nn i) (m + 1) = M.us Nn m + (x.n + 1) := by
  have hs : (M.rec x.a x.t (q0 + (m : Nat)).toNat x.n).size = 64 * (x.n + 1) := by have := M.rS_size x.a x.t hr; rwa [M.rS_yes x.a x.t hr] at this
  obtain ⟨c1, c2⟩ := h.chain.put h.still (a := x.a) (t := x.t) (n := x.n) hr hn
  have hst := (M.put_still (p := (p0 + M.us Nn m) % mn) h.still hs (by omega)).2.1
  obtain ⟨_, _, hreg, _⟩ := h.log
  have hne : ¬ v.ownBlock = some ra := own_ne hX hreg (by decide)
  have k3 : Kept (fun k => v.ownBlock = some k) y2 y3 := ((Kept.refl _ y2).alloc ob).grown hg (fun k e _ => e)
  have hox := ho
  refine ⟨⟨(hl.more k3 (fun _ e => e) hne).to (fun k e => ?_), hst, c1, ⟨_, ho, hP.snoc x hx⟩⟩, c2⟩
  have hlt := hox.lt k e
  refine ⟨hlt.2, hlt.1, ?_⟩
  rcases hb k e with e1 | e1
  · exact Or.inl e1
  · exact Or.inr ⟨e1, hlt.2⟩
theorem OrdAt.keep (h : OrdAt w y N a ra mn d p0 q0 m v A T Nn) (hb : Below y.heap.size y z) : OrdAt w z N a ra mn d p0 q0 m v A T Nn :=
  ⟨h.log.keep hb, h.still, h.chain, let ⟨xs, h1, h2⟩ := h.put; ⟨xs, (Kept.of_below hb (fun _ => False)).owns h1 (fun _ _ => id), h2⟩⟩
end

set_option maxRecDepth 100000 in
set_option maxHeartbeats 8000000 in
theorem order_yes (mi : Int) (hmay : M.mayLog mi = true) (LA : Option Addr) (ll lc : Nat) (lf : Nat → M.Sl) (pi q0 : Int) (OA : Option Addr) (ol oc : Nat) (of_ : Nat → M.Lay) (w : World) (hL : ListF w LA ll lf) (hO : LayF w OA ol of_) (hll : ll ≤ maxLen) (hol : ol ≤ maxLen) (hp9 : pi ≤ 9223372036854775807) (hq0 : -9223372036854775808 ≤ q0) (hq9 : q0 ≤ 9223372036854775807) (hm9 : mi ≤ 9223372036854775807) :
    Calls Try.prog 3 #[.int .i64 mi, .slice LA ll lc, .int .i64 pi, .int .i64 q0, .slice OA ol oc] w fun e w' => e = .returned (.bool true) ∧ Below w.heap.size w w' := by
  obtain ⟨i0, hi0, iz0, iz1, iz2⟩ := info_parts infoSl
  have hm1 : 1 ≤ mi ∧ mi ≤ 55 := by unfold M.mayLog at hmay; simp at hmay; exact hmay
  obtain ⟨mn, rfl⟩ : ∃ n : Nat, mi = n := ⟨mi.toNat, by omega⟩
  obtain ⟨N, hN⟩ : ∃ N, N = w.heap.size := ⟨_, rfl⟩
  have HBO : Hid (∀ y, Below N w y → Calls Try.prog 6 #[.int .i64 (mn : Nat)] y fun e y' => ∃ a b ra rb, e = .returned (.tuple #[.pointer (some ⟨a, 0, none⟩), .pointer (some ⟨ra, 0, none⟩), .pointer (some ⟨b, 0, none⟩), .pointer (some ⟨rb, 0, none⟩)]) ∧ Lg w y' N a ra mn (fun _ => False) (M.new 60)) := fun y hb => by
    rw [hN] at hb ⊢
    refine (both_any (mn : Nat) w y hb).mono ?_
    rintro e y' (⟨_, a, b, ra, rb, he, h⟩ | ⟨h, _⟩)
    · rw [Int.toNat_natCast] at h
      exact ⟨a, b, ra, rb, he, h.lg⟩
    · rw [hmay] at h; cases h
  have HGR : Hid (∀ y, Below N w y → _) := fun y hb => great12_any OA ol oc of_ w y hO (by rw [← hN]; exact hb) hol
  have HOF : Hid (∀ y, Below N w y → ∀ i, i < ol → _) := fun y hb i hi => hO.at_ (y := y) (N := N) (by omega) hb hi
  have HLF : Hid (∀ y, Below N w y → ∀ i, i < ll → _) := fun y hb i hi => hL.at_ (y := y) (N := N) (by omega) hb hi
  have HO9 : Hid (∀ i, i < ol → (of_ i).at_ ≤ 9223372036854775807) := fun i hi => let ⟨_, _, _, _, _, h⟩ := hO i hi; h
  have HLW : Hid (∀ i, i < ll → SlAt w (lf i)) := fun i hi => let ⟨_, _, _, _, h⟩ := hL i hi; h
  have hs0 : M.Still (M.new 60) 5 mn := ⟨M.calm_new 60, by simp [M.new]; omega, by omega⟩
  have HST := Lib.hid hs0
  have hll63 : (ll : Int) ≤ 9223372036854775807 := by unfold maxLen at hll; omega
  have hol63 : (ol : Int) ≤ 9223372036854775807 := by unfold maxLen at hol; omega
  have HNN := Lib.hid hN
  have HMN : Hid (1 ≤ mn ∧ mn ≤ 55) := ⟨by omega, by omega⟩
  have hmn1 : (1 : Int) ≤ (mn : Int) := by omega
  have hmn9 : (mn : Int) ≤ 55 := by omega
  rw [← hN]
  clear hN hL hO hs0 hmay hm1 hll hol
  go_enter Try.func3, Try.ntmps3
  go_wp2_with fail
  refine (works12_any w).mono ?_
  rintro e w1 ⟨rfl, h1⟩
  rw [← HNN.out] at h1
  have HB1 := Lib.hid (HBO.out _ h1)
  clear h1 HBO
  go_wp2_with fail
  refine HB1.out.mono ?_
  rintro e w2 ⟨a, b, ra, rb, rfl, hlg⟩
  have HL0 := Lib.hid hlg
  have HG2 := Lib.hid (HGR.out _ hlg.below)
  clear hlg HB1 HGR
  go_wp2_with fail
  refine HG2.out.mono ?_
  rintro e w3 (⟨rfl, rfl⟩ | ⟨rfl, rfl, hgr⟩)
  · go_wp2_with fail
    go_ret
    exact ⟨rfl, HL0.out.below⟩
  have HGB := Lib.hid hgr.out
  clear hgr HG2
  by_cases h20 : (20 : Int) < (ll : Int)
  · go_wp2_with fail
    go_ret
    exact ⟨rfl, HL0.out.below⟩
  by_cases hp0 : pi < 0
  · go_wp2_with fail
    go_ret
    exact ⟨rfl, HL0.out.below⟩
  by_cases hpm : (mn : Int) ≤ pi
  · go_wp2_with fail
    go_ret
    exact ⟨rfl, HL0.out.below⟩
  by_cases hqn : q0 < 0
  · go_wp2_with fail
    go_ret
    exact ⟨rfl, HL0.out.below⟩
  by_cases hqm : (1099511627776 : Int) < q0
  · go_wp2_with fail
    go_ret
    exact ⟨rfl, HL0.out.below⟩
  go_wp2_with fail
  obtain ⟨p0, hpi⟩ : ∃ n : Nat, pi = n := ⟨pi.toNat, by omega⟩
  have HPI := Lib.hid hpi
  have HPQ : Hid (p0 < mn ∧ 0 ≤ q0 ∧ q0 ≤ 1099511627776 ∧ ll ≤ 20) := ⟨by omega, by omega, by omega, by omega⟩
  clear h20 hp9 hp0 hpm hqn hqm hpi
  go_loopw [15] (fun j wr => ∃ (k : Nat) (d : M.D), k ≤ ol ∧ j = .int .i64 k ∧ Hid (Lg w wr N a ra mn (fun _ => False) d ∧ M.Still d 5 mn) ∧ Hid (d.ops ≤ 55 * k)) (fun j _ => ol - (intOf j).toNat)
  case atStart => exact ⟨0, M.new 60, Nat.zero_le _, rfl, ⟨HL0.out, HST.out⟩, by show (M.new 60).ops ≤ _; exact Nat.zero_le _⟩
  case round =>
    clear HL0
    obtain ⟨k, d, hk, rfl, HA, HD⟩ := hrel
    by_cases hlt : k < ol
    · have hk0 : (0 : Int) ≤ (k : Int) := by omega
      have hlt' : (k : Int) < (ol : Int) := by omega
      obtain ⟨ad, rfl, ⟨x0, _, x2, _⟩, _⟩ := HOF.out wr HA.out.1.below k hlt
      have HC : Hid (∀ y, Below N w y → y.cell? (ad.add (k * 4)) = some (.int .i64 (of_ k).at_) ∧ y.cell? ⟨(ad.add (k * 4)).block, (ad.add (k * 4)).off + 2, none⟩ = some (.string (of_ k).s)) := fun y hb => by
        obtain ⟨ad', e, ⟨z0, _, z2, _⟩, _⟩ := HOF.out y hb k hlt
        injection e with e
        rw [e]
        exact ⟨z0, z2⟩
      have CP := Lib.hid (HA.out.1.drew.put (of_ k).at_ (of_ k).s (by have := (HGB.out.2 k hlt).1; omega) (by have := HMN.out; omega) (HO9.out k hlt) (by have := HD.out; have := HGB.out.1; omega))
      have HS2 := Lib.hid (M.lput_still (of_ k).at_ (of_ k).s HA.out.2)
      obtain ⟨d2, hd2⟩ : ∃ d2, d2 = (M.lput d 5 mn (of_ k).at_ (of_ k).s).2 := ⟨_, rfl⟩
      obtain ⟨E, hE⟩ : ∃ E, E = (M.lput d 5 mn (of_ k).at_ (of_ k).s).1 := ⟨_, rfl⟩
      rw [← hd2, ← hE] at CP
      rw [← hd2] at HS2
      obtain ⟨oa, hoa⟩ : ∃ oa, oa = (of_ k).at_ := ⟨_, rfl⟩
      obtain ⟨os, hos⟩ : ∃ os, os = (of_ k).s := ⟨_, rfl⟩
      rw [← hoa] at x0 HC CP
      rw [← hos] at x2 HC CP
      have HKL : Hid (k < ol) := hlt
      have HD2 : Hid (d2.ops ≤ 55 * (k + 1)) := by have := HS2.out.2; have := HD.out; have := HMN.out; show _ ≤ _; omega
      clear hd2 hE hoa hos hlt hk HA HD
      go_wp2_with fail
      go_region_held3 (fun y => y.cell? (ad.add (k * 4)) = some (.int .i64 oa) ∧ y.cell? ⟨(ad.add (k * 4)).block, (ad.add (k * 4)).off + 2, none⟩ = some (.string os)) (first | exact ⟨x0, x2⟩ | exact ⟨z0, z2⟩) (first
        | (go_at_call 8
           refine CP.out.mono ?_
           rintro e w5 ⟨rfl, h5, _⟩
           have H5 := Lib.hid h5
           obtain ⟨z0, z2⟩ := HC.out w5 h5.below
           clear h5))
      go_wp2_with fail
      go_roundw
      case rel => exact ⟨k + 1, d2, HKL.out, by go_num, ⟨H5.out, HS2.out.1⟩, HD2⟩
      case measure => have := HKL.out; simp [intOf]; omega
    · have e : k = ol := by omega
      subst e
      clear hlt hk
      go_wp2_with fail
      go_loopw [16, 17, 18, 19] (fun x16 x17 x18 x19 wr => ∃ (i m : Nat) (d : M.D) (v : Value) (A : Nat → Nat → Int) (T : Nat → Nat → ByteArray) (Nn : Nat → Nat), i ≤ ll ∧ m ≤ i ∧ x16 = .int .i64 (M.us Nn m : Nat) ∧ x17 = .int .i64 (m : Nat) ∧ x18 = v ∧ x19 = .int .i64 (i : Nat) ∧ Hid (OrdAt w wr N a ra mn d p0 q0 m v A T Nn) ∧ Hid (d.ops ≤ 55 * (k + i))) (fun _ _ _ x19 _ => ll - (intOf x19).toNat)
      case atStart => exact ⟨0, 0, d, .slice none 0 0, fun _ _ => 0, fun _ _ => ⟨#[]⟩, fun _ => 0, Nat.zero_le _, Nat.le_refl _, rfl, rfl, rfl, rfl, OrdAt.start HA.out.1 HA.out.2, by have := HD.out; show _ ≤ _; omega⟩
      case round =>
        clear HA HD
        obtain ⟨i, m, d, v, A, T, Nn, hi, hmi, rfl, rfl, rfl, rfl, HA, HD⟩ := hrel
        by_cases hlt : i < ll
        · have hk0 : (0 : Int) ≤ (i : Int) := by omega
          have hlt' : (i : Int) < (ll : Int) := by omega
          obtain ⟨ad, rfl, z0, hsl⟩ := HLF.out wr HA.out.log.below i hlt
          have hslw := HLW.out i hlt
          obtain ⟨X, hX⟩ : ∃ X, X = lf i := ⟨_, rfl⟩
          rw [← hX] at z0 hsl hslw
          obtain ⟨XA, Xn, Xc, Xa, Xt⟩ := X
          change wr.cell? (ad.add i) = some (.slice XA Xn Xc) at z0
          have HZ : Hid (∀ y, Below N w y → y.cell? (ad.add i) = some (.slice XA Xn Xc)) := fun y hb => by
            obtain ⟨ad', e, z, _⟩ := HLF.out y hb i hlt
            injection e with e
            rw [← hX] at z
            rw [e]
            exact z
          have CG := Lib.hid (great11_any XA Xn Xc Xa Xt wr hsl.2.2 (Nat.le_trans hsl.1 hsl.2.1))
          have CP := Lib.hid (put11_any XA Xn Xc Xa Xt (q0 + (m : Nat)) wr hsl.2.2 hsl.1 hsl.2.1)
          have HSL := Lib.hid hslw
          have HIL : Hid (i < ll ∧ m ≤ i) := ⟨hlt, hmi⟩
          have hm20 : (m : Int) ≤ 20 := by have := HPQ.out; omega
          have hq40 : 0 ≤ q0 ∧ q0 ≤ 1099511627776 := ⟨HPQ.out.2.1, HPQ.out.2.2.1⟩
          obtain ⟨u, hu⟩ : ∃ u, u = M.us Nn m := ⟨_, rfl⟩
          have HU := Lib.hid hu
          have hur := HA.out.chain.room
          rw [← hu] at hur ⊢
          have hu55 : (u : Int) ≤ 55 := by omega
          have hum : (u : Int) ≤ (mn : Int) := by omega
          clear hX hsl hslw hu hi hmi hlt
          go_wp2_with fail
          refine CG.out.mono ?_
          rintro e w5 (⟨rfl, rfl⟩ | ⟨rfl, rfl, hgt⟩)
          · go_wp2_with fail
            go_ret
            exact ⟨rfl, HA.out.log.below⟩
          have HGT := Lib.hid hgt.out.1
          clear hgt CG
          go_wp2_with fail
          refine CP.out.mono ?_
          rintro e w6 ⟨rfl, hb6⟩
          have HA6 := Lib.hid (HA.out.keep hb6)
          clear hb6 CP HA z0
          have HRW : Hid (M.us Nn m = u) := HU.out.symm
          by_cases hr : M.rE Xa Xt (q0 + (m : Nat)) Xn = 0
          · obtain ⟨hrq, hrn, _⟩ := M.rE_ok Xa Xt hr
            have hSz := M.rS_size Xa Xt hr
            have hSr := M.rS_yes Xa Xt hr
            rw [hr]
            obtain ⟨S, hS⟩ : ∃ S, S = M.rS Xa Xt (q0 + (m : Nat)) Xn := ⟨_, rfl⟩
            rw [← hS] at hSz hSr ⊢
            obtain ⟨z, hz⟩ : ∃ z, z = Xn + 1 := ⟨_, rfl⟩
            have hdiv : (S.size : Int).tdiv 64 = (z : Int) := by rw [Int.tdiv_eq_ediv_of_nonneg (by omega)]; omega
            have hz17 : (z : Int) ≤ 17 := by omega
            by_cases hfit : Xn + 1 ≤ mn - u
            · have hfit' : ¬ (mn : Int) - (u : Int) < (z : Int) := by omega
              have hat' : (p0 + u) % mn < mn := Nat.mod_lt _ (by have := HMN.out; omega)
              obtain ⟨at_, hat⟩ : ∃ at_, at_ = (p0 + u) % mn := ⟨_, rfl⟩
              rw [← hat] at hat'
              have htm : (pi + (u : Int)).tmod (mn : Int) = (at_ : Int) := by
                rw [HPI.out, Int.tmod_eq_emod_of_nonneg (by omega), hat, show (p0 : Int) + (u : Int) = ((p0 + u : Nat) : Int) by omega]
                exact (Int.natCast_emod _ _).symm
              have hpi9 : 0 ≤ pi ∧ pi ≤ 55 := by have := HPI.out; have := HPQ.out; have := HMN.out; omega
              have CPt := HA6.out.log.put (at_ : Nat) S (by omega) (by have := HMN.out; omega) (by omega) (by have := HD.out; have := HGB.out.1; have := HIL.out; have := HPQ.out; omega)
              have hput := M.put_still (p := at_) (n := Xn + 1) (s := S) HA6.out.still hSz (by omega)
              rw [M.lput_rec hat' hSz (by omega) (by omega), hput.1] at CPt
              have HOPS : Hid ((M.wr (M.lay12 5 mn at_ (Xn + 1) S) d).2.ops ≤ 55 * (k + (i + 1))) := by show _ ≤ _; rw [hput.2.2.2.1]; have := HD.out; omega
              obtain ⟨xs, hown, hpx⟩ := HA6.out.put
              have HSN := fun y2 y3 v' ob h1 h2 h3 h4 => HA6.out.snoc (x := ⟨XA, Xn, Xc, Xa, Xt⟩) HSL.out hr (by show Xn + 1 ≤ _; rw [HRW.out]; exact hfit) (y2 := y2) (y3 := y3) (v' := v') h1 (ob := ob) h2 h3 (xs := xs) hown hpx h4
              simp only [HRW.out, ← hat, ← hSr] at HSN
              obtain ⟨d2, hd2⟩ : ∃ d2, d2 = (M.wr (M.lay12 5 mn at_ (Xn + 1) S) d).2 := ⟨_, rfl⟩
              rw [← hd2] at CPt HOPS
              simp only [← hd2] at HSN
              have HSN := Lib.hid HSN
              have CPt := Lib.hid CPt
              have HOWN : Hid (w6.ownsRow N 34 1 u18 m xs) := hown
              obtain ⟨VA, VC, hv, hvc⟩ := owns_shape hown
              have hus : u + (Xn + 1) = u + z := by rw [hz]
              have e3 : (u : Int) + (z : Int) = ((u + z : Nat) : Int) := by omega
              have HMm : Hid (m + 1 ≤ maxLen ∧ (m + 1) * 24 ≤ 140737488355328) := by have := HIL.out; have := HPQ.out; refine ⟨?_, ?_⟩ <;> (try unfold maxLen) <;> omega
              clear hat hSr hput hd2 hS hown hpx hr hrq hrn hfit hat'
              subst hv
              go_wp2_with fail
              refine CPt.out.mono ?_
              rintro e w7 ⟨rfl, hlg7, hk7⟩
              have HL7 := Lib.hid hlg7
              have HO7 : Hid (w7.ownsRow N 34 1 (.slice VA m VC) m xs) := hk7.owns HOWN.out (fun k e e' => e'.2 e)
              have z1 := HZ.out w7 hlg7.below
              clear hlg7 hk7 CPt HOWN htm
              go_wp2_with (at_builtin
                           (refine wpList_append_lies _ rfl _ _ 22 rfl N 34 i0 (.slice none 0 0) 1 24 Try.underlying22 hi0 iz0 iz1 iz2 rfl (by decide) (.slice VA m VC) _ _ rfl (HO7.out.alloc _) ⟨w7.heap.size, 0, none⟩ 1 1 [.slice XA Xn Xc] rfl rfl (cell1_new _ _ _) (fun x hx => by simp at hx; rcases hx with rfl; rfl) (by omega) HMm.out.1 HMm.out.2 (by rw [World.size_alloc]; have := HL7.out.le; omega) _ rfl ?_)
                           intro g3 c3 w8 hown8 hgrow8 hat8 _
                           (have H8 := Lib.hid (HSN.out w7 w8 (.slice (some ⟨g3, 0, none⟩) (m + 1) c3) _ HL7.out hgrow8 (fun k e => by
                             have e2 : g3 = k := by simpa [Value.ownBlock] using e
                             rcases hat8 with h | h
                             · exact Or.inl (by rw [h, e2])
                             · refine Or.inr ?_
                               rw [← e2, h, World.size_alloc]; omega) hown8))
                           clear hown8 hgrow8 hat8)
              go_roundw
              case rel => exact ⟨i + 1, m + 1, d2, _, _, _, _, by have := HIL.out; omega, by have := HIL.out; omega, by rw [H8.out.2, hus]; go_num, by go_num, rfl, by go_num, H8.out.1, HOPS⟩
              case measure => have := HIL.out; simp [intOf]; omega
            · have hfit' : (mn : Int) - (u : Int) < (z : Int) := by omega
              clear hr hSz hSr hS hrq hrn hfit
              go_wp2_with fail
              go_roundw
              case rel => exact ⟨i + 1, m, d, u18, A, T, Nn, by have := HIL.out; omega, by have := HIL.out; omega, by rw [HRW.out], rfl, rfl, by go_num, HA6, by have := HD.out; show _ ≤ _; omega⟩
              case measure => have := HIL.out; simp [intOf]; omega
          · have hS := M.rS_no Xa Xt hr
            rw [hS]
            obtain ⟨E, hE⟩ : ∃ E, E = M.rE Xa Xt (q0 + (m : Nat)) Xn := ⟨_, rfl⟩
            rw [← hE] at hr ⊢
            have hE1 : (E == 0) = false := by rw [beq_eq_false_iff_ne]; exact hr
            have hE2 : (E != 0) = true := by rw [bne, hE1]; rfl
            have hz0 : ((⟨#[]⟩ : ByteArray).size : Int).tdiv 64 = 0 := by decide
            clear hS hE
            go_wp2_with fail
            go_roundw
            case rel => exact ⟨i + 1, m, d, u18, A, T, Nn, by have := HIL.out; omega, by have := HIL.out; omega, by rw [HRW.out], rfl, rfl, by go_num, HA6, by have := HD.out; show _ ≤ _; omega⟩
            case measure => have := HIL.out; simp [intOf]; omega
        · have e : i = ll := by omega
          subst e
          clear hlt hi
          have CT := HA.out.log.told p0 q0 1000 (by have := HMN.out; omega) HPQ.out.1 (by have := HD.out; have := HGB.out.1; have := HPQ.out; omega) (by omega)
          rw [← HPI.out] at CT
          have HTO := Lib.hid (M.order_told (most := 1000) HA.out.chain HA.out.still (by have := HMN.out; omega))
          obtain ⟨xs, hown, hpx⟩ := HA.out.put
          obtain ⟨PA, PC, hv, hvc⟩ := owns_shape hown
          have HOP := Lib.hid hown
          have HPX := Lib.hid hpx
          have HUM : Hid ((M.us Nn m : Nat) ≤ mn) := HA.out.chain.room
          have HCH := Lib.hid HA.out.chain
          have CT := Lib.hid CT
          obtain ⟨u, hu⟩ : ∃ u, u = M.us Nn m := ⟨_, rfl⟩
          rw [← hu]
          clear hown hpx hu HA
          subst hv
          have hm20 : (m : Int) ≤ 20 := by have := HPQ.out; omega
          have hq40 : 0 ≤ q0 ∧ q0 ≤ 1099511627776 := ⟨HPQ.out.2.1, HPQ.out.2.2.1⟩
          go_wp2_with fail
          refine CT.out.mono ?_
          rintro e w5 ⟨E, d', u', L, V, hS, rfl, hrec, hlg, hk5⟩
          have hto := HTO.out
          rw [hS] at hto
          obtain ⟨hE0, rest, hLr⟩ := hto
          simp only at hE0 hLr
          subst hE0
          have hlen : m ≤ L.length := by
            have := congrArg List.length hLr
            rw [List.length_map, List.length_append, M.recs_len] at this
            omega
          have HREC := Lib.hid hrec
          have HLG := Lib.hid hlg
          have HP5 : Hid (w5.ownsRow N 34 1 (.slice PA m PC) m xs) := hk5.owns HOP.out (fun k e e' => e'.2.1 e)
          have HLR : Hid (∀ t, t < m → ∃ x, L[t]? = some x ∧ x.q = q0 + (t : Nat) ∧ x.s = M.rec (A t) (T t) (q0 + (t : Nat)).toNat (Nn t)) := fun t ht => by
            have h1 : (L.map M.RecV.told)[t]? = some ⟨q0 + (t : Nat), (p0 + M.us Nn t) % mn, M.rec (A t) (T t) (q0 + (t : Nat)).toNat (Nn t)⟩ := by
              rw [hLr, List.getElem?_append_left (by rw [M.recs_len]; exact ht)]
              simp [M.recs, ht]
            rw [List.getElem?_map] at h1
            obtain ⟨x, hx, e⟩ := Option.map_eq_some_iff.1 h1
            have e1 := congrArg M.Rec.q e
            have e2 := congrArg M.Rec.s e
            exact ⟨x, hx, e1, e2⟩
          obtain ⟨GA, GC, hgv, hgc⟩ := owns_shape hrec.own
          obtain ⟨gl, hgl⟩ : ∃ gl, gl = L.length := ⟨_, rfl⟩
          rw [← hgl] at hgv hgc hlen
          have HGV : Hid (V = .slice GA gl GC) := hgv
          have hlm : decide ((gl : Int) < (m : Int)) = false := by simp; omega
          have hlm2 : (m : Int) ≤ (gl : Int) := by omega
          have hlm3 : decide (gl < m) = false := by simp; omega
          have HLM2 : Hid (m ≤ gl) := hlen
          clear hS hrec hlg hk5 hLr hgl hlen CT HTO HOP
          subst hgv
          go_wp2_with fail
          go_loopw [25] (fun j wr => ∃ t : Nat, t ≤ m ∧ j = .int .i64 t ∧ Hid (Below w5.heap.size w5 wr)) (fun j _ => m - (intOf j).toNat)
          case atStart => exact ⟨0, Nat.zero_le _, rfl, Below.refl _ _⟩
          case round =>
            obtain ⟨t, ht, rfl, HBW⟩ := hrel
            by_cases htm : t < m
            · have ht0 : (0 : Int) ≤ (t : Int) := by omega
              have htm' : (t : Int) < (m : Int) := by omega
              have htg : (t : Int) < (gl : Int) := by omega
              obtain ⟨x, hx, hxq, hxs⟩ := HLR.out t htm
              obtain ⟨X, hX, hXs, hXn, hXa, hXt⟩ := HPX.out.at_ htm
              have hrok := HCH.out.ok t htm
              obtain ⟨g1, g2, g3, g4, g5⟩ := M.get_rec (q0 + (t : Nat)) hrok
              obtain ⟨-, s2, s3, s4, -⟩ := HREC.out.secs x (List.mem_of_getElem? hx)
              rw [hxs, g2] at s2 s4
              have s4' : SecF w5 x.A (Nn t) (A t) (T t) := s4.congr g4 g5
              have hXF := hXs.2.2
              rw [hXn, hXa, hXt] at hXF
              have HS1 : Hid (SecF w5 x.A (Nn t) (A t) (T t)) := s4'
              have HS2 : Hid (SecF w5 X.A (Nn t) (A t) (T t)) := hXF.below (by rw [← HNN.out]; exact Nat.le_refl _) HLG.out.below
              have hN16 : Nn t ≤ 1000 := by have := (M.rE_ok _ _ hrok).2.1; omega
              rcases HREC.out.own.2 with ⟨e, e2⟩ | ⟨gb, gcap, gcur, hGA, -⟩
              · have := (List.getElem?_eq_some_iff.1 hx).1
                omega
              rcases HP5.out.2 with ⟨e, e2⟩ | ⟨pb, pcap, pcur, hPA, -⟩
              · omega
              have hGA1 : GA = some ⟨gb, 0, none⟩ := by injection hGA
              have hPA1 : PA = some ⟨pb, 0, none⟩ := by injection hPA
              clear hGA hPA
              subst hGA1
              subst hPA1
              have r0 := HREC.out.own.cells (g := gb) rfl _ _ (M.rcells_at hx).1
              have r2 := HREC.out.own.cells (g := gb) rfl _ _ (M.rcells_at hx).2.2
              have r3 := HP5.out.cells (g := pb) rfl _ _ hX
              rw [ladd_one _ _ 2 (by omega)] at r2
              rw [hxs, g2] at r2
              obtain ⟨gad, hgad⟩ : ∃ gad : Addr, gad = ⟨gb, 0, none⟩ := ⟨_, rfl⟩
              obtain ⟨pad, hpad⟩ : ∃ pad : Addr, pad = ⟨pb, 0, none⟩ := ⟨_, rfl⟩
              rw [← hgad] at r0 r2 ⊢
              rw [← hpad] at r3 ⊢
              clear hgad hpad
              obtain ⟨qt, hqt⟩ : ∃ qt : Int, qt = q0 + (t : Nat) := ⟨_, rfl⟩
              rw [hxq, ← hqt] at r0
              have hqw : IntKind.i64.wrap (q0 + (t : Int)) = qt := by rw [IntKind.wrap_i64]; omega
              have hqq : (qt == qt) = true := by simp
              have hqn : (qt != qt) = false := by simp
              obtain ⟨nn, hnn⟩ : ∃ nn, nn = Nn t := ⟨_, rfl⟩
              obtain ⟨xA, hxA⟩ : ∃ xA, xA = x.A := ⟨_, rfl⟩
              obtain ⟨xc, hxc⟩ : ∃ xc, xc = x.c := ⟨_, rfl⟩
              obtain ⟨XA, hXA⟩ : ∃ xA, xA = X.A := ⟨_, rfl⟩
              obtain ⟨Xc, hXc⟩ : ∃ xc, xc = X.c := ⟨_, rfl⟩
              have r3' : w5.cell? (pad.add t) = some (.slice XA nn Xc) := by rw [r3, M.Sl.val, hXn, hnn, hXA, hXc]
              rw [← hnn, ← hxA, ← hxc] at r2
              have HC3 : Hid (∀ y, Below w5.heap.size w5 y → y.cell? (gad.add (t * 3)) = some (.int .i64 qt) ∧ y.cell? ⟨(gad.add (t * 3)).block, (gad.add (t * 3)).off + 2, none⟩ = some (.slice xA nn xc) ∧ y.cell? (pad.add t) = some (.slice XA nn Xc)) := fun y hb =>
                ⟨(hb.cell (World.block_lt_of_cell? _ _ r0)).trans r0, (hb.cell (World.block_lt_of_cell? _ _ r2)).trans r2, (hb.cell (World.block_lt_of_cell? _ _ r3')).trans r3'⟩
              have CS : Hid (∀ y, Below w5.heap.size w5 y → Calls Try.prog 12 #[.slice xA nn xc, .slice XA nn Xc] y fun e y' => e = .returned (.bool true) ∧ Below w5.heap.size w5 y') := fun y hb => by
                rw [hxA, hXA, hnn]
                exact (sectors11_any x.A X.A (Nn t) xc Xc (A t) (T t) y (HS1.out.below (Nat.le_refl _) hb) (HS2.out.below (Nat.le_refl _) hb) hN16).mono fun _ _ ⟨h1, h2⟩ => ⟨h1, hb.trans (h2.mono hb.size)⟩
              obtain ⟨c0, c1, c2⟩ := HC3.out wr HBW.out
              have HBd : Hid (Below w5.heap.size w5 wr.drew) := HBW.out.drew
              have HTM : Hid (t < m) := htm
              clear hx hxq hxs hX hXs hXn hXa hXt hrok g1 g2 g3 g4 g5 s2 s3 s4 s4' hXF hN16 r0 r2 r3 r3' hqt hnn hxA hxc hXA hXc ht htm
              go_wp2_with fail
              go_region_held3 (fun y => y.cell? (gad.add (t * 3)) = some (.int .i64 qt) ∧ y.cell? ⟨(gad.add (t * 3)).block, (gad.add (t * 3)).off + 2, none⟩ = some (.slice xA nn xc) ∧ y.cell? (pad.add t) = some (.slice XA nn Xc)) (first | exact ⟨c0, c1, c2⟩ | exact ⟨k0, k1, k2⟩) (first
                | (go_at_call 12
                   refine (CS.out _ HBd.out).mono ?_
                   rintro e w6 ⟨rfl, hb6⟩
                   obtain ⟨k0, k1, k2⟩ := HC3.out w6 hb6
                   have HB6 := Lib.hid hb6
                   clear hb6))
              go_wp2_with fail
              go_roundw
              case rel => exact ⟨t + 1, by have := HTM.out; omega, by go_num, by first | exact HB6 | exact Lib.hid HB6.out.drew⟩
              case measure => have := HTM.out; simp [intOf]; omega
            · have e : t = m := by omega
              subst e
              clear ht htm
              go_wp2_with fail
              go_ret
              exact ⟨rfl, HLG.out.below.trans (HBW.out.mono HLG.out.le)⟩
end Go.Proofs.Ytfdbfafpcbdbdaa
namespace Go.Proofs.Ytfdbfafpcbdbdaa
open Go.RowKit Go.ChangeShapes Go.WideShapes Go.ChangeAt Go.Deep

set_option maxRecDepth 100000 in
set_option maxHeartbeats 1000000 in
theorem order_no (mi : Int) (hmay : M.mayLog mi = false) (LA : Option Addr) (ll lc : Nat) (pi q0 : Int) (OA : Option Addr) (ol oc : Nat) (of_ : Nat → M.Lay) (w : World) (hO : LayF w OA ol of_) (hll : ll ≤ maxLen) (hol : ol ≤ maxLen) :
    Calls Try.prog 3 #[.int .i64 mi, .slice LA ll lc, .int .i64 pi, .int .i64 q0, .slice OA ol oc] w fun e w' => e = .returned (.bool true) ∧ Below w.heap.size w w' := by
  have HBO : Hid (∀ y, Below w.heap.size w y → Calls Try.prog 6 #[.int .i64 mi] y fun e y' => e = .returned (.tuple #[.pointer none, .pointer none, .pointer none, .pointer none]) ∧ Below w.heap.size w y') := fun y hb => by
    refine (both_any mi w y hb).mono ?_
    rintro e y' (⟨h, _⟩ | ⟨_, he, h⟩)
    · rw [hmay] at h; cases h
    · exact ⟨he, h⟩
  have HGR : Hid (∀ y, Below w.heap.size w y → _) := fun y hb => great12_any OA ol oc of_ w y hO hb hol
  have hll63 : (ll : Int) ≤ 9223372036854775807 := by unfold maxLen at hll; omega
  clear hO hmay hll hol
  go_enter Try.func3, Try.ntmps3
  go_wp2_with fail
  refine (works12_any w).mono ?_
  rintro e w1 ⟨rfl, h1⟩
  have HB1 := Lib.hid (HBO.out _ h1)
  clear h1 HBO
  go_wp2_with fail
  refine HB1.out.mono ?_
  rintro e w2 ⟨rfl, h2⟩
  have HB2 := Lib.hid h2
  have HG2 := Lib.hid (HGR.out _ h2)
  clear h2 HB1 HGR
  go_wp2_with fail
  refine HG2.out.mono ?_
  rintro e w3 (⟨rfl, rfl⟩ | ⟨rfl, rfl, _⟩)
  · go_wp2_with fail
    go_ret
    exact ⟨rfl, HB2.out⟩
  clear HG2
  by_cases h20 : (20 : Int) < (ll : Int)
  · go_wp2_with fail
    go_ret
    exact ⟨rfl, HB2.out⟩
  · go_wp2_with fail
    go_ret
    exact ⟨rfl, HB2.out⟩

set_option maxRecDepth 100000 in
theorem logscanOrder_open1 {H : Type} {enc : TypeId × Value → H} {W : World} {r : Reach} {b0 : Nat} {v : Value} {d : DataW H} {p : List MemPlace} (hval : Value.okWide Try.prog W r b0 22 v)
    (h : DataW.Trod enc Try.prog W 0 (fun _ => true) true 22 v d p) : ListsAt W v := lists_open hval h
set_option maxRecDepth 100000 in
theorem logscanOrder_open4 {H : Type} {enc : TypeId × Value → H} {W : World} {r : Reach} {b0 : Nat} {v : Value} {d : DataW H} {p : List MemPlace} (hval : Value.okWide Try.prog W r b0 23 v)
    (h : DataW.Trod enc Try.prog W 0 (fun _ => true) true 23 v d p) : LaysAt W v := lays_open hval h
theorem logscanOrder_walk (mi : Int) (_ : -9223372036854775808 ≤ mi) (m9 : mi ≤ 9223372036854775807) (v1 : Value) (pi : Int) (_ : -9223372036854775808 ≤ pi) (p9 : pi ≤ 9223372036854775807) (q0 : Int) (q1 : -9223372036854775808 ≤ q0) (q9 : q0 ≤ 9223372036854775807) (v4 : Value) (w : World) (h1 : ListsAt w v1) (h4 : LaysAt w v4) :
    Calls Try.prog 3 #[.int .i64 mi, v1, .int .i64 pi, .int .i64 q0, v4] w fun e w' => e = .returned (.bool true) ∧ Below w.heap.size w w' := by
  obtain ⟨LA, ll, lc, lf, rfl, hll, hL⟩ := ListF.of h1
  obtain ⟨OA, ol, oc, of_, rfl, hol, hO⟩ := LayF.of h4
  by_cases hm : M.mayLog mi = true
  · exact order_yes mi hm LA ll lc lf pi q0 OA ol oc of_ w hL hO hll hol p9 q1 q9 m9
  · exact order_no mi (by simpa using hm) LA ll lc pi q0 OA ol oc of_ w hO hll hol
end Go.Proofs.Ytfdbfafpcbdbdaa
namespace Go.Proofs.Ytfdbfafpcbdbdaa
open Go.ChangeShapes Go.WideShapes Go.ChangeAt Go.RowKit
open Go.ChangeMaps (open_string shut_string)

theorem ownLogscanOrder : ownKnob Try.prog.godebug = none := by kernel_rfl
theorem laidOutLogscanOrder : laidOutB Try.prog = true := by kernel_rfl

set_option maxRecDepth 100000 in
theorem logscanOrder_lifted (os : Os) (started : os.Started) (H : Type) (enc : TypeId × Value → H) :
    ReturnsInHanded {} Try.checked os 3 .any (Rows.logscanOrderSpec.pre6 enc Try.prog Try.f3 Rows.logscanOrderRow.domain false) (Rows.logscanOrderSpec.post enc Try.prog Try.f3 false true false false) := by
  refine returnsInHanded_of_change (C := Try.checked) ownLogscanOrder started (by kernel_rfl) Try.func3
    (ChangeSpec.witness6 (enc := enc) (C := Try.checked) false ⟨#[], #[.int .i64 0, .slice none 0 0, .int .i64 0, .int .i64 0, .slice none 0 0], []⟩ 8 (by kernel_rfl) (by kernel_rfl) (by kernel_rfl) (by kernel_rfl)) ?_
  intro W base args ds gs before hval0 hW _ _
  have hval : ∀ (j : Nat) t v, Try.f3.params[j]? = some t → args[j]? = some v → Value.okWide Try.prog W .any base t v := hval0
  have hW' := hW
  obtain ⟨p, q, hA0, hV, rfl, hfz, hnd⟩ := hW
  have hA : DataW.TrodAll enc Try.prog W 0 (fun _ => true) true Try.f3.params.toList args.toList ds p := hA0
  rw [Try.params3] at hA hval
  obtain ⟨v0, vs0, d0, ds0, p0, q0, hargs, rfl, rfl, h0, r0⟩ := trodAll_cons hA
  obtain ⟨v1, vs1, d1, ds1, p1, q1, rfl, rfl, rfl, h1, r1⟩ := trodAll_cons r0
  obtain ⟨v2, vs2, d2, ds2, p2, q2, rfl, rfl, rfl, h2, r2⟩ := trodAll_cons r1
  obtain ⟨v3, vs3, d3, ds3, p3, q3, rfl, rfl, rfl, h3, r3⟩ := trodAll_cons r2
  obtain ⟨v4, vs4, d4, ds4, p4, q4, rfl, rfl, rfl, h4, r4⟩ := trodAll_cons r3
  obtain ⟨rfl, rfl, rfl⟩ := trodAll_nil r4
  obtain rfl : args = #[v0, v1, v2, v3, v4] := by cases args; simp_all
  obtain ⟨rfl, rfl⟩ := trodVars_none hV
  obtain ⟨a0, rfl, rfl, rfl, wa0⟩ := open_int Try.underlying3 (hval 0 3 v0 rfl rfl) h0
  have bd0 := bounds_i64 wa0
  have k1 := h1
  have lt1 : ∀ x ∈ p1, x.block < W.heap.size := by obtain ⟨m, hm⟩ := k1; exact DataW.trod_lt m _ _ _ hm
  have m1 := logscanOrder_open1 (hval 1 22 v1 rfl rfl) h1
  obtain ⟨a2, rfl, rfl, rfl, wa2⟩ := open_int Try.underlying3 (hval 2 3 v2 rfl rfl) h2
  have bd2 := bounds_i64 wa2
  obtain ⟨a3, rfl, rfl, rfl, wa3⟩ := open_int Try.underlying3 (hval 3 3 v3 rfl rfl) h3
  have bd3 := bounds_i64 wa3
  have k4 := h4
  have lt4 : ∀ x ∈ p4, x.block < W.heap.size := by obtain ⟨m, hm⟩ := k4; exact DataW.trod_lt m _ _ _ hm
  have m4 := logscanOrder_open4 (hval 4 23 v4 rfl rfl) h4
  clear hA0 hval0
  refine (logscanOrder_walk a0 bd0.1 bd0.2 v1 a2 bd2.1 bd2.2 a3 bd3.1 bd3.2 v4 W m1 m4).mono fun e W' ⟨he, bel⟩ => ?_
  subst he
  exact ⟨_, rfl, _, _, _, [], _, [], hW', trodAll_mk1 (shut_bool Try.underlying4 _), (trodAll_cons_mk (shut_int Try.underlying3 wa0) (trodAll_cons_mk (Below.trod laidOutLogscanOrder (by kernel_rfl) (of_decide_eq_true (by kernel_rfl)) k1 bel lt1) (trodAll_cons_mk (shut_int Try.underlying3 wa2) (trodAll_cons_mk (shut_int Try.underlying3 wa3) (trodAll_cons_mk (Below.trod laidOutLogscanOrder (by kernel_rfl) (of_decide_eq_true (by kernel_rfl)) k4 bel lt4) trodAll_mk0))))), rfl, bel.frame _, fun h => by cases h⟩

theorem logscanOrder_said : Rows.LogscanOrderSaid :=
  OpenClaim.holds_of_wide 3 Try.f3 rfl rfl rfl rfl rfl rfl rfl ⟨rfl, rfl, rfl, rfl, rfl⟩ rfl rfl rfl rfl rfl (by kernel_rfl) Try.func3 (by kernel_rfl)
    (of_decide_eq_true (by kernel_rfl)) (by unfold Func.isWrapper; first | (rw [if_pos (by decide +kernel)]; kernel_rfl) | (rw [if_neg (by decide +kernel)]; exact ⟨rfl, rfl⟩))
    (fun os started H enc _ => logscanOrder_lifted os started H enc)
#print axioms logscanOrder_said
end Go.Proofs.Ytfdbfafpcbdbdaa
