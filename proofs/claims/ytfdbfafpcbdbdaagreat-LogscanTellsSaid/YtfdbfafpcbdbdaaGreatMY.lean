/-
  A walk over LogscanTells.
-/
import Derived.Test.YtfdbfafpcbdbdaaGreatMX
import Derived.Test.YtfdbfafpcbdbdaaGreatMP
import Derived.Test.YtfdbfafpcbdbdaaGreatML
import Derived.Deep.CutRange
namespace Go.Proofs.YtfdbfafpcbdbdaaGreat
open Go.RowKit Go.Deep

set_option maxRecDepth 100000 in
set_option maxHeartbeats 8000000 in
theorem tells_yes (mi : Int) (hmay : M.mayLog mi = true) (LA : Option Addr) (ll lc : Nat) (lf : Nat → M.Lay) (pi q0 fi : Int) (w : World) (hL : LayF w LA ll lf) (hll : ll ≤ maxLen) (hp1 : -9223372036854775808 ≤ pi) (hp9 : pi ≤ 9223372036854775807) (hq0 : -9223372036854775808 ≤ q0) (hq9 : q0 ≤ 9223372036854775807) :
    Calls Tryz.prog 3 #[.int .i64 mi, .slice LA ll lc, .int .i64 pi, .int .i64 q0, .int .i64 fi] w fun e w' => e = .returned (.bool true) ∧ Below w.heap.size w w' := by
  have hm1 : 1 ≤ mi ∧ mi ≤ 55 := by unfold M.mayLog at hmay; simp at hmay; exact hmay
  obtain ⟨mn, rfl⟩ : ∃ n : Nat, mi = n := ⟨mi.toNat, by omega⟩
  obtain ⟨N, hN⟩ : ∃ N, N = w.heap.size := ⟨_, rfl⟩
  have HBO : Hid (∀ y, Below N w y → Calls Tryz.prog 5 #[.int .i64 (mn : Nat)] y fun e y' => ∃ a b ra rb, e = .returned (.tuple #[.pointer (some ⟨a, 0, none⟩), .pointer (some ⟨ra, 0, none⟩), .pointer (some ⟨b, 0, none⟩), .pointer (some ⟨rb, 0, none⟩)]) ∧ Bo12 w y' N a b ra rb 5 mn (M.new 60) (M.newR 60)) := fun y hb => by
    rw [hN] at hb ⊢
    refine (both_any (mn : Nat) w y hb).mono ?_
    rintro e y' (⟨_, a, b, ra, rb, he, h⟩ | ⟨h, _⟩)
    · rw [Int.toNat_natCast] at h
      exact ⟨a, b, ra, rb, he, h⟩
    · rw [hmay] at h; cases h
  have HGR : Hid (∀ y, Below N w y → _) := fun y hb => great12_any LA ll lc lf w y hL (by rw [← hN]; exact hb) hll
  have HOF : Hid (∀ y, Below N w y → ∀ i, i < ll → _) := fun y hb i hi => hL.at_ (y := y) (N := N) (by omega) hb hi
  have HO9 : Hid (∀ i, i < ll → (lf i).at_ ≤ 9223372036854775807) := fun i hi => let ⟨_, _, _, _, _, h⟩ := hL i hi; h
  have HC0 : Hid (M.Cal (M.new 60) (M.newR 60) mn 0) := M.cal_new (by omega) (by omega)
  have hll63 : (ll : Int) ≤ 9223372036854775807 := by unfold maxLen at hll; omega
  have HNN := Lib.hid hN
  have HMN : Hid (1 ≤ mn ∧ mn ≤ 55) := ⟨by omega, by omega⟩
  have hmn1 : (1 : Int) ≤ (mn : Int) := by omega
  have hmn9 : (mn : Int) ≤ 55 := by omega
  have HQP : Hid ((-9223372036854775808 ≤ pi ∧ pi ≤ 9223372036854775807) ∧ -9223372036854775808 ≤ q0 ∧ q0 ≤ 9223372036854775807) := ⟨⟨hp1, hp9⟩, hq0, hq9⟩
  rw [← hN]
  clear hN hL hmay hm1 hll hp1 hp9 hq0 hq9
  go_enter Tryz.func3, Tryz.ntmps3
  go_wp2_with fail
  refine (works12_any w).mono ?_
  rintro e w1 ⟨rfl, h1⟩
  rw [← HNN.out] at h1
  have HB1 := Lib.hid (HBO.out _ h1)
  clear h1 HBO
  go_wp2_with fail
  refine HB1.out.mono ?_
  rintro e w2 ⟨a, b, ra, rb, rfl, hlg⟩
  have HL0 := Lib.hid hlg
  have HG2 := Lib.hid (HGR.out _ hlg.below)
  clear hlg HB1 HGR
  go_wp2_with fail
  refine HG2.out.mono ?_
  rintro e w3 (⟨rfl, rfl⟩ | ⟨rfl, rfl, hgr⟩)
  · go_wp2_with fail
    go_ret
    exact ⟨rfl, HL0.out.below⟩
  have HGB := Lib.hid hgr.out
  clear hgr HG2
  go_wp2_with fail
  go_loopw [15] (fun j wr => ∃ (k : Nat) (d : M.D) (r : M.R), k ≤ ll ∧ j = .int .i64 k ∧ Hid (Bo12 w wr N a b ra rb 5 mn d r) ∧ Hid (M.Cal d r mn k)) (fun j _ => ll - (intOf j).toNat)
  case atStart => exact ⟨0, M.new 60, M.newR 60, Nat.zero_le _, rfl, HL0, HC0⟩
  case round =>
    clear HL0 HC0
    obtain ⟨k, d, r, hk, rfl, HB, HCAL⟩ := hrel
    by_cases hlt : k < ll
    · have hk0 : (0 : Int) ≤ (k : Int) := by omega
      have hlt' : (k : Int) < (ll : Int) := by omega
      obtain ⟨ad, rfl, ⟨x0, x1, x2, x3⟩, hsl⟩ := HOF.out wr HB.out.below k hlt
      have HCW : Hid (∀ y, Below N w y → y.cell? (ad.add (k * 4)) = some (.int .i64 (lf k).at_) ∧ y.cell? ⟨(ad.add (k * 4)).block, (ad.add (k * 4)).off + 1, none⟩ = some (.int .i64 (lf k).q) ∧ y.cell? ⟨(ad.add (k * 4)).block, (ad.add (k * 4)).off + 2, none⟩ = some (.string (lf k).s) ∧ y.cell? ⟨(ad.add (k * 4)).block, (ad.add (k * 4)).off + 3, none⟩ = some (lf k).l.val) := fun y hb => by
        obtain ⟨ad', e, z, _⟩ := HOF.out y hb k hlt
        injection e with e
        rw [e]
        exact z
      have HSL : Hid (∀ y, Below N w y → SlAt y (lf k).l) := fun y hb => let ⟨_, _, _, h⟩ := HOF.out y hb k hlt; h
      have HLA := Lib.hid (HO9.out k hlt)
      have hsz := (HGB.out.2 k hlt).1
      obtain ⟨la, hla⟩ : ∃ la, la = (lf k).at_ := ⟨_, rfl⟩
      obtain ⟨lq, hlq⟩ : ∃ lq, lq = (lf k).q := ⟨_, rfl⟩
      obtain ⟨ls, hls⟩ : ∃ ls, ls = (lf k).s := ⟨_, rfl⟩
      obtain ⟨X, hX⟩ : ∃ X, X = (lf k).l := ⟨_, rfl⟩
      rw [← hla] at x0 HCW HLA
      rw [← hlq] at x1 HCW
      rw [← hls] at x2 HCW hsz
      rw [← hX] at x3 HCW HSL
      obtain ⟨XA, Xn, Xc, Xa, Xt⟩ := X
      change wr.cell? _ = some (.slice XA Xn Xc) at x3
      change Hid (∀ y, Below N w y → y.cell? (ad.add (k * 4)) = some (.int .i64 la) ∧ y.cell? ⟨(ad.add (k * 4)).block, (ad.add (k * 4)).off + 1, none⟩ = some (.int .i64 lq) ∧ y.cell? ⟨(ad.add (k * 4)).block, (ad.add (k * 4)).off + 2, none⟩ = some (.string ls) ∧ y.cell? ⟨(ad.add (k * 4)).block, (ad.add (k * 4)).off + 3, none⟩ = some (.slice XA Xn Xc)) at HCW
      have hXn9 : (Xn : Int) ≤ 9223372036854775807 := by have := HSL.out wr HB.out.below; have := this.1; have := (HSL.out wr HB.out.below).2.1; unfold maxLen at this; simp only at *; omega
      have HPT : Hid (∀ y, Bo12 w y N a b ra rb 5 mn d r → Calls Tryz.prog 7 #[.int .i64 lq, .slice XA Xn Xc] y fun e y' => e = .returned (.tuple #[.string (M.rS Xa Xt lq Xn), .int .i64 (M.rE Xa Xt lq Xn)]) ∧ Bo12 w y' N a b ra rb 5 mn d r) := fun y h => by
        have hs := HSL.out y h.below
        exact (put11_any XA Xn Xc Xa Xt lq y hs.2.2 hs.1 hs.2.1).mono fun _ _ ⟨h1, h2⟩ => ⟨h1, h.keep h2⟩
      have HKL : Hid (k < ll ∧ ll ≤ 30) := ⟨hlt, HGB.out.1⟩
      clear hla hlq hls hX hsl hlt hk HSL HOF HO9
      by_cases hX0 : 0 < Xn
      · have hX1 : (0 : Int) < (Xn : Int) := by omega
        by_cases hr : M.rE Xa Xt lq Xn = 0
        · have hSz := M.rS_size Xa Xt hr
          obtain ⟨_, hrn, _⟩ := M.rE_ok Xa Xt hr
          rw [hr] at HPT
          obtain ⟨sb, hsb⟩ : ∃ sb, sb = M.rS Xa Xt lq Xn := ⟨_, rfl⟩
          rw [← hsb] at hSz HPT
          have HSB : Hid (sb.size ≤ 1000000) := by show sb.size ≤ _; omega
          clear hsb hSz hrn hr hsz
          as_aux_lemma =>
            go_wp2_with fail
            go_region_held3 (fun y => y.cell? ⟨(ad.add (k * 4)).block, (ad.add (k * 4)).off + 1, none⟩ = some (.int .i64 lq) ∧ y.cell? ⟨(ad.add (k * 4)).block, (ad.add (k * 4)).off + 3, none⟩ = some (.slice XA Xn Xc)) (first | exact ⟨x1, x3⟩ | exact ⟨y1, y3⟩) (first
              | (go_at_call 7
                 refine (HPT.out _ (by first | exact HB.out | exact HB.out.drewN 1)).mono ?_
                 rintro e w4 ⟨rfl, h4⟩
                 obtain ⟨-, y1, -, y3⟩ := HCW.out w4 h4.below
                 have HBz := Lib.hid h4
                 clear h4))
            clear x0 x1 x2 x3
            go_wp2_with fail
            have HP1 : Hid (∀ y, Bo12 w y N a b ra rb 5 mn d r → Calls Tryz.prog 8 #[.pointer (some ⟨ra, 0, none⟩), .int .i64 la, .string sb] y fun e y' => e = .returned (.int .i64 (M.lput d 5 mn la sb).1) ∧ Bo12 w y' N a b ra rb 5 mn (M.lput d 5 mn la sb).2 r) := fun y h => h.put la sb HSB.out HMN.out.2 HLA.out (by have := HCAL.out.ops; have := HKL.out; omega)
            have HP2 : Hid (∀ y, Bo12 w y N a b ra rb 5 mn (M.lput d 5 mn la sb).2 r → Calls Tryz.prog 9 #[.pointer (some ⟨rb, 0, none⟩), .int .i64 la, .string sb] y fun e y' => e = .returned (.int .i64 (M.lput d 5 mn la sb).1) ∧ Bo12 w y' N a b ra rb 5 mn (M.lput d 5 mn la sb).2 (M.rlput r 5 mn la sb).2) := fun y h => by
              have h0 := h.rput la sb HSB.out HMN.out.2 HLA.out (by rw [HCAL.out.same.ops]; have := HCAL.out.ops; have := HKL.out; omega)
              rw [(HCAL.out.put HMN.out.2 la sb).1] at h0
              exact h0
            have HC2 : Hid (M.Cal (M.lput d 5 mn la sb).2 (M.rlput r 5 mn la sb).2 mn (k + 1)) := (HCAL.out.put HMN.out.2 la sb).2
            obtain ⟨pe, hpe⟩ : ∃ pe, pe = (M.lput d 5 mn la sb).1 := ⟨_, rfl⟩
            obtain ⟨d2, hd2⟩ : ∃ d2, d2 = (M.lput d 5 mn la sb).2 := ⟨_, rfl⟩
            obtain ⟨r2, hr2⟩ : ∃ r2, r2 = (M.rlput r 5 mn la sb).2 := ⟨_, rfl⟩
            rw [← hpe, ← hd2] at HP1
            rw [← hpe, ← hd2, ← hr2] at HP2
            rw [← hd2, ← hr2] at HC2
            have hpn : (pe != pe) = false := by simp
            have hpp : (pe == pe) = true := by simp
            clear hpe hd2 hr2 HCAL HSB HLA
            obtain ⟨z0, -, -, -⟩ := HCW.out w4 HBz.out.below
            go_region_held3 (fun y => y.cell? (ad.add (k * 4)) = some (.int .i64 la)) (first | exact z0 | exact y0 | exact v0) (first
              | (go_at_call 8
                 refine (HP1.out _ (by first | exact HBz.out | exact HBz.out.drewN 1 | exact (HBz.out.drewN 1).drewN 1)).mono ?_
                 rintro e w5 ⟨rfl, h5⟩
                 obtain ⟨y0, -, -, -⟩ := HCW.out w5 h5.below
                 have H5 := Lib.hid h5
                 clear h5)
              | (go_at_call 9
                 refine (HP2.out _ (by first | exact H5.out | exact H5.out.drewN 1 | exact (H5.out.drewN 1).drewN 1)).mono ?_
                 rintro e w6 ⟨rfl, h6⟩
                 obtain ⟨v0, -, -, -⟩ := HCW.out w6 h6.below
                 have H6 := Lib.hid h6
                 clear h6))
            go_wp2_with fail
            go_roundw
            case rel => exact ⟨k + 1, d2, r2, by have := HKL.out; omega, by go_num, by first | exact H6 | exact Lib.hid (H6.out.drewN 1), HC2⟩
            case measure => have := HKL.out; simp [intOf]; omega
        · obtain ⟨E, hE⟩ : ∃ E, E = M.rE Xa Xt lq Xn := ⟨_, rfl⟩
          rw [← hE] at hr HPT
          obtain ⟨st, hst⟩ : ∃ sb, sb = M.rS Xa Xt lq Xn := ⟨_, rfl⟩
          rw [← hst] at HPT
          obtain ⟨sb, hsb⟩ : ∃ sb, sb = ls := ⟨_, rfl⟩
          rw [← hsb] at x2 HCW hsz
          have HSB : Hid (sb.size ≤ 1000000) := by show sb.size ≤ _; omega
          have hE1 : (E == 0) = false := by rw [beq_eq_false_iff_ne]; exact hr
          clear hsb hE hst hsz
          as_aux_lemma =>
            go_wp2_with fail
            go_region_held3 (fun y => y.cell? ⟨(ad.add (k * 4)).block, (ad.add (k * 4)).off + 1, none⟩ = some (.int .i64 lq) ∧ y.cell? ⟨(ad.add (k * 4)).block, (ad.add (k * 4)).off + 3, none⟩ = some (.slice XA Xn Xc)) (first | exact ⟨x1, x3⟩ | exact ⟨y1, y3⟩) (first
              | (go_at_call 7
                 refine (HPT.out _ (by first | exact HB.out | exact HB.out.drewN 1)).mono ?_
                 rintro e w4 ⟨rfl, h4⟩
                 obtain ⟨-, y1, -, y3⟩ := HCW.out w4 h4.below
                 have HBz := Lib.hid h4
                 clear h4))
            clear x0 x1 x2 x3
            go_wp2_with fail
            have HP1 : Hid (∀ y, Bo12 w y N a b ra rb 5 mn d r → Calls Tryz.prog 8 #[.pointer (some ⟨ra, 0, none⟩), .int .i64 la, .string sb] y fun e y' => e = .returned (.int .i64 (M.lput d 5 mn la sb).1) ∧ Bo12 w y' N a b ra rb 5 mn (M.lput d 5 mn la sb).2 r) := fun y h => h.put la sb HSB.out HMN.out.2 HLA.out (by have := HCAL.out.ops; have := HKL.out; omega)
            have HP2 : Hid (∀ y, Bo12 w y N a b ra rb 5 mn (M.lput d 5 mn la sb).2 r → Calls Tryz.prog 9 #[.pointer (some ⟨rb, 0, none⟩), .int .i64 la, .string sb] y fun e y' => e = .returned (.int .i64 (M.lput d 5 mn la sb).1) ∧ Bo12 w y' N a b ra rb 5 mn (M.lput d 5 mn la sb).2 (M.rlput r 5 mn la sb).2) := fun y h => by
              have h0 := h.rput la sb HSB.out HMN.out.2 HLA.out (by rw [HCAL.out.same.ops]; have := HCAL.out.ops; have := HKL.out; omega)
              rw [(HCAL.out.put HMN.out.2 la sb).1] at h0
              exact h0
            have HC2 : Hid (M.Cal (M.lput d 5 mn la sb).2 (M.rlput r 5 mn la sb).2 mn (k + 1)) := (HCAL.out.put HMN.out.2 la sb).2
            obtain ⟨pe, hpe⟩ : ∃ pe, pe = (M.lput d 5 mn la sb).1 := ⟨_, rfl⟩
            obtain ⟨d2, hd2⟩ : ∃ d2, d2 = (M.lput d 5 mn la sb).2 := ⟨_, rfl⟩
            obtain ⟨r2, hr2⟩ : ∃ r2, r2 = (M.rlput r 5 mn la sb).2 := ⟨_, rfl⟩
            rw [← hpe, ← hd2] at HP1
            rw [← hpe, ← hd2, ← hr2] at HP2
            rw [← hd2, ← hr2] at HC2
            have hpn : (pe != pe) = false := by simp
            have hpp : (pe == pe) = true := by simp
            clear hpe hd2 hr2 HCAL HSB HLA
            obtain ⟨z0, -, -, -⟩ := HCW.out w4 HBz.out.below
            go_region_held3 (fun y => y.cell? (ad.add (k * 4)) = some (.int .i64 la)) (first | exact z0 | exact y0 | exact v0) (first
              | (go_at_call 8
                 refine (HP1.out _ (by first | exact HBz.out | exact HBz.out.drewN 1 | exact (HBz.out.drewN 1).drewN 1)).mono ?_
                 rintro e w5 ⟨rfl, h5⟩
                 obtain ⟨y0, -, -, -⟩ := HCW.out w5 h5.below
                 have H5 := Lib.hid h5
                 clear h5)
              | (go_at_call 9
                 refine (HP2.out _ (by first | exact H5.out | exact H5.out.drewN 1 | exact (H5.out.drewN 1).drewN 1)).mono ?_
                 rintro e w6 ⟨rfl, h6⟩
                 obtain ⟨v0, -, -, -⟩ := HCW.out w6 h6.below
                 have H6 := Lib.hid h6
                 clear h6))
            go_wp2_with fail
            go_roundw
            case rel => exact ⟨k + 1, d2, r2, by have := HKL.out; omega, by go_num, by first | exact H6 | exact Lib.hid (H6.out.drewN 1), HC2⟩
            case measure => have := HKL.out; simp [intOf]; omega
      · have hX1 : ¬ (0 : Int) < (Xn : Int) := by omega
        obtain ⟨sb, hsb⟩ : ∃ sb, sb = ls := ⟨_, rfl⟩
        rw [← hsb] at x2 HCW hsz
        have HSB : Hid (sb.size ≤ 1000000) := by show sb.size ≤ _; omega
        have HBz := HB
        clear hsb hsz HPT
        as_aux_lemma =>
            go_wp2_with fail
            clear x0 x1 x2 x3
            have HP1 : Hid (∀ y, Bo12 w y N a b ra rb 5 mn d r → Calls Tryz.prog 8 #[.pointer (some ⟨ra, 0, none⟩), .int .i64 la, .string sb] y fun e y' => e = .returned (.int .i64 (M.lput d 5 mn la sb).1) ∧ Bo12 w y' N a b ra rb 5 mn (M.lput d 5 mn la sb).2 r) := fun y h => h.put la sb HSB.out HMN.out.2 HLA.out (by have := HCAL.out.ops; have := HKL.out; omega)
            have HP2 : Hid (∀ y, Bo12 w y N a b ra rb 5 mn (M.lput d 5 mn la sb).2 r → Calls Tryz.prog 9 #[.pointer (some ⟨rb, 0, none⟩), .int .i64 la, .string sb] y fun e y' => e = .returned (.int .i64 (M.lput d 5 mn la sb).1) ∧ Bo12 w y' N a b ra rb 5 mn (M.lput d 5 mn la sb).2 (M.rlput r 5 mn la sb).2) := fun y h => by
              have h0 := h.rput la sb HSB.out HMN.out.2 HLA.out (by rw [HCAL.out.same.ops]; have := HCAL.out.ops; have := HKL.out; omega)
              rw [(HCAL.out.put HMN.out.2 la sb).1] at h0
              exact h0
            have HC2 : Hid (M.Cal (M.lput d 5 mn la sb).2 (M.rlput r 5 mn la sb).2 mn (k + 1)) := (HCAL.out.put HMN.out.2 la sb).2
            obtain ⟨pe, hpe⟩ : ∃ pe, pe = (M.lput d 5 mn la sb).1 := ⟨_, rfl⟩
            obtain ⟨d2, hd2⟩ : ∃ d2, d2 = (M.lput d 5 mn la sb).2 := ⟨_, rfl⟩
            obtain ⟨r2, hr2⟩ : ∃ r2, r2 = (M.rlput r 5 mn la sb).2 := ⟨_, rfl⟩
            rw [← hpe, ← hd2] at HP1
            rw [← hpe, ← hd2, ← hr2] at HP2
            rw [← hd2, ← hr2] at HC2
            have hpn : (pe != pe) = false := by simp
            have hpp : (pe == pe) = true := by simp
            clear hpe hd2 hr2 HCAL HSB HLA
            obtain ⟨z0, -, -, -⟩ := HCW.out wr HBz.out.below
            go_region_held3 (fun y => y.cell? (ad.add (k * 4)) = some (.int .i64 la)) (first | exact z0 | exact y0 | exact v0) (first
              | (go_at_call 8
                 refine (HP1.out _ (by first | exact HBz.out | exact HBz.out.drewN 1 | exact (HBz.out.drewN 1).drewN 1)).mono ?_
                 rintro e w5 ⟨rfl, h5⟩
                 obtain ⟨y0, -, -, -⟩ := HCW.out w5 h5.below
                 have H5 := Lib.hid h5
                 clear h5)
              | (go_at_call 9
                 refine (HP2.out _ (by first | exact H5.out | exact H5.out.drewN 1 | exact (H5.out.drewN 1).drewN 1)).mono ?_
                 rintro e w6 ⟨rfl, h6⟩
                 obtain ⟨v0, -, -, -⟩ := HCW.out w6 h6.below
                 have H6 := Lib.hid h6
                 clear h6))
            go_wp2_with fail
            go_roundw
            case rel => exact ⟨k + 1, d2, r2, by have := HKL.out; omega, by go_num, by first | exact H6 | exact Lib.hid (H6.out.drewN 1), HC2⟩
            case measure => have := HKL.out; simp [intOf]; omega
    · have e : k = ll := by omega
      subst e
      have HKL : Hid (k ≤ 30) := HGB.out.1
      clear hlt hk HOF HO9 HGB
      obtain ⟨FB, hFB⟩ : ∃ FB : Bool, FB = (decide (0 ≤ fi) && decide (fi < 1000)) := ⟨_, rfl⟩
      have HFT : Hid (0 ≤ fi → fi < 1000 → FB = true) := fun h0 h9 => by rw [hFB]; simp [h0, h9]
      have HF0 : Hid (¬ 0 ≤ fi → FB = false) := fun h0 => by rw [hFB]; simp [h0]
      have HF9 : Hid (¬ fi < 1000 → FB = false) := fun h0 => by rw [hFB]; simp [h0]
      have HFX : Hid (FB = true → 0 ≤ fi ∧ fi < 1000) := fun h0 => by rw [hFB] at h0; simpa using h0
      clear hFB
      go_upto_region 16 with fail
      go_cut [105] from 100 to 104 (fun c wx => c = .bool FB ∧ wx = wr)
      case first =>
        by_cases h0 : 0 ≤ fi
        · by_cases h9 : fi < 1000
          · have hF := HFT.out h0 h9
            go_wp2_with fail
            go_meet
            exact ⟨by rw [hF], rfl⟩
          · have hF := HF9.out h9
            go_wp2_with fail
            go_meet
            exact ⟨by rw [hF], rfl⟩
        · have hF := HF0.out h0
          go_wp2_with fail
          go_meet
          exact ⟨by rw [hF], rfl⟩
      obtain ⟨rfl, hw⟩ := hcut
      have hw' := hw.symm
      clear hw
      subst hw'
      clear HFT HF0 HF9
      go_upto_if 105 with fail
      go_cut [] from 106 to 119 (fun wx => ∃ (d1 : M.D) (r1 : M.R), Hid (Bo12 w wx N a b ra rb 5 mn d1 r1) ∧ Hid (M.Fal d1 r1 mn (1 ≤ fi) 1650))
      case first =>
        have HNO : Hid (M.Fal d r mn (1 ≤ fi) 1650) := HCAL.out.fal HKL.out _
        cases FB with
        | true =>
            obtain ⟨h0, h9⟩ := HFX.out rfl
            obtain ⟨os, hos⟩ : ∃ os, os = d.ops := ⟨_, rfl⟩
            have hos9 : (os : Int) ≤ 1650 := by have := HCAL.out.ops; have := HKL.out; omega
            have COP : Hid (Calls Tryz.prog 11 #[.pointer (some ⟨a, 0, none⟩)] wr fun e y' => e = .returned (.int .i64 (os : Nat)) ∧ y' = wr) := by
              rw [hos]; exact tops HB.out.two
            have CFA : Hid (Calls Tryz.prog 10 #[.pointer (some ⟨a, 0, none⟩), .int .i64 ((os : Nat) + fi)] wr fun e y' => e = .returned (.tuple #[]) ∧ Bo12 w y' N a b ra rb 5 mn (M.failD d ((os : Nat) + fi)) r) := HB.out.fail _
            have CRF : Hid (∀ y, Bo12 w y N a b ra rb 5 mn (M.failD d ((os : Nat) + fi)) r → Calls Tryz.prog 12 #[.pointer (some ⟨b, 0, none⟩), .int .i64 ((os : Nat) + fi)] y fun e y' => e = .returned (.tuple #[]) ∧ Bo12 w y' N a b ra rb 5 mn (M.failD d ((os : Nat) + fi)) (M.rfailR r ((os : Nat) + fi))) := fun y h => h.rfail _
            have HRO : Hid (∀ y, Bo12 w y N a b ra rb 5 mn (M.failD d ((os : Nat) + fi)) r → y.cell? ⟨b, 3, none⟩ = some (.int .i64 (os : Nat))) := fun y h => by have := h.rops; rw [HCAL.out.same.ops, ← hos] at this; exact this
            have HYE : Hid (M.Fal (M.failD d ((os : Nat) + fi)) (M.rfailR r ((os : Nat) + fi)) mn (1 ≤ fi) 1650) := by have := HCAL.out.fail HKL.out fi; rw [← hos] at this; exact this
            obtain ⟨d2, hd2⟩ : ∃ d2, d2 = M.failD d ((os : Nat) + fi) := ⟨_, rfl⟩
            obtain ⟨r2, hr2⟩ : ∃ r2, r2 = M.rfailR r ((os : Nat) + fi) := ⟨_, rfl⟩
            rw [← hd2] at CFA CRF HRO HYE
            rw [← hr2] at CRF HYE
            clear hd2 hr2 hos HCAL HNO
            go_wp2_with fail
            refine COP.out.mono ?_
            rintro e y1 ⟨rfl, rfl⟩
            go_wp2_with fail
            refine CFA.out.mono ?_
            rintro e y2 ⟨rfl, h2⟩
            have q3 := HRO.out _ h2
            have H2 := Lib.hid h2
            clear h2 COP CFA HB
            go_wp2_with fail
            refine (CRF.out _ H2.out).mono ?_
            rintro e y3 ⟨rfl, h3⟩
            have H3 := Lib.hid h3
            clear h3 CRF
            go_wp2_with fail
            go_meet
            exact ⟨d2, r2, H3, HYE⟩
        | false =>
            clear HCAL
            go_wp2_with fail
            go_meet
            exact ⟨d, r, HB, HNO⟩
      case rest =>
        clear HB HCAL
        obtain ⟨d1, r1, HB, HFL⟩ := hcut
        by_cases hin : 0 ≤ pi ∧ pi < (mn : Int)
        · obtain ⟨p0, rfl⟩ : ∃ n : Nat, pi = n := ⟨pi.toNat, by omega⟩
          have hp55 : (p0 : Int) ≤ 55 := by omega
          obtain ⟨E1, E2, E3, u1, u2, n1, n2, n3, S0, S1, S2, S3, S4, S5, T1, R1, R2, T3, c0, c1, c2, c3, c4, c5, c6, c7, c8, g1, g2, g3, g10, g4, g5, g6, g7, g9⟩ := tells_calls HB.out HFL.out HMN.out.1 HMN.out.2 p0 (by omega) q0 HQP.out.2.1 HQP.out.2.2
          have C0 := Lib.hid c0
          have C1 := Lib.hid c1
          have C2 := Lib.hid c2
          have C3 := Lib.hid c3
          have C4 := Lib.hid c4
          have C5 := Lib.hid c5
          have C6 := Lib.hid c6
          have C7 := Lib.hid c7
          have C8 := Lib.hid c8
          have G5 := Lib.hid g5
          have G6 := Lib.hid g6
          have G7 := Lib.hid g7
          have G3 : Hid (n2 ≤ 55) := g3
          have hu1 : (u1 : Int) ≤ 55 := by omega
          have hu2 : (u2 : Int) ≤ 55 := by omega
          have hn1 : (n1 : Int) ≤ 55 := by omega
          have hn2 : (n2 : Int) ≤ 55 := by omega
          have he1 : (E1 != E1) = false := by simp
          have he11 : (E1 == E1) = true := by simp
          have hnn1 : ((n1 : Int) == (n1 : Int)) = true := by simp
          have hnn2 : ((n1 : Int) != (n1 : Int)) = false := by simp
          obtain ⟨nq, hnq⟩ : ∃ nq : Int, nq = q0 + (n2 : Nat) := ⟨_, rfl⟩
          obtain ⟨pu, hpu⟩ : ∃ pu, pu = p0 + u2 := ⟨_, rfl⟩
          obtain ⟨pp, hpp⟩ : ∃ pp, pp = pu % mn := ⟨_, rfl⟩
          have s1 : (p0 : Int) + (u2 : Int) = (pu : Int) := by omega
          have s2 : (pu : Int).tmod (mn : Int) = (pp : Int) := by
            rw [Int.tmod_eq_emod_of_nonneg (by omega), hpp]
            exact (Int.natCast_emod _ _).symm
          have s3 : (pu : Int) ≤ 110 := by omega
          have s4 : q0 + (n2 : Int) = nq := hnq.symm
          have s5 : -9223372036854775808 ≤ nq ∧ nq ≤ 9223372036854775807 := by have := HQP.out; omega
          obtain ⟨s5, s6⟩ := s5
          have s7 : (pp : Int) ≤ 55 := by have := Nat.mod_lt pu (show mn > 0 by omega); omega
          have hm00 : ((mn : Int) == 0) = false := by rw [beq_eq_false_iff_ne]; omega
          have hm1 : ¬ (mn : Int) = 0 := by omega
          have hm2 : ¬ mn = 0 := by omega
          have hpp1 : ((pp : Int) == (pp : Int)) = true := by simp
          have hnq1 : (nq == nq) = true := by simp
          have hu22 : ((u2 : Int) == (u2 : Int)) = true := by simp
          rw [← hpu, ← hpp, ← hnq] at C4
          clear c0 c1 c2 c3 c4 c5 c6 c7 c8 g1 g2 g3 g4 g5 g6 g7 g9 g10 hpu hpp hnq HB HFL
          go_wp2_with fail
          refine (C1.out _ C0.out).mono ?_
          rintro e w1 ⟨A1, k1, rfl, a1, a2⟩
          have X1 := Lib.hid a1
          have X2 := Lib.hid a2
          clear a1 a2 C0 C1
          go_wp2_with fail
          refine (C2.out _ _ X1.out X2.out).mono ?_
          rintro e w4 ⟨A2, k2, rfl, a1, a2, a3⟩
          have X3 := Lib.hid a1
          have X4 := Lib.hid a2
          have X5 := Lib.hid a3
          clear a1 a2 a3 C2 X1 X2
          go_wp2_with fail
          refine (C3.out _ _ _ X3.out X4.out X5.out).mono ?_
          rintro e w5 ⟨rfl, a1⟩
          have X6 := Lib.hid a1
          clear a1 C3 X3 X4 X5
          go_wp2_with fail
          rcases zero_or E2 with rfl | hE2
          · have hu12 : (u1 : Int) ≤ (u2 : Int) := by have := G5.out (by first | rfl | trivial); omega
            have hu12' : decide (u1 ≤ u2) = true := by simp; omega
            refine (C4.out _ X6.out).mono ?_
            rintro e w6 ⟨he, a1⟩
            rw [if_pos rfl] at he
            subst he
            have X7 := Lib.hid a1
            clear a1 C4 X6
            go_wp2_with fail
            refine (C5.out _ X7.out).mono ?_
            rintro e w7 ⟨A3, k3, rfl, a1, a2⟩
            have X8 := Lib.hid a1
            have X9 := Lib.hid a2
            clear a1 a2 C5 X7
            go_wp2_with fail
            refine (C6.out _ _ X8.out X9.out).mono ?_
            rintro e w8 ⟨A4, k4, rfl, a1, a2, a3⟩
            have X10 := Lib.hid a1
            have X11 := Lib.hid a2
            have X12 := Lib.hid a3
            clear a1 a2 a3 C6 X8 X9
            rcases G7.out with rfl | ⟨rfl, hf1⟩
            · have hn3 := G6.out (by first | rfl | trivial) (by first | rfl | trivial)
              clear G5 G6 G7
              have hmn2 : (if (n2 : Int) < 2 then (n2 : Int) else 2) = ((n3 : Nat) : Int) := by
                split <;> omega
              have hnn3 : ((n3 : Int) == (n3 : Int)) = true := by simp
              clear hn3
              skip
              go_wp2_with fail
              refine (C7.out (by first | rfl | trivial) _ _ _ X10.out X12.out X11.out).mono ?_
              rintro e w9 ⟨rfl, a1⟩
              have X13 := Lib.hid (C8.out _ a1)
              go_wp2_with fail
              go_ret
              exact ⟨rfl, X13.out⟩
            · have hf2 : ¬ fi < 1 := by omega
              clear G5 G6 G7
              go_wp2_with fail
              refine (C7.out (by first | rfl | trivial) _ _ _ X10.out X12.out X11.out).mono ?_
              rintro e w9 ⟨rfl, a1⟩
              have X13 := Lib.hid (C8.out _ a1)
              go_wp2_with fail
              go_ret
              exact ⟨rfl, X13.out⟩
          · have hE20 : E2 ≠ 0 := by simpa using hE2
            have hE21 : (E2 != 0) = true := by simpa using hE20
            have hE22 : (E2 == E2) = true := by simp
            refine (C4.out _ X6.out).mono ?_
            rintro e w6 ⟨he, a1⟩
            rw [if_neg hE20] at he
            subst he
            have X7 := Lib.hid a1
            clear a1 C4 X6
            go_wp2_with fail
            refine (C5.out _ X7.out).mono ?_
            rintro e w7 ⟨A3, k3, rfl, a1, a2⟩
            have X8 := Lib.hid a1
            have X9 := Lib.hid a2
            clear a1 a2 C5 X7
            go_wp2_with fail
            refine (C6.out _ _ X8.out X9.out).mono ?_
            rintro e w8 ⟨A4, k4, rfl, a1, a2, a3⟩
            have X13 := Lib.hid (C8.out _ a1)
            clear a1 a2 a3 C6 X8 X9
            go_wp2_with fail
            go_ret
            exact ⟨rfl, X13.out⟩
        · have hnp : pi < 0 ∨ (mn : Int) ≤ pi := by omega
          have hno : M.within pi 1 (mn : Nat) = false := by unfold M.within; simp; omega
          have HRG : Hid (∀ y, Below wc.heap.size wc y → Reg y ra a 5 mn) := fun y hb => HB.out.reg.kept (Kept.of_below hb (fun _ => False)) id
          have HRR : Hid (∀ y, Below wc.heap.size wc y → RReg y rb b 5 mn) := fun y hb => HB.out.rreg.kept (Kept.of_below hb (fun _ => False)) id
          have CT : Hid (∀ (m : Int) y, Below wc.heap.size wc y → Calls Tryz.prog 13 #[.pointer (some ⟨ra, 0, none⟩), .int .i64 pi, .int .i64 q0, .int .i64 m] y fun e y' => e = .returned (.tuple #[.slice none 0 0, .int .i64 3]) ∧ Below wc.heap.size wc y') := fun m y hb =>
            (told_no (some ⟨ra, 0, none⟩) pi q0 m y 3 (by decide) (fun z hz => place_no pi z (HRG.out z (hb.trans (hz.mono hb.size))) HQP.out.1.2 (by have := HMN.out; omega) hno)).mono fun _ _ ⟨e1, e2⟩ => ⟨e1, hb.trans (e2.mono hb.size)⟩
          have CE : Hid (∀ y, Below wc.heap.size wc y → Calls Tryz.prog 16 #[.pointer (some ⟨ra, 0, none⟩), .int .i64 pi, .int .i64 q0] y fun e y' => e = .returned (.tuple #[.int .i64 0, .int .i64 0, .int .i64 0, .int .i64 3]) ∧ Below wc.heap.size wc y') := fun y hb =>
            (end_no (some ⟨ra, 0, none⟩) pi q0 y 3 (by decide) (fun z hz => place_no pi z (HRG.out z (hb.trans (hz.mono hb.size))) HQP.out.1.2 (by have := HMN.out; omega) hno)).mono fun _ _ ⟨e1, e2⟩ => ⟨e1, hb.trans (e2.mono hb.size)⟩
          have CA : Hid (∀ y, Below wc.heap.size wc y → Calls Tryz.prog 14 #[.pointer (some ⟨rb, 0, none⟩), .int .i64 pi, .int .i64 q0] y fun e y' => e = .returned (.tuple #[.slice none 0 0, .int .i64 0, .int .i64 3]) ∧ Below wc.heap.size wc y') := fun y hb =>
            (all_no pi q0 y (HRR.out y hb) hnp).mono fun _ _ ⟨e1, e2⟩ => ⟨e1, e2 ▸ hb⟩
          have CS : Hid (∀ y, Below wc.heap.size wc y → Calls Tryz.prog 15 #[.slice none 0 0, .slice none 0 0] y fun e y' => e = .returned (.bool true) ∧ Below wc.heap.size wc y') := fun y hb =>
            (same12_any (t := []) y (RecsAt.nil 0 y) (RRecsAt.nil 0 y) rfl (by decide)).mono fun _ _ ⟨e1, e2⟩ => ⟨e1, hb.trans (e2.mono hb.size)⟩
          have HW : Hid (∀ y, Below wc.heap.size wc y → Below N w y) := fun y hb => HB.out.below.trans (hb.mono HB.out.le)
          have HR0 : Hid (Below wc.heap.size wc wc) := Below.refl _ _
          clear hin hnp hno HB HFL HRG HRR
          go_wp2_with fail
          refine (CT.out _ _ HR0.out).mono ?_
          rintro e w1 ⟨rfl, a1⟩
          have X1 := Lib.hid a1
          clear a1
          go_wp2_with fail
          refine (CA.out _ X1.out).mono ?_
          rintro e w4 ⟨rfl, a1⟩
          have X2 := Lib.hid a1
          clear a1 X1
          go_wp2_with fail
          refine (CS.out _ X2.out).mono ?_
          rintro e w5 ⟨rfl, a1⟩
          have X3 := Lib.hid a1
          clear a1 X2
          go_wp2_with fail
          refine (CE.out _ X3.out).mono ?_
          rintro e w6 ⟨rfl, a1⟩
          have X4 := Lib.hid a1
          clear a1 X3
          go_wp2_with fail
          refine (CA.out _ X4.out).mono ?_
          rintro e w7 ⟨rfl, a1⟩
          have X5 := Lib.hid a1
          clear a1 X4
          go_wp2_with fail
          refine (CT.out _ _ X5.out).mono ?_
          rintro e w8 ⟨rfl, a1⟩
          have X6 := Lib.hid (HW.out _ a1)
          clear a1 X5
          go_wp2_with fail
          go_ret
          exact ⟨rfl, X6.out⟩

set_option maxRecDepth 100000 in
set_option maxHeartbeats 1000000 in
theorem tells_no (mi : Int) (hmay : M.mayLog mi = false) (LA : Option Addr) (ll lc : Nat) (lf : Nat → M.Lay) (pi q0 fi : Int) (w : World) (hL : LayF w LA ll lf) (hll : ll ≤ maxLen) :
    Calls Tryz.prog 3 #[.int .i64 mi, .slice LA ll lc, .int .i64 pi, .int .i64 q0, .int .i64 fi] w fun e w' => e = .returned (.bool true) ∧ Below w.heap.size w w' := by
  have HBO : Hid (∀ y, Below w.heap.size w y → Calls Tryz.prog 5 #[.int .i64 mi] y fun e y' => e = .returned (.tuple #[.pointer none, .pointer none, .pointer none, .pointer none]) ∧ Below w.heap.size w y') := fun y hb => by
    refine (both_any mi w y hb).mono ?_
    rintro e y' (⟨h, _⟩ | ⟨_, he, h⟩)
    · rw [hmay] at h; cases h
    · exact ⟨he, h⟩
  have HGR : Hid (∀ y, Below w.heap.size w y → _) := fun y hb => great12_any LA ll lc lf w y hL hb hll
  clear hL hmay hll
  go_enter Tryz.func3, Tryz.ntmps3
  go_wp2_with fail
  refine (works12_any w).mono ?_
  rintro e w1 ⟨rfl, h1⟩
  have HB1 := Lib.hid (HBO.out _ h1)
  clear h1 HBO
  go_wp2_with fail
  refine HB1.out.mono ?_
  rintro e w2 ⟨rfl, h2⟩
  have HB2 := Lib.hid h2
  have HG2 := Lib.hid (HGR.out _ h2)
  clear h2 HB1 HGR
  go_wp2_with fail
  refine HG2.out.mono ?_
  rintro e w3 (⟨rfl, rfl⟩ | ⟨rfl, rfl, _⟩)
  · go_wp2_with fail
    go_ret
    exact ⟨rfl, HB2.out⟩
  · go_wp2_with fail
    go_ret
    exact ⟨rfl, HB2.out⟩

set_option maxRecDepth 100000 in
theorem logscanTells_open1 {H : Type} {enc : TypeId × Value → H} {W : World} {r : Reach} {b0 : Nat} {v : Value} {d : DataW H} {p : List MemPlace} (hval : Value.okWide Tryz.prog W r b0 22 v)
    (h : DataW.Trod enc Tryz.prog W 0 (fun _ => true) true 22 v d p) : LaysAt W v := lays_open hval h
theorem logscanTells_walk (mi : Int) (_ : -9223372036854775808 ≤ mi) (_ : mi ≤ 9223372036854775807) (v1 : Value) (pi : Int) (p1 : -9223372036854775808 ≤ pi) (p9 : pi ≤ 9223372036854775807) (q0 : Int) (q1 : -9223372036854775808 ≤ q0) (q9 : q0 ≤ 9223372036854775807) (fi : Int) (_ : -9223372036854775808 ≤ fi) (_ : fi ≤ 9223372036854775807) (w : World) (h1 : LaysAt w v1) :
    Calls Tryz.prog 3 #[.int .i64 mi, v1, .int .i64 pi, .int .i64 q0, .int .i64 fi] w fun e w' => e = .returned (.bool true) ∧ Below w.heap.size w w' := by
  obtain ⟨LA, ll, lc, lf, rfl, hll, hL⟩ := LayF.of h1
  by_cases hm : M.mayLog mi = true
  · exact tells_yes mi hm LA ll lc lf pi q0 fi w hL hll p1 p9 q1 q9
  · exact tells_no mi (by simpa using hm) LA ll lc lf pi q0 fi w hL hll
end Go.Proofs.YtfdbfafpcbdbdaaGreat
