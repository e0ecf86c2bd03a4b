/-
  A walk over the law WalRoom.
-/
import Derived.Test.YtigmcnnplnfakaaGreatDoorQB
import Derived.Test.YtigmcnnplnfakaaGreatDoorQD
import Derived.Test.YtigmcnnplnfakaaGreatDoorMT
import Derived.Deep.CutRange
namespace Go.Proofs.YtigmcnnplnfakaaGreatDoor
open Go.RowKit Go.Maps

set_option maxRecDepth 100000 in
set_option maxHeartbeats 8000000 in
theorem room_walk (A : Option Addr) (len cap : Nat) (f : Nat → M.Op14) (n at_ size : Int) (w : World) (hn0 : -9223372036854775808 ≤ n) (hn9 : n ≤ 9223372036854775807) (ha0 : -9223372036854775808 ≤ at_) (ha9 : at_ ≤ 9223372036854775807) (hA : OpF14 w A len f) (hlen : len ≤ maxLen) (hE : Env10 w) (hET : ErrT w) :
    Calls Tryz.prog 4 #[.slice A len cap, .int .i64 n, .int .i64 at_, .int .i64 size] w fun e y => e = .returned (.bool true) ∧ Below w.heap.size w y := by
  have HWK := Lib.hid (works14_any w hE hET)
  have HGR := Lib.hid (fun y (hb : Below w.heap.size w y) => great14_any A len cap f w y hA hb hlen)
  obtain ⟨S0, T, V, U1, U2, X, p1, p2, p3, p4, p5, p6, p7, p8, p9, p10, p11, p12⟩ := room_parts14 w hE hET
  have P1 := Lib.hid p1
  have P2 := Lib.hid p2
  have P3 := Lib.hid p3
  have P4 := Lib.hid p4
  have P5 := Lib.hid p5
  have P6 := Lib.hid p6
  have P7 := Lib.hid p7
  have P8 := Lib.hid p8
  have P9 := Lib.hid p9
  have P10 := Lib.hid p10
  have P11 := Lib.hid p11
  have P12 := Lib.hid p12
  have HEE := Lib.hid (fun y (hb : Below w.heap.size w y) => hE.below hb)
  have HOP := Lib.hid (fun y (hb : Below w.heap.size w y) (i : Nat) (hi : i < len) => And.intro (hA.at_ (y := y) rfl hb hi) (show (Lit.int .i64 (f i).at_).wf = true by obtain ⟨_, _, _, _, h⟩ := hA i hi; exact h))
  have HBN : Hid ((-9223372036854775808 ≤ n ∧ n ≤ 9223372036854775807) ∧ -9223372036854775808 ≤ at_ ∧ at_ ≤ 9223372036854775807) := ⟨⟨hn0, hn9⟩, ha0, ha9⟩
  have hl63 : (len : Int) ≤ 9223372036854775807 := by unfold maxLen at hlen; omega
  clear p1 p2 p3 p4 p5 p6 p7 p8 p9 p10 p11 p12 hA hE hET hlen hn0 hn9 ha0 ha9
  go_enter Tryz.func4, Tryz.ntmps4
  go_wp2_with fail
  refine HWK.out.mono ?_
  rintro e w1 ⟨rfl, hb1⟩
  have HB1 := Lib.hid hb1
  clear hb1 HWK
  go_wp2_with fail
  refine (HGR.out _ HB1.out).mono ?_
  rintro e w2 (⟨rfl, rfl⟩ | ⟨rfl, rfl, HSM⟩)
  · go_wp2_with fail
    go_ret
    exact ⟨rfl, HB1.out⟩
  · have HL := Lib.hid HSM.out.1
    clear HSM HGR
    go_wp2_with fail
    refine (P1.out _ HB1.out).mono ?_
    rintro e w3 ⟨a, b, rfl, s3⟩
    have HS3 := Lib.hid s3
    clear s3 P1 HB1
    go_wp2_with fail
    refine (P2.out _ b HS3.out).mono ?_
    rintro e w4 ⟨r, rfl, s4⟩
    have HS4 := Lib.hid s4
    clear s4 P2 HS3
    go_wp2_with fail
    go_loopw [13] (fun v wr => ∃ i : Nat, i ≤ len ∧ v = .int .i64 i ∧ Hid (T i wr b r)) (fun v _ => len - (intOf v).toNat)
    case atStart => exact ⟨0, Nat.zero_le _, rfl, HS4⟩
    case round =>
      clear HS4
      obtain ⟨i, hi, rfl, HT⟩ := hrel
      by_cases hlt : i < len
      · have hlt' : (i : Int) < (len : Int) := by omega
        have hi0 : (0 : Int) ≤ (i : Int) := by omega
        obtain ⟨⟨ad, rfl, c0, c1, c2⟩, hwf⟩ := HOP.out wr (P4.out _ _ _ _ HT.out) i hlt
        have C := Lib.hid (P3.out i wr b r (f i).kind (f i).at_ (f i).data HT.out (by have := HL.out; omega) hwf)
        obtain ⟨fk, hfk⟩ : ∃ x, x = (f i).kind := ⟨_, rfl⟩
        obtain ⟨fa, hfa⟩ : ∃ x, x = (f i).at_ := ⟨_, rfl⟩
        obtain ⟨fd, hfd⟩ : ∃ x, x = (f i).data := ⟨_, rfl⟩
        rw [← hfk, ← hfa, ← hfd] at C
        rw [← hfk] at c0
        rw [← hfa] at c1
        rw [← hfd] at c2
        clear hfk hfa hfd hwf HT
        go_wp2_with fail
        refine C.out.mono ?_
        rintro e w5 ⟨⟨v, rfl⟩, h5⟩
        have H5 := Lib.hid h5
        clear h5 C
        go_wp2_with fail
        go_roundw
        case rel => exact ⟨i + 1, by omega, by go_num, H5⟩
        case measure => simp [intOf]; omega
      · have e : i = len := by omega
        subst e
        clear hlt hi
        go_wp2_with fail
        refine (P5.out _ _ b r HT.out (by have := HL.out; omega)).mono ?_
        rintro e w6 ⟨rfl, h6⟩
        have H6 := Lib.hid h6
        clear h6 P5 HT
        go_wp2_with fail
        refine (P6.out _ b r H6.out).mono ?_
        rintro e w7 ⟨rfl, h7⟩
        have H7 := Lib.hid h7
        clear h7 P6 H6
        go_wp2_with fail
        refine (P7.out _ b r H7.out).mono ?_
        rintro e w8 ⟨rfl, h8⟩
        have H8 := Lib.hid h8
        clear h8 P7 H7
        go_wp2_with fail
        refine (P8.out _ b r H8.out).mono ?_
        rintro e w9 ⟨rfl, h9⟩
        have H9 := Lib.hid h9
        clear h9 P8 H8
        go_wp2_with fail
        obtain ⟨k, hk17, hk⟩ := k_of n 17 (by omega) (by omega)
        rw [show (((17 : Nat) : Int)) = 17 from rfl] at hk
        rw [hk]
        have HK : Hid (k ≤ 16) := by show k ≤ 16; omega
        have hk9 : (0 : Int) ≤ (k : Int) ∧ (k : Int) ≤ 16 := by omega
        clear hk hk17
        have HPL : Hid (∀ (j : Nat) y, j ≤ 16 → Calls Tryz.prog 28 #[.int .i64 (j : Nat)] y fun e z => e = .returned (.int .i64 (M.plc j : Nat)) ∧ z = y) := fun j y hj => place14_any j (by omega) y
        obtain ⟨N0, hN0⟩ : ∃ N0, N0 = M.nils 64 := ⟨_, rfl⟩
        have hmk : ∀ W : World, (Instr.makeSlice 55 (.int .i64 64) (.int .i64 64)).run Tryz.prog W = .ok (.slice (some ⟨W.heap.size, 0, none⟩) 64 64) (W.alloc (.cells N0 5)) := fun W => by rw [hN0]; exact make_nils 64 (by omega) W
        obtain ⟨zz, hzz⟩ : ∃ z, z = M.zeros 64 := ⟨_, rfl⟩
        have HCV : Hid (∀ W : World, Sem.run Tryz.prog (convert 55 9 (.slice (some ⟨W.heap.size, 0, none⟩) 64 64)) ((W.alloc (.cells N0 5)).drew) = .ok (.string zz) ((W.alloc (.cells N0 5)).drew)) := fun W => by rw [hN0, hzz]; exact conv_nils 64 _ _ (Box.new W _ _)
        rw [← hzz] at P10 P11
        clear hN0 hzz
        go_loopw [15] (fun v wr => ∃ j : Nat, j ≤ k ∧ v = .int .i64 j ∧ Hid (V j wr b r)) (fun v _ => k - (intOf v).toNat)
        case atStart => exact ⟨0, Nat.zero_le _, rfl, H9⟩
        case round =>
          clear H9
          obtain ⟨j, hj, rfl, HV⟩ := hrel
          by_cases hlt : j < k
          · have hlt' : (j : Int) < (k : Int) := by omega
            have hj0 : (0 : Int) ≤ (j : Int) := by omega
            have HJ : Hid (j < 16 ∧ j < k) := ⟨by have := HK.out; omega, hlt⟩
            have HVz := Lib.hid (P9.out j wr _ b r HV.out (((Below.refl _ wr).drew).alloc (Nat.le_refl _) (.cells N0 5)))
            clear HV
            have hcv := HCV.out wr
            go_wp2_with fail
            go_region_with (first
              | (go_at_call 28
                 refine (HPL.out j _ (by have := HJ.out; omega)).mono ?_
                 rintro e y1 ⟨rfl, rfl⟩)
              | (go_at_call 27
                 refine (P10.out j _ b r HVz.out HJ.out.1).mono ?_
                 rintro e y2 ⟨rfl, h2⟩))
            all_goals
              have H2 := Lib.hid h2
              clear h2 HVz hcv
              go_wp2_with fail
              go_roundw
              case rel => exact ⟨j + 1, HJ.out.2, by go_num, H2⟩
              case measure => have := HJ.out.2; simp [intOf]; omega
          · have e : j = k := by omega
            subst e
            clear hlt hj
            have HVz := Lib.hid (P9.out j wr _ b r HV.out (((Below.refl _ wr).drew).alloc (Nat.le_refl _) (.cells N0 5)))
            have hcv := HCV.out wr
            have CFULL := Lib.hid (P11.out j _ b r HVz.out HK.out)
            have hpl16 : M.plc 16 = 40 := rfl
            obtain ⟨EF, hEF⟩ : ∃ E : Int, E = (if j = 16 then 6 else 0) := ⟨_, rfl⟩
            rw [← hEF] at CFULL
            have hcase : (EF = 6 ∧ j = 16) ∨ (EF = 0 ∧ ((j : Int) == 16) = false ∧ ¬ (j : Int) = 16) := by
              by_cases h16 : j = 16
              · exact Or.inl ⟨by rw [hEF, if_pos h16], h16⟩
              · exact Or.inr ⟨by rw [hEF, if_neg h16], by rw [beq_eq_false_iff_ne]; omega, by omega⟩
            clear HV hEF P9 P10 P11
            go_upto_region 22 with fail
            go_cut [16] from 80 to 84 (fun c wx => c = .int .i64 EF ∧ Hid (X wx b r))
            case first =>
              go_wp2_with fail
              go_region_with (first
                | (go_at_call 28
                   refine (HPL.out 16 _ (Nat.le_refl _)).mono ?_
                   rintro e y1 ⟨rfl, rfl⟩)
                | (go_at_call 27
                   refine CFULL.out.mono ?_
                   rintro e y2 ⟨rfl, h2⟩))
              all_goals
                go_wp2_with fail
                go_meet
                exact ⟨rfl, h2⟩
            obtain ⟨rfl, HX⟩ := hcut
            have CCM := Lib.hid (P12.out _ b r HX.out)
            clear CFULL HVz hcv HCV HPL P12 HX hmk
            go_upto_region 23 with fail
            go_cut [94] from 85 to 94 (fun c wx => c = .bool false ∧ Hid (Below w.heap.size w wx))
            case first =>
              rcases hcase with ⟨rfl, rfl⟩ | ⟨rfl, q1, q2⟩
              · go_wp2_with fail
                refine CCM.out.mono ?_
                rintro e y3 ⟨rfl, hb3⟩
                have HB3 := Lib.hid hb3
                go_wp2_with fail
                go_meet
                exact ⟨rfl, HB3⟩
              · go_wp2_with fail
                refine CCM.out.mono ?_
                rintro e y3 ⟨rfl, hb3⟩
                have HB3 := Lib.hid hb3
                go_wp2_with fail
                go_meet
                exact ⟨rfl, HB3⟩
            obtain ⟨rfl, HBL⟩ := hcut
            clear CCM hcase
            go_wp2_with fail
            refine (newdisk14 _).mono ?_
            rintro e w20 ⟨da, rfl, hd20, hb20⟩
            have CF := Lib.hid (format14_any at_ size w20 (by have := HBN.out; omega) hb20.size hd20)
            obtain ⟨mb, hmb⟩ : ∃ mb, mb = M.mayF at_ size := ⟨_, rfl⟩
            obtain ⟨EE, hEE⟩ : ∃ E : Int, E = (if M.mayF at_ size = true then 0 else 3) := ⟨_, rfl⟩
            rw [← hEE] at CF
            have HME : Hid ((mb = true ∧ EE = 0) ∨ (mb = false ∧ EE = 3)) := by
              show _ ∨ _
              rw [hEE, hmb]
              cases M.mayF at_ size with
              | true => exact Or.inl ⟨rfl, rfl⟩
              | false => exact Or.inr ⟨rfl, rfl⟩
            have HMB := Lib.hid hmb
            have HB20 : Hid (Below w.heap.size w w20 ∧ ∀ z, Below wc.heap.size w20 z → Below w.heap.size w20 z) := ⟨HBL.out.trans (hb20.mono HBL.out.size), fun z hz => hz.mono HBL.out.size⟩
            clear hEE hmb hd20 hb20
            go_wp2_with fail
            refine CF.out.mono ?_
            rintro e w21 ⟨rfl, hb21⟩
            have HB21 : Hid (Below w.heap.size w w21) := HB20.out.1.trans (HB20.out.2 _ hb21)
            clear hb21 CF HBL HB20
            go_upto_region 26 with fail
            have HSZ : Hid (mb = (decide (24 ≤ size) && (decide (size ≤ 200) && (decide (0 ≤ at_) && (decide (at_ ≤ 44) && decide (size ≤ 44 - at_)))))) := HMB.out
            go_cut [18] from 99 to 118 (fun c wx => c = .bool mb ∧ wx = w21)
            case first =>
              by_cases h1 : 24 ≤ size
              · by_cases h2 : size ≤ 200
                · by_cases h3 : 0 ≤ at_
                  · by_cases h4 : at_ ≤ 44
                    · by_cases h5 : size ≤ 44 - at_
                      · have hm : mb = true := by rw [HSZ.out]; simp [h1, h2, h3, h4, h5]
                        go_wp2_with fail
                        go_meet
                        exact ⟨by rw [hm], rfl⟩
                      · have hm : mb = false := by rw [HSZ.out]; simp [h5]
                        go_wp2_with fail
                        go_meet
                        exact ⟨by rw [hm], rfl⟩
                    · have hm : mb = false := by rw [HSZ.out]; simp [h4]
                      go_wp2_with fail
                      go_meet
                      exact ⟨by rw [hm], rfl⟩
                  · have hm : mb = false := by rw [HSZ.out]; simp [h3]
                    go_wp2_with fail
                    go_meet
                    exact ⟨by rw [hm], rfl⟩
                · have hm : mb = false := by rw [HSZ.out]; simp [h2]
                  go_wp2_with fail
                  go_meet
                  exact ⟨by rw [hm], rfl⟩
              · have hm : mb = false := by rw [HSZ.out]; simp [h1]
                go_wp2_with fail
                go_meet
                exact ⟨by rw [hm], rfl⟩
            obtain ⟨rfl, hw⟩ := hcut
            subst hw
            have HNW : Hid (∀ y a, Below _ _ y → Disk y a _ (M.new 44) → Calls Tryz.prog 11 #[.pointer (some ⟨a, 0, none⟩), .int .i64 10, .int .i64 24] y fun e x => e = .returned (.tuple #[.pointer none, .int .i64 32]) ∧ Below _ _ x) := fun y a hb hd => openblank14 _ y (HEE.out _ HB21.out) hb hd
            clear HSZ HMB HEE
            rcases HME.out with ⟨rfl, rfl⟩ | ⟨rfl, rfl⟩
            all_goals
                clear HME
                go_wp2_with fail
                refine (newdisk14 _).mono ?_
                rintro e w22 ⟨db, rfl, hd22, hb22⟩
                have C3 := Lib.hid (HNW.out w22 db hb22 hd22)
                clear HNW hd22 hb22
                go_wp2_with fail
                refine C3.out.mono ?_
                rintro e w23 ⟨rfl, hb23⟩
                have HB23 := Lib.hid (HB21.out.trans (hb23.mono HB21.out.size))
                clear hb23 C3 HB21
                go_wp2_with fail
                refine (abort14_nil _).mono ?_
                rintro e y9 ⟨rfl, hy9⟩
                subst hy9
                go_wp2_with fail
                refine (read14_nil _ _).mono ?_
                rintro e y9 ⟨rfl, hy9⟩
                subst hy9
                go_wp2_with fail
                refine (begin14_nil _).mono ?_
                rintro e y9 ⟨rfl, hy9⟩
                subst hy9
                go_wp2_with fail
                refine (commit14_nil _).mono ?_
                rintro e y9 ⟨rfl, hy9⟩
                subst hy9
                go_wp2_with fail
                refine (stage14_nil _ _ _).mono ?_
                rintro e y9 ⟨rfl, hy9⟩
                subst hy9
                go_wp2_with fail
                refine (flush14_nil _).mono ?_
                rintro e y9 ⟨rfl, hy9⟩
                subst hy9
                go_wp2_with fail
                refine (checkpoint14_nil _).mono ?_
                rintro e y9 ⟨rfl, hy9⟩
                subst hy9
                go_wp2_with fail
                refine (room14_nil _).mono ?_
                rintro e y9 ⟨rfl, hy9⟩
                subst hy9
                go_wp2_with fail
                refine (sure14_nil _).mono ?_
                rintro e y9 ⟨rfl, hy9⟩
                subst hy9
                go_wp2_with fail
                refine (active14_nil _).mono ?_
                rintro e y9 ⟨rfl, hy9⟩
                subst hy9
                go_wp2_with fail
                go_ret
                exact ⟨rfl, HB23.out⟩
end Go.Proofs.YtigmcnnplnfakaaGreatDoor
