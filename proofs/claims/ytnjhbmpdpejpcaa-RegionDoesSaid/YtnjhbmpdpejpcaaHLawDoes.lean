/-
  A walk over RegionDoes (written by gen_regiondoes.py).
-/
import Derived.Test.YtnjhbmpdpejpcaaHKinds
import Derived.BigQuiet
import Derived.Deep.CutBlock
import Derived.Deep.LoopGhost
namespace Go.Proofs.Ytnjhbmpdpejpcaa
open Go.RowKit

set_option maxRecDepth 100000 in
set_option maxHeartbeats 20000000 in
theorem does_in (fr mn : Nat) (A : Option Addr) (len cap : Nat) (f : Nat → M.Op) (w : World) (hfm : fr + mn ≤ 12) (hA : OpF w A len f) (hlen : len ≤ maxLen) :
    Calls Try.prog 3 #[.int .i64 (fr : Nat), .int .i64 (mn : Nat), .slice A len cap] w fun e w' => e = .returned (.bool true) ∧ Below w.heap.size w w' := by
  obtain ⟨N, hN⟩ : ∃ N, N = w.heap.size := ⟨_, rfl⟩
  have HGR : Hid (∀ y, Below N w y → Calls Try.prog 7 #[.slice A len cap] y fun e y' => (e = .returned (.bool true) ∧ y' = y) ∨ (e = .returned (.bool false) ∧ y' = y ∧ Hid (len ≤ 100 ∧ ∀ i, i < len → (f i).data.size ≤ 5000))) := fun y hb => great_any A len cap f w y hA (by rw [← hN]; exact hb) hlen
  have HNW : Hid (∀ y, Below N w y → Calls Try.prog 8 #[.int .i64 12] y fun e y' => ∃ a, e = .returned (.pointer (some ⟨a, 0, none⟩)) ∧ Dk w y' N a (fun k => N ≤ k) (M.new 12)) := fun y hb => by
    rw [hN] at hb ⊢
    exact tnew 12 w y hb
  have HNR : Hid (∀ y a, Dk w y N a (fun k => N ≤ k) (M.new 12) → Calls Try.prog 9 #[.int .i64 12] y fun e y' => ∃ b, e = .returned (.pointer (some ⟨b, 0, none⟩)) ∧ Two w y' N a b (fun _ => False) (M.new 12) (M.newR 12)) := fun y a h => by
    rw [hN] at h ⊢
    exact urnew 12 h
  have HNS : Hid (∀ y a b, Two w y N a b (fun _ => False) (M.new 12) (M.newR 12) → Calls Try.prog 10 #[.pointer (some ⟨a, 0, none⟩), .int .i64 (fr : Nat), .int .i64 (mn : Nat)] y fun e y' => ∃ ra, e = .returned (.tuple #[.pointer (some ⟨ra, 0, none⟩), .int .i64 0]) ∧
      Calls Try.prog 11 #[.pointer (some ⟨b, 0, none⟩), .int .i64 (fr : Nat), .int .i64 (mn : Nat)] y' fun e y'' => ∃ rb, e = .returned (.tuple #[.pointer (some ⟨rb, 0, none⟩), .int .i64 0]) ∧ Bo0 w y'' N a b ra rb fr mn (M.new 12) (M.newR 12)) := fun y a b h =>
    h.news fr mn (by show M.within (fr : Int) (mn : Int) ((12 : Nat) : Int) = true; unfold M.within; simp; omega) rfl
  have HOF : Hid (∀ y, Below N w y → ∀ i, i < len → ∃ ad : Addr, A = some ad ∧ OpCells y (ad.add (i * 4)) (f i)) := fun y hb i hi => hA.at_ hN hb hi
  have HO9 : Hid (∀ i, i < len → (f i).at_ ≤ 9223372036854775807) := fun i hi => let ⟨_, _, _, _, h⟩ := hA i hi; h
  have hf : fr ≤ 1000 := by omega
  have hmn : mn ≤ 1000 := by omega
  have bf : (fr : Int) ≤ 12 := by omega
  have bm : (mn : Int) ≤ 12 := by omega
  have hl63 : (len : Int) ≤ 9223372036854775807 := by unfold maxLen at hlen; omega
  rw [← hN]
  have HNN := Lib.hid hN
  clear hN hA hlen hfm
  go_enter Try.func3, Try.ntmps3
  go_wp2_with fail
  refine (works_any w).mono ?_
  rintro e w1 ⟨rfl, h1⟩
  rw [← HNN.out] at h1
  have H1 := Lib.hid h1
  have H2 := Lib.hid (HGR.out w1 h1)
  have H3 := Lib.hid (HNW.out w1 h1)
  clear h1 HGR HNW
  go_wp2_with fail
  refine H2.out.mono ?_
  rintro e w2 (⟨rfl, rfl⟩ | ⟨rfl, rfl, HG⟩)
  · go_wp2_with fail
    go_ret
    exact ⟨rfl, H1.out⟩
  clear H2
  go_wp2_with fail
  refine H3.out.mono ?_
  rintro e w3 ⟨a, rfl, h4⟩
  have H4 := Lib.hid (HNR.out _ _ h4)
  clear h4 H3 HNR
  go_wp2_with fail
  refine H4.out.mono ?_
  rintro e w4 ⟨b, rfl, h5⟩
  have H5 := Lib.hid (HNS.out _ _ _ h5)
  clear h5 H4 HNS
  go_wp2_with fail
  refine H5.out.mono ?_
  rintro e w5 ⟨ra, rfl, h6⟩
  have H6 := Lib.hid h6
  clear h6 H5
  go_wp2_with fail
  refine H6.out.mono ?_
  rintro e w6 ⟨rb, rfl, h7⟩
  have H7 := Lib.hid h7
  clear h7 H6 H1
  go_wp2_with fail
  go_loopg [13] len (fun g j wr => ∃ (k : Nat) (dk : M.D) (rk : M.R), k + g = len ∧ j = .int .i64 k ∧ Hid (Bo0 w wr N a b ra rb fr mn dk rk) ∧ Hid (M.Run dk rk k))
  case atStart => exact ⟨0, _, _, by omega, rfl, H7, M.run_new⟩
  case round =>
    clear H7
    obtain ⟨k, dk, rk, hkg, rfl, HB0, HRun⟩ := hrel
    cases gk with
    | succ g =>
      have hlt : k < len := by omega
      have hk0 : (0 : Int) ≤ (k : Int) := by omega
      have hlt' : (k : Int) < (len : Int) := by omega
      obtain ⟨ad, rfl, x0, x1, x2, x3⟩ := HOF.out wr HB0.out.two.below k hlt
      have hat := HO9.out k hlt
      have hts := HG.out.2 k hlt
      obtain ⟨o, ho⟩ : ∃ o, o = f k := ⟨_, rfl⟩
      rw [← ho] at x0 x1 x2 x3 hat hts
      clear ho
      obtain ⟨kd, at_, m, t⟩ := o
      simp only at x0 x1 x2 x3 hat hts
      have HAT := Lib.hid hat
      have HTS := Lib.hid hts
      have HPL := Lib.hid (place_ways at_ mn)
      have HBs := Lib.hid (HB0.out.step #[.int .i64 kd, .int .i64 at_, .int .i64 m, .string t])
      obtain ⟨q0, q1, q2, q3⟩ := HBs.out.cells
      obtain ⟨X, hX⟩ : ∃ X, X = wr.heap.size := ⟨_, rfl⟩
      obtain ⟨xw, hx⟩ : ∃ x, x = wr.alloc (.cells #[.int .i64 kd, .int .i64 at_, .int .i64 m, .string t] 37) := ⟨_, rfl⟩
      rw [← hX, ← hx] at HBs
      have HXX := Lib.hid hx
      have HXN := Lib.hid hX
      clear hat hts hx hX
      go_upto_block 2 with fail
      rw [← HXX.out, ← HXN.out]
      clear q0 q1 q2 q3 x0 x1 x2 x3 HXX HXN
      go_cut [] from 55 to 227 (fun wx => ∃ (d1 : M.D) (r1 : M.R), Hid (Bo w wx N a b ra rb fr mn X #[.int .i64 kd, .int .i64 at_, .int .i64 m, .string t] d1 r1) ∧ Hid (M.Run d1 r1 (k + 1)))
      case first =>
        obtain ⟨z0, z1, z2, z3⟩ := HBs.out.cells
        by_cases k0 : kd = 0
        · subst k0
          as_aux_lemma =>
            obtain ⟨S, E, d1, r1', hr1, g1, g2⟩ := kind0 (w := w) (N := N) (a := a) (b := b) (ra := ra) (rb := rb) (X := X) (V := #[.int .i64 0, .int .i64 at_, .int .i64 m, .string t]) HRun.out HB0.out.two.inv (by have := HG.out.1; omega) hf hmn at_ m HAT.out
            have hss : (S.toList == S.toList) = true := str_eq_self S
            have hee : (E == E) = true := by simp
            have G1 := Lib.hid g1
            have G2 := Lib.hid g2
            have HR1 := Lib.hid hr1
            clear g1 g2 hr1
            go_wp2_with fail
            refine (G1.out _ HBs.out).mono ?_
            rintro e y1 ⟨rfl, h1⟩
            have HB1 := Lib.hid h1
            clear z0 z1 z2 z3
            obtain ⟨z0, z1, z2, z3⟩ := h1.cells
            clear h1
            go_wp2_with fail
            refine (G2.out _ HB1.out).mono ?_
            rintro e y2 ⟨rfl, h2⟩
            have HB2 := Lib.hid h2
            clear h2 z0 z1 z2 z3 G1 G2 HBs
            go_wp2_with fail
            go_meet
            first | exact ⟨_, _, HB2, HR1⟩ | exact ⟨_, _, HB2.out.drew, HR1⟩
        by_cases k1 : kd = 1
        · subst k1
          as_aux_lemma =>
            obtain ⟨L, G, E, d1, r1', hr1, hLL, g1, g2, g3, g4, g5⟩ := kind1 (w := w) (N := N) (a := a) (b := b) (ra := ra) (rb := rb) (X := X) (V := #[.int .i64 1, .int .i64 at_, .int .i64 m, .string t]) HRun.out (by have := HG.out.1; omega) hf hmn at_ t HAT.out HTS.out
            have hgg : (G == G) = true := by simp
            have hee : (E == E) = true := by simp
            have G1 := Lib.hid g1
            have G2 := Lib.hid g2
            have G3 := Lib.hid g3
            have G4 := Lib.hid g4
            have G5 := Lib.hid g5
            have HR1 := Lib.hid hr1
            clear g1 g2 g3 g4 g5 hr1 hLL
            go_wp2_with fail
            refine (G1.out _ HBs.out).mono ?_
            rintro e y1 ⟨A1, len1, cap1, rfl, hs1, h1⟩
            have HS1 := Lib.hid hs1
            have HB1 := Lib.hid h1
            clear z0 z1 z2 z3
            obtain ⟨z0, z1, z2, z3⟩ := h1.cells
            clear h1 hs1
            go_wp2_with fail
            refine (G2.out _ _ HB1.out HS1.out).mono ?_
            rintro e y2 ⟨A2, len2, cap2, rfl, hs2, hs3, h2⟩
            have HS2 : Hid (SecsIs y2.drew (.slice A1 len1 cap1) L) := hs2.below ((Below.refl _ _).drew)
            have HS3 : Hid (SecsIs y2.drew (.slice A2 len2 cap2) L) := hs3.below ((Below.refl _ _).drew)
            have HB2 := Lib.hid h2
            clear z0 z1 z2 z3
            obtain ⟨z0, z1, z2, z3⟩ := h2.cells
            clear h2 hs2 hs3 HS1 HB1 G1 G2 HBs
            go_wp2_with fail
            go_region_held3 (fun v => v.cell? ⟨X, 1, none⟩ = some (.int .i64 at_) ∧ v.cell? ⟨X, 3, none⟩ = some (.string t)) (first | exact ⟨z1, z3⟩ | exact ⟨u1, u3⟩ | exact ⟨v1, v3⟩ | exact ⟨t1, t3⟩) (first
              | (go_at_call 16
                 refine (G3.out _ _ _ HB2.out.drew HS2.out HS3.out).mono ?_
                 rintro e y3 ⟨rfl, h3⟩
                 have HB3 := Lib.hid h3
                 obtain ⟨u0, u1, u2, u3⟩ := h3.cells
                 clear h3)
              | (go_at_call 17
                 refine (G4.out _ (by first | exact HB3.out | exact HB3.out.drew)).mono ?_
                 rintro e y4 ⟨rfl, h4⟩
                 have HB4 := Lib.hid h4
                 obtain ⟨v0, v1, v2, v3⟩ := h4.cells
                 clear h4)
              | (go_at_call 18
                 refine (G5.out _ (by first | exact HB4.out | exact HB4.out.drew)).mono ?_
                 rintro e y5 ⟨rfl, h5⟩
                 have HB5 := Lib.hid h5
                 obtain ⟨t0, t1, t2, t3⟩ := h5.cells
                 clear h5))
            clear z0 z1 z2 z3 u0 u1 u2 u3 v0 v1 v2 v3 t0 t1 t2 t3 HS2 HS3 HB2 HB3 HB4 G3 G4 G5
            go_wp2_with fail
            go_meet
            first | exact ⟨_, _, HB5, HR1⟩ | exact ⟨_, _, HB5.out.drew, HR1⟩
        by_cases k2 : kd = 2
        · subst k2
          as_aux_lemma =>
            obtain ⟨E, d1, r1', hr1, g1, g2⟩ := kind2 (w := w) (N := N) (a := a) (b := b) (ra := ra) (rb := rb) (fr := fr) (mn := mn) (X := X) (V := #[.int .i64 2, .int .i64 at_, .int .i64 m, .string t]) HRun.out (by have := HG.out.1; omega)
            have hee : (E == E) = true := by simp
            have G1 := Lib.hid g1
            have G2 := Lib.hid g2
            have HR1 := Lib.hid hr1
            clear g1 g2 hr1
            go_wp2_with fail
            refine (G1.out _ HBs.out).mono ?_
            rintro e y1 ⟨rfl, h1⟩
            have HB1 := Lib.hid h1
            clear h1
            go_wp2_with fail
            refine (G2.out _ HB1.out).mono ?_
            rintro e y2 ⟨rfl, h2⟩
            have HB2 := Lib.hid h2
            clear h2 G1 G2 HBs
            go_wp2_with fail
            go_meet
            first | exact ⟨_, _, HB2, HR1⟩ | exact ⟨_, _, HB2.out.drew, HR1⟩
        by_cases k3 : kd = 3
        · subst k3
          by_cases hmm : 0 ≤ m ∧ m < 100
          · obtain ⟨hm0, hm1⟩ := hmm
            as_aux_lemma =>
              obtain ⟨o1, hoo, HO1⟩ := HBs.out.rest HRun.out
              have ho1 : o1 ≤ 1000000 := by
                have h1 := HBs.out.rops
                rw [hoo] at h1
                have h2 := HRun.out.rops
                have h3 := HG.out.1
                simp only [Option.some.injEq, Value.int.injEq, true_and] at h1
                omega
              obtain ⟨xx, hxx⟩ : ∃ xx, xx = (o1 : Int) + m := ⟨_, rfl⟩
              obtain ⟨d1, r1', hr1, hrq, g1, g2⟩ := kind3 (w := w) (N := N) (a := a) (b := b) (ra := ra) (rb := rb) (fr := fr) (mn := mn) (X := X) (V := #[.int .i64 3, .int .i64 at_, .int .i64 m, .string t]) HRun.out (by have := HG.out.1; omega) xx
              have e9 : IntKind.i64.wrap ((o1 : Int) + m) = xx := by rw [IntKind.wrap_i64, hxx]; omega
              have G1 := Lib.hid g1
              have G2 := Lib.hid g2
              have HR1 := Lib.hid hr1
              have m1 : decide (0 ≤ m) = true := by simpa using hm0
              have m2 : decide (m < 100) = true := by simpa using hm1
              have HOP : Hid (∀ d' r' y, r'.ops = rk.ops → Bo w y N a b ra rb fr mn X #[.int .i64 3, .int .i64 at_, .int .i64 m, .string t] d' r' → y.cell? ⟨b, 3, none⟩ = some (.int .i64 (o1 : Nat))) := fun d' r' y hq hy => by
                have h1 := HBs.out.rops
                rw [hoo] at h1
                rw [h1, ← hq]
                exact hy.rops
              have HRQ := Lib.hid hrq
              clear g1 g2 hr1 hxx ho1 hm0 hm1 hoo hrq
              go_wp2_with fail
              go_region_held3 (fun v => v.cell? ⟨X, 2, none⟩ = some (.int .i64 m)) (first | exact z2 | exact v2) (first
                | (go_at_call 22
                   refine (HO1.out 1).mono ?_
                   rintro e y1 ⟨rfl, hw⟩
                   subst hw)
                | (go_at_call 21
                   refine (G1.out _ HBs.out.drew).mono ?_
                   rintro e y2 ⟨rfl, h2⟩
                   have HB2 := Lib.hid h2
                   obtain ⟨v0, v1, v2, v3⟩ := h2.cells
                   have c9 := HOP.out _ _ _ rfl h2
                   clear h2))
              go_wp2_with fail
              go_region_held3 (fun v => v.cell? ⟨X, 2, none⟩ = some (.int .i64 m) ∧ v.cell? ⟨b, 3, none⟩ = some (.int .i64 (o1 : Nat))) (first | exact ⟨v2, c9⟩ | exact ⟨t2, c8⟩) (first
                | (go_at_call 23
                   refine (G2.out _ HB2.out.drew).mono ?_
                   rintro e y3 ⟨rfl, h3⟩
                   have HB3 := Lib.hid h3
                   obtain ⟨t0, t1, t2, t3⟩ := h3.cells
                   have c8 := HOP.out _ _ _ HRQ.out h3
                   clear h3))
              clear z0 z1 z2 z3 v0 v1 v2 v3 t0 t1 t2 t3 c9 e9 m1 m2 HB2 G1 G2 HBs HO1 HOP
              go_wp2_with fail
              go_meet
              first | exact ⟨_, _, HB3, HR1⟩ | exact ⟨_, _, HB3.out.drew, HR1⟩
          · clear k0 k1 k2
            as_aux_lemma =>
              have HR1 := Lib.hid HRun.out.skip
              by_cases hm0 : 0 ≤ m
              · have m1 : decide (0 ≤ m) = true := by simpa using hm0
                have m2 : decide (m < 100) = false := by simpa using (fun h => hmm ⟨hm0, h⟩)
                clear hm0 hmm
                go_wp2_with fail
                go_meet
                first | exact ⟨_, _, HBs, HR1⟩ | exact ⟨_, _, HBs.out.drew, HR1⟩
              · have m1 : decide (0 ≤ m) = false := by simpa using hm0
                clear hm0 hmm
                go_wp2_with fail
                go_meet
                first | exact ⟨_, _, HBs, HR1⟩ | exact ⟨_, _, HBs.out.drew, HR1⟩
        by_cases k4 : kd = 4
        · subst k4
          as_aux_lemma =>
            obtain ⟨d1, r1', hr1, g1, g2⟩ := kind4 (w := w) (N := N) (a := a) (b := b) (ra := ra) (rb := rb) (fr := fr) (mn := mn) (X := X) (V := #[.int .i64 4, .int .i64 at_, .int .i64 m, .string t]) HRun.out (by have := HG.out.1; omega)
            have G1 := Lib.hid g1
            have G2 := Lib.hid g2
            have HR1 := Lib.hid hr1
            clear g1 g2 hr1
            go_wp2_with fail
            refine (G1.out _ HBs.out).mono ?_
            rintro e y1 ⟨rfl, h1⟩
            have HB1 := Lib.hid h1
            clear h1
            go_wp2_with fail
            refine (G2.out _ HB1.out).mono ?_
            rintro e y2 ⟨rfl, h2⟩
            have HB2 := Lib.hid h2
            clear h2 G1 G2 HBs
            go_wp2_with fail
            go_meet
            first | exact ⟨_, _, HB2, HR1⟩ | exact ⟨_, _, HB2.out.drew, HR1⟩
        as_aux_lemma =>
          have HR1 := Lib.hid HRun.out.skip
          have n0 : (kd == 0) = false := by rw [beq_eq_false_iff_ne]; exact k0
          have n1 : (kd == 1) = false := by rw [beq_eq_false_iff_ne]; exact k1
          have n2 : (kd == 2) = false := by rw [beq_eq_false_iff_ne]; exact k2
          have n3 : (kd == 3) = false := by rw [beq_eq_false_iff_ne]; exact k3
          have n4 : (kd == 4) = false := by rw [beq_eq_false_iff_ne]; exact k4
          clear k0 k1 k2 k3 k4
          go_wp2_with fail
          go_meet
          first | exact ⟨_, _, HBs, HR1⟩ | exact ⟨_, _, HBs.out.drew, HR1⟩
      case rest =>
        obtain ⟨d1, r1', HB9, HR1⟩ := hcut
        clear HBs HB0 HRun HTS HOF HO9
        obtain ⟨z0, z1, z2, z3⟩ := HB9.out.cells
        obtain ⟨oo, c3, HOO⟩ := HB9.out.rest HR1.out
        have r1 := HB9.out.rreg.c1
        have r2 := HB9.out.rreg.c2
        rcases HPL.out with ⟨kk, hkk, hlk⟩ | hneg | ⟨hpos, hbig⟩
        · as_aux_lemma =>
            subst hkk
            have HPC := Lib.hid (place_yes kk _ HB9.out.reg (by omega) (by omega) hlk)
            have p1 : decide (kk < mn) = true := by simpa using hlk
            have bk : (kk : Int) ≤ 12 := by omega
            clear hlk
            go_wp2_with fail
            refine HPC.out.mono ?_
            rintro e y9 ⟨rfl, rfl⟩
            clear HPC
            go_wp2_with fail
            go_quiet ((go_at_call 22; exact quiet_same (HOO.out _)))
            go_wp2_with fail
            go_roundg g
            case measure => omega
            case rel => exact ⟨k + 1, _, _, by omega, by go_num, (HB9.out.drewN _).end_, HR1⟩
        · as_aux_lemma =>
            have HPC := Lib.hid (place_no at_ _ HB9.out.reg HAT.out (by omega) (by unfold M.within; simp; omega))
            have p1 : decide (0 ≤ at_) = false := by simpa using hneg
            clear hneg
            go_wp2_with fail
            refine HPC.out.mono ?_
            rintro e y9 ⟨rfl, rfl⟩
            clear HPC
            go_wp2_with fail
            go_quiet ((go_at_call 22; exact quiet_same (HOO.out _)))
            go_wp2_with fail
            go_roundg g
            case measure => omega
            case rel => exact ⟨k + 1, _, _, by omega, by go_num, (HB9.out.drewN _).end_, HR1⟩
        · as_aux_lemma =>
            have HPC := Lib.hid (place_no at_ _ HB9.out.reg HAT.out (by omega) (by unfold M.within; simp; omega))
            have p1 : decide (0 ≤ at_) = true := by simpa using hpos
            have p2 : decide (at_ < (mn : Int)) = false := by simpa using hbig
            clear hpos hbig
            go_wp2_with fail
            refine HPC.out.mono ?_
            rintro e y9 ⟨rfl, rfl⟩
            clear HPC
            go_wp2_with fail
            go_quiet ((go_at_call 22; exact quiet_same (HOO.out _)))
            go_wp2_with fail
            go_roundg g
            case measure => omega
            case rel => exact ⟨k + 1, _, _, by omega, by go_num, (HB9.out.drewN _).end_, HR1⟩
    | zero =>
      have e : k = len := by omega
      subst e
      have HMN : Hid (∀ n, Calls Try.prog 27 #[.pointer (some ⟨ra, 0, none⟩)] (wr.drewN n) fun e y' => e = .returned (.int .i64 (mn : Nat)) ∧ y' = wr.drewN n) := fun n => many_any (fr := fr) (a := a) _ (HB0.out.reg.kept ((Kept.refl (fun _ => False) wr).drewN n) id)
      have c2 := HB0.out.rreg.c2
      have HBL := Lib.hid HB0.out.two.below
      have hmm : ((mn : Int) == (mn : Int)) = true := by simp
      clear hkg HRun HB0
      go_wp2_with fail
      go_quiet ((go_at_call 27; exact quiet_same (HMN.out _)))
      go_wp2_with fail
      go_ret
      exact ⟨rfl, below_drewN HBL.out _⟩
end Go.Proofs.Ytnjhbmpdpejpcaa
