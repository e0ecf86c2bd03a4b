/-
  A walk over ExtentDoes, where the volume may be, and the log is small. The walk over ExtentDoes's parameters as they come.
-/
import Derived.Test.YtmgchfjfkdkaoaaGreatDoorXI
import Derived.Test.YtmgchfjfkdkaoaaGreatDoorTB
namespace Go.Proofs.YtmgchfjfkdkaoaaGreatDoor
open Go.RowKit Go.Maps

set_option maxRecDepth 100000 in
set_option maxHeartbeats 8000000 in
theorem extentDoes_ok (E S L : Nat) (h : M.lokB E S L = true) (hL : L ≤ 60) (A : Option Addr) (len cap : Nat) (X : Nat → Int) (D : Nat → ByteArray) (w : World) (hE : Env10 w) (hET : ErrT w) (hO : Row20 w w.heap.size A len X D) (hl63 : (len : Int) ≤ 9223372036854775807) :
    Calls Tryz.prog 3 #[Cf E S L, .slice A len cap] w fun en z => en = .returned (.bool true) ∧ Below w.heap.size w z := by
  have HB := ib1 w (Ck E S L)
  have C0 := Lib.hid (works20_any (w.alloc (Ck E S L)) (hE.below HB) (hET.low HB hET.lt))
  have C1 := Lib.hid (fun x => small18_ok E S L h x)
  have hb0 : decide ((L : Int) ≤ 60) = true := by simp; omega
  rw [hb0] at C1
  have CG : Hid (∀ x, Below w.heap.size w x → Calls Tryz.prog 7 #[.slice A len cap] x fun e y' => (e = .returned (.bool true) ∧ y' = x) ∨ (e = .returned (.bool false) ∧ y' = x ∧ Hid (len ≤ 60 ∧ ∀ i, i < len → (D i).size ≤ 1000))) := fun x hb => great20_any A len cap _ X D x (hO.below hb) hl63
  have HX : Hid (BCk (w.alloc (Ck E S L)) w.heap.size E S L) := Box.new _ _ _
  have HB0 := Lib.hid HB
  have hv := (M.lok_iff E S L).1 h
  have hE9 : E ≤ 24 := by omega
  have hE1 : 1 ≤ E := by omega
  have HPA : Hid (∀ y, Below w.heap.size w y → Env10 y ∧ ErrT y ∧ 0 < y.heap.size ∧ 1 < y.heap.size) := fun y hb => ⟨hE.low hb hE.lt, hET.low hb hET.lt, Nat.lt_of_lt_of_le hE.lt hb.size, Nat.lt_of_lt_of_le hET.lt hb.size⟩
  have HO := Lib.hid hO
  have HL := Lib.hid h
  clear hE hET HB hL hb0 hv hO hl63
  go_enter Tryz.func3, Tryz.ntmps3
  go_wp2_with fail
  refine C0.out.mono ?_
  rintro en w1 ⟨rfl, hb1⟩
  have HB1 := Lib.hid (HB0.out.trans (hb1.mono HB0.out.size))
  have HX1 := Lib.hid (Box.below HX.out hb1 (Box.lt HX.out))
  clear hb1 C0 HB0 HX
  obtain ⟨c0, c1, c2⟩ := BCk.cells HX1.out
  go_wp2_with fail
  refine (CG.out _ HB1.out).mono ?_
  rintro en wg (⟨rfl, rfl⟩ | ⟨rfl, rfl, HQ⟩)
  · go_wp2_with fail
    go_ret
    exact ⟨rfl, HB1.out⟩
  clear CG
  have hlen : len ≤ 60 := HQ.out.1
  go_wp2_with fail
  refine (C1.out _).mono ?_
  rintro en w2 ⟨rfl, hb2⟩
  have HB2 := Lib.hid (HB1.out.trans (hb2.mono HB1.out.size))
  have HX2 := Lib.hid (Box.below HX1.out hb2 (Box.lt HX1.out))
  clear hb2 C1 HB1 HX1 c0 c1 c2
  obtain ⟨N, hN⟩ : ∃ N, N = w2.heap.size := ⟨_, rfl⟩
  have FC : Hid (∀ y, Below N w2 y → y.cell? ⟨w.heap.size, 0, none⟩ = some (.int .i64 E) ∧ y.cell? ⟨w.heap.size, 1, none⟩ = some (.int .i64 S) ∧ y.cell? ⟨w.heap.size, 2, none⟩ = some (.int .i64 L)) := fun y hb => BCk.cells (Box.below HX2.out hb (by rw [hN]; exact Box.lt HX2.out))
  have FO : Hid (∀ i, i < len → ∃ ad : Addr, A = some ad ∧ (D i).size ≤ 1000 ∧ ∀ y, Below N w2 y → Op20 y (ad.add (i * 2)) (X i) (D i)) := fun i hi => by
    obtain ⟨ad, e1, e2, e3⟩ := HO.out i hi
    refine ⟨ad, e1, HQ.out.2 i hi, fun y hb => e3.below (HB2.out.trans (hb.mono (by rw [hN]; exact HB2.out.size))) (by rw [add_block20]; exact e2)⟩
  have FB : Hid (∀ y, Below N w2 y → Below w.heap.size w y) := fun y hb => HB2.out.trans (hb.mono (by rw [hN]; exact HB2.out.size))
  obtain ⟨q1, q2, q3, q4⟩ := HPA.out _ HB2.out
  rw [← hN] at q3 q4
  have HPB : Hid (Env10 w2 ∧ ErrT w2 ∧ 0 < N ∧ 1 < N) := ⟨q1, q2, q3, q4⟩
  have C2 := Lib.hid (begun16_ok E S L HL.out w2 q1 q2)
  rw [← hN] at C2
  clear q1 q2 q3 q4 HPA HO HB2 HX2 hN HQ
  obtain ⟨c0, c1, c2⟩ := FC.out w2 (Below.refl _ _)
  go_wp2_with fail
  refine C2.out.mono ?_
  rintro en w3 ⟨d, b, s, rfl, h3⟩
  have G4 := Lib.hid (LV.start h3.1 h3.2.1 h3.2.2.1 h3.2.2.2.2)
  have HB3 := Lib.hid h3.1.below
  clear h3 C2 c0 c1 c2
  obtain ⟨c0, c1, c2⟩ := FC.out w3 HB3.out
  have hmk := make_strs20 E hE9
  have hz : decide ((E : Int) < 0) = false := by simp
  go_wp2_with fail
  obtain ⟨w4, hw4⟩ : ∃ x, x = w3.alloc (.cells (M.srow (fun _ => ⟨#[]⟩) E).toArray 9) := ⟨_, rfl⟩
  rw [← hw4] at G4 ⊢
  obtain ⟨al, hal⟩ : ∃ x, x = w3.heap.size := ⟨_, rfl⟩
  rw [← hal] at G4 ⊢
  clear hw4 hal hmk hz HB3 c0 c1 c2
  obtain ⟨nn, zz, hmk, hcv, hzz⟩ : ∃ (nn : Array Value) (zz : ByteArray), (∀ W : World, (Instr.makeSlice 37 (.int .i64 128) (.int .i64 128)).run Tryz.prog W = .ok (.slice (some ⟨W.heap.size, 0, none⟩) 128 128) (W.alloc (.cells nn 5))) ∧
      (∀ W : World, Sem.run Tryz.prog (convert 37 9 (.slice (some ⟨W.heap.size, 0, none⟩) 128 128)) (W.alloc (.cells nn 5)) = .ok (.string zz) (W.alloc (.cells nn 5))) ∧ zz = M.zeros 128 :=
    ⟨M.nils 128, M.zeros 128, fun W => make_nils 128 (by omega) W, fun W => conv_nils 128 _ _ (Box.new _ _ _), rfl⟩
  have HZZ := Lib.hid hzz
  clear hzz
  go_loopw [10] (fun i wr => ∃ k : Nat, k ≤ E ∧ i = .int .i64 (k : Nat) ∧ Hid (LV E S L HL.out N w2 d b al (fun _ => M.zeros 128) (M.half20 k) 0 6000 wr)) (fun i _ => E - (intOf i).toNat)
  case atStart => exact ⟨0, Nat.zero_le _, rfl, G4.out.congr (fun j hj => (if_neg (by omega)).symm)⟩
  case round =>
    clear G4
    obtain ⟨k, hk, rfl, HP⟩ := hrel
    by_cases hlt : k < E
    · have hlt' : (k : Int) < (E : Int) := by omega
      have hk0 : (0 : Int) ≤ (k : Int) := by omega
      have hd9 : decide (k < E) = true := by simpa using hlt
      have HP1 := Lib.hid (HP.out.beside (ib1 wr (.cells nn 5)))
      have x2 := StrB.at (LV.row HP1.out) hlt
      have f2 := StrB.fro (LV.row HP1.out) k
      have HP2 := Lib.hid ((HP1.out.store k zz).congr (g' := M.half20 (k + 1)) (fun j _ => by rw [HZZ.out]; exact M.half20_next k j))
      clear HP HP1 hlt
      go_wp2_with fail
      go_roundw
      case rel => exact ⟨k + 1, by omega, by go_num, HP2⟩
      case measure => simp [intOf]; omega
    · have e : E = k := by omega
      subst e
      have hd9 : decide (E < E) = false := by simp
      have HP2 := Lib.hid (HP.out.congr (g' := fun _ => M.zeros 128) (fun j hj => if_pos hj))
      clear hlt hk HP hmk hcv HZZ
      go_wp2_with fail
      go_loopw [11] (fun i wr => ∃ (k : Nat) (f : Nat → ByteArray), k ≤ len ∧ i = .int .i64 (k : Nat) ∧ Hid (LV E S L HL.out N w2 d b al f f 0 (6000 + 1300 * k) wr)) (fun i _ => len - (intOf i).toNat)
      case atStart => exact ⟨0, _, Nat.zero_le _, rfl, HP2⟩
      case round =>
        clear HP2
        obtain ⟨k, f, hk, rfl, HP⟩ := hrel
        by_cases hlt : k < len
        · have hlt' : (k : Int) < (len : Int) := by omega
          have hk0 : (0 : Int) ≤ (k : Int) := by omega
          have hd9 : decide (k < len) = true := by simpa using hlt
          have hk9 : k < 60 := by omega
          obtain ⟨ad, rfl, hsz, hop⟩ := FO.out k hlt
          have HC := Lib.hid hop
          clear hop hlt
          -- what a round leaves
          have HEnd : Hid (∀ g x, LV E S L HL.out N w2 d b al g g 0 (6000 + 1300 * k + 1200 + 60) x → LV E S L HL.out N w2 d b al g g 0 (6000 + 1300 * (k + 1)) x) := fun g x q => q.more (by omega) (by omega)
          obtain ⟨Y, hY⟩ : ∃ Y, Y = X k := ⟨_, rfl⟩
          obtain ⟨t, ht⟩ : ∃ t, t = D k := ⟨_, rfl⟩
          rw [← hY, ← ht] at HC
          rw [← ht] at hsz
          clear hY ht
          have hcase : (Y < 0 ∨ (¬ Y < 0 ∧ (E : Int) ≤ Y)) ∨ (∃ i : Nat, Y = (i : Nat) ∧ i < E) := by
            by_cases h1 : Y < 0
            · exact Or.inl (Or.inl h1)
            · by_cases h2 : (E : Int) ≤ Y
              · exact Or.inl (Or.inr ⟨h1, h2⟩)
              · exact Or.inr ⟨Y.toNat, by omega, by omega⟩
          rcases hcase with hcase | ⟨i, rfl, hi⟩
          · have C3 := Lib.hid ((HP.out.beside (Below.refl _ _).drew).stageO Y t (by omega))
            rcases hcase with h1 | ⟨h1, h2⟩
            all_goals
              obtain ⟨c0, c1⟩ := HC.out wr HP.out.below
              obtain ⟨k0, k1, k2⟩ := FC.out wr HP.out.below
              clear HP hsz
              go_wp2_with fail
              go_still_tail 12, (by kernel_rfl)
              change wpList _ _ _ _ _ wr.drew
              go_wp2_with fail
              refine C3.out.mono ?_
              rintro en w9 ⟨rfl, h9⟩
              have G9 := Lib.hid h9
              clear h9 C3 c0 c1 k0 k1 k2
              obtain ⟨c0, c1⟩ := HC.out w9 G9.out.below
              obtain ⟨k0, -, -⟩ := FC.out w9 G9.out.below
              go_wp2_with fail
              go_quiet (fail)
              go_wp2_with fail
              refine ((G9.out.beside (below_drewN (Below.refl _ _) _)).next (by omega) (by omega) HPB.out.2.1 HPB.out.2.2.2).mono ?_
              rintro en w11 ⟨rfl, h11⟩
              have G11 := Lib.hid h11
              clear h11 G9 c0 c1 k0
              obtain ⟨k0, k1, k2⟩ := FC.out w11 G11.out.below
              go_wp2_with fail
              refine (G11.out.same hE9 E (by omega)).mono ?_
              rintro en w12 ⟨rfl, h12⟩
              have G13 := Lib.hid (HEnd.out _ _ h12)
              clear h12 G11 HEnd k0 k1 k2
              go_wp2_with fail
              go_roundw
              case rel => exact ⟨k + 1, _, by omega, by go_num, G13⟩
              case measure => simp [intOf]; omega
          · have hi0 : (0 : Int) ≤ (i : Int) := by omega
            have hi' : (i : Int) < (E : Int) := by omega
            have hie : ¬ (i : Int) < 0 := by omega
            have hie2 : ¬ (E : Int) ≤ (i : Int) := by omega
            by_cases ht : t.size = 128
            · have C3 := Lib.hid ((HP.out.beside (Below.refl _ _).drew).stage stageC20 (by omega) hi t ht)
              have d1 : ((t.size : Int) == 128) = true := by simp; omega
              have d2 : ((t.size : Int) != 128) = false := by rw [bne, d1]; rfl
              have d3 : (t.size : Int) = 128 := by omega
              have HI : Hid (i < E) := hi
              obtain ⟨c0, c1⟩ := HC.out wr HP.out.below
              obtain ⟨k0, k1, k2⟩ := FC.out wr HP.out.below
              clear HP hsz hi ht
              go_wp2_with fail
              go_still_tail 12, (by kernel_rfl)
              change wpList _ _ _ _ _ wr.drew
              go_wp2_with fail
              refine C3.out.mono ?_
              rintro en w9 ⟨rfl, h9⟩
              have G9 := Lib.hid h9
              clear h9 C3 c0 c1 k0 k1 k2
              obtain ⟨c0, c1⟩ := HC.out w9 G9.out.below
              obtain ⟨k0, -, -⟩ := FC.out w9 G9.out.below
              go_wp2_with fail
              go_quiet (fail)
              go_wp2_with fail
              refine ((G9.out.beside (below_drewN (Below.refl _ _) _)).next (by omega) (by omega) HPB.out.2.1 HPB.out.2.2.2).mono ?_
              rintro en w11 ⟨rfl, h11⟩
              have G11 := Lib.hid h11
              clear h11 G9 c0 c1 k0
              obtain ⟨c0, c1⟩ := HC.out w11 G11.out.below
              have x0 := StrB.at (LV.row G11.out) HI.out
              have f0 := StrB.fro (LV.row G11.out) i
              have G12 := Lib.hid ((G11.out.store i t).beside (Below.refl _ _).drew)
              obtain ⟨k0, k1, k2⟩ := FC.out _ G12.out.below
              clear G11
              go_wp2_with fail
              go_still_tail 12, (by kernel_rfl)
              change wpList _ _ _ _ _ w11.drew
              go_wp2_with fail
              refine (G12.out.same hE9 E (by omega)).mono ?_
              rintro en w12 ⟨rfl, h12⟩
              have G13 := Lib.hid (HEnd.out _ _ h12)
              clear h12 G12 c0 c1 x0 f0 HEnd k0 k1 k2
              go_wp2_with fail
              go_roundw
              case rel => exact ⟨k + 1, _, by omega, by go_num, G13⟩
              case measure => simp [intOf]; omega
            · have C3 := Lib.hid ((HP.out.beside (Below.refl _ _).drew).stageS t hi ht)
              have d1 : ((t.size : Int) == 128) = false := by rw [beq_eq_false_iff_ne]; omega
              have d2 : ((t.size : Int) != 128) = true := by rw [bne, d1]; rfl
              have d3 : ¬ (t.size : Int) = 128 := by omega
              obtain ⟨c0, c1⟩ := HC.out wr HP.out.below
              obtain ⟨k0, k1, k2⟩ := FC.out wr HP.out.below
              clear HP hsz hi ht
              go_wp2_with fail
              go_still_tail 12, (by kernel_rfl)
              change wpList _ _ _ _ _ wr.drew
              go_wp2_with fail
              refine C3.out.mono ?_
              rintro en w9 ⟨rfl, h9⟩
              have G9 := Lib.hid h9
              clear h9 C3 c0 c1 k0 k1 k2
              obtain ⟨c0, c1⟩ := HC.out w9 G9.out.below
              obtain ⟨k0, -, -⟩ := FC.out w9 G9.out.below
              go_wp2_with fail
              go_quiet (fail)
              go_wp2_with fail
              refine ((G9.out.beside (below_drewN (Below.refl _ _) _)).next (by omega) (by omega) HPB.out.2.1 HPB.out.2.2.2).mono ?_
              rintro en w11 ⟨rfl, h11⟩
              have G11 := Lib.hid h11
              clear h11 G9 c0 c1 k0
              obtain ⟨k0, k1, k2⟩ := FC.out w11 G11.out.below
              go_wp2_with fail
              refine (G11.out.same hE9 E (by omega)).mono ?_
              rintro en w12 ⟨rfl, h12⟩
              have G13 := Lib.hid (HEnd.out _ _ h12)
              clear h12 G11 HEnd k0 k1 k2
              go_wp2_with fail
              go_roundw
              case rel => exact ⟨k + 1, _, by omega, by go_num, G13⟩
              case measure => simp [intOf]; omega
        · have e : len = k := by omega
          subst e
          have hd9 : decide (len < len) = false := by simp
          have CL := Lib.hid (fun x => log15_ok E S L HL.out x)
          have C7 : Hid (∀ m x, m ≤ 300000 → LVD E S L HL.out N w2 d al f m x → Calls Tryz.prog 16 #[.pointer (some ⟨d, 0, none⟩), .int .i64 (M.ll E S : Nat), .int .i64 (L : Nat)] x fun e z => ∃ b2, e = .returned (.tuple #[.pointer (some ⟨b2, 0, none⟩), .int .i64 0]) ∧ LVS E S L HL.out N w2 d b2 al f false 0 (m + 5000) z) := fun m x hm q => q.opens (by omega) HPB.out.1 HPB.out.2.1 HPB.out.2.2.1 HPB.out.2.2.2
          obtain ⟨l0, hl0⟩ : ∃ x, x = M.ll E S := ⟨_, rfl⟩
          rw [← hl0] at CL C7
          obtain ⟨m0, hm0⟩ : ∃ x, x = 6000 + 1300 * len := ⟨_, rfl⟩
          rw [← hm0] at HP
          have hm9 : m0 ≤ 200000 := by omega
          clear hlt hk hl0 hm0 FO
          go_wp2_with fail
          refine (HP.out.flush (by omega)).mono ?_
          rintro en w10 ⟨rfl, h10⟩
          have G10 := Lib.hid h10
          clear h10 HP
          go_wp2_with fail
          refine (G10.out.restart (by omega)).mono ?_
          rintro en w11 ⟨rfl, h11⟩
          have G11 := Lib.hid h11
          clear h11 G10
          have hS0 := FC.out w11 G11.out.below
          have hS0' : w11.drew.cell? ⟨w.heap.size, 0, none⟩ = some (.int .i64 E) ∧ w11.drew.cell? ⟨w.heap.size, 1, none⟩ = some (.int .i64 S) ∧ w11.drew.cell? ⟨w.heap.size, 2, none⟩ = some (.int .i64 L) := hS0
          have HLF : Hid (∀ x z, LVD E S L HL.out N w2 d al f (m0 + 3) x → Below x.heap.size x z → LVD E S L HL.out N w2 d al f (m0 + 3) z) := fun x z q hb => q.beside hb
          go_wp2_with fail
          go_region_held3 (fun y => y.cell? ⟨w.heap.size, 0, none⟩ = some (.int .i64 E) ∧ y.cell? ⟨w.heap.size, 1, none⟩ = some (.int .i64 S) ∧ y.cell? ⟨w.heap.size, 2, none⟩ = some (.int .i64 L)) (first | assumption | trivial)
            (first
              | (go_at_call 17; refine (CL.out _).mono ?_; rintro en w12 ⟨rfl, hb12⟩; have G12 := Lib.hid (HLF.out _ w12 (by first | exact G11.out | exact HLF.out _ _ G11.out (Below.refl _ _).drew) hb12); have hS12 := FC.out w12 G12.out.below; clear hb12)
              | (go_at_call 16; refine (C7.out (m0 + 3) _ (by omega) (by first | exact G12.out | exact HLF.out _ _ G12.out (Below.refl _ _).drew)).mono ?_; rintro en w13 ⟨b2, rfl, h13⟩; have G13 := Lib.hid h13; have hS13 := FC.out w13 G13.out.below; clear h13))
          clear hS0 hS0' hS12 G11 G12 CL C7 HLF
          obtain ⟨k0, k1, k2⟩ := hS13
          go_wp2_with fail
          refine (LVS.same hE9 E G13.out (by omega)).mono ?_
          rintro en w14 ⟨rfl, h14⟩
          have G14 := Lib.hid (FB.out _ h14)
          clear h14 G13 k0 k1 k2
          go_wp2_with fail
          go_ret
          exact ⟨rfl, G14.out⟩
end Go.Proofs.YtmgchfjfkdkaoaaGreatDoor
namespace Go.Proofs.YtmgchfjfkdkaoaaGreatDoor
open Go.RowKit Go.Maps
theorem extentDoes_walk (a b c : Int) (v : Value) (W : World) (hE : Env10 W ∧ ErrT W) (hv : OpsAt20 W v) :
    Calls Tryz.prog 3 #[.agg #[.int .i64 a, .int .i64 b, .int .i64 c], v] W fun en y => en = .returned (.bool true) ∧ Below W.heap.size W y := by
  obtain ⟨A, len, cap, X, D, rfl, h63, hO⟩ := hv
  cases hl : M.lokB a b c
  · exact extentDoes_no a b c hl A len cap X D W hE.1 hE.2 hO h63
  · have h' := (M.lok_iff a b c).1 hl
    obtain ⟨E, rfl⟩ : ∃ E : Nat, a = E := ⟨a.toNat, by omega⟩
    obtain ⟨S, rfl⟩ : ∃ E : Nat, b = E := ⟨b.toNat, by omega⟩
    obtain ⟨L, rfl⟩ : ∃ E : Nat, c = E := ⟨c.toNat, by omega⟩
    by_cases hL : L ≤ 60
    · exact extentDoes_ok E S L hl hL A len cap X D W hE.1 hE.2 hO h63
    · exact extentDoes_big E S L hl (by omega) A len cap X D W hE.1 hE.2 hO h63
end Go.Proofs.YtmgchfjfkdkaoaaGreatDoor
