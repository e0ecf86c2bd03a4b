/-
  Numbers as an argument of solderlaw14.WalDoes; the steps, at every later world. A walk over the law WalDoes.
-/
import Derived.Test.YtigmcnnplnfakaaGreatDoorMT
import Derived.Test.YtigmcnnplnfakaaGreatDoorME
import Derived.Test.YtigmcnnplnfakaaGreatDoorRD
import Derived.Test.YtigmcnnplnfakaaGreatDoorQD
import Derived.Deep.CutRange
import Derived.Deep.LoopGhost
import Derived.Deep.RegionHeld3
import Derived.BigQuiet
namespace Go.Proofs.YtigmcnnplnfakaaGreatDoor
open Go.RowKit Go.ChangeShapes Go.WideShapes Go.ChangeAt Go.Deep

/-- v is a slice of numbers, in blocks of w. -/
def IntsAt14 (w : World) (v : Value) : Prop := ∃ (A : Option Addr) (len cap : Nat), v = .slice A len cap ∧ len ≤ maxLen ∧
  ∀ i, i < len → ∃ (ad : Addr) (x : Int), A = some ad ∧ ad.block < w.heap.size ∧ w.cell? (ad.add i) = some (.int .i64 x)
set_option maxRecDepth 100000 in
theorem walDoes_open0 {H : Type} {enc : TypeId × Value → H} {W : World} {r : Reach} {b0 : Nat} {v : Value} {d : DataW H} {p : List MemPlace} (hval : Value.okWide Tryz.prog W r b0 22 v)
    (h : DataW.Trod enc Tryz.prog W 0 (fun _ => true) true 22 v d p) : OpsAt14 W v := walRoom_open0 hval h
set_option maxRecDepth 100000 in
theorem walDoes_open1 {H : Type} {enc : TypeId × Value → H} {W : World} {r : Reach} {b0 : Nat} {v : Value} {d : DataW H} {p : List MemPlace} (hval : Value.okWide Tryz.prog W r b0 23 v)
    (h : DataW.Trod enc Tryz.prog W 0 (fun _ => true) true 23 v d p) : IntsAt14 W v := by
  obtain ⟨A, len, cap, rfl⟩ := okWide_slice Tryz.underlying23 hval
  obtain ⟨fuel, hf⟩ := h
  rcases open_slice1 Tryz.underlying23 (by kernel_rfl) hf with ⟨hc, _⟩ | ⟨a, l, c, m, k, V, D, Pl, hc, _, hl, hcm, hmm, _, hall⟩
  · simp [Value.cells] at hc
    obtain ⟨rfl, rfl, rfl⟩ := hc
    exact ⟨none, 0, 0, rfl, Nat.zero_le _, fun i hi => absurd hi (by omega)⟩
  · simp [Value.cells] at hc
    obtain ⟨rfl, rfl, rfl⟩ := hc
    simp only [if_true] at hmm
    subst hmm
    refine ⟨some a, len, m, rfl, Nat.le_trans hl hcm, fun i hi => ?_⟩
    obtain ⟨c0, t0⟩ := hall i (by omega)
    obtain ⟨s, h1, _⟩ := DataW.trod_int Tryz.underlying3 t0
    simp only [List.cons.injEq, and_true] at h1
    rw [h1] at c0
    have hlt := World.block_lt_of_cell? W _ c0
    rw [add_block14] at hlt
    exact ⟨a, s, rfl, hlt, c0⟩
theorem IntsAt14.of {w : World} {A : Option Addr} {len : Nat} (h : ∀ i, i < len → ∃ (ad : Addr) (x : Int), A = some ad ∧ ad.block < w.heap.size ∧ w.cell? (ad.add i) = some (.int .i64 x)) : ∃ z : Nat → Int, ∀ i, i < len → ∃ ad : Addr, A = some ad ∧ ∀ y, Below w.heap.size w y → y.cell? (ad.add i) = some (.int .i64 (z i)) := by
  classical
  refine ⟨fun i => if hi : i < len then Classical.choose (Classical.choose_spec (h i hi)) else 0, fun i hi => ?_⟩
  have := Classical.choose_spec (Classical.choose_spec (h i hi))
  simp only [dif_pos hi]
  exact ⟨Classical.choose (h i hi), this.1, fun y hb => (hb.cell (by rw [add_block14]; exact this.2.1)).trans this.2.2⟩
theorem OpF14.all {w : World} {A : Option Addr} {len : Nat} {f : Nat → M.Op14} (h : OpF14 w A len f) {i : Nat} (hi : i < len) : ∃ ad : Addr, A = some ad ∧ (∀ y, Below w.heap.size w y → OpCells14 y (ad.add (i * 3)) (f i)) ∧ (Lit.int .i64 (f i).at_).wf = true := by
  obtain ⟨ad, h1, h2, _, h3⟩ := h i hi
  refine ⟨ad, h1, fun y hb => ?_, h3⟩
  obtain ⟨ad', e, hc⟩ := h.at_ rfl hb hi
  obtain rfl : ad = ad' := Option.some.inj (h1.symm.trans e)
  exact hc
end Go.Proofs.YtigmcnnplnfakaaGreatDoor
namespace Go.Proofs.YtigmcnnplnfakaaGreatDoor
open Go.RowKit Go.Maps

set_option maxRecDepth 100000 in
set_option maxHeartbeats 16000000 in
theorem does_walk (A A2 : Option Addr) (len cap n2 cap2 : Nat) (f : Nat → M.Op14) (x2 : Nat → Int) (w : World) (hA : OpF14 w A len f) (hlen : len ≤ maxLen) (hl2 : n2 ≤ maxLen) (hF : ∀ i, i < n2 → ∃ ad : Addr, A2 = some ad ∧ ∀ y, Below w.heap.size w y → y.cell? (ad.add i) = some (.int .i64 (x2 i))) (hE : Env10 w) (hET : ErrT w) :
    Calls Tryz.prog 3 #[.slice A len cap, .slice A2 n2 cap2] w fun e y => e = .returned (.bool true) ∧ Below w.heap.size w y := by
  have HWK := Lib.hid (works14_any w hE hET)
  have HGR := Lib.hid (fun y (hb : Below w.heap.size w y) => great14_any A len cap f w y hA hb hlen)
  have HBG := Lib.hid (fun y (hb : Below w.heap.size w y) => begun15_any w y hE hET hb)
  have HOP := Lib.hid (fun (i : Nat) (hi : i < len) => hA.all hi)
  have HF := Lib.hid hF
  have hl63 : (len : Int) ≤ 9223372036854775807 := by unfold maxLen at hlen; omega
  obtain ⟨N, hN⟩ : ∃ N, N = w.heap.size := ⟨_, rfl⟩
  rw [← hN]
  have HNN := Lib.hid hN
  rw [← hN] at HGR HBG HOP HF
  have h2m : (n2 : Int) ≤ 9223372036854775807 := by unfold maxLen at hl2; omega
  clear hA hE hET hlen hl2 hF hN
  go_enter Tryz.func3, Tryz.ntmps3
  go_wp2_with fail
  refine HWK.out.mono ?_
  rintro e w1 ⟨rfl, hb1⟩
  rw [← HNN.out] at hb1
  have HB1 := Lib.hid hb1
  clear hb1 HWK
  go_wp2_with fail
  refine (HGR.out _ HB1.out).mono ?_
  rintro e w2 (⟨rfl, rfl⟩ | ⟨rfl, rfl, HSM⟩)
  · go_wp2_with fail
    go_ret
    exact ⟨rfl, HB1.out⟩
  have HL := Lib.hid HSM.out.1
  clear HSM HGR
  by_cases h50 : n2 ≤ 50
  case neg =>
    have h50' : (50 : Int) < (n2 : Int) := by omega
    go_wp2_with fail
    go_ret
    exact ⟨rfl, HB1.out⟩
  have h50' : (n2 : Int) ≤ 50 := by omega
  have HL2 := Lib.hid h50
  clear h50
  have CB := Lib.hid (HBG.out _ HB1.out)
  clear HBG
  go_wp2_with fail
  refine CB.out.mono ?_
  rintro e w3 ⟨a, b, rfl, C3⟩
  have HC3 := Lib.hid C3
  clear C3 CB HB1
  go_wp2_with fail
  refine HC3.out.mono ?_
  rintro e w4 ⟨r, rfl, h4⟩
  have H4 := Lib.hid h4
  clear h4 HC3
  go_wp2_with fail
  go_loopg [9] n2 (fun g j wr => ∃ k : Nat, k + g = n2 ∧ j = .int .i64 k ∧ Hid (DB w N a r k (2000 + 1000 * k) wr b))
  case atStart => exact ⟨0, by omega, rfl, H4⟩
  case round =>
    clear H4
    obtain ⟨k, hkg, rfl, HD⟩ := hrel
    cases gk with
    | succ g =>
      have hlt : k < n2 := by omega
      have hk0 : (0 : Int) ≤ (k : Int) := by omega
      have hlt' : (k : Int) < (n2 : Int) := by omega
      obtain ⟨ad, rfl, hcl⟩ := HF.out k hlt
      have HCL := Lib.hid hcl
      have c0 := hcl wr HD.out.2.1
      obtain ⟨x, hx⟩ : ∃ x, x = x2 k := ⟨_, rfl⟩
      rw [← hx] at c0 HCL
      clear hcl hx
      have HSK : Hid (DB w N a r (k + 1) (2000 + 1000 * (k + 1)) wr b) := HD.out.more (by omega) (by omega)
      by_cases hx1 : 0 < x
      · by_cases hx2 : x < 100000
        · obtain ⟨o, ho⟩ := HD.out.ops
          have CO := Lib.hid (ho 1)
          have HDd := Lib.hid (HD.out.drewN 1)
          have CF := Lib.hid (fun x => HDd.out.fail x)
          clear HD HSK ho HF HOP
          go_wp2_with fail
          go_region_held3 (fun z => z.cell? (ad.add k) = some (.int .i64 x)) (first | exact HCL.out _ h3.2.1 | exact HCL.out _ HDd.out.2.1) (first
            | (go_at_call 10
               refine CO.out.mono ?_
               rintro e z2 ⟨rfl, rfl⟩)
            | (go_at_call 9
               refine (CF.out _).mono ?_
               rintro e z3 ⟨rfl, h3⟩))
          have H3 := Lib.hid h3
          clear h3 c0 CO CF HDd HCL
          go_wp2_with fail
          go_roundg g
          case measure => omega
          case rel => exact ⟨k + 1, by omega, by go_num, H3⟩
        · have hx2' : (100000 : Int) ≤ x := by omega
          clear HD HF HOP HCL
          go_wp2_with fail
          go_roundg g
          case measure => omega
          case rel => exact ⟨k + 1, by omega, by go_num, HSK⟩
      · have hx1' : x ≤ 0 := by omega
        clear HD HF HOP HCL
        go_wp2_with fail
        go_roundg g
        case measure => omega
        case rel => exact ⟨k + 1, by omega, by go_num, HSK⟩
    | zero =>
      have e : k = n2 := by omega
      subst e
      have HT : Hid (DB w N a r 50 (60000 + 600 * 0) wr b) := HD.out.more (by have := HL2.out; omega) HL2.out
      clear hkg HD HF HL2 h50' h2m
      go_wp2_with fail
      go_loopg [10, 6] len (fun g j v wr => ∃ (i b1 : Nat), i + g = len ∧ j = .int .i64 i ∧ v = .pointer (some ⟨b1, 0, none⟩) ∧ Hid (DB w N a r 50 (60000 + 600 * i) wr b1))
      case atStart => exact ⟨0, b, by omega, rfl, rfl, HT⟩
      case round =>
        clear HT
        obtain ⟨i, b1, hig, rfl, rfl, HD⟩ := hrel
        cases gk with
        | succ g =>
          have hlt : i < len := by omega
          have hi0 : (0 : Int) ≤ (i : Int) := by omega
          have hlt' : (i : Int) < (len : Int) := by omega
          have HI : Hid (60000 + 600 * i + 600 ≤ 300000 ∧ i + (g + 1) = len) := ⟨by have := HL.out; omega, hig⟩
          obtain ⟨ad, rfl, hcl, hwf⟩ := HOP.out i hlt
          obtain ⟨kd, hkd⟩ : ∃ x, x = (f i).kind := ⟨_, rfl⟩
          obtain ⟨at_, hat⟩ : ∃ x, x = (f i).at_ := ⟨_, rfl⟩
          obtain ⟨dt, hdt⟩ : ∃ x, x = (f i).data := ⟨_, rfl⟩
          have HCL : Hid (∀ y, Below N w y → y.cell? (ad.add (i * 3)) = some (.int .i64 kd) ∧ y.cell? ⟨(ad.add (i * 3)).block, (ad.add (i * 3)).off + 1, none⟩ = some (.int .i64 at_) ∧ y.cell? ⟨(ad.add (i * 3)).block, (ad.add (i * 3)).off + 2, none⟩ = some (.string dt)) := by
            rw [hkd, hat, hdt]
            exact hcl
          rw [← hat] at hwf
          have HWF := Lib.hid hwf
          obtain ⟨c0, c1, c2⟩ := HCL.out wr HD.out.2.1
          clear hcl hkd hat hdt hwf hig hlt HOP
          go_upto_if 76 with fail
          go_cut [6, 11, 12, 13, 14, 15] from 65 to 209 (fun v _ _ _ _ _ wx => ∃ b2 : Nat, v = .pointer (some ⟨b2, 0, none⟩) ∧ Hid (DB w N a r 50 (60000 + 600 * i + 550) wx b2))
          case first =>
            by_cases k6 : kd = 6
            · subst k6
              have HC1 := Lib.hid (HD.out.alone.open (by have := HI.out.1; omega))
              clear c0 c1 c2 HD HCL HWF
              go_wp2_with fail
              refine HC1.out.mono ?_
              rintro e z1 hc
              have hce : ∃ (xv : Value) (ev : Int), e = .returned (.tuple #[xv, .int .i64 ev]) ∧ Hid ((ev = 30 ∧ xv = .pointer none ∧ ∃ c, c ≤ 49 ∧ DD w N a r c (60000 + 600 * i + 2) z1) ∨ (ev = 0 ∧ ∃ b2, xv = .pointer (some ⟨b2, 0, none⟩) ∧ ∃ c, c ≤ 50 ∧ DO w N a r c (60000 + 600 * i + 502) id z1 b2)) := by
                rcases hc with ⟨e1, c', e2, e3⟩ | ⟨b2, e1, e2⟩
                · exact ⟨_, _, e1, Or.inl ⟨rfl, rfl, c', by omega, e3⟩⟩
                · exact ⟨_, _, e1, Or.inr ⟨rfl, b2, rfl, 50, Nat.le_refl _, e2⟩⟩
              obtain ⟨xv, ev, rfl, HCE⟩ := hce
              clear hc HC1
              go_wp2_with fail
              go_loopg [13, 11, 12] 60 (fun g kk xx ee wr2 => ∃ (q : Nat) (xv : Value) (ev : Int), q + g = 60 ∧ kk = .int .i64 q ∧ xx = xv ∧ ee = .int .i64 ev ∧ Hid ((ev = 30 ∧ xv = .pointer none ∧ ∃ c, c + q ≤ 49 ∧ DD w N a r c (60000 + 600 * i + 2) wr2) ∨ (ev = 0 ∧ ∃ b2, xv = .pointer (some ⟨b2, 0, none⟩) ∧ ∃ c, c ≤ 50 ∧ DO w N a r c (60000 + 600 * i + 502) id wr2 b2)))
              case atStart => exact ⟨0, xv, ev, by omega, rfl, rfl, rfl, HCE⟩
              case round =>
                clear HCE
                obtain ⟨q, xv, ev, hqg, rfl, rfl, rfl, HCE⟩ := hrel
                have hq0 : (0 : Int) ≤ (q : Int) := by omega
                rcases HCE.out with ⟨rfl, rfl, c, hc, hd⟩ | ⟨rfl, b2, rfl, c, hc, hd⟩
                · cases gk with
                  | zero => exact absurd hc (by omega)
                  | succ g2 =>
                    have hq6 : (q : Int) < 60 := by omega
                    have HC1 := Lib.hid (hd.open (by have := HI.out.1; omega))
                    have HQC : Hid (c + q ≤ 49 ∧ q + (g2 + 1) = 60) := ⟨hc, hqg⟩
                    clear hc hqg hd HCE
                    go_wp2_with fail
                    refine HC1.out.mono ?_
                    rintro e z1 hc
                    have hce : ∃ (xv : Value) (ev : Int), e = .returned (.tuple #[xv, .int .i64 ev]) ∧ Hid ((ev = 30 ∧ xv = .pointer none ∧ ∃ c, c + (q + 1) ≤ 49 ∧ DD w N a r c (60000 + 600 * i + 2) z1) ∨ (ev = 0 ∧ ∃ b2, xv = .pointer (some ⟨b2, 0, none⟩) ∧ ∃ c, c ≤ 50 ∧ DO w N a r c (60000 + 600 * i + 502) id z1 b2)) := by
                      have h1 := HQC.out.1
                      rcases hc with ⟨e1, c', e2, e3⟩ | ⟨b2, e1, e2⟩
                      · exact ⟨_, _, e1, Or.inl ⟨rfl, rfl, c', by omega, e3⟩⟩
                      · exact ⟨_, _, e1, Or.inr ⟨rfl, b2, rfl, c, by omega, e2⟩⟩
                    obtain ⟨xv, ev, rfl, HCE⟩ := hce
                    clear hc HC1
                    go_wp2_with fail
                    go_roundg g2
                    case measure => omega
                    case rel => exact ⟨q + 1, xv, ev, by have := HQC.out.2; omega, by go_num, rfl, rfl, HCE⟩
                · have CA := Lib.hid hd.abort
                  have HM : Hid (c ≤ 50) := hc
                  have hqq : (q : Int) < 60 ∨ (60 : Int) ≤ (q : Int) := by omega
                  clear hc hd HCE hqg
                  rcases hqq with hqq | hqq
                  all_goals
                    go_wp2_with fail
                    refine CA.out.mono ?_
                    rintro e z2 ⟨rfl, h2⟩
                    obtain ⟨⟨v5, c5⟩, f5, HX⟩ := h2.used
                    obtain ⟨⟨v6, c6⟩, f6, HY⟩ := HX.out.sure
                    have HZ := Lib.hid (HY.out.more (m' := 60000 + 600 * i + 550) (by omega) HM.out)
                    clear h2 HX HY CA
                    go_wp2_with fail
                    go_meet
                    exact ⟨b2, rfl, HZ⟩
            · have k6' : (kd == 6) = false := by rw [beq_eq_false_iff_ne]; exact k6
              have CD := Lib.hid (HD.out.do (by have := HI.out.1; omega) kd at_ dt HWF.out)
              clear k6 HD HWF
              go_wp2_with fail
              refine CD.out.mono ?_
              rintro e z1 ⟨⟨E, rfl, hE1, hE2⟩, h1⟩
              have HZ := Lib.hid (h1.more (m' := 60000 + 600 * i + 550) (by omega) (Nat.le_refl _))
              obtain ⟨d0, -, -⟩ := HCL.out z1 h1.2.1
              have e1 : (E == E) = true := by simp
              have e31 : (E == 31) = false := by rw [beq_eq_false_iff_ne]; exact hE1
              clear h1 CD c0 c1 c2 HCL
              by_cases h30 : E = 30
              · have hk2 := hE2 h30
                have hk2' : decide (kd < 2) = false := by simp; omega
                subst h30
                clear hE1 hE2 e1 e31
                go_wp2_with fail
                go_meet
                exact ⟨b1, rfl, HZ⟩
              · have e30 : (E == 30) = false := by rw [beq_eq_false_iff_ne]; exact h30
                clear hE1 hE2 h30
                go_wp2_with fail
                go_meet
                exact ⟨b1, rfl, HZ⟩
          case rest =>
            obtain ⟨b2, rfl, HB⟩ := hcut
            obtain ⟨St, Et, act, sure, room, L, q1, q2, q3, q4, q5, q6, q7, q8, q9, q10⟩ := HB.out.look (by have := HI.out.1; omega) at_ HWF.out
            obtain ⟨-, c1, -⟩ := HCL.out wc HB.out.2.1
            have Q1 := Lib.hid q1
            have Q2 := Lib.hid q2
            have Q3 := Lib.hid q3
            have Q4 := Lib.hid q4
            have Q5 := Lib.hid q5
            have Q6 := Lib.hid q6
            have Q7 := Lib.hid q7
            have Q8 := Lib.hid q8
            have Q9 := Lib.hid q9
            have Q10 := Lib.hid q10
            clear q1 q2 q3 q4 q5 q6 q7 q8 q9 q10 HB HD c0 c2 HWF
            go_wp2_with fail
            refine Q1.out.mono ?_
            rintro e z1 ⟨S, E, rfl, hse, hl⟩
            have HSE := Lib.hid hse
            have HLz := Lib.hid hl
            obtain ⟨-, d1, -⟩ := HCL.out z1 (Q4.out z1 hl)
            clear hse hl Q1 c1
            go_wp2_with fail
            refine (Q2.out z1 HLz.out).mono ?_
            rintro e z2 ⟨rfl, rfl⟩
            obtain ⟨ob, hob⟩ : ∃ ob : Bool, ob = decide (10 ≤ at_ ∧ at_ < 34) := ⟨_, rfl⟩
            have HOB := Lib.hid hob
            clear hob Q2 HCL Q4
            go_upto_region 34 with fail
            go_cut [20] from 65 to 209 (fun c wx => c = .bool ob ∧ wx = z2)
            case first =>
              by_cases a1 : 10 ≤ at_
              · by_cases a2 : at_ < 34
                · have ho : ob = true := by rw [HOB.out]; simp [a1, a2]
                  go_wp2_with fail
                  go_meet
                  exact ⟨by rw [ho], rfl⟩
                · have ho : ob = false := by rw [HOB.out]; simp [a2]
                  go_wp2_with fail
                  go_meet
                  exact ⟨by rw [ho], rfl⟩
              · have ho : ob = false := by rw [HOB.out]; simp [a1]
                go_wp2_with fail
                go_meet
                exact ⟨by rw [ho], rfl⟩
            obtain ⟨rfl, hw⟩ := hcut
            subst hw
            clear d1
            go_upto_region 35 with fail
            go_cut [209] from 65 to 209 (fun c wx => c = .bool false ∧ Hid (DB w N a r 50 (60000 + 600 * i + 551) wx b2))
            case first =>
              have X5 : Hid (∀ x, L x → Calls Tryz.prog 16 #[.pointer (some ⟨b2, 0, none⟩)] x fun e z => e = .returned (.bool act) ∧ L z ∧ z.cell? ⟨r, 2, none⟩ = some (.bool act) ∧ z.cell? ⟨r, 6, none⟩ = some (.bool sure)) := fun x hx => (Q5.out x hx).mono fun e z ⟨he, hz⟩ => ⟨he, by rw [hz]; exact hx, by rw [hz]; exact Q6.out x hx⟩
              have X7 : Hid (∀ x, L x → Calls Tryz.prog 17 #[.pointer (some ⟨b2, 0, none⟩)] x fun e z => e = .returned (.bool sure) ∧ L z ∧ z.cell? ⟨r, 2, none⟩ = some (.bool act) ∧ z.cell? ⟨r, 6, none⟩ = some (.bool sure)) := fun x hx => (Q7.out x hx).mono fun e z ⟨he, hz⟩ => ⟨he, by rw [hz]; exact hx, by rw [hz]; exact Q6.out x hx⟩
              have X8 : Hid (∀ x, L x → Calls Tryz.prog 18 #[.pointer (some ⟨b2, 0, none⟩)] x fun e z => e = .returned (.int .i64 room) ∧ L z ∧ z.cell? ⟨r, 2, none⟩ = some (.bool act) ∧ z.cell? ⟨r, 6, none⟩ = some (.bool sure)) := fun x hx => (Q8.out x hx).mono fun e z ⟨he, k, hz⟩ => by
                have hlz : L z := by rw [hz]; exact Q3.out x k hx
                exact ⟨he, hlz, Q6.out z hlz⟩
              have X9 : Hid (∀ x, L x → Calls Tryz.prog 19 #[.pointer (some ⟨r, 0, none⟩)] x fun e z => e = .returned (.int .i64 room) ∧ L z ∧ z.cell? ⟨r, 2, none⟩ = some (.bool act) ∧ z.cell? ⟨r, 6, none⟩ = some (.bool sure)) := fun x hx => (Q9.out x hx).mono fun e z ⟨he, k, hz⟩ => by
                have hlz : L z := by rw [hz]; exact Q3.out x k hx
                exact ⟨he, hlz, Q6.out z hlz⟩
              have X10 : Hid (∀ x, L x → DB w N a r 50 (60000 + 600 * i + 551) x b2) := fun x hx => Q10.out x hx
              have hl0 : L wc.drew := Q3.out wc 1 HLz.out
              have hS0 := Q6.out wc.drew hl0
              have n1 : (act != act) = false := by simp
              have n2 : (sure != sure) = false := by simp
              have n3 : (room != room) = false := by simp
              have n3' : (room == room) = true := by simp
              have hcs : ob = true ∨ (ob = false ∧ E = 30) ∨ (ob = false ∧ (E == 30) = false ∧ S = St ∧ E = Et) := by
                cases hob : ob with
                | true => exact Or.inl rfl
                | false =>
                  right
                  by_cases h30 : E = 30
                  · exact Or.inl ⟨rfl, h30⟩
                  · refine Or.inr ⟨rfl, by rw [beq_eq_false_iff_ne]; exact h30, ?_⟩
                    have ho := HOB.out
                    rw [hob] at ho
                    rcases HSE.out with h | h | h
                    · exact absurd (decide_eq_true h) (by rw [← ho]; decide)
                    · exact absurd h h30
                    · exact h
              clear HSE HOB Q3 Q5 Q6 Q7 Q8 Q9 Q10 HLz
              rcases hcs with rfl | ⟨rfl, rfl⟩ | ⟨rfl, hE, rfl, rfl⟩
              · as_aux_lemma =>
                 go_wp2_with fail
                 refine wp_region_held_drew (S := (fun q => q.cell? ⟨r, 2, none⟩ = some (.bool act) ∧ q.cell? ⟨r, 6, none⟩ = some (.bool sure))) (by kernel_rfl) (by first | assumption) (fun hHeld => ?_)
                 refine wpAnyH_take (i := 0) (oi := ?_) (v := ?_) ?_ (by kernel_rfl) (by kernel_rfl) (by kernel_rfl) ?_ ?_ (by assumption) ?_;rotate_left 2;(· simp only [List.getElem?_toArray, List.getElem?_cons_zero]; rfl);rotate_left;(· refine Or.inl ⟨by rfl, ?_⟩; intro w hSw; (try dsimp only at hSw); go_simp; try with_reducible rfl);rotate_right;(· exact fun _ _ _ h => h);simp only [Act.put, List.setIfInBounds_toArray, List.set_cons_zero, List.set_cons_succ]
                 refine wpAnyH_take (i := 1) (oi := ?_) (v := ?_) ?_ (by kernel_rfl) (by kernel_rfl) (by kernel_rfl) ?_ ?_ (by assumption) ?_;rotate_left 2;(· simp only [List.getElem?_toArray, List.getElem?_cons_zero, List.getElem?_cons_succ]; rfl);rotate_left;(· refine Or.inl ⟨by rfl, ?_⟩; intro w hSw; (try dsimp only at hSw); go_simp; try with_reducible rfl);rotate_right;(· exact fun _ _ _ h => h);simp only [Act.put, List.setIfInBounds_toArray, List.set_cons_zero, List.set_cons_succ]
                 refine wpAnyH_take (i := 2) (oi := ?_) (v := ?_) ?_ (by kernel_rfl) (by kernel_rfl) (by kernel_rfl) ?_ ?_ (by assumption) ?_;rotate_left 2;(· simp only [List.getElem?_toArray, List.getElem?_cons_zero, List.getElem?_cons_succ]; rfl);rotate_left;(· refine Or.inl ⟨by rfl, ?_⟩; intro w hSw; (try dsimp only at hSw); go_simp; try with_reducible rfl);rotate_right;(· exact fun _ _ _ h => h);simp only [Act.put, List.setIfInBounds_toArray, List.set_cons_zero, List.set_cons_succ]
                 refine wpAnyH_take (i := 3) (oi := ?_) (v := undef) ?_ (by kernel_rfl) (by kernel_rfl) (by kernel_rfl) ?_ (Or.inr ⟨?_, rfl⟩) (by assumption) ?_;rotate_left;(· simp only [List.getElem?_toArray, List.getElem?_cons_zero, List.getElem?_cons_succ]; rfl);(· exact fun _ _ _ h => h);(· rfl);simp only [Act.put, List.setIfInBounds_toArray, List.set_cons_zero, List.set_cons_succ]
                 refine wpAnyH_take (i := 4) (oi := ?_) (v := undef) ?_ (by kernel_rfl) (by kernel_rfl) (by kernel_rfl) ?_ (Or.inr ⟨?_, rfl⟩) (by assumption) ?_;rotate_left;(· simp only [List.getElem?_toArray, List.getElem?_cons_zero, List.getElem?_cons_succ]; rfl);(· exact fun _ _ _ h => h);(· rfl);simp only [Act.put, List.setIfInBounds_toArray, List.set_cons_zero, List.set_cons_succ]
                 refine wpAnyH_take (i := 5) (oi := ?_) (v := ?_) ?_ (by kernel_rfl) (by kernel_rfl) (by kernel_rfl) ?_ ?_ (by assumption) ?_;rotate_left 2;(· simp only [List.getElem?_toArray, List.getElem?_cons_zero, List.getElem?_cons_succ]; rfl);rotate_left;(· refine Or.inl ⟨by rfl, ?_⟩; intro w hSw; (try dsimp only at hSw); go_simp; try with_reducible rfl);rotate_right;(· exact fun _ _ _ h => h);simp only [Act.put, List.setIfInBounds_toArray, List.set_cons_zero, List.set_cons_succ]
                 refine wpAnyH_take (i := 6) (oi := ?_) (v := ?_) ?_ (by kernel_rfl) (by kernel_rfl) (by kernel_rfl) ?_ ?_ (by assumption) ?_;rotate_left 2;(· simp only [List.getElem?_toArray, List.getElem?_cons_zero, List.getElem?_cons_succ]; rfl);rotate_left;(· refine Or.inl ⟨by rfl, ?_⟩; intro w hSw; (try dsimp only at hSw); go_simp; try with_reducible rfl);rotate_right;(· exact fun _ _ _ h => h);simp only [Act.put, List.setIfInBounds_toArray, List.set_cons_zero, List.set_cons_succ]
                 refine wpAnyH_take (i := 7) (oi := ?_) (v := undef) ?_ (by kernel_rfl) (by kernel_rfl) (by kernel_rfl) ?_ (Or.inr ⟨?_, rfl⟩) (by assumption) ?_;rotate_left;(· simp only [List.getElem?_toArray, List.getElem?_cons_zero, List.getElem?_cons_succ]; rfl);(· exact fun _ _ _ h => h);(· rfl);simp only [Act.put, List.setIfInBounds_toArray, List.set_cons_zero, List.set_cons_succ]
                 refine wpAnyH_take (i := 8) (oi := ?_) (v := undef) ?_ (by kernel_rfl) (by kernel_rfl) (by kernel_rfl) ?_ (Or.inr ⟨?_, rfl⟩) (by assumption) ?_;rotate_left;(· simp only [List.getElem?_toArray, List.getElem?_cons_zero, List.getElem?_cons_succ]; rfl);(· exact fun _ _ _ h => h);(· rfl);simp only [Act.put, List.setIfInBounds_toArray, List.set_cons_zero, List.set_cons_succ]
                 refine wpAnyH_take (i := 9) (oi := ?_) (v := undef) ?_ (by kernel_rfl) (by kernel_rfl) (by kernel_rfl) ?_ (Or.inr ⟨?_, rfl⟩) (by assumption) ?_;rotate_left;(· simp only [List.getElem?_toArray, List.getElem?_cons_zero, List.getElem?_cons_succ]; rfl);(· exact fun _ _ _ h => h);(· rfl);simp only [Act.put, List.setIfInBounds_toArray, List.set_cons_zero, List.set_cons_succ]
                 refine wpAnyH_take (i := 10) (oi := ?_) (v := undef) ?_ (by kernel_rfl) (by kernel_rfl) (by kernel_rfl) ?_ (Or.inr ⟨?_, rfl⟩) (by assumption) ?_;rotate_left;(· simp only [List.getElem?_toArray, List.getElem?_cons_zero, List.getElem?_cons_succ]; rfl);(· exact fun _ _ _ h => h);(· rfl);simp only [Act.put, List.setIfInBounds_toArray, List.set_cons_zero, List.set_cons_succ]
                 refine wpAnyH_take (i := 11) (oi := ?_) (v := undef) ?_ (by kernel_rfl) (by kernel_rfl) (by kernel_rfl) ?_ (Or.inr ⟨?_, rfl⟩) (by assumption) ?_;rotate_left;(· simp only [List.getElem?_toArray, List.getElem?_cons_zero, List.getElem?_cons_succ]; rfl);(· exact fun _ _ _ h => h);(· rfl);simp only [Act.put, List.setIfInBounds_toArray, List.set_cons_zero, List.set_cons_succ]
                 refine wpAnyH_take (i := 12) (oi := ?_) (v := undef) ?_ (by kernel_rfl) (by kernel_rfl) (by kernel_rfl) ?_ (Or.inr ⟨?_, rfl⟩) (by assumption) ?_;rotate_left;(· simp only [List.getElem?_toArray, List.getElem?_cons_zero, List.getElem?_cons_succ]; rfl);(· exact fun _ _ _ h => h);(· rfl);simp only [Act.put, List.setIfInBounds_toArray, List.set_cons_zero, List.set_cons_succ]
                 refine wpAnyH_take (i := 13) (oi := ?_) (v := undef) ?_ (by kernel_rfl) (by kernel_rfl) (by kernel_rfl) ?_ (Or.inr ⟨?_, rfl⟩) (by assumption) ?_;rotate_left;(· simp only [List.getElem?_toArray, List.getElem?_cons_zero, List.getElem?_cons_succ]; rfl);(· exact fun _ _ _ h => h);(· rfl);simp only [Act.put, List.setIfInBounds_toArray, List.set_cons_zero, List.set_cons_succ]
                 refine wpAnyH_take (i := 14) (oi := ?_) (v := undef) ?_ (by kernel_rfl) (by kernel_rfl) (by kernel_rfl) ?_ (Or.inr ⟨?_, rfl⟩) (by assumption) ?_;rotate_left;(· simp only [List.getElem?_toArray, List.getElem?_cons_zero, List.getElem?_cons_succ]; rfl);(· exact fun _ _ _ h => h);(· rfl);simp only [Act.put, List.setIfInBounds_toArray, List.set_cons_zero, List.set_cons_succ]
                 refine wpAnyH_take (i := 15) (oi := ?_) (v := ?_) ?_ (by kernel_rfl) (by kernel_rfl) (by kernel_rfl) ?_ ?_ (by assumption) ?_;rotate_left 2;(· simp only [List.getElem?_toArray, List.getElem?_cons_zero, List.getElem?_cons_succ]; rfl);rotate_left;(· refine Or.inl ⟨by rfl, ?_⟩; intro w hSw; (try dsimp only at hSw); go_simp; try with_reducible rfl);rotate_right;(· exact fun _ _ _ h => h);simp only [Act.put, List.setIfInBounds_toArray, List.set_cons_zero, List.set_cons_succ]
                 refine wpAnyH_take (i := 16) (oi := ?_) (v := ?_) ?_ (by kernel_rfl) (by kernel_rfl) (by kernel_rfl) ?_ ?_ (by assumption) ?_;rotate_left 2;(· simp only [List.getElem?_toArray, List.getElem?_cons_zero, List.getElem?_cons_succ]; rfl);rotate_left;(· refine Or.inl ⟨by rfl, ?_⟩; intro w hSw; (try dsimp only at hSw); go_simp; try with_reducible rfl);rotate_right;(· exact fun _ _ _ h => h);simp only [Act.put, List.setIfInBounds_toArray, List.set_cons_zero, List.set_cons_succ]
                 refine wpAnyH_take (i := 17) (oi := ?_) (v := ?_) ?_ (by kernel_rfl) (by kernel_rfl) (by kernel_rfl) ?_ ?_ (by assumption) ?_;rotate_left 2;(· simp only [List.getElem?_toArray, List.getElem?_cons_zero, List.getElem?_cons_succ]; rfl);rotate_left;(· refine Or.inl ⟨by rfl, ?_⟩; intro w hSw; (try dsimp only at hSw); go_simp; try with_reducible rfl);rotate_right;(· exact fun _ _ _ h => h);simp only [Act.put, List.setIfInBounds_toArray, List.set_cons_zero, List.set_cons_succ]
                 refine wpAnyH_take (i := 19) (oi := ?_) (v := ?_) ?_ (by kernel_rfl) (by kernel_rfl) (by kernel_rfl) ?_ ?_ (by assumption) ?_;rotate_left 2;(· simp only [List.getElem?_toArray, List.getElem?_cons_zero, List.getElem?_cons_succ]; rfl);rotate_left;(· refine Or.inl ⟨by rfl, ?_⟩; intro w hSw; (try dsimp only at hSw); go_simp; try with_reducible rfl);rotate_right;(· exact fun _ _ _ h => h);simp only [Act.put, List.setIfInBounds_toArray, List.set_cons_zero, List.set_cons_succ]
                 refine wpAnyH_take (i := 20) (oi := ?_) (v := ?_) ?_ (by kernel_rfl) (by kernel_rfl) (by kernel_rfl) ?_ ?_ (by assumption) ?_;rotate_left 2;(· simp only [List.getElem?_toArray, List.getElem?_cons_zero, List.getElem?_cons_succ]; rfl);rotate_left;(· refine Or.inl ⟨by rfl, ?_⟩; intro w hSw; (try dsimp only at hSw); go_simp; try with_reducible rfl);rotate_right;(· exact fun _ _ _ h => h);simp only [Act.put, List.setIfInBounds_toArray, List.set_cons_zero, List.set_cons_succ]
                 refine wpAnyH_take (i := 21) (oi := ?_) (v := ?_) ?_ (by kernel_rfl) (by kernel_rfl) (by kernel_rfl) ?_ ?_ (by assumption) ?_;rotate_left 2;(· simp only [List.getElem?_toArray, List.getElem?_cons_zero, List.getElem?_cons_succ]; rfl);rotate_left;(· refine Or.inl ⟨by rfl, ?_⟩; intro w hSw; (try dsimp only at hSw); go_simp; try with_reducible rfl);rotate_right;(· exact fun _ _ _ h => h);simp only [Act.put, List.setIfInBounds_toArray, List.set_cons_zero, List.set_cons_succ]
                 refine wpAnyH_take (i := 22) (oi := ?_) (v := ?_) ?_ (by kernel_rfl) (by kernel_rfl) (by kernel_rfl) ?_ ?_ (by assumption) ?_;rotate_left 2;(· simp only [List.getElem?_toArray, List.getElem?_cons_zero, List.getElem?_cons_succ]; rfl);rotate_left;(· refine Or.inl ⟨by rfl, ?_⟩; intro w hSw; (try dsimp only at hSw); go_simp; try with_reducible rfl);rotate_right;(· exact fun _ _ _ h => h);simp only [Act.put, List.setIfInBounds_toArray, List.set_cons_zero, List.set_cons_succ]
                 refine wpAnyH_ready (rs := [18]) (by kernel_rfl) (by simp) ?_;refine AllReadyH.cons (o := ?_) ?_ (fun K hK => ?_) AllReadyH.nil;rotate_left;(· simp only [List.getElem?_toArray, List.getElem?_cons_zero, List.getElem?_cons_succ]; rfl);go_simp;(go_at_call 16; refine (X5.out _ (by assumption)).mono ?_; rintro e w4 ⟨rfl, hl4, hS4⟩);refine hK.out _ _ (by first | assumption) (fun hHeld => ?_);clear hK K
                 refine wpAnyH_take (i := 23) (oi := ?_) (v := ?_) ?_ (by kernel_rfl) (by kernel_rfl) (by kernel_rfl) ?_ ?_ (by assumption) ?_;rotate_left 2;(· simp only [List.getElem?_toArray, List.getElem?_cons_zero, List.getElem?_cons_succ]; rfl);rotate_left;(· refine Or.inl ⟨by rfl, ?_⟩; intro w hSw; (try dsimp only at hSw); go_simp; try with_reducible rfl);rotate_right;(· exact fun _ _ _ h => h);simp only [Act.put, List.setIfInBounds_toArray, List.set_cons_zero, List.set_cons_succ]
                 refine wpAnyH_take (i := 24) (oi := ?_) (v := ?_) ?_ (by kernel_rfl) (by kernel_rfl) (by kernel_rfl) ?_ ?_ (by assumption) ?_;rotate_left 2;(· simp only [List.getElem?_toArray, List.getElem?_cons_zero, List.getElem?_cons_succ]; rfl);rotate_left;(· refine Or.inl ⟨by rfl, ?_⟩; intro w hSw; (try dsimp only at hSw); go_simp; try with_reducible rfl);rotate_right;(· exact fun _ _ _ h => h);simp only [Act.put, List.setIfInBounds_toArray, List.set_cons_zero, List.set_cons_succ]
                 refine wpAnyH_take (i := 25) (oi := ?_) (v := ?_) ?_ (by kernel_rfl) (by kernel_rfl) (by kernel_rfl) ?_ ?_ (by assumption) ?_;rotate_left 2;(· simp only [List.getElem?_toArray, List.getElem?_cons_zero, List.getElem?_cons_succ]; rfl);rotate_left;(· refine Or.inl ⟨by rfl, ?_⟩; intro w hSw; (try dsimp only at hSw); go_simp; try with_reducible rfl);rotate_right;(· exact fun _ _ _ h => h);simp only [Act.put, List.setIfInBounds_toArray, List.set_cons_zero, List.set_cons_succ]
                 refine wpAnyH_take (i := 26) (oi := ?_) (v := ?_) ?_ (by kernel_rfl) (by kernel_rfl) (by kernel_rfl) ?_ ?_ (by assumption) ?_;rotate_left 2;(· simp only [List.getElem?_toArray, List.getElem?_cons_zero, List.getElem?_cons_succ]; rfl);rotate_left;(· refine Or.inl ⟨by rfl, ?_⟩; intro w hSw; (try dsimp only at hSw); go_simp; try with_reducible rfl);rotate_right;(· exact fun _ _ _ h => h);simp only [Act.put, List.setIfInBounds_toArray, List.set_cons_zero, List.set_cons_succ]
                 refine wpAnyH_take (i := 28) (oi := ?_) (v := ?_) ?_ (by kernel_rfl) (by kernel_rfl) (by kernel_rfl) ?_ ?_ (by assumption) ?_;rotate_left 2;(· simp only [List.getElem?_toArray, List.getElem?_cons_zero, List.getElem?_cons_succ]; rfl);rotate_left;(· refine Or.inl ⟨by rfl, ?_⟩; intro w hSw; (try dsimp only at hSw); go_simp; try with_reducible rfl);rotate_right;(· exact fun _ _ _ h => h);simp only [Act.put, List.setIfInBounds_toArray, List.set_cons_zero, List.set_cons_succ]
                 refine wpAnyH_take (i := 29) (oi := ?_) (v := ?_) ?_ (by kernel_rfl) (by kernel_rfl) (by kernel_rfl) ?_ ?_ (by assumption) ?_;rotate_left 2;(· simp only [List.getElem?_toArray, List.getElem?_cons_zero, List.getElem?_cons_succ]; rfl);rotate_left;(· refine Or.inl ⟨by rfl, ?_⟩; intro w hSw; (try dsimp only at hSw); go_simp; try with_reducible rfl);rotate_right;(· exact fun _ _ _ h => h);simp only [Act.put, List.setIfInBounds_toArray, List.set_cons_zero, List.set_cons_succ]
                 refine wpAnyH_take (i := 30) (oi := ?_) (v := ?_) ?_ (by kernel_rfl) (by kernel_rfl) (by kernel_rfl) ?_ ?_ (by assumption) ?_;rotate_left 2;(· simp only [List.getElem?_toArray, List.getElem?_cons_zero, List.getElem?_cons_succ]; rfl);rotate_left;(· refine Or.inl ⟨by rfl, ?_⟩; intro w hSw; (try dsimp only at hSw); go_simp; try with_reducible rfl);rotate_right;(· exact fun _ _ _ h => h);simp only [Act.put, List.setIfInBounds_toArray, List.set_cons_zero, List.set_cons_succ]
                 refine wpAnyH_take (i := 31) (oi := ?_) (v := ?_) ?_ (by kernel_rfl) (by kernel_rfl) (by kernel_rfl) ?_ ?_ (by assumption) ?_;rotate_left 2;(· simp only [List.getElem?_toArray, List.getElem?_cons_zero, List.getElem?_cons_succ]; rfl);rotate_left;(· refine Or.inl ⟨by rfl, ?_⟩; intro w hSw; (try dsimp only at hSw); go_simp; try with_reducible rfl);rotate_right;(· exact fun _ _ _ h => h);simp only [Act.put, List.setIfInBounds_toArray, List.set_cons_zero, List.set_cons_succ]
                 refine wpAnyH_ready (rs := [27]) (by kernel_rfl) (by simp) ?_;refine AllReadyH.cons (o := ?_) ?_ (fun K hK => ?_) AllReadyH.nil;rotate_left;(· simp only [List.getElem?_toArray, List.getElem?_cons_zero, List.getElem?_cons_succ]; rfl);go_simp;(go_at_call 17; refine (X7.out _ (by assumption)).mono ?_; rintro e w4 ⟨rfl, hl4, hS4⟩);refine hK.out _ _ (by first | assumption) (fun hHeld => ?_);clear hK K
                 refine wpAnyH_take (i := 32) (oi := ?_) (v := ?_) ?_ (by kernel_rfl) (by kernel_rfl) (by kernel_rfl) ?_ ?_ (by assumption) ?_;rotate_left 2;(· simp only [List.getElem?_toArray, List.getElem?_cons_zero, List.getElem?_cons_succ]; rfl);rotate_left;(· refine Or.inl ⟨by rfl, ?_⟩; intro w hSw; (try dsimp only at hSw); go_simp; try with_reducible rfl);rotate_right;(· exact fun _ _ _ h => h);simp only [Act.put, List.setIfInBounds_toArray, List.set_cons_zero, List.set_cons_succ]
                 refine wpAnyH_take (i := 33) (oi := ?_) (v := ?_) ?_ (by kernel_rfl) (by kernel_rfl) (by kernel_rfl) ?_ ?_ (by assumption) ?_;rotate_left 2;(· simp only [List.getElem?_toArray, List.getElem?_cons_zero, List.getElem?_cons_succ]; rfl);rotate_left;(· refine Or.inl ⟨by rfl, ?_⟩; intro w hSw; (try dsimp only at hSw); go_simp; try with_reducible rfl);rotate_right;(· exact fun _ _ _ h => h);simp only [Act.put, List.setIfInBounds_toArray, List.set_cons_zero, List.set_cons_succ]
                 refine wpAnyH_take (i := 34) (oi := ?_) (v := ?_) ?_ (by kernel_rfl) (by kernel_rfl) (by kernel_rfl) ?_ ?_ (by assumption) ?_;rotate_left 2;(· simp only [List.getElem?_toArray, List.getElem?_cons_zero, List.getElem?_cons_succ]; rfl);rotate_left;(· refine Or.inl ⟨by rfl, ?_⟩; intro w hSw; (try dsimp only at hSw); go_simp; try with_reducible rfl);rotate_right;(· exact fun _ _ _ h => h);simp only [Act.put, List.setIfInBounds_toArray, List.set_cons_zero, List.set_cons_succ]
                 refine wpAnyH_take (i := 35) (oi := ?_) (v := ?_) ?_ (by kernel_rfl) (by kernel_rfl) (by kernel_rfl) ?_ ?_ (by assumption) ?_;rotate_left 2;(· simp only [List.getElem?_toArray, List.getElem?_cons_zero, List.getElem?_cons_succ]; rfl);rotate_left;(· refine Or.inl ⟨by rfl, ?_⟩; intro w hSw; (try dsimp only at hSw); go_simp; try with_reducible rfl);rotate_right;(· exact fun _ _ _ h => h);simp only [Act.put, List.setIfInBounds_toArray, List.set_cons_zero, List.set_cons_succ]
                 refine wpAnyH_take (i := 37) (oi := ?_) (v := ?_) ?_ (by kernel_rfl) (by kernel_rfl) (by kernel_rfl) ?_ ?_ (by assumption) ?_;rotate_left 2;(· simp only [List.getElem?_toArray, List.getElem?_cons_zero, List.getElem?_cons_succ]; rfl);rotate_left;(· refine Or.inl ⟨by rfl, ?_⟩; intro w hSw; (try dsimp only at hSw); go_simp; try with_reducible rfl);rotate_right;(· exact fun _ _ _ h => h);simp only [Act.put, List.setIfInBounds_toArray, List.set_cons_zero, List.set_cons_succ]
                 refine wpAnyH_ready (rs := [36]) (by kernel_rfl) (by simp) ?_;refine AllReadyH.cons (o := ?_) ?_ (fun K hK => ?_) AllReadyH.nil;rotate_left;(· simp only [List.getElem?_toArray, List.getElem?_cons_zero, List.getElem?_cons_succ]; rfl);go_simp;(go_at_call 18; refine (X8.out _ (by assumption)).mono ?_; rintro e w4 ⟨rfl, hl4, hS4⟩);refine hK.out _ _ (by first | assumption) (fun hHeld => ?_);clear hK K
                 refine wpAnyH_ready (rs := [38]) (by kernel_rfl) (by simp) ?_;refine AllReadyH.cons (o := ?_) ?_ (fun K hK => ?_) AllReadyH.nil;rotate_left;(· simp only [List.getElem?_toArray, List.getElem?_cons_zero, List.getElem?_cons_succ]; rfl);go_simp;(go_at_call 19; refine (X9.out _ (by assumption)).mono ?_; rintro e w4 ⟨rfl, hl4, hS4⟩);refine hK.out _ _ (by first | assumption) (fun hHeld => ?_);clear hK K
                 refine wpAnyH_take (i := 39) (oi := ?_) (v := ?_) ?_ (by kernel_rfl) (by kernel_rfl) (by kernel_rfl) ?_ ?_ (by assumption) ?_;rotate_left 2;(· simp only [List.getElem?_toArray, List.getElem?_cons_zero, List.getElem?_cons_succ]; rfl);rotate_left;(· refine Or.inl ⟨by rfl, ?_⟩; intro w hSw; (try dsimp only at hSw); go_simp; try with_reducible rfl);rotate_right;(· exact fun _ _ _ h => h);simp only [Act.put, List.setIfInBounds_toArray, List.set_cons_zero, List.set_cons_succ]
                 refine wpAnyH_take (i := 40) (oi := ?_) (v := ?_) ?_ (by kernel_rfl) (by kernel_rfl) (by kernel_rfl) ?_ ?_ (by assumption) ?_;rotate_left 2;(· simp only [List.getElem?_toArray, List.getElem?_cons_zero, List.getElem?_cons_succ]; rfl);rotate_left;(· refine Or.inl ⟨by rfl, ?_⟩; intro w hSw; (try dsimp only at hSw); go_simp; try with_reducible rfl);rotate_right;(· exact fun _ _ _ h => h);simp only [Act.put, List.setIfInBounds_toArray, List.set_cons_zero, List.set_cons_succ]
                 refine wpAnyH_done (by kernel_rfl) ?_ _
                 have HZ := Lib.hid (X10.out _ hl4)
                 clear hl0 hS0 hl4 hS4 X5 X7 X8 X9 X10
                 go_wp2_with fail
                 go_meet
                 exact ⟨rfl, HZ⟩
              · as_aux_lemma =>
                 go_wp2_with fail
                 refine wp_region_held_drew (S := (fun q => q.cell? ⟨r, 2, none⟩ = some (.bool act) ∧ q.cell? ⟨r, 6, none⟩ = some (.bool sure))) (by kernel_rfl) (by first | assumption) (fun hHeld => ?_)
                 refine wpAnyH_take (i := 0) (oi := ?_) (v := ?_) ?_ (by kernel_rfl) (by kernel_rfl) (by kernel_rfl) ?_ ?_ (by assumption) ?_;rotate_left 2;(· simp only [List.getElem?_toArray, List.getElem?_cons_zero]; rfl);rotate_left;(· refine Or.inl ⟨by rfl, ?_⟩; intro w hSw; (try dsimp only at hSw); go_simp; try with_reducible rfl);rotate_right;(· exact fun _ _ _ h => h);simp only [Act.put, List.setIfInBounds_toArray, List.set_cons_zero, List.set_cons_succ]
                 refine wpAnyH_take (i := 1) (oi := ?_) (v := ?_) ?_ (by kernel_rfl) (by kernel_rfl) (by kernel_rfl) ?_ ?_ (by assumption) ?_;rotate_left 2;(· simp only [List.getElem?_toArray, List.getElem?_cons_zero, List.getElem?_cons_succ]; rfl);rotate_left;(· refine Or.inl ⟨by rfl, ?_⟩; intro w hSw; (try dsimp only at hSw); go_simp; try with_reducible rfl);rotate_right;(· exact fun _ _ _ h => h);simp only [Act.put, List.setIfInBounds_toArray, List.set_cons_zero, List.set_cons_succ]
                 refine wpAnyH_take (i := 2) (oi := ?_) (v := ?_) ?_ (by kernel_rfl) (by kernel_rfl) (by kernel_rfl) ?_ ?_ (by assumption) ?_;rotate_left 2;(· simp only [List.getElem?_toArray, List.getElem?_cons_zero, List.getElem?_cons_succ]; rfl);rotate_left;(· refine Or.inl ⟨by rfl, ?_⟩; intro w hSw; (try dsimp only at hSw); go_simp; try with_reducible rfl);rotate_right;(· exact fun _ _ _ h => h);simp only [Act.put, List.setIfInBounds_toArray, List.set_cons_zero, List.set_cons_succ]
                 refine wpAnyH_take (i := 3) (oi := ?_) (v := ?_) ?_ (by kernel_rfl) (by kernel_rfl) (by kernel_rfl) ?_ ?_ (by assumption) ?_;rotate_left 2;(· simp only [List.getElem?_toArray, List.getElem?_cons_zero, List.getElem?_cons_succ]; rfl);rotate_left;(· refine Or.inl ⟨by rfl, ?_⟩; intro w hSw; (try dsimp only at hSw); go_simp; try with_reducible rfl);rotate_right;(· exact fun _ _ _ h => h);simp only [Act.put, List.setIfInBounds_toArray, List.set_cons_zero, List.set_cons_succ]
                 refine wpAnyH_take (i := 4) (oi := ?_) (v := ?_) ?_ (by kernel_rfl) (by kernel_rfl) (by kernel_rfl) ?_ ?_ (by assumption) ?_;rotate_left 2;(· simp only [List.getElem?_toArray, List.getElem?_cons_zero, List.getElem?_cons_succ]; rfl);rotate_left;(· refine Or.inl ⟨by rfl, ?_⟩; intro w hSw; (try dsimp only at hSw); go_simp; try with_reducible rfl);rotate_right;(· exact fun _ _ _ h => h);simp only [Act.put, List.setIfInBounds_toArray, List.set_cons_zero, List.set_cons_succ]
                 refine wpAnyH_take (i := 5) (oi := ?_) (v := ?_) ?_ (by kernel_rfl) (by kernel_rfl) (by kernel_rfl) ?_ ?_ (by assumption) ?_;rotate_left 2;(· simp only [List.getElem?_toArray, List.getElem?_cons_zero, List.getElem?_cons_succ]; rfl);rotate_left;(· refine Or.inl ⟨by rfl, ?_⟩; intro w hSw; (try dsimp only at hSw); go_simp; try with_reducible rfl);rotate_right;(· exact fun _ _ _ h => h);simp only [Act.put, List.setIfInBounds_toArray, List.set_cons_zero, List.set_cons_succ]
                 refine wpAnyH_take (i := 6) (oi := ?_) (v := ?_) ?_ (by kernel_rfl) (by kernel_rfl) (by kernel_rfl) ?_ ?_ (by assumption) ?_;rotate_left 2;(· simp only [List.getElem?_toArray, List.getElem?_cons_zero, List.getElem?_cons_succ]; rfl);rotate_left;(· refine Or.inl ⟨by rfl, ?_⟩; intro w hSw; (try dsimp only at hSw); go_simp; try with_reducible rfl);rotate_right;(· exact fun _ _ _ h => h);simp only [Act.put, List.setIfInBounds_toArray, List.set_cons_zero, List.set_cons_succ]
                 refine wpAnyH_take (i := 7) (oi := ?_) (v := undef) ?_ (by kernel_rfl) (by kernel_rfl) (by kernel_rfl) ?_ (Or.inr ⟨?_, rfl⟩) (by assumption) ?_;rotate_left;(· simp only [List.getElem?_toArray, List.getElem?_cons_zero, List.getElem?_cons_succ]; rfl);(· exact fun _ _ _ h => h);(· rfl);simp only [Act.put, List.setIfInBounds_toArray, List.set_cons_zero, List.set_cons_succ]
                 refine wpAnyH_take (i := 8) (oi := ?_) (v := undef) ?_ (by kernel_rfl) (by kernel_rfl) (by kernel_rfl) ?_ (Or.inr ⟨?_, rfl⟩) (by assumption) ?_;rotate_left;(· simp only [List.getElem?_toArray, List.getElem?_cons_zero, List.getElem?_cons_succ]; rfl);(· exact fun _ _ _ h => h);(· rfl);simp only [Act.put, List.setIfInBounds_toArray, List.set_cons_zero, List.set_cons_succ]
                 refine wpAnyH_take (i := 9) (oi := ?_) (v := undef) ?_ (by kernel_rfl) (by kernel_rfl) (by kernel_rfl) ?_ (Or.inr ⟨?_, rfl⟩) (by assumption) ?_;rotate_left;(· simp only [List.getElem?_toArray, List.getElem?_cons_zero, List.getElem?_cons_succ]; rfl);(· exact fun _ _ _ h => h);(· rfl);simp only [Act.put, List.setIfInBounds_toArray, List.set_cons_zero, List.set_cons_succ]
                 refine wpAnyH_take (i := 10) (oi := ?_) (v := undef) ?_ (by kernel_rfl) (by kernel_rfl) (by kernel_rfl) ?_ (Or.inr ⟨?_, rfl⟩) (by assumption) ?_;rotate_left;(· simp only [List.getElem?_toArray, List.getElem?_cons_zero, List.getElem?_cons_succ]; rfl);(· exact fun _ _ _ h => h);(· rfl);simp only [Act.put, List.setIfInBounds_toArray, List.set_cons_zero, List.set_cons_succ]
                 refine wpAnyH_take (i := 11) (oi := ?_) (v := undef) ?_ (by kernel_rfl) (by kernel_rfl) (by kernel_rfl) ?_ (Or.inr ⟨?_, rfl⟩) (by assumption) ?_;rotate_left;(· simp only [List.getElem?_toArray, List.getElem?_cons_zero, List.getElem?_cons_succ]; rfl);(· exact fun _ _ _ h => h);(· rfl);simp only [Act.put, List.setIfInBounds_toArray, List.set_cons_zero, List.set_cons_succ]
                 refine wpAnyH_take (i := 12) (oi := ?_) (v := undef) ?_ (by kernel_rfl) (by kernel_rfl) (by kernel_rfl) ?_ (Or.inr ⟨?_, rfl⟩) (by assumption) ?_;rotate_left;(· simp only [List.getElem?_toArray, List.getElem?_cons_zero, List.getElem?_cons_succ]; rfl);(· exact fun _ _ _ h => h);(· rfl);simp only [Act.put, List.setIfInBounds_toArray, List.set_cons_zero, List.set_cons_succ]
                 refine wpAnyH_take (i := 13) (oi := ?_) (v := undef) ?_ (by kernel_rfl) (by kernel_rfl) (by kernel_rfl) ?_ (Or.inr ⟨?_, rfl⟩) (by assumption) ?_;rotate_left;(· simp only [List.getElem?_toArray, List.getElem?_cons_zero, List.getElem?_cons_succ]; rfl);(· exact fun _ _ _ h => h);(· rfl);simp only [Act.put, List.setIfInBounds_toArray, List.set_cons_zero, List.set_cons_succ]
                 refine wpAnyH_take (i := 14) (oi := ?_) (v := undef) ?_ (by kernel_rfl) (by kernel_rfl) (by kernel_rfl) ?_ (Or.inr ⟨?_, rfl⟩) (by assumption) ?_;rotate_left;(· simp only [List.getElem?_toArray, List.getElem?_cons_zero, List.getElem?_cons_succ]; rfl);(· exact fun _ _ _ h => h);(· rfl);simp only [Act.put, List.setIfInBounds_toArray, List.set_cons_zero, List.set_cons_succ]
                 refine wpAnyH_take (i := 15) (oi := ?_) (v := ?_) ?_ (by kernel_rfl) (by kernel_rfl) (by kernel_rfl) ?_ ?_ (by assumption) ?_;rotate_left 2;(· simp only [List.getElem?_toArray, List.getElem?_cons_zero, List.getElem?_cons_succ]; rfl);rotate_left;(· refine Or.inl ⟨by rfl, ?_⟩; intro w hSw; (try dsimp only at hSw); go_simp; try with_reducible rfl);rotate_right;(· exact fun _ _ _ h => h);simp only [Act.put, List.setIfInBounds_toArray, List.set_cons_zero, List.set_cons_succ]
                 refine wpAnyH_take (i := 16) (oi := ?_) (v := ?_) ?_ (by kernel_rfl) (by kernel_rfl) (by kernel_rfl) ?_ ?_ (by assumption) ?_;rotate_left 2;(· simp only [List.getElem?_toArray, List.getElem?_cons_zero, List.getElem?_cons_succ]; rfl);rotate_left;(· refine Or.inl ⟨by rfl, ?_⟩; intro w hSw; (try dsimp only at hSw); go_simp; try with_reducible rfl);rotate_right;(· exact fun _ _ _ h => h);simp only [Act.put, List.setIfInBounds_toArray, List.set_cons_zero, List.set_cons_succ]
                 refine wpAnyH_take (i := 17) (oi := ?_) (v := ?_) ?_ (by kernel_rfl) (by kernel_rfl) (by kernel_rfl) ?_ ?_ (by assumption) ?_;rotate_left 2;(· simp only [List.getElem?_toArray, List.getElem?_cons_zero, List.getElem?_cons_succ]; rfl);rotate_left;(· refine Or.inl ⟨by rfl, ?_⟩; intro w hSw; (try dsimp only at hSw); go_simp; try with_reducible rfl);rotate_right;(· exact fun _ _ _ h => h);simp only [Act.put, List.setIfInBounds_toArray, List.set_cons_zero, List.set_cons_succ]
                 refine wpAnyH_take (i := 19) (oi := ?_) (v := ?_) ?_ (by kernel_rfl) (by kernel_rfl) (by kernel_rfl) ?_ ?_ (by assumption) ?_;rotate_left 2;(· simp only [List.getElem?_toArray, List.getElem?_cons_zero, List.getElem?_cons_succ]; rfl);rotate_left;(· refine Or.inl ⟨by rfl, ?_⟩; intro w hSw; (try dsimp only at hSw); go_simp; try with_reducible rfl);rotate_right;(· exact fun _ _ _ h => h);simp only [Act.put, List.setIfInBounds_toArray, List.set_cons_zero, List.set_cons_succ]
                 refine wpAnyH_take (i := 20) (oi := ?_) (v := ?_) ?_ (by kernel_rfl) (by kernel_rfl) (by kernel_rfl) ?_ ?_ (by assumption) ?_;rotate_left 2;(· simp only [List.getElem?_toArray, List.getElem?_cons_zero, List.getElem?_cons_succ]; rfl);rotate_left;(· refine Or.inl ⟨by rfl, ?_⟩; intro w hSw; (try dsimp only at hSw); go_simp; try with_reducible rfl);rotate_right;(· exact fun _ _ _ h => h);simp only [Act.put, List.setIfInBounds_toArray, List.set_cons_zero, List.set_cons_succ]
                 refine wpAnyH_take (i := 21) (oi := ?_) (v := ?_) ?_ (by kernel_rfl) (by kernel_rfl) (by kernel_rfl) ?_ ?_ (by assumption) ?_;rotate_left 2;(· simp only [List.getElem?_toArray, List.getElem?_cons_zero, List.getElem?_cons_succ]; rfl);rotate_left;(· refine Or.inl ⟨by rfl, ?_⟩; intro w hSw; (try dsimp only at hSw); go_simp; try with_reducible rfl);rotate_right;(· exact fun _ _ _ h => h);simp only [Act.put, List.setIfInBounds_toArray, List.set_cons_zero, List.set_cons_succ]
                 refine wpAnyH_take (i := 22) (oi := ?_) (v := ?_) ?_ (by kernel_rfl) (by kernel_rfl) (by kernel_rfl) ?_ ?_ (by assumption) ?_;rotate_left 2;(· simp only [List.getElem?_toArray, List.getElem?_cons_zero, List.getElem?_cons_succ]; rfl);rotate_left;(· refine Or.inl ⟨by rfl, ?_⟩; intro w hSw; (try dsimp only at hSw); go_simp; try with_reducible rfl);rotate_right;(· exact fun _ _ _ h => h);simp only [Act.put, List.setIfInBounds_toArray, List.set_cons_zero, List.set_cons_succ]
                 refine wpAnyH_ready (rs := [18]) (by kernel_rfl) (by simp) ?_;refine AllReadyH.cons (o := ?_) ?_ (fun K hK => ?_) AllReadyH.nil;rotate_left;(· simp only [List.getElem?_toArray, List.getElem?_cons_zero, List.getElem?_cons_succ]; rfl);go_simp;(go_at_call 16; refine (X5.out _ (by assumption)).mono ?_; rintro e w4 ⟨rfl, hl4, hS4⟩);refine hK.out _ _ (by first | assumption) (fun hHeld => ?_);clear hK K
                 refine wpAnyH_take (i := 23) (oi := ?_) (v := ?_) ?_ (by kernel_rfl) (by kernel_rfl) (by kernel_rfl) ?_ ?_ (by assumption) ?_;rotate_left 2;(· simp only [List.getElem?_toArray, List.getElem?_cons_zero, List.getElem?_cons_succ]; rfl);rotate_left;(· refine Or.inl ⟨by rfl, ?_⟩; intro w hSw; (try dsimp only at hSw); go_simp; try with_reducible rfl);rotate_right;(· exact fun _ _ _ h => h);simp only [Act.put, List.setIfInBounds_toArray, List.set_cons_zero, List.set_cons_succ]
                 refine wpAnyH_take (i := 24) (oi := ?_) (v := ?_) ?_ (by kernel_rfl) (by kernel_rfl) (by kernel_rfl) ?_ ?_ (by assumption) ?_;rotate_left 2;(· simp only [List.getElem?_toArray, List.getElem?_cons_zero, List.getElem?_cons_succ]; rfl);rotate_left;(· refine Or.inl ⟨by rfl, ?_⟩; intro w hSw; (try dsimp only at hSw); go_simp; try with_reducible rfl);rotate_right;(· exact fun _ _ _ h => h);simp only [Act.put, List.setIfInBounds_toArray, List.set_cons_zero, List.set_cons_succ]
                 refine wpAnyH_take (i := 25) (oi := ?_) (v := ?_) ?_ (by kernel_rfl) (by kernel_rfl) (by kernel_rfl) ?_ ?_ (by assumption) ?_;rotate_left 2;(· simp only [List.getElem?_toArray, List.getElem?_cons_zero, List.getElem?_cons_succ]; rfl);rotate_left;(· refine Or.inl ⟨by rfl, ?_⟩; intro w hSw; (try dsimp only at hSw); go_simp; try with_reducible rfl);rotate_right;(· exact fun _ _ _ h => h);simp only [Act.put, List.setIfInBounds_toArray, List.set_cons_zero, List.set_cons_succ]
                 refine wpAnyH_take (i := 26) (oi := ?_) (v := ?_) ?_ (by kernel_rfl) (by kernel_rfl) (by kernel_rfl) ?_ ?_ (by assumption) ?_;rotate_left 2;(· simp only [List.getElem?_toArray, List.getElem?_cons_zero, List.getElem?_cons_succ]; rfl);rotate_left;(· refine Or.inl ⟨by rfl, ?_⟩; intro w hSw; (try dsimp only at hSw); go_simp; try with_reducible rfl);rotate_right;(· exact fun _ _ _ h => h);simp only [Act.put, List.setIfInBounds_toArray, List.set_cons_zero, List.set_cons_succ]
                 refine wpAnyH_take (i := 28) (oi := ?_) (v := ?_) ?_ (by kernel_rfl) (by kernel_rfl) (by kernel_rfl) ?_ ?_ (by assumption) ?_;rotate_left 2;(· simp only [List.getElem?_toArray, List.getElem?_cons_zero, List.getElem?_cons_succ]; rfl);rotate_left;(· refine Or.inl ⟨by rfl, ?_⟩; intro w hSw; (try dsimp only at hSw); go_simp; try with_reducible rfl);rotate_right;(· exact fun _ _ _ h => h);simp only [Act.put, List.setIfInBounds_toArray, List.set_cons_zero, List.set_cons_succ]
                 refine wpAnyH_take (i := 29) (oi := ?_) (v := ?_) ?_ (by kernel_rfl) (by kernel_rfl) (by kernel_rfl) ?_ ?_ (by assumption) ?_;rotate_left 2;(· simp only [List.getElem?_toArray, List.getElem?_cons_zero, List.getElem?_cons_succ]; rfl);rotate_left;(· refine Or.inl ⟨by rfl, ?_⟩; intro w hSw; (try dsimp only at hSw); go_simp; try with_reducible rfl);rotate_right;(· exact fun _ _ _ h => h);simp only [Act.put, List.setIfInBounds_toArray, List.set_cons_zero, List.set_cons_succ]
                 refine wpAnyH_take (i := 30) (oi := ?_) (v := ?_) ?_ (by kernel_rfl) (by kernel_rfl) (by kernel_rfl) ?_ ?_ (by assumption) ?_;rotate_left 2;(· simp only [List.getElem?_toArray, List.getElem?_cons_zero, List.getElem?_cons_succ]; rfl);rotate_left;(· refine Or.inl ⟨by rfl, ?_⟩; intro w hSw; (try dsimp only at hSw); go_simp; try with_reducible rfl);rotate_right;(· exact fun _ _ _ h => h);simp only [Act.put, List.setIfInBounds_toArray, List.set_cons_zero, List.set_cons_succ]
                 refine wpAnyH_take (i := 31) (oi := ?_) (v := ?_) ?_ (by kernel_rfl) (by kernel_rfl) (by kernel_rfl) ?_ ?_ (by assumption) ?_;rotate_left 2;(· simp only [List.getElem?_toArray, List.getElem?_cons_zero, List.getElem?_cons_succ]; rfl);rotate_left;(· refine Or.inl ⟨by rfl, ?_⟩; intro w hSw; (try dsimp only at hSw); go_simp; try with_reducible rfl);rotate_right;(· exact fun _ _ _ h => h);simp only [Act.put, List.setIfInBounds_toArray, List.set_cons_zero, List.set_cons_succ]
                 refine wpAnyH_ready (rs := [27]) (by kernel_rfl) (by simp) ?_;refine AllReadyH.cons (o := ?_) ?_ (fun K hK => ?_) AllReadyH.nil;rotate_left;(· simp only [List.getElem?_toArray, List.getElem?_cons_zero, List.getElem?_cons_succ]; rfl);go_simp;(go_at_call 17; refine (X7.out _ (by assumption)).mono ?_; rintro e w4 ⟨rfl, hl4, hS4⟩);refine hK.out _ _ (by first | assumption) (fun hHeld => ?_);clear hK K
                 refine wpAnyH_take (i := 32) (oi := ?_) (v := ?_) ?_ (by kernel_rfl) (by kernel_rfl) (by kernel_rfl) ?_ ?_ (by assumption) ?_;rotate_left 2;(· simp only [List.getElem?_toArray, List.getElem?_cons_zero, List.getElem?_cons_succ]; rfl);rotate_left;(· refine Or.inl ⟨by rfl, ?_⟩; intro w hSw; (try dsimp only at hSw); go_simp; try with_reducible rfl);rotate_right;(· exact fun _ _ _ h => h);simp only [Act.put, List.setIfInBounds_toArray, List.set_cons_zero, List.set_cons_succ]
                 refine wpAnyH_take (i := 33) (oi := ?_) (v := ?_) ?_ (by kernel_rfl) (by kernel_rfl) (by kernel_rfl) ?_ ?_ (by assumption) ?_;rotate_left 2;(· simp only [List.getElem?_toArray, List.getElem?_cons_zero, List.getElem?_cons_succ]; rfl);rotate_left;(· refine Or.inl ⟨by rfl, ?_⟩; intro w hSw; (try dsimp only at hSw); go_simp; try with_reducible rfl);rotate_right;(· exact fun _ _ _ h => h);simp only [Act.put, List.setIfInBounds_toArray, List.set_cons_zero, List.set_cons_succ]
                 refine wpAnyH_take (i := 34) (oi := ?_) (v := ?_) ?_ (by kernel_rfl) (by kernel_rfl) (by kernel_rfl) ?_ ?_ (by assumption) ?_;rotate_left 2;(· simp only [List.getElem?_toArray, List.getElem?_cons_zero, List.getElem?_cons_succ]; rfl);rotate_left;(· refine Or.inl ⟨by rfl, ?_⟩; intro w hSw; (try dsimp only at hSw); go_simp; try with_reducible rfl);rotate_right;(· exact fun _ _ _ h => h);simp only [Act.put, List.setIfInBounds_toArray, List.set_cons_zero, List.set_cons_succ]
                 refine wpAnyH_take (i := 35) (oi := ?_) (v := ?_) ?_ (by kernel_rfl) (by kernel_rfl) (by kernel_rfl) ?_ ?_ (by assumption) ?_;rotate_left 2;(· simp only [List.getElem?_toArray, List.getElem?_cons_zero, List.getElem?_cons_succ]; rfl);rotate_left;(· refine Or.inl ⟨by rfl, ?_⟩; intro w hSw; (try dsimp only at hSw); go_simp; try with_reducible rfl);rotate_right;(· exact fun _ _ _ h => h);simp only [Act.put, List.setIfInBounds_toArray, List.set_cons_zero, List.set_cons_succ]
                 refine wpAnyH_take (i := 37) (oi := ?_) (v := ?_) ?_ (by kernel_rfl) (by kernel_rfl) (by kernel_rfl) ?_ ?_ (by assumption) ?_;rotate_left 2;(· simp only [List.getElem?_toArray, List.getElem?_cons_zero, List.getElem?_cons_succ]; rfl);rotate_left;(· refine Or.inl ⟨by rfl, ?_⟩; intro w hSw; (try dsimp only at hSw); go_simp; try with_reducible rfl);rotate_right;(· exact fun _ _ _ h => h);simp only [Act.put, List.setIfInBounds_toArray, List.set_cons_zero, List.set_cons_succ]
                 refine wpAnyH_ready (rs := [36]) (by kernel_rfl) (by simp) ?_;refine AllReadyH.cons (o := ?_) ?_ (fun K hK => ?_) AllReadyH.nil;rotate_left;(· simp only [List.getElem?_toArray, List.getElem?_cons_zero, List.getElem?_cons_succ]; rfl);go_simp;(go_at_call 18; refine (X8.out _ (by assumption)).mono ?_; rintro e w4 ⟨rfl, hl4, hS4⟩);refine hK.out _ _ (by first | assumption) (fun hHeld => ?_);clear hK K
                 refine wpAnyH_ready (rs := [38]) (by kernel_rfl) (by simp) ?_;refine AllReadyH.cons (o := ?_) ?_ (fun K hK => ?_) AllReadyH.nil;rotate_left;(· simp only [List.getElem?_toArray, List.getElem?_cons_zero, List.getElem?_cons_succ]; rfl);go_simp;(go_at_call 19; refine (X9.out _ (by assumption)).mono ?_; rintro e w4 ⟨rfl, hl4, hS4⟩);refine hK.out _ _ (by first | assumption) (fun hHeld => ?_);clear hK K
                 refine wpAnyH_take (i := 39) (oi := ?_) (v := ?_) ?_ (by kernel_rfl) (by kernel_rfl) (by kernel_rfl) ?_ ?_ (by assumption) ?_;rotate_left 2;(· simp only [List.getElem?_toArray, List.getElem?_cons_zero, List.getElem?_cons_succ]; rfl);rotate_left;(· refine Or.inl ⟨by rfl, ?_⟩; intro w hSw; (try dsimp only at hSw); go_simp; try with_reducible rfl);rotate_right;(· exact fun _ _ _ h => h);simp only [Act.put, List.setIfInBounds_toArray, List.set_cons_zero, List.set_cons_succ]
                 refine wpAnyH_take (i := 40) (oi := ?_) (v := ?_) ?_ (by kernel_rfl) (by kernel_rfl) (by kernel_rfl) ?_ ?_ (by assumption) ?_;rotate_left 2;(· simp only [List.getElem?_toArray, List.getElem?_cons_zero, List.getElem?_cons_succ]; rfl);rotate_left;(· refine Or.inl ⟨by rfl, ?_⟩; intro w hSw; (try dsimp only at hSw); go_simp; try with_reducible rfl);rotate_right;(· exact fun _ _ _ h => h);simp only [Act.put, List.setIfInBounds_toArray, List.set_cons_zero, List.set_cons_succ]
                 refine wpAnyH_done (by kernel_rfl) ?_ _
                 have HZ := Lib.hid (X10.out _ hl4)
                 clear hl0 hS0 hl4 hS4 X5 X7 X8 X9 X10
                 go_wp2_with fail
                 go_meet
                 exact ⟨rfl, HZ⟩
              · have hss : (S.toList == S.toList) = true := str_eq_self S
                have hee : (E == E) = true := by simp
                have hE2 : (E != 30) = true := by unfold bne; rw [hE]; rfl
                have hE3 : ¬ E = 30 := by rw [beq_eq_false_iff_ne] at hE; exact hE
                as_aux_lemma =>
                 go_wp2_with fail
                 refine wp_region_held_drew (S := (fun q => q.cell? ⟨r, 2, none⟩ = some (.bool act) ∧ q.cell? ⟨r, 6, none⟩ = some (.bool sure))) (by kernel_rfl) (by first | assumption) (fun hHeld => ?_)
                 refine wpAnyH_take (i := 0) (oi := ?_) (v := ?_) ?_ (by kernel_rfl) (by kernel_rfl) (by kernel_rfl) ?_ ?_ (by assumption) ?_;rotate_left 2;(· simp only [List.getElem?_toArray, List.getElem?_cons_zero]; rfl);rotate_left;(· refine Or.inl ⟨by rfl, ?_⟩; intro w hSw; (try dsimp only at hSw); go_simp; try with_reducible rfl);rotate_right;(· exact fun _ _ _ h => h);simp only [Act.put, List.setIfInBounds_toArray, List.set_cons_zero, List.set_cons_succ]
                 refine wpAnyH_take (i := 1) (oi := ?_) (v := ?_) ?_ (by kernel_rfl) (by kernel_rfl) (by kernel_rfl) ?_ ?_ (by assumption) ?_;rotate_left 2;(· simp only [List.getElem?_toArray, List.getElem?_cons_zero, List.getElem?_cons_succ]; rfl);rotate_left;(· refine Or.inl ⟨by rfl, ?_⟩; intro w hSw; (try dsimp only at hSw); go_simp; try with_reducible rfl);rotate_right;(· exact fun _ _ _ h => h);simp only [Act.put, List.setIfInBounds_toArray, List.set_cons_zero, List.set_cons_succ]
                 refine wpAnyH_take (i := 2) (oi := ?_) (v := ?_) ?_ (by kernel_rfl) (by kernel_rfl) (by kernel_rfl) ?_ ?_ (by assumption) ?_;rotate_left 2;(· simp only [List.getElem?_toArray, List.getElem?_cons_zero, List.getElem?_cons_succ]; rfl);rotate_left;(· refine Or.inl ⟨by rfl, ?_⟩; intro w hSw; (try dsimp only at hSw); go_simp; try with_reducible rfl);rotate_right;(· exact fun _ _ _ h => h);simp only [Act.put, List.setIfInBounds_toArray, List.set_cons_zero, List.set_cons_succ]
                 refine wpAnyH_take (i := 3) (oi := ?_) (v := ?_) ?_ (by kernel_rfl) (by kernel_rfl) (by kernel_rfl) ?_ ?_ (by assumption) ?_;rotate_left 2;(· simp only [List.getElem?_toArray, List.getElem?_cons_zero, List.getElem?_cons_succ]; rfl);rotate_left;(· refine Or.inl ⟨by rfl, ?_⟩; intro w hSw; (try dsimp only at hSw); go_simp; try with_reducible rfl);rotate_right;(· exact fun _ _ _ h => h);simp only [Act.put, List.setIfInBounds_toArray, List.set_cons_zero, List.set_cons_succ]
                 refine wpAnyH_take (i := 4) (oi := ?_) (v := ?_) ?_ (by kernel_rfl) (by kernel_rfl) (by kernel_rfl) ?_ ?_ (by assumption) ?_;rotate_left 2;(· simp only [List.getElem?_toArray, List.getElem?_cons_zero, List.getElem?_cons_succ]; rfl);rotate_left;(· refine Or.inl ⟨by rfl, ?_⟩; intro w hSw; (try dsimp only at hSw); go_simp; try with_reducible rfl);rotate_right;(· exact fun _ _ _ h => h);simp only [Act.put, List.setIfInBounds_toArray, List.set_cons_zero, List.set_cons_succ]
                 refine wpAnyH_take (i := 5) (oi := ?_) (v := ?_) ?_ (by kernel_rfl) (by kernel_rfl) (by kernel_rfl) ?_ ?_ (by assumption) ?_;rotate_left 2;(· simp only [List.getElem?_toArray, List.getElem?_cons_zero, List.getElem?_cons_succ]; rfl);rotate_left;(· refine Or.inl ⟨by rfl, ?_⟩; intro w hSw; (try dsimp only at hSw); go_simp; try with_reducible rfl);rotate_right;(· exact fun _ _ _ h => h);simp only [Act.put, List.setIfInBounds_toArray, List.set_cons_zero, List.set_cons_succ]
                 refine wpAnyH_take (i := 6) (oi := ?_) (v := ?_) ?_ (by kernel_rfl) (by kernel_rfl) (by kernel_rfl) ?_ ?_ (by assumption) ?_;rotate_left 2;(· simp only [List.getElem?_toArray, List.getElem?_cons_zero, List.getElem?_cons_succ]; rfl);rotate_left;(· refine Or.inl ⟨by rfl, ?_⟩; intro w hSw; (try dsimp only at hSw); go_simp; try with_reducible rfl);rotate_right;(· exact fun _ _ _ h => h);simp only [Act.put, List.setIfInBounds_toArray, List.set_cons_zero, List.set_cons_succ]
                 refine wpAnyH_take (i := 7) (oi := ?_) (v := ?_) ?_ (by kernel_rfl) (by kernel_rfl) (by kernel_rfl) ?_ ?_ (by assumption) ?_;rotate_left 2;(· simp only [List.getElem?_toArray, List.getElem?_cons_zero, List.getElem?_cons_succ]; rfl);rotate_left;(· refine Or.inl ⟨by rfl, ?_⟩; intro w hSw; (try dsimp only at hSw); go_simp; try with_reducible rfl);rotate_right;(· exact fun _ _ _ h => h);simp only [Act.put, List.setIfInBounds_toArray, List.set_cons_zero, List.set_cons_succ]
                 refine wpAnyH_take (i := 8) (oi := ?_) (v := ?_) ?_ (by kernel_rfl) (by kernel_rfl) (by kernel_rfl) ?_ ?_ (by assumption) ?_;rotate_left 2;(· simp only [List.getElem?_toArray, List.getElem?_cons_zero, List.getElem?_cons_succ]; rfl);rotate_left;(· refine Or.inl ⟨by rfl, ?_⟩; intro w hSw; (try dsimp only at hSw); go_simp; try with_reducible rfl);rotate_right;(· exact fun _ _ _ h => h);simp only [Act.put, List.setIfInBounds_toArray, List.set_cons_zero, List.set_cons_succ]
                 refine wpAnyH_take (i := 9) (oi := ?_) (v := ?_) ?_ (by kernel_rfl) (by kernel_rfl) (by kernel_rfl) ?_ ?_ (by assumption) ?_;rotate_left 2;(· simp only [List.getElem?_toArray, List.getElem?_cons_zero, List.getElem?_cons_succ]; rfl);rotate_left;(· refine Or.inl ⟨by rfl, ?_⟩; intro w hSw; (try dsimp only at hSw); go_simp; try with_reducible rfl);rotate_right;(· exact fun _ _ _ h => h);simp only [Act.put, List.setIfInBounds_toArray, List.set_cons_zero, List.set_cons_succ]
                 refine wpAnyH_take (i := 10) (oi := ?_) (v := ?_) ?_ (by kernel_rfl) (by kernel_rfl) (by kernel_rfl) ?_ ?_ (by assumption) ?_;rotate_left 2;(· simp only [List.getElem?_toArray, List.getElem?_cons_zero, List.getElem?_cons_succ]; rfl);rotate_left;(· refine Or.inl ⟨by rfl, ?_⟩; intro w hSw; (try dsimp only at hSw); go_simp; try with_reducible rfl);rotate_right;(· exact fun _ _ _ h => h);simp only [Act.put, List.setIfInBounds_toArray, List.set_cons_zero, List.set_cons_succ]
                 refine wpAnyH_take (i := 11) (oi := ?_) (v := ?_) ?_ (by kernel_rfl) (by kernel_rfl) (by kernel_rfl) ?_ ?_ (by assumption) ?_;rotate_left 2;(· simp only [List.getElem?_toArray, List.getElem?_cons_zero, List.getElem?_cons_succ]; rfl);rotate_left;(· refine Or.inl ⟨by rfl, ?_⟩; intro w hSw; (try dsimp only at hSw); go_simp; try with_reducible rfl);rotate_right;(· exact fun _ _ _ h => h);simp only [Act.put, List.setIfInBounds_toArray, List.set_cons_zero, List.set_cons_succ]
                 refine wpAnyH_take (i := 12) (oi := ?_) (v := ?_) ?_ (by kernel_rfl) (by kernel_rfl) (by kernel_rfl) ?_ ?_ (by assumption) ?_;rotate_left 2;(· simp only [List.getElem?_toArray, List.getElem?_cons_zero, List.getElem?_cons_succ]; rfl);rotate_left;(· refine Or.inl ⟨by rfl, ?_⟩; intro w hSw; (try dsimp only at hSw); go_simp; try with_reducible rfl);rotate_right;(· exact fun _ _ _ h => h);simp only [Act.put, List.setIfInBounds_toArray, List.set_cons_zero, List.set_cons_succ]
                 refine wpAnyH_take (i := 13) (oi := ?_) (v := ?_) ?_ (by kernel_rfl) (by kernel_rfl) (by kernel_rfl) ?_ ?_ (by assumption) ?_;rotate_left 2;(· simp only [List.getElem?_toArray, List.getElem?_cons_zero, List.getElem?_cons_succ]; rfl);rotate_left;(· refine Or.inl ⟨by rfl, ?_⟩; intro w hSw; (try dsimp only at hSw); go_simp; try with_reducible rfl);rotate_right;(· exact fun _ _ _ h => h);simp only [Act.put, List.setIfInBounds_toArray, List.set_cons_zero, List.set_cons_succ]
                 refine wpAnyH_take (i := 14) (oi := ?_) (v := ?_) ?_ (by kernel_rfl) (by kernel_rfl) (by kernel_rfl) ?_ ?_ (by assumption) ?_;rotate_left 2;(· simp only [List.getElem?_toArray, List.getElem?_cons_zero, List.getElem?_cons_succ]; rfl);rotate_left;(· refine Or.inl ⟨by rfl, ?_⟩; intro w hSw; (try dsimp only at hSw); go_simp; try with_reducible rfl);rotate_right;(· exact fun _ _ _ h => h);simp only [Act.put, List.setIfInBounds_toArray, List.set_cons_zero, List.set_cons_succ]
                 refine wpAnyH_take (i := 15) (oi := ?_) (v := ?_) ?_ (by kernel_rfl) (by kernel_rfl) (by kernel_rfl) ?_ ?_ (by assumption) ?_;rotate_left 2;(· simp only [List.getElem?_toArray, List.getElem?_cons_zero, List.getElem?_cons_succ]; rfl);rotate_left;(· refine Or.inl ⟨by rfl, ?_⟩; intro w hSw; (try dsimp only at hSw); go_simp; try with_reducible rfl);rotate_right;(· exact fun _ _ _ h => h);simp only [Act.put, List.setIfInBounds_toArray, List.set_cons_zero, List.set_cons_succ]
                 refine wpAnyH_take (i := 16) (oi := ?_) (v := ?_) ?_ (by kernel_rfl) (by kernel_rfl) (by kernel_rfl) ?_ ?_ (by assumption) ?_;rotate_left 2;(· simp only [List.getElem?_toArray, List.getElem?_cons_zero, List.getElem?_cons_succ]; rfl);rotate_left;(· refine Or.inl ⟨by rfl, ?_⟩; intro w hSw; (try dsimp only at hSw); go_simp; try with_reducible rfl);rotate_right;(· exact fun _ _ _ h => h);simp only [Act.put, List.setIfInBounds_toArray, List.set_cons_zero, List.set_cons_succ]
                 refine wpAnyH_take (i := 17) (oi := ?_) (v := ?_) ?_ (by kernel_rfl) (by kernel_rfl) (by kernel_rfl) ?_ ?_ (by assumption) ?_;rotate_left 2;(· simp only [List.getElem?_toArray, List.getElem?_cons_zero, List.getElem?_cons_succ]; rfl);rotate_left;(· refine Or.inl ⟨by rfl, ?_⟩; intro w hSw; (try dsimp only at hSw); go_simp; try with_reducible rfl);rotate_right;(· exact fun _ _ _ h => h);simp only [Act.put, List.setIfInBounds_toArray, List.set_cons_zero, List.set_cons_succ]
                 refine wpAnyH_take (i := 19) (oi := ?_) (v := ?_) ?_ (by kernel_rfl) (by kernel_rfl) (by kernel_rfl) ?_ ?_ (by assumption) ?_;rotate_left 2;(· simp only [List.getElem?_toArray, List.getElem?_cons_zero, List.getElem?_cons_succ]; rfl);rotate_left;(· refine Or.inl ⟨by rfl, ?_⟩; intro w hSw; (try dsimp only at hSw); go_simp; try with_reducible rfl);rotate_right;(· exact fun _ _ _ h => h);simp only [Act.put, List.setIfInBounds_toArray, List.set_cons_zero, List.set_cons_succ]
                 refine wpAnyH_take (i := 20) (oi := ?_) (v := ?_) ?_ (by kernel_rfl) (by kernel_rfl) (by kernel_rfl) ?_ ?_ (by assumption) ?_;rotate_left 2;(· simp only [List.getElem?_toArray, List.getElem?_cons_zero, List.getElem?_cons_succ]; rfl);rotate_left;(· refine Or.inl ⟨by rfl, ?_⟩; intro w hSw; (try dsimp only at hSw); go_simp; try with_reducible rfl);rotate_right;(· exact fun _ _ _ h => h);simp only [Act.put, List.setIfInBounds_toArray, List.set_cons_zero, List.set_cons_succ]
                 refine wpAnyH_take (i := 21) (oi := ?_) (v := ?_) ?_ (by kernel_rfl) (by kernel_rfl) (by kernel_rfl) ?_ ?_ (by assumption) ?_;rotate_left 2;(· simp only [List.getElem?_toArray, List.getElem?_cons_zero, List.getElem?_cons_succ]; rfl);rotate_left;(· refine Or.inl ⟨by rfl, ?_⟩; intro w hSw; (try dsimp only at hSw); go_simp; try with_reducible rfl);rotate_right;(· exact fun _ _ _ h => h);simp only [Act.put, List.setIfInBounds_toArray, List.set_cons_zero, List.set_cons_succ]
                 refine wpAnyH_take (i := 22) (oi := ?_) (v := ?_) ?_ (by kernel_rfl) (by kernel_rfl) (by kernel_rfl) ?_ ?_ (by assumption) ?_;rotate_left 2;(· simp only [List.getElem?_toArray, List.getElem?_cons_zero, List.getElem?_cons_succ]; rfl);rotate_left;(· refine Or.inl ⟨by rfl, ?_⟩; intro w hSw; (try dsimp only at hSw); go_simp; try with_reducible rfl);rotate_right;(· exact fun _ _ _ h => h);simp only [Act.put, List.setIfInBounds_toArray, List.set_cons_zero, List.set_cons_succ]
                 refine wpAnyH_ready (rs := [18]) (by kernel_rfl) (by simp) ?_;refine AllReadyH.cons (o := ?_) ?_ (fun K hK => ?_) AllReadyH.nil;rotate_left;(· simp only [List.getElem?_toArray, List.getElem?_cons_zero, List.getElem?_cons_succ]; rfl);go_simp;(go_at_call 16; refine (X5.out _ (by assumption)).mono ?_; rintro e w4 ⟨rfl, hl4, hS4⟩);refine hK.out _ _ (by first | assumption) (fun hHeld => ?_);clear hK K
                 refine wpAnyH_take (i := 23) (oi := ?_) (v := ?_) ?_ (by kernel_rfl) (by kernel_rfl) (by kernel_rfl) ?_ ?_ (by assumption) ?_;rotate_left 2;(· simp only [List.getElem?_toArray, List.getElem?_cons_zero, List.getElem?_cons_succ]; rfl);rotate_left;(· refine Or.inl ⟨by rfl, ?_⟩; intro w hSw; (try dsimp only at hSw); go_simp; try with_reducible rfl);rotate_right;(· exact fun _ _ _ h => h);simp only [Act.put, List.setIfInBounds_toArray, List.set_cons_zero, List.set_cons_succ]
                 refine wpAnyH_take (i := 24) (oi := ?_) (v := ?_) ?_ (by kernel_rfl) (by kernel_rfl) (by kernel_rfl) ?_ ?_ (by assumption) ?_;rotate_left 2;(· simp only [List.getElem?_toArray, List.getElem?_cons_zero, List.getElem?_cons_succ]; rfl);rotate_left;(· refine Or.inl ⟨by rfl, ?_⟩; intro w hSw; (try dsimp only at hSw); go_simp; try with_reducible rfl);rotate_right;(· exact fun _ _ _ h => h);simp only [Act.put, List.setIfInBounds_toArray, List.set_cons_zero, List.set_cons_succ]
                 refine wpAnyH_take (i := 25) (oi := ?_) (v := ?_) ?_ (by kernel_rfl) (by kernel_rfl) (by kernel_rfl) ?_ ?_ (by assumption) ?_;rotate_left 2;(· simp only [List.getElem?_toArray, List.getElem?_cons_zero, List.getElem?_cons_succ]; rfl);rotate_left;(· refine Or.inl ⟨by rfl, ?_⟩; intro w hSw; (try dsimp only at hSw); go_simp; try with_reducible rfl);rotate_right;(· exact fun _ _ _ h => h);simp only [Act.put, List.setIfInBounds_toArray, List.set_cons_zero, List.set_cons_succ]
                 refine wpAnyH_take (i := 26) (oi := ?_) (v := ?_) ?_ (by kernel_rfl) (by kernel_rfl) (by kernel_rfl) ?_ ?_ (by assumption) ?_;rotate_left 2;(· simp only [List.getElem?_toArray, List.getElem?_cons_zero, List.getElem?_cons_succ]; rfl);rotate_left;(· refine Or.inl ⟨by rfl, ?_⟩; intro w hSw; (try dsimp only at hSw); go_simp; try with_reducible rfl);rotate_right;(· exact fun _ _ _ h => h);simp only [Act.put, List.setIfInBounds_toArray, List.set_cons_zero, List.set_cons_succ]
                 refine wpAnyH_take (i := 28) (oi := ?_) (v := ?_) ?_ (by kernel_rfl) (by kernel_rfl) (by kernel_rfl) ?_ ?_ (by assumption) ?_;rotate_left 2;(· simp only [List.getElem?_toArray, List.getElem?_cons_zero, List.getElem?_cons_succ]; rfl);rotate_left;(· refine Or.inl ⟨by rfl, ?_⟩; intro w hSw; (try dsimp only at hSw); go_simp; try with_reducible rfl);rotate_right;(· exact fun _ _ _ h => h);simp only [Act.put, List.setIfInBounds_toArray, List.set_cons_zero, List.set_cons_succ]
                 refine wpAnyH_take (i := 29) (oi := ?_) (v := ?_) ?_ (by kernel_rfl) (by kernel_rfl) (by kernel_rfl) ?_ ?_ (by assumption) ?_;rotate_left 2;(· simp only [List.getElem?_toArray, List.getElem?_cons_zero, List.getElem?_cons_succ]; rfl);rotate_left;(· refine Or.inl ⟨by rfl, ?_⟩; intro w hSw; (try dsimp only at hSw); go_simp; try with_reducible rfl);rotate_right;(· exact fun _ _ _ h => h);simp only [Act.put, List.setIfInBounds_toArray, List.set_cons_zero, List.set_cons_succ]
                 refine wpAnyH_take (i := 30) (oi := ?_) (v := ?_) ?_ (by kernel_rfl) (by kernel_rfl) (by kernel_rfl) ?_ ?_ (by assumption) ?_;rotate_left 2;(· simp only [List.getElem?_toArray, List.getElem?_cons_zero, List.getElem?_cons_succ]; rfl);rotate_left;(· refine Or.inl ⟨by rfl, ?_⟩; intro w hSw; (try dsimp only at hSw); go_simp; try with_reducible rfl);rotate_right;(· exact fun _ _ _ h => h);simp only [Act.put, List.setIfInBounds_toArray, List.set_cons_zero, List.set_cons_succ]
                 refine wpAnyH_take (i := 31) (oi := ?_) (v := ?_) ?_ (by kernel_rfl) (by kernel_rfl) (by kernel_rfl) ?_ ?_ (by assumption) ?_;rotate_left 2;(· simp only [List.getElem?_toArray, List.getElem?_cons_zero, List.getElem?_cons_succ]; rfl);rotate_left;(· refine Or.inl ⟨by rfl, ?_⟩; intro w hSw; (try dsimp only at hSw); go_simp; try with_reducible rfl);rotate_right;(· exact fun _ _ _ h => h);simp only [Act.put, List.setIfInBounds_toArray, List.set_cons_zero, List.set_cons_succ]
                 refine wpAnyH_ready (rs := [27]) (by kernel_rfl) (by simp) ?_;refine AllReadyH.cons (o := ?_) ?_ (fun K hK => ?_) AllReadyH.nil;rotate_left;(· simp only [List.getElem?_toArray, List.getElem?_cons_zero, List.getElem?_cons_succ]; rfl);go_simp;(go_at_call 17; refine (X7.out _ (by assumption)).mono ?_; rintro e w4 ⟨rfl, hl4, hS4⟩);refine hK.out _ _ (by first | assumption) (fun hHeld => ?_);clear hK K
                 refine wpAnyH_take (i := 32) (oi := ?_) (v := ?_) ?_ (by kernel_rfl) (by kernel_rfl) (by kernel_rfl) ?_ ?_ (by assumption) ?_;rotate_left 2;(· simp only [List.getElem?_toArray, List.getElem?_cons_zero, List.getElem?_cons_succ]; rfl);rotate_left;(· refine Or.inl ⟨by rfl, ?_⟩; intro w hSw; (try dsimp only at hSw); go_simp; try with_reducible rfl);rotate_right;(· exact fun _ _ _ h => h);simp only [Act.put, List.setIfInBounds_toArray, List.set_cons_zero, List.set_cons_succ]
                 refine wpAnyH_take (i := 33) (oi := ?_) (v := ?_) ?_ (by kernel_rfl) (by kernel_rfl) (by kernel_rfl) ?_ ?_ (by assumption) ?_;rotate_left 2;(· simp only [List.getElem?_toArray, List.getElem?_cons_zero, List.getElem?_cons_succ]; rfl);rotate_left;(· refine Or.inl ⟨by rfl, ?_⟩; intro w hSw; (try dsimp only at hSw); go_simp; try with_reducible rfl);rotate_right;(· exact fun _ _ _ h => h);simp only [Act.put, List.setIfInBounds_toArray, List.set_cons_zero, List.set_cons_succ]
                 refine wpAnyH_take (i := 34) (oi := ?_) (v := ?_) ?_ (by kernel_rfl) (by kernel_rfl) (by kernel_rfl) ?_ ?_ (by assumption) ?_;rotate_left 2;(· simp only [List.getElem?_toArray, List.getElem?_cons_zero, List.getElem?_cons_succ]; rfl);rotate_left;(· refine Or.inl ⟨by rfl, ?_⟩; intro w hSw; (try dsimp only at hSw); go_simp; try with_reducible rfl);rotate_right;(· exact fun _ _ _ h => h);simp only [Act.put, List.setIfInBounds_toArray, List.set_cons_zero, List.set_cons_succ]
                 refine wpAnyH_take (i := 35) (oi := ?_) (v := ?_) ?_ (by kernel_rfl) (by kernel_rfl) (by kernel_rfl) ?_ ?_ (by assumption) ?_;rotate_left 2;(· simp only [List.getElem?_toArray, List.getElem?_cons_zero, List.getElem?_cons_succ]; rfl);rotate_left;(· refine Or.inl ⟨by rfl, ?_⟩; intro w hSw; (try dsimp only at hSw); go_simp; try with_reducible rfl);rotate_right;(· exact fun _ _ _ h => h);simp only [Act.put, List.setIfInBounds_toArray, List.set_cons_zero, List.set_cons_succ]
                 refine wpAnyH_take (i := 37) (oi := ?_) (v := ?_) ?_ (by kernel_rfl) (by kernel_rfl) (by kernel_rfl) ?_ ?_ (by assumption) ?_;rotate_left 2;(· simp only [List.getElem?_toArray, List.getElem?_cons_zero, List.getElem?_cons_succ]; rfl);rotate_left;(· refine Or.inl ⟨by rfl, ?_⟩; intro w hSw; (try dsimp only at hSw); go_simp; try with_reducible rfl);rotate_right;(· exact fun _ _ _ h => h);simp only [Act.put, List.setIfInBounds_toArray, List.set_cons_zero, List.set_cons_succ]
                 refine wpAnyH_ready (rs := [36]) (by kernel_rfl) (by simp) ?_;refine AllReadyH.cons (o := ?_) ?_ (fun K hK => ?_) AllReadyH.nil;rotate_left;(· simp only [List.getElem?_toArray, List.getElem?_cons_zero, List.getElem?_cons_succ]; rfl);go_simp;(go_at_call 18; refine (X8.out _ (by assumption)).mono ?_; rintro e w4 ⟨rfl, hl4, hS4⟩);refine hK.out _ _ (by first | assumption) (fun hHeld => ?_);clear hK K
                 refine wpAnyH_ready (rs := [38]) (by kernel_rfl) (by simp) ?_;refine AllReadyH.cons (o := ?_) ?_ (fun K hK => ?_) AllReadyH.nil;rotate_left;(· simp only [List.getElem?_toArray, List.getElem?_cons_zero, List.getElem?_cons_succ]; rfl);go_simp;(go_at_call 19; refine (X9.out _ (by assumption)).mono ?_; rintro e w4 ⟨rfl, hl4, hS4⟩);refine hK.out _ _ (by first | assumption) (fun hHeld => ?_);clear hK K
                 refine wpAnyH_take (i := 39) (oi := ?_) (v := ?_) ?_ (by kernel_rfl) (by kernel_rfl) (by kernel_rfl) ?_ ?_ (by assumption) ?_;rotate_left 2;(· simp only [List.getElem?_toArray, List.getElem?_cons_zero, List.getElem?_cons_succ]; rfl);rotate_left;(· refine Or.inl ⟨by rfl, ?_⟩; intro w hSw; (try dsimp only at hSw); go_simp; try with_reducible rfl);rotate_right;(· exact fun _ _ _ h => h);simp only [Act.put, List.setIfInBounds_toArray, List.set_cons_zero, List.set_cons_succ]
                 refine wpAnyH_take (i := 40) (oi := ?_) (v := ?_) ?_ (by kernel_rfl) (by kernel_rfl) (by kernel_rfl) ?_ ?_ (by assumption) ?_;rotate_left 2;(· simp only [List.getElem?_toArray, List.getElem?_cons_zero, List.getElem?_cons_succ]; rfl);rotate_left;(· refine Or.inl ⟨by rfl, ?_⟩; intro w hSw; (try dsimp only at hSw); go_simp; try with_reducible rfl);rotate_right;(· exact fun _ _ _ h => h);simp only [Act.put, List.setIfInBounds_toArray, List.set_cons_zero, List.set_cons_succ]
                 refine wpAnyH_done (by kernel_rfl) ?_ _
                 have HZ := Lib.hid (X10.out _ hl4)
                 clear hl0 hS0 hl4 hS4 X5 X7 X8 X9 X10
                 go_wp2_with fail
                 go_meet
                 exact ⟨rfl, HZ⟩
            case rest =>
              obtain ⟨rfl, HN⟩ := hcut
              have HZ : Hid (DB w N a r 50 (60000 + 600 * (i + 1)) wc b2) := HN.out.more (by omega) (Nat.le_refl _)
              clear HN Q3 Q5 Q6 Q7 Q8 Q9 Q10 HSE HLz HOB
              go_wp2_with fail
              go_roundg g
              case measure => omega
              case rel => exact ⟨i + 1, b2, by have := HI.out.2; omega, by go_num, rfl, HZ⟩
        | zero =>
          have e : i = len := by omega
          subst e
          obtain ⟨q, g1, Y, g2, g3⟩ := HD.out.end (by have := HL.out; omega)
          have G1 := Lib.hid g1
          have G2 := Lib.hid g2
          have G3 := Lib.hid g3
          clear g1 g2 g3 hig HD HL HOP
          go_wp2_with fail
          refine G1.out.mono ?_
          rintro e y1 ⟨rfl, rfl⟩
          go_wp2_with fail
          refine G2.out.mono ?_
          rintro e y2 ⟨g, rfl, hy⟩
          have HY := Lib.hid (G3.out g y2 hy)
          clear hy G1 G2 G3
          go_wp2_with fail
          refine HY.out.mono ?_
          rintro e y3 ⟨rfl, he⟩
          obtain ⟨act, p1, p2, p3⟩ := he.active
          have P1 := Lib.hid p1
          have P2 := Lib.hid p2
          have P3 := Lib.hid p3
          clear p1 p2 p3 he HY
          go_wp2_with fail
          refine P1.out.mono ?_
          rintro e y4 ⟨rfl, rfl⟩
          cases act with
          | false =>
            obtain ⟨g, c, c0, hs⟩ := P2.out rfl
            have HS := Lib.hid hs
            clear hs P1 P2 P3
            go_wp2_with fail
            refine HS.out.mono ?_
            rintro e y5 ⟨rfl, hb⟩
            have HB := Lib.hid hb
            clear hb HS c0
            go_wp2_with fail
            go_ret
            exact ⟨rfl, HB.out⟩
          | true =>
            clear P1 P2
            go_wp2_with fail
            refine P3.out.mono ?_
            rintro e y5 ⟨rfl, g, c, c0, hs⟩
            have HS := Lib.hid hs
            clear hs P3
            go_wp2_with fail
            refine HS.out.mono ?_
            rintro e y6 ⟨rfl, hb⟩
            have HB := Lib.hid hb
            clear hb HS c0
            go_wp2_with fail
            go_ret
            exact ⟨rfl, HB.out⟩
end Go.Proofs.YtigmcnnplnfakaaGreatDoor
