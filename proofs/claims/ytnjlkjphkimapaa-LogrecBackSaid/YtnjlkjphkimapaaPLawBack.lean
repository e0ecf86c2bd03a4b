/-
  Walk over LogrecBack.
-/
import Derived.Test.YtnjlkjphkimapaaPLaws
import Derived.Test.YtnjlkjphkimapaaPTurned
import Derived.RegionTactic
import Derived.ChangeAlike
import Derived.BigRegion
import Derived.StillTailTactics
namespace Go.Proofs.Ytnjlkjphkimapaa
open Go.RowKit Go.ChangeShapes Go.WideShapes Go.ChangeAt Go.Deep

theorem RowU.below {w w' : World} {g B : Nat} {l : List UInt8} (h : RowU w g l) (hb : Below B w w') (hg : g < B) : RowU w' g l := by
  obtain ⟨cs, z, h, h1⟩ := h
  exact ⟨cs, z, (hb.block g hg).trans h, h1⟩
theorem RowU.back {w : World} {g : Nat} {l : List UInt8} (h : RowU w g l) (n cap : Nat) (hn : l.length = n) (bs : ByteArray) (hbs : bs = ⟨l.toArray⟩) :
    Sem.run Try.prog (convert 37 9 (.slice (some ⟨g, 0, none⟩) n cap)) w = .ok (.string bs) w := by
  subst hn hbs
  exact run_convert_bytes_back (P := Try.prog) w 37 9 5 ⟨g, 0, none⟩ cap l Try.underlying37 Try.underlying5 Try.underlying9 (fun j hj => by
    rw [blk_add]
    exact h.cell j hj)

set_option maxRecDepth 100000 in
set_option maxHeartbeats 1000000 in
theorem back11_no (q : Int) (A : Option Addr) (n cap : Nat) (a : Nat → Int) (t : Nat → ByteArray) (at_ : Int) (ds : Array Value) (w : World) (hF : SecF w A n a t) (hn : n ≤ cap) (hc : cap ≤ maxLen) (hr : M.rE a t q n ≠ 0) :
    Calls Try.prog 5 #[.int .i64 q, .slice A n cap, .int .i64 at_, .agg ds] w fun e w' => e = .returned (.bool true) ∧ Below w.heap.size w w' := by
  have CG := Lib.hid (fun y (hb : Below w.heap.size w y) => great11_any A n cap a t y (hF.below (Nat.le_refl _) hb) (by omega))
  have C1 := Lib.hid (fun y (hb : Below w.heap.size w y) => put11_no A n cap a t q y (hF.below (Nat.le_refl _) hb) hn hc hr)
  obtain ⟨E, hE⟩ : ∃ E, E = M.rE a t q n := ⟨_, rfl⟩
  rw [← hE] at C1 hr
  have hr' : (E == 0) = false := by simp [hr]
  obtain ⟨W, hW⟩ : ∃ W, W = w.alloc (.cells ds 36) := ⟨_, rfl⟩
  have HB : Hid (Below w.heap.size w W) := by rw [hW]; exact (Below.refl _ _).alloc (Nat.le_refl _) _
  have HW := Lib.hid hW
  clear hF hn hc hE hW hr
  go_enter Try.func5, Try.ntmps5
  go_wp2_with fail
  rw [← HW.out]
  refine (works11_any W).mono ?_
  rintro e w1 ⟨rfl, hb1⟩
  have HB1 : Hid (Below w.heap.size w w1) := HB.out.trans (hb1.mono HB.out.size)
  clear hb1
  go_wp2_with fail
  refine (CG.out _ HB1.out).mono ?_
  rintro e w2 (⟨rfl, rfl⟩ | ⟨rfl, rfl, _⟩)
  · go_wp2_with fail
    go_ret
    exact ⟨rfl, HB1.out⟩
  go_wp2_with fail
  refine (C1.out _ HB1.out).mono ?_
  rintro e w3 ⟨rfl, hb3⟩
  have HB3 : Hid (Below w.heap.size w w3) := HB1.out.trans (hb3.mono HB1.out.size)
  clear hb3
  go_wp2_with fail
  go_ret
  exact ⟨rfl, HB3.out⟩

/-- What stands at the loop's head: the bytes turned so far; all that was there before is kept. -/
def Tn11 (w5 : World) (G k : Nat) (l : List UInt8) (j : Value) (wr : World) : Prop :=
  ∃ (i : Nat) (b : List UInt8), i ≤ 4 ∧ j = .int .i64 i ∧ RowU wr G b ∧ Near k l b ∧ Below G w5 wr

set_option maxRecDepth 100000 in
set_option maxHeartbeats 4000000 in
theorem back11_yes (q : Int) (A : Option Addr) (n cap : Nat) (a : Nat → Int) (t : Nat → ByteArray) (at_ : Int) (d0 d1 d2 d3 : UInt8) (w : World) (hF : SecF w A n a t) (hn : n ≤ cap) (hc : cap ≤ maxLen) (hr : M.rE a t q n = 0) :
    Calls Try.prog 5 #[.int .i64 q, .slice A n cap, .int .i64 at_, .agg #[.int .u8 (d0.toNat : Int), .int .u8 (d1.toNat : Int), .int .u8 (d2.toNat : Int), .int .u8 (d3.toNat : Int)]] w fun e w' => e = .returned (.bool true) ∧ Below w.heap.size w w' := by
  have HF := Lib.hid (fun y (hb : Below w.heap.size w y) => hF.below (Nat.le_refl _) hb)
  have CG := Lib.hid (fun y (hb : Below w.heap.size w y) => great11_any A n cap a t y (hF.below (Nat.le_refl _) hb) (by omega))
  have C1 := Lib.hid (fun y (hb : Below w.heap.size w y) => put11_yes A n cap a t q y (hF.below (Nat.le_refl _) hb) hn hc hr)
  obtain ⟨_, hn1, hall⟩ := M.rE_ok a t hr
  have hsz := M.rec_size a t q.toNat n hn1.2 (fun i hi => (hall i hi).2)
  obtain ⟨g1, g2, g3, g4, g5⟩ := M.get_rec q hr
  obtain ⟨z1, z2⟩ := M.size_rec q hr
  have HT : Hid (∀ (j : Nat) (l : List UInt8) (bs : ByteArray), bs = ⟨l.toArray⟩ → Near j (M.rec a t q.toNat n).data.toList l → (8 + 2 * n ≤ j ∨ j + 4 ≤ 8 + 2 * n) → (bs = M.rec a t q.toNat n ∧ M.getE bs = 0) ∨ (bs ≠ M.rec a t q.toNat n ∧ M.getE bs ≠ 0)) := fun j l bs h1 h2 h3 => M.turned_is hr j l bs h1 h2 h3
  obtain ⟨s, hs⟩ : ∃ x, x = M.rec a t q.toNat n := ⟨_, rfl⟩
  rw [← hs] at C1 HT hsz g1 g2 g3 g4 g5 z1 z2
  have C2 : Hid (∀ y, Calls Try.prog 12 #[.string s] y fun e y' => ∃ A2 c2, e = .returned (.tuple #[.int .i64 q, .slice A2 n c2, .int .i64 0]) ∧ SecF y' A2 n a t ∧ Below y.heap.size y y') := fun y => by
    refine (get11_any s y).mono ?_
    rintro e y' ⟨v, h1, ⟨A2, c2, rfl, _, _, h4⟩, h5⟩
    rw [M.getN, if_pos g1, g2] at h1 h4
    rw [M.getQ, if_pos g1, g3, g1] at h1
    exact ⟨A2, c2, h1, h4.congr g4 g5, h5⟩
  have C3 := Lib.hid (fun y => size11_any (s.extract 0 64) q y)
  rw [z1, z2] at C3
  have C5 := Lib.hid (fun A1 A2 c1 c2 y h1 h2 => sectors11_any A1 A2 n c1 c2 a t y h1 h2 (by omega))
  have hmul : ((n : Int) + 1) * 64 = (s.size : Int) := by omega
  have hs0 : 0 < s.size := by omega
  have hs3 : s.size ≤ 3000 := by omega
  have h64 : (64 : Int) ≤ (s.size : Int) := by omega
  obtain ⟨k, hkm, hkk⟩ := k_of at_ s.size hs0 hs3
  obtain ⟨told, htold⟩ : ∃ told, told = 8 + 2 * n := ⟨_, rfl⟩
  have ho : (8 : Int) + 2 * (n : Int) = (told : Int) := by omega
  rw [← htold] at HT
  have hnb : (n : Int) ≤ 16 := by omega
  obtain ⟨ds, hds⟩ : ∃ ds : Array Value, ds = #[.int .u8 (d0.toNat : Int), .int .u8 (d1.toNat : Int), .int .u8 (d2.toNat : Int), .int .u8 (d3.toNat : Int)] := ⟨_, rfl⟩
  have HFour : Hid (∀ i, i < 4 → ∃ d : UInt8, ds[i]? = some (.int .u8 (d.toNat : Int))) := by show ∀ _, _; rw [hds]; exact four_at d0 d1 d2 d3
  obtain ⟨W, hW⟩ : ∃ W, W = w.alloc (.cells ds 36) := ⟨_, rfl⟩
  obtain ⟨b7, hb7⟩ : ∃ b7, b7 = w.heap.size := ⟨_, rfl⟩
  have HD : Hid (Box W b7 36 ds) := by rw [hW, hb7]; exact Box.new _ _ _
  have HB : Hid (Below w.heap.size w W) := by rw [hW]; exact (Below.refl _ _).alloc (Nat.le_refl _) _
  rw [hds] at hW
  have HW := Lib.hid hW
  have H7 := Lib.hid hb7
  have e1 : (q == q) = true := by simp
  have hnn : ((n : Int) + 1 == (n : Int) + 1) = true := by simp
  clear hF hn hc hr hn1 hall hsz g1 g2 g3 g4 g5 z1 z2 hs htold hds hW hb7
  go_enter Try.func5, Try.ntmps5
  go_wp2_with fail
  rw [← HW.out, ← H7.out]
  refine (works11_any W).mono ?_
  rintro e w1 ⟨rfl, hb1⟩
  have HB1 : Hid (Below w.heap.size w w1) := HB.out.trans (hb1.mono HB.out.size)
  have HD1 := Lib.hid (HD.out.below hb1 HD.out.lt)
  clear hb1 HD HB HW
  go_wp2_with fail
  refine (CG.out _ HB1.out).mono ?_
  rintro e w2 (⟨rfl, rfl⟩ | ⟨rfl, rfl, _⟩)
  · go_wp2_with fail
    go_ret
    exact ⟨rfl, HB1.out⟩
  go_wp2_with fail
  refine (C1.out _ HB1.out).mono ?_
  rintro e w3 ⟨rfl, hb3⟩
  have HB3 : Hid (Below w.heap.size w w3) := HB1.out.trans (hb3.mono HB1.out.size)
  have HD3 := Lib.hid (HD1.out.below hb3 HD1.out.lt)
  clear hb3 HD1 CG C1
  go_wp2_with fail
  refine (C2.out _).mono ?_
  rintro e w4 ⟨A2, c2, rfl, hm4, hb4⟩
  have HB4 : Hid (Below w.heap.size w w4) := HB3.out.trans (hb4.mono HB3.out.size)
  have HD4 := Lib.hid (HD3.out.below hb4 HD3.out.lt)
  have HM4 := Lib.hid hm4
  clear hb4 HD3 HB3 hm4
  go_wp2_with fail
  refine (C3.out _).mono ?_
  rintro e w5 ⟨rfl, hb5⟩
  have HB5 : Hid (Below w.heap.size w w5) := HB4.out.trans (hb5.mono HB4.out.size)
  have HD5 := Lib.hid (HD4.out.below hb5 HD4.out.lt)
  have HM5 := Lib.hid (HM4.out.below (Nat.le_refl _) hb5)
  clear hb5 HD4 HB4 HM4 C2 C3
  have hcv := run_bytes_of_string (P := Try.prog) w5 9 37 5 s Try.underlying9 Try.underlying37 Try.underlying5
  obtain ⟨cp, hcap⟩ : ∃ x, x = grownCap w5 s.size 0 5 := ⟨_, rfl⟩
  rw [← hcap] at hcv
  clear hcap
  obtain ⟨w6, hw6⟩ : ∃ x, x = w5.drew.alloc (.cells (bytesRow s cp) 5 ((bytesRow s cp).size, (bytesRow s cp).size + 1)) := ⟨_, rfl⟩
  rw [← hw6] at hcv
  have hb6 : Below w5.heap.size w5 w6 := by rw [hw6]; exact (Below.refl _ _).drew.alloc (Nat.le_refl _) _
  have HR6 : Hid (RowU w6 w5.heap.size s.data.toList) := by show RowU _ _ _; rw [hw6]; exact row_new w5 s cp
  obtain ⟨G, hG⟩ : ∃ x, x = w5.heap.size := ⟨_, rfl⟩
  have HG := Lib.hid hG
  have HZ : Hid (b7 < G ∧ w.heap.size ≤ G) := ⟨by rw [hG]; exact HD5.out.lt, by rw [hG]; exact HB5.out.size⟩
  rw [← hG] at hcv HR6 hb6
  have HB6 := Lib.hid hb6
  clear hw6 hb6 hG
  go_wp2_with fail
  rw [hkk]
  clear hkk hcv
  go_loopw [18] (fun j wr => Tn11 w5 G k s.data.toList j wr) (fun j _ => 4 - (intOf j).toNat)
  case atStart => exact ⟨0, s.data.toList, Nat.zero_le _, rfl, HR6.out, Near.refl _ _, HB6.out⟩
  case round =>
    clear HR6 HB6
    obtain ⟨i, bl, hi, rfl, hR, hN, hL⟩ := hrel
    have hbl : bl.length = s.size := hN.1
    by_cases hgo : i < 4 ∧ k + i < s.size
    · obtain ⟨h4, hki⟩ := hgo
      have hd4 : decide ((i : Int) < 4) = true := by simp; omega
      obtain ⟨m, hm⟩ : ∃ m, m = k + i := ⟨_, rfl⟩
      have hmi : (k : Int) + (i : Int) = (m : Int) := by omega
      have hc0 := hR.cell m (by omega)
      have hfz := hR.frozen m (by omega)
      obtain ⟨d, hd⟩ := HFour.out i h4
      have hc1 := (HD5.out.below hL (by have := HZ.out; omega)).cell i
      rw [hd] at hc1
      have HR := Lib.hid (hR.set m (bl[m]'(by omega) ^^^ d))
      obtain ⟨x, hx⟩ : ∃ x, x = bl[m]'(by omega) := ⟨_, rfl⟩
      rw [← hx] at hc0 HR
      have ht := u8_turn x d
      have HN := Lib.hid (hN.set i h4 (x ^^^ d))
      rw [← hm] at HN
      have HL := Lib.hid hL
      have hm1 : (m : Int) < (s.size : Int) := by omega
      have hm2 : m < s.size := by omega
      clear hx hd hR hN hL hm hki hbl
      have hi0 : (0 : Int) ≤ (i : Int) := by omega
      have hi4 : (i : Int) < 4 := by omega
      have hm0 : (0 : Int) ≤ (m : Int) := by omega
      have hwm : IntKind.i64.wrap (m : Int) = (m : Int) := by simp [IntKind.wrap, IntKind.bits, IntKind.signed]; omega
      go_wp2_with fail
      go_still_tail 15, (by kernel_rfl)
      change wpList _ _ _ _ _ wr.drew
      obtain ⟨v5, hv5⟩ : ∃ x, x = wr.drew := ⟨_, rfl⟩
      have hfz3 : v5.frozen? ⟨G, m, none⟩ = false := by rw [hv5]; exact hfz
      have hc3 : v5.cell? ⟨G, m, none⟩ = some (.int .u8 (x.toNat : Int)) := by rw [hv5]; exact hc0
      have hgr : v5.grownBy (v5.setCell ⟨G, m, none⟩ (.int .u8 ((x ^^^ d).toNat : Int))) (some G) := grown_set _ _ _ _
      have HR5 : Hid (RowU (v5.setCell ⟨G, m, none⟩ (.int .u8 ((x ^^^ d).toNat : Int))) G (bl.set m (x ^^^ d))) := by show RowU _ _ _; rw [hv5]; exact HR.out
      have hv6 : Below G w5 v5 := by rw [hv5]; exact HL.out.drew
      have HL5 : Hid (Below G w5 (v5.setCell ⟨G, m, none⟩ (.int .u8 ((x ^^^ d).toNat : Int)))) := below_by hv6 hgr (Nat.le_refl _) (by rw [HG.out]; exact (HG.out ▸ hv6).size)
      rw [← hv5]
      clear hv5 HR HL hc0 hc1 hfz hgr hv6
      go_wp2_with fail
      go_roundw
      case rel => exact ⟨i + 1, bl.set m (x ^^^ d), by omega, by go_num, HR5.out, HN.out, HL5.out⟩
      case measure => simp [intOf]; omega
    · have hex : decide ((i : Int) < 4) = false ∨ (decide ((i : Int) < 4) = true ∧ decide ((k : Int) + (i : Int) < (s.size : Int)) = false) := by
        by_cases h4 : i < 4
        · exact Or.inr ⟨by simp; omega, by simp; omega⟩
        · exact Or.inl (by simp; omega)
      clear hgo
      obtain ⟨bs, hbs⟩ : ∃ x : ByteArray, x = ⟨bl.toArray⟩ := ⟨_, rfl⟩
      have HR := Lib.hid hR
      have HBL := Lib.hid hbl
      have HBS := Lib.hid hbs
      have HL := Lib.hid hL
      obtain ⟨E, hE⟩ : ∃ E, E = M.getE bs := ⟨_, rfl⟩
      have HSame : Hid (∀ (_ : told ≤ k ∨ k + 4 ≤ told), (bs = s ∧ E = 0) ∨ (bs ≠ s ∧ E ≠ 0)) := fun h => by rw [hE]; exact HT.out k bl bs hbs hN h
      have C4 : Hid (∀ y, Calls Try.prog 12 #[.string bs] y fun e y' => ∃ x v, e = .returned (.tuple #[.int .i64 x, v, .int .i64 E]) ∧ Below y.heap.size y y') := fun y => by
        refine (get11_any bs y).mono ?_
        rintro e y' ⟨v, h1, _, h3⟩
        rw [← hE] at h1
        exact ⟨_, v, h1, h3⟩
      have hcv7 := hR.back s.size cp hbl bs hbs
      have hst : (decide (k < told) = true ∧ decide ((told : Int) < (k : Int) + 4) = true) ∨ (decide (k < told) = false ∧ ((bs = s ∧ E = 0) ∨ (bs ≠ s ∧ E ≠ 0))) ∨ (decide (k < told) = true ∧ decide ((told : Int) < (k : Int) + 4) = false ∧ ((bs = s ∧ E = 0) ∨ (bs ≠ s ∧ E ≠ 0))) := by
        by_cases p1 : k < told
        · by_cases p2 : told < k + 4
          · exact Or.inl ⟨by simp; omega, by simp; omega⟩
          · exact Or.inr (Or.inr ⟨by simp; omega, by simp; omega, HSame.out (by omega)⟩)
        · exact Or.inr (Or.inl ⟨by simp; omega, HSame.out (by omega)⟩)
      have HST := Lib.hid hst
      clear hR hL hN hbl hbs hE HT hst HSame
      rcases hex with hd4 | ⟨hd4, hdk⟩
      all_goals
        go_wp2_with fail
        refine (C4.out wr).mono ?_
        rintro e w7 ⟨x, v, rfl, hb7⟩
        have hG7 : G ≤ wr.heap.size := by have := HL.out; rw [HG.out] at this ⊢; exact this.size
        have HL7 : Hid (Below G w5 w7) := HL.out.trans (hb7.mono hG7)
        have HR7 := Lib.hid (HR.out.below hb7 HR.out.lt)
        have HBw : Hid (Below w.heap.size w w7) := HB5.out.trans (HL7.out.mono HZ.out.2)
        have HM7 : Hid (SecF w7 A2 n a t) := HM5.out.below (by rw [HG.out]; exact Nat.le_refl _) HL7.out
        have C6 := Lib.hid (C5.out A A2 cap c2 w7 (HF.out w7 HBw.out) HM7.out)
        clear hb7 hcv7 hG7
        rcases HST.out with ⟨s1, s2⟩ | ⟨s1, hs⟩ | ⟨s1, s2, hs⟩
        · go_wp2_with fail
          refine C6.out.mono ?_
          rintro e w8 ⟨rfl, hb8⟩
          have HB8 : Hid (Below w.heap.size w w8) := HBw.out.trans (hb8.mono HBw.out.size)
          clear hb8
          go_wp2_with fail
          go_ret
          exact ⟨rfl, HB8.out⟩
        all_goals
          rcases hs with ⟨h1, h2⟩ | ⟨h1, h2⟩
          · have f1 : (bs.toList == s.toList) = true := by rw [h1]; exact str_eq_self s
            have f2 : (E == 0) = true := by simp [h2]
            clear h1 h2
            go_wp2_with fail
            refine C6.out.mono ?_
            rintro e w8 ⟨rfl, hb8⟩
            have HB8 : Hid (Below w.heap.size w w8) := HBw.out.trans (hb8.mono HBw.out.size)
            have hcv8 := (HR7.out.below hb8 HR7.out.lt).back s.size cp HBL.out bs HBS.out
            clear hb8
            go_wp2_with fail
            go_ret
            exact ⟨rfl, HB8.out⟩
          · have f1 : (bs.toList == s.toList) = false := ne_of_toList h1
            have f2 : (E == 0) = false := by simp [h2]
            clear h1 h2
            go_wp2_with fail
            refine C6.out.mono ?_
            rintro e w8 ⟨rfl, hb8⟩
            have HB8 : Hid (Below w.heap.size w w8) := HBw.out.trans (hb8.mono HBw.out.size)
            have hcv8 := (HR7.out.below hb8 HR7.out.lt).back s.size cp HBL.out bs HBS.out
            clear hb8
            go_wp2_with fail
            go_ret
            exact ⟨rfl, HB8.out⟩
theorem logrecBack_open1 {H : Type} {enc : TypeId × Value → H} {W : World} {r : Reach} {b0 : Nat} {v : Value} {d : DataW H} {p : List MemPlace} (hval : Value.okWide Try.prog W r b0 22 v)
    (h : DataW.Trod enc Try.prog W 0 (fun _ => true) true 22 v d p) : SecsAt W v := secs_open hval h
theorem logrecBack_open3 {H : Type} {enc : TypeId × Value → H} {W : World} {r : Reach} {b0 : Nat} {v : Value} {d : DataW H} {p : List MemPlace} (hval : Value.okWide Try.prog W r b0 36 v)
    (h : DataW.Trod enc Try.prog W 0 (fun _ => true) true 36 v d p) : FourAt W v := four_open hval h
theorem logrecBack_walk (q : Int) (_h0 : -9223372036854775808 ≤ q) (_h9 : q ≤ 9223372036854775807) (v : Value) (k : Int) (_k0 : -9223372036854775808 ≤ k) (_k9 : k ≤ 9223372036854775807) (u : Value) (w : World) (hv : SecsAt w v) (hu : FourAt w u) :
    Calls Try.prog 5 #[.int .i64 q, v, .int .i64 k, u] w fun e w' => e = .returned (.bool true) ∧ Below w.heap.size w w' := by
  obtain ⟨A, n, cap, rfl, hn, hc, hall⟩ := hv
  obtain ⟨a, t, hF⟩ := SecF.of hall
  obtain ⟨d0, d1, d2, d3, rfl⟩ := hu
  by_cases hr : M.rE a t q n = 0
  · exact back11_yes q A n cap a t k d0 d1 d2 d3 w hF hn hc hr
  · exact back11_no q A n cap a t k _ w hF hn hc hr
end Go.Proofs.Ytnjlkjphkimapaa
