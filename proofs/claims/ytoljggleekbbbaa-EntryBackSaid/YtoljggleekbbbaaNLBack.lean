/-
  A walk over EntryBack. (Written by wip/gen_nlback.py.)
-/
import Derived.Test.YtoljggleekbbbaaNLaws
import Derived.Test.YtoljggleekbbbaaNArg
import Derived.RegionTactic
import Derived.ChangeAlike
import Derived.BigRegion
import Derived.StillTailTactics
namespace Go.Proofs.Ytoljggleekbbbaa
open Go.RowKit Go.ChangeShapes Go.WideShapes Go.ChangeAt Go.Deep

theorem RowU.below17 {w w' : World} {g B : Nat} {l : List UInt8} (h : RowU w g l) (hb : Below B w w') (hg : g < B) : RowU w' g l := by
  obtain ⟨cs, z, h, h1⟩ := h
  exact ⟨cs, z, (hb.block g hg).trans h, h1⟩
theorem RowU.back17 {w : World} {g : Nat} {l : List UInt8} (h : RowU w g l) (n cap : Nat) (hn : l.length = n) (bs : ByteArray) (hbs : bs = ⟨l.toArray⟩) :
    Sem.run Try.prog (convert 37 9 (.slice (some ⟨g, 0, none⟩) n cap)) w = .ok (.string bs) w := by
  subst hn hbs
  exact run_convert_bytes_back (P := Try.prog) w 37 9 5 ⟨g, 0, none⟩ cap l Try.underlying37 Try.underlying5 Try.underlying9 (fun j hj => by
    rw [blk_add]
    exact h.cell j hj)
theorem nb2b (w : World) (o1 o2 : Obj) : Below w.heap.size w ((w.alloc o1).alloc o2) := nb2 w o1 o2

theorem back17_far (a b s c d u n : Int) (ds : Array Value) (tt : ByteArray) (w : World) (h : 3000 < tt.size) :
    Calls Try.prog 5 #[Ev2 a b s c d u, .int .i64 n, .agg ds, .string tt] w fun e w' => e = .returned (.bool true) ∧ Below w.heap.size w w' := by
  have h1 : (3000 : Int) < (tt.size : Int) := by omega
  have HB := Lib.hid (nb2b w (Ec2 a b s c d u) (.cells ds 36))
  clear h
  go_enter Try.func5, Try.ntmps5
  go_wp2_with fail
  refine (works17_any _).mono ?_
  rintro en w1 ⟨rfl, hb1⟩
  have HB1 := Lib.hid (HB.out.trans (hb1.mono HB.out.size))
  clear hb1
  go_wp2_with fail
  go_ret
  exact ⟨rfl, HB1.out⟩

/-- What stands at the loop's head: the bytes turned so far; all that was there before is kept. -/
def Tn17 (w5 : World) (G k : Nat) (l : List UInt8) (j : Value) (wr : World) : Prop :=
  ∃ (i : Nat) (b : List UInt8), i ≤ 4 ∧ j = .int .i64 i ∧ RowU wr G b ∧ Near k l b ∧ Below G w5 wr

/-- What Get and Put say of a text. -/
theorem M.etext17 (tt : ByteArray) : ∃ (y1 y2 y3 y4 y5 y6 f : Int) (pt : ByteArray) (pe : Int), M.egot (M.eget tt) = .tuple #[Ev2 y1 y2 y3 y4 y5 y6, .int .i64 f] ∧ M.eput ⟨y1, y2, y3, y4, y5, y6⟩ = .tuple #[.string pt, .int .i64 pe] ∧
    ((f == 0) = false ∨ ((f == 0) = true ∧ (pe != 0) = false ∧ (pt.toList == tt.toList) = true)) := by
  obtain ⟨⟨⟨y1, y2, y3, y4, y5, y6⟩, f⟩, hx⟩ : ∃ x, x = M.eget tt := ⟨_, rfl⟩
  by_cases hf : f = 0
  · have hok := M.eget_ok tt (by rw [← hx]; exact hf)
    rw [← hx] at hok
    refine ⟨y1, y2, y3, y4, y5, y6, f, _, _, by rw [← hx]; rfl, M.eput_ok hok.1, Or.inr ⟨by rw [hf]; rfl, rfl, ?_⟩⟩
    rw [hok.2]
    exact str_eq_self tt
  · obtain ⟨pt, pe, hp⟩ := M.eput_is ⟨y1, y2, y3, y4, y5, y6⟩
    exact ⟨y1, y2, y3, y4, y5, y6, f, pt, pe, by rw [← hx]; rfl, hp, Or.inl (by rw [beq_eq_false_iff_ne]; exact hf)⟩

set_option maxRecDepth 100000 in
set_option maxHeartbeats 8000000 in
theorem back17_near (a b s c d u n : Int) (d0 d1 d2 d3 : UInt8) (tt : ByteArray) (w : World) (h : ¬ 3000 < tt.size) :
    Calls Try.prog 5 #[Ev2 a b s c d u, .int .i64 n, .agg #[.int .u8 (d0.toNat : Int), .int .u8 (d1.toNat : Int), .int .u8 (d2.toNat : Int), .int .u8 (d3.toNat : Int)], .string tt] w fun e w' => e = .returned (.bool true) ∧ Below w.heap.size w w' := by
  have h1 : ¬ (3000 : Int) < (tt.size : Int) := by omega
  have C1 := Lib.hid (fun y => eget_any tt y)
  obtain ⟨y1, y2, y3, y4, y5, y6, f, pt, pe, g1, g2, g3⟩ := M.etext17 tt
  rw [g1] at C1
  have C2 := Lib.hid (fun y => eput_any y1 y2 y3 y4 y5 y6 y)
  rw [g2] at C2
  have HG3 := Lib.hid g3
  have C3 := Lib.hid (fun y => eput_any a b s c d u y)
  obtain ⟨ds, hds⟩ : ∃ ds : Array Value, ds = #[.int .u8 (d0.toNat : Int), .int .u8 (d1.toNat : Int), .int .u8 (d2.toNat : Int), .int .u8 (d3.toNat : Int)] := ⟨_, rfl⟩
  have HFour : Hid (∀ i, i < 4 → ∃ d : UInt8, ds[i]? = some (.int .u8 (d.toNat : Int))) := by show ∀ _, _; rw [hds]; exact four_at d0 d1 d2 d3
  obtain ⟨W, hW⟩ : ∃ W, W = (w.alloc (Ec2 a b s c d u)).alloc (.cells ds 36) := ⟨_, rfl⟩
  obtain ⟨b4, hb4⟩ : ∃ x, x = w.heap.size := ⟨_, rfl⟩
  obtain ⟨b7, hb7⟩ : ∃ x, x = w.heap.size + 1 := ⟨_, rfl⟩
  have HD : Hid (Box W b7 36 ds) := by
    have := Box.new (w.alloc (Ec2 a b s c d u)) 36 ds
    rw [World.size_alloc] at this
    rw [hW, hb7]
    exact this
  have HX : Hid (B6 W b4 a b s c d u) := by rw [hW, hb4]; exact (B6.new w a b s c d u).below (nb1 _ _) (by simp)
  have HB : Hid (Below w.heap.size w W) := by rw [hW]; exact nb2 _ _ _
  rw [hds] at hW
  have HW := Lib.hid hW
  have H4 := Lib.hid hb4
  have H7 := Lib.hid hb7
  clear hds hW hb4 hb7 g1 g2 g3 h
  go_enter Try.func5, Try.ntmps5
  go_wp2_with fail
  rw [← HW.out, ← H7.out, ← H4.out]
  refine (works17_any W).mono ?_
  rintro e w1 ⟨rfl, hb1⟩
  have HB1 : Hid (Below w.heap.size w w1) := HB.out.trans (hb1.mono HB.out.size)
  have HD1 := Lib.hid (HD.out.below hb1 HD.out.lt)
  have HX1 := Lib.hid (HX.out.below hb1 HX.out.lt)
  clear hb1 HD HX HB HW
  go_wp2_with fail
  refine (C1.out _).mono ?_
  rintro e w2 ⟨rfl, hb2⟩
  have hb2' := hb2.trans ((nb1 w2 (Ec2 y1 y2 y3 y4 y5 y6)).mono hb2.size)
  have HY2 := Lib.hid (B6.new w2 y1 y2 y3 y4 y5 y6)
  have HB2 : Hid (Below w.heap.size w (w2.alloc (Ec2 y1 y2 y3 y4 y5 y6))) := HB1.out.trans (hb2'.mono HB1.out.size)
  have HD2 := Lib.hid (HD1.out.below hb2' HD1.out.lt)
  have HX2 := Lib.hid (HX1.out.below hb2' HX1.out.lt)
  clear hb2 hb2' HD1 HX1 HB1 C1
  obtain ⟨q0, q1, q2, q3, q4, q5⟩ := B6.cells HY2.out
  go_wp2_with fail
  refine (C2.out _).mono ?_
  rintro e w3 ⟨rfl, hb3⟩
  have HB3 : Hid (Below w.heap.size w w3) := HB2.out.trans (hb3.mono HB2.out.size)
  have HD3 := Lib.hid (HD2.out.below hb3 HD2.out.lt)
  have HX3 := Lib.hid (HX2.out.below hb3 HX2.out.lt)
  clear hb3 HD2 HX2 HB2 C2 HY2 q0 q1 q2 q3 q4 q5
  go_upto_region 7 with fail
  go_cut [47] from 37 to 46 (fun v wx => v = .bool false ∧ wx = w3)
  case first =>
    rcases HG3.out with f1 | ⟨f1, f2, f3⟩
    all_goals
      go_wp2_with fail
      go_meet
      exact ⟨rfl, rfl⟩
  obtain ⟨rfl, hwc⟩ := hcut
  subst hwc
  clear HG3
  by_cases hm : M.emay ⟨a, b, s, c, d, u⟩ = true
  case neg =>
    rw [M.eput_no hm] at C3
    clear hm
    obtain ⟨c0, c1, c2, c3, c4, c5⟩ := B6.cells HX3.out
    go_wp2_with fail
    refine (C3.out _).mono ?_
    rintro e w4 ⟨rfl, hb4⟩
    have HB4 : Hid (Below w.heap.size w w4) := HB3.out.trans (hb4.mono HB3.out.size)
    clear hb4 c0 c1 c2 c3 c4 c5
    go_wp2_with fail
    go_ret
    exact ⟨rfl, HB4.out⟩
  rw [M.eput_ok hm] at C3
  have C4 := Lib.hid (fun y => eget_any (M.ewhole ⟨a, b, s, c, d, u⟩) y)
  rw [M.egot_whole _ hm] at C4
  have HT : Hid (∀ (j : Nat) (l : List UInt8) (bs : ByteArray), bs = ⟨l.toArray⟩ → Near j (M.ewhole ⟨a, b, s, c, d, u⟩).data.toList l → (M.eget bs).2 = 0 → bs = M.ewhole ⟨a, b, s, c, d, u⟩) := fun j l bs h1 h2 h3 => M.eturned _ j l bs h1 h2 h3
  have HT0 : Hid ((M.eget (M.ewhole ⟨a, b, s, c, d, u⟩)).2 = 0) := by rw [M.eget_whole _ hm]; exact rfl
  have hsz := M.ewhole_size ⟨a, b, s, c, d, u⟩
  obtain ⟨S, hS⟩ : ∃ x, x = M.ewhole ⟨a, b, s, c, d, u⟩ := ⟨_, rfl⟩
  rw [← hS] at C3 C4 HT HT0 hsz
  have hd' : ((S.size : Int) != 64) = false := by rw [bne, show ((S.size : Int) == 64) = true by rw [beq_iff_eq]; omega]; rfl
  have hsz0 := Lib.hid hsz
  clear hsz
  have hs0 : 0 < S.size := by have := hsz0.out; omega
  have hs3 : S.size ≤ 3000 := by have := hsz0.out; omega
  obtain ⟨k, hkm, hkk⟩ := k_of n S.size hs0 hs3
  have hq := fun W => eqEntries17 a b s c d u W
  clear hm hS
  obtain ⟨c0, c1, c2, c3, c4, c5⟩ := B6.cells HX3.out
  go_wp2_with fail
  refine (C3.out _).mono ?_
  rintro e w5 ⟨rfl, hb5⟩
  have HB5 : Hid (Below w.heap.size w w5) := HB3.out.trans (hb5.mono HB3.out.size)
  have HD5 := Lib.hid (HD3.out.below hb5 HD3.out.lt)
  have HX5 := Lib.hid (HX3.out.below hb5 HX3.out.lt)
  clear hb5 c0 c1 c2 c3 c4 c5 HB3 HD3 HX3 C3
  have hcv := run_bytes_of_string (P := Try.prog) w5 9 37 5 S Try.underlying9 Try.underlying37 Try.underlying5
  obtain ⟨cp, hcap⟩ : ∃ x, x = grownCap w5 S.size 0 5 := ⟨_, rfl⟩
  rw [← hcap] at hcv
  clear hcap
  obtain ⟨w6, hw6⟩ : ∃ x, x = w5.drew.alloc (.cells (bytesRow S cp) 5 ((bytesRow S cp).size, (bytesRow S cp).size + 1)) := ⟨_, rfl⟩
  rw [← hw6] at hcv
  have hb6 : Below w5.heap.size w5 w6 := by rw [hw6]; exact (Below.refl _ _).drew.alloc (Nat.le_refl _) _
  have HR6 : Hid (RowU w6 w5.heap.size S.data.toList) := by show RowU _ _ _; rw [hw6]; exact row_new w5 S cp
  obtain ⟨G, hG⟩ : ∃ x, x = w5.heap.size := ⟨_, rfl⟩
  have HG := Lib.hid hG
  have HZ : Hid (b7 < G ∧ w.heap.size ≤ G ∧ b4 < G) := ⟨by rw [hG]; exact HD5.out.lt, by rw [hG]; exact HB5.out.size, by rw [hG]; exact HX5.out.lt⟩
  rw [← hG] at hcv HR6 hb6
  have HB6 := Lib.hid hb6
  clear hw6 hb6 hG
  go_wp2_with fail
  rw [hkk]
  clear hkk hcv
  go_loopw [17] (fun j wr => Tn17 w5 G k S.data.toList j wr) (fun j _ => 4 - (intOf j).toNat)
  case atStart => exact ⟨0, S.data.toList, Nat.zero_le _, rfl, HR6.out, Near.refl _ _, HB6.out⟩
  case round =>
    clear HR6 HB6
    obtain ⟨i, bl, hi, rfl, hR, hN, hL⟩ := hrel
    have hbl : bl.length = S.size := hN.1
    by_cases hgo : i < 4 ∧ k + i < S.size
    · obtain ⟨h4, hki⟩ := hgo
      have hd4 : decide ((i : Int) < 4) = true := by simp; omega
      obtain ⟨m, hm⟩ : ∃ m, m = k + i := ⟨_, rfl⟩
      have hmi : (k : Int) + (i : Int) = (m : Int) := by omega
      have hc0 := hR.cell m (by omega)
      have hfz := hR.frozen m (by omega)
      obtain ⟨dd, hdd⟩ := HFour.out i h4
      have hc1 := (HD5.out.below hL (by have := HZ.out; omega)).cell i
      rw [hdd] at hc1
      have HR := Lib.hid (hR.set m (bl[m]'(by omega) ^^^ dd))
      obtain ⟨x, hx⟩ : ∃ x, x = bl[m]'(by omega) := ⟨_, rfl⟩
      rw [← hx] at hc0 HR
      have ht := u8_turn x dd
      have HN := Lib.hid (hN.set i h4 (x ^^^ dd))
      rw [← hm] at HN
      have HL := Lib.hid hL
      have hm1 : (m : Int) < (S.size : Int) := by omega
      have hm2 : m < S.size := by omega
      clear hx hdd hR hN hL hm hki hbl
      have hi0 : (0 : Int) ≤ (i : Int) := by omega
      have hi4 : (i : Int) < 4 := by omega
      have hm0 : (0 : Int) ≤ (m : Int) := by omega
      have hwm : IntKind.i64.wrap (m : Int) = (m : Int) := by simp [IntKind.wrap, IntKind.bits, IntKind.signed]; omega
      go_wp2_with fail
      go_still_tail 15, (by kernel_rfl)
      change wpList _ _ _ _ _ wr.drew
      obtain ⟨v5, hv5⟩ : ∃ x, x = wr.drew := ⟨_, rfl⟩
      have hfz3 : v5.frozen? ⟨G, m, none⟩ = false := by rw [hv5]; exact hfz
      have hc3 : v5.cell? ⟨G, m, none⟩ = some (.int .u8 (x.toNat : Int)) := by rw [hv5]; exact hc0
      have hgr : v5.grownBy (v5.setCell ⟨G, m, none⟩ (.int .u8 ((x ^^^ dd).toNat : Int))) (some G) := grown_set _ _ _ _
      have HR5 : Hid (RowU (v5.setCell ⟨G, m, none⟩ (.int .u8 ((x ^^^ dd).toNat : Int))) G (bl.set m (x ^^^ dd))) := by show RowU _ _ _; rw [hv5]; exact HR.out
      have hv6 : Below G w5 v5 := by rw [hv5]; exact HL.out.drew
      have HL5 : Hid (Below G w5 (v5.setCell ⟨G, m, none⟩ (.int .u8 ((x ^^^ dd).toNat : Int)))) := below_by hv6 hgr (Nat.le_refl _) (by rw [HG.out]; exact (HG.out ▸ hv6).size)
      rw [← hv5]
      clear hv5 HR HL hc0 hc1 hfz hgr hv6
      go_wp2_with fail
      go_roundw
      case rel => exact ⟨i + 1, bl.set m (x ^^^ dd), by omega, by go_num, HR5.out, HN.out, HL5.out⟩
      case measure => simp [intOf]; omega
    · have hex : decide ((i : Int) < 4) = false ∨ (decide ((i : Int) < 4) = true ∧ decide ((k : Int) + (i : Int) < (S.size : Int)) = false) := by
        by_cases h4 : i < 4
        · exact Or.inr ⟨by simp; omega, by simp; omega⟩
        · exact Or.inl (by simp; omega)
      clear hgo
      obtain ⟨bs, hbs⟩ : ∃ x : ByteArray, x = ⟨bl.toArray⟩ := ⟨_, rfl⟩
      have HR := Lib.hid hR
      have HBL := Lib.hid hbl
      have HBS := Lib.hid hbs
      have HL := Lib.hid hL
      have hst : ∃ (x1 x2 x3 x4 x5 x6 E : Int), M.egot (M.eget bs) = .tuple #[Ev2 x1 x2 x3 x4 x5 x6, .int .i64 E] ∧ (((E == 0) = true ∧ (bs.toList == S.toList) = true) ∨ ((E == 0) = false ∧ (bs.toList == S.toList) = false)) := by
        refine ⟨_, _, _, _, _, _, _, rfl, ?_⟩
        by_cases hE : (M.eget bs).2 = 0
        · have := HT.out k bl bs hbs hN hE
          exact Or.inl ⟨by rw [hE]; rfl, by rw [this]; exact str_eq_self S⟩
        · exact Or.inr ⟨by rw [beq_eq_false_iff_ne]; exact hE, ne_of_toList10 (fun e => hE (by rw [e]; exact HT0.out))⟩
      obtain ⟨x1, x2, x3, x4, x5, x6, E, hg, hst⟩ := hst
      have C6 := Lib.hid (fun y => eget_any bs y)
      rw [hg] at C6
      have HST := Lib.hid hst
      clear hR hL hN hbl hbs hg HT HT0 hst
      rcases hex with hd4 | ⟨hd4, hdk⟩
      all_goals
        go_wp2_with fail
        refine (C4.out wr).mono ?_
        rintro e w7 ⟨rfl, hb7⟩
        have hG7 : G ≤ wr.heap.size := by have := HL.out; rw [HG.out] at this ⊢; exact this.size
        have hb8 : Below wr.heap.size wr (w7.alloc (Ec2 a b s c d u)) := hb7.trans ((nb1 w7 _).mono hb7.size)
        have HZ8 := Lib.hid (B6.new w7 a b s c d u)
        have HL8 : Hid (Below G w5 (w7.alloc (Ec2 a b s c d u))) := HL.out.trans (hb8.mono hG7)
        have HR8 := Lib.hid (HR.out.below17 hb8 HR.out.lt)
        have hcv8 := HR8.out.back17 S.size cp HBL.out bs HBS.out
        clear hb7 hb8 hG7
        go_wp2_with fail
        refine (C6.out _).mono ?_
        rintro e w9 ⟨rfl, hb9⟩
        have hG9 : G ≤ (w7.alloc (Ec2 a b s c d u)).heap.size := by have := HL8.out; rw [HG.out] at this ⊢; exact this.size
        have hb10 : Below (w7.alloc (Ec2 a b s c d u)).heap.size (w7.alloc (Ec2 a b s c d u)) (w9.alloc (Ec2 x1 x2 x3 x4 x5 x6)) := hb9.trans ((nb1 w9 _).mono hb9.size)
        have HZ10 := Lib.hid (HZ8.out.below hb10 HZ8.out.lt)
        have HL10 : Hid (Below G w5 (w9.alloc (Ec2 x1 x2 x3 x4 x5 x6))) := HL8.out.trans (hb10.mono hG9)
        have HR10 := Lib.hid (HR8.out.below17 hb10 HR8.out.lt)
        have hcv10 := HR10.out.back17 S.size cp HBL.out bs HBS.out
        have HBw : Hid (Below w.heap.size w (w9.alloc (Ec2 x1 x2 x3 x4 x5 x6))) := HB5.out.trans (HL10.out.mono HZ.out.2.1)
        have HX10 := Lib.hid (HX5.out.below HL10.out HZ.out.2.2)
        clear hb9 hb10 hG9 hcv8
        obtain ⟨c0, c1, c2, c3, c4, c5⟩ := B6.cells HX10.out
        obtain ⟨q0, q1, q2, q3, q4, q5⟩ := B6.cells HZ10.out
        rcases HST.out with ⟨f1, f2⟩ | ⟨f1, f2⟩
        all_goals
          go_wp2_with fail
          go_ret
          exact ⟨rfl, HBw.out⟩

theorem entryBack_walk (v : Value) (n : Int) (_n0 : -9223372036854775808 ≤ n) (_n9 : n ≤ 9223372036854775807) (y : Value) (tt : ByteArray) (w : World) (hv : E2At w v) (hy : FourAt w y) :
    Calls Try.prog 5 #[v, .int .i64 n, y, .string tt] w fun e w' => e = .returned (.bool true) ∧ Below w.heap.size w w' := by
  obtain ⟨a, b, s, c, d, u, rfl⟩ := hv
  obtain ⟨d0, d1, d2, d3, rfl⟩ := hy
  by_cases h : 3000 < tt.size
  · exact back17_far a b s c d u n _ tt w h
  · exact back17_near a b s c d u n d0 d1 d2 d3 tt w h
end Go.Proofs.Ytoljggleekbbbaa
