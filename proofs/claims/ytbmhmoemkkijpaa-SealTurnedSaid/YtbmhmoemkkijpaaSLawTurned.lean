/-
  Walk over solderlaw04.SealTurned.
-/
import Derived.Test.YtbmhmoemkkijpaaSLaw
import Derived.Test.YtbmhmoemkkijpaaRow
import Derived.RegionTactic
import Derived.ChangeAlike
import Derived.BigRegion
import Derived.StillTailTactics
namespace Go.Proofs.Ytbmhmoemkkijpaa
open Go.RowKit Go.ChangeShapes Go.WideShapes Go.ChangeAt Go.Deep

theorem sealTurned_open3 {H : Type} {enc : TypeId × Value → H} {W : World} {r : Reach} {b0 : Nat} {v : Value} {d : DataW H} {p : List MemPlace} (hval : Value.okWide Try.prog W r b0 33 v)
    (h : DataW.Trod enc Try.prog W 0 (fun _ => true) true 33 v d p) : FourAt W v := four_open hval h
theorem RowU.below {w w' : World} {g B : Nat} {l : List UInt8} (h : RowU w g l) (hb : Below B w w') (hg : g < B) : RowU w' g l := by
  obtain ⟨cs, z, h, h1⟩ := h
  exact ⟨cs, z, (hb.block g hg).trans h, h1⟩
theorem RowU.back {w : World} {g : Nat} {l : List UInt8} (h : RowU w g l) (n cap : Nat) (hn : l.length = n) (bs : ByteArray) (hbs : bs = ⟨l.toArray⟩) :
    Sem.run Try.prog (convert 34 9 (.slice (some ⟨g, 0, none⟩) n cap)) w = .ok (.string bs) w := by
  subst hn hbs
  exact run_convert_bytes_back (P := Try.prog) w 34 9 5 ⟨g, 0, none⟩ cap l Try.underlying34 Try.underlying5 Try.underlying9 (fun j hj => by
    rw [blk_add]
    exact h.cell j hj)

/-- Bytes that are turned within four in a row are got only if they are the same ones. -/
theorem M.turned (k : Nat) (b : ByteArray) (j : Nat) (l : List UInt8) (bs : ByteArray) (hbs : bs = ⟨l.toArray⟩) (hN : Near j (M.whole k b).data.toList l) (h : (M.get bs).e = 0) : bs = M.whole k b := by
  obtain ⟨_, _, h3⟩ := M.get_back bs h
  have e1 : M.of bs.data.toList = 558161692 := by rw [h3]; exact M.whole_of _ _
  have e2 := M.whole_of k b
  have el : bs.data.toList = l := by rw [hbs]
  have : l = (M.whole k b).data.toList := hN.of (by rw [← el, e1, e2])
  apply M.ba_ext
  rw [el, this]

/-- What stands at the loop's head: the bytes turned so far, the four, what is old. -/
def TnHead (w : World) (g c k : Nat) (l : List UInt8) (ds : Array Value) (j : Value) (wr : World) : Prop :=
  ∃ (i : Nat) (b : List UInt8), i ≤ 4 ∧ j = .int .i64 i ∧ RowU wr g b ∧ Near k l b ∧ Box wr c 33 ds ∧ Below w.heap.size w wr

theorem turned_no (k : Int) (k0 : -9223372036854775808 ≤ k) (k9 : k ≤ 9223372036854775807) (b : ByteArray) (n : Int) (d0 d1 d2 d3 : UInt8) (w : World) (hp : M.putE k b ≠ 0) :
    Calls Try.prog 6 #[.int .i64 k, .string b, .int .i64 n, .agg #[.int .u8 (d0.toNat : Int), .int .u8 (d1.toNat : Int), .int .u8 (d2.toNat : Int), .int .u8 (d3.toNat : Int)]] w fun e w' => e = .returned (.bool true) ∧ Below w.heap.size w w' := by
  have C1 := Lib.hid (fun w => sput_any k b w k0 k9)
  rw [M.putE_no k b hp] at C1
  obtain ⟨x, hx⟩ : ∃ x, x = M.putE k b := ⟨_, rfl⟩
  rw [← hx] at C1 hp
  have hxd : (x != 0) = true := by simpa using hp
  clear hp hx
  have HL := Lib.hid ((Below.refl w.heap.size w).alloc (Nat.le_refl _) (.cells #[.int .u8 (d0.toNat : Int), .int .u8 (d1.toNat : Int), .int .u8 (d2.toNat : Int), .int .u8 (d3.toNat : Int)] 33))
  go_enter Try.func6, Try.ntmps6
  go_wp2_with fail
  refine (works_any _).mono ?_
  rintro e w1 ⟨rfl, hb1⟩
  have hb1 := HL.out.trans (hb1.mono HL.out.size)
  clear HL
  go_wp2_with fail
  refine (C1.out w1).mono ?_
  rintro e w2 ⟨rfl, hb2⟩
  have hb2 := hb1.trans (hb2.mono hb1.size)
  clear hb1
  go_wp2_with fail
  go_ret
  exact ⟨rfl, hb2⟩

set_option maxHeartbeats 2000000 in
theorem turned_yes (kd : Nat) (hk : kd < 256) (b : ByteArray) (hb : b.size ≤ 600) (n : Int) (d0 d1 d2 d3 : UInt8) (w : World) :
    Calls Try.prog 6 #[.int .i64 kd, .string b, .int .i64 n, .agg #[.int .u8 (d0.toNat : Int), .int .u8 (d1.toNat : Int), .int .u8 (d2.toNat : Int), .int .u8 (d3.toNat : Int)]] w fun e w' => e = .returned (.bool true) ∧ Below w.heap.size w w' := by
  have C1 := Lib.hid (fun w => sput_yes kd b w hk hb)
  have hsz := M.whole_size kd b
  have HT : Hid (∀ j l bs, bs = ⟨l.toArray⟩ → Near j (M.whole kd b).data.toList l → (M.get bs).e = 0 → bs = M.whole kd b) := fun j l bs h1 h2 h3 => M.turned kd b j l bs h1 h2 h3
  have HG : Hid (M.get (M.whole kd b) = ⟨kd, b, ⟨#[]⟩, 0⟩) := M.get_whole kd b hk hb
  have HM : Hid (∀ r : ByteArray, r.size ≠ 0 → M.get (M.whole kd b ++ r) = M.no 2) := fun r hr => M.get_more kd b r hk hb hr
  have HS : Hid (∀ j, j < (M.whole kd b).size → (M.get ((M.whole kd b).extract 0 j)).e ≠ 0) := fun j hj => M.get_less kd b hk hb j hj
  obtain ⟨s, hs⟩ : ∃ s, s = M.whole kd b := ⟨_, rfl⟩
  rw [← hs] at C1 HT HG HM HS hsz
  clear hs
  have hs7 : 7 ≤ s.size := by omega
  have hs0 : 0 < s.size := by omega
  have hs3 : s.size ≤ 3000 := by omega
  clear hsz hk hb
  obtain ⟨k, hkm, hkk⟩ := k_of n s.size hs0 hs3
  obtain ⟨ds, hds⟩ : ∃ ds : Array Value, ds = #[.int .u8 (d0.toNat : Int), .int .u8 (d1.toNat : Int), .int .u8 (d2.toNat : Int), .int .u8 (d3.toNat : Int)] := ⟨_, rfl⟩
  have HF : Hid (∀ i, i < 4 → ∃ d : UInt8, ds[i]? = some (.int .u8 (d.toNat : Int))) := by show ∀ _, _; rw [hds]; exact four_at d0 d1 d2 d3
  have HF0 : Hid (ds[0]? = some (.int .u8 (d0.toNat : Int))) := by show _ = _; rw [hds]; rfl
  obtain ⟨w0, hw0⟩ : ∃ x, x = w.alloc (.cells ds 33) := ⟨_, rfl⟩
  have HB0 : Hid (Box w0 w.heap.size 33 ds) := by show Box _ _ _ _; rw [hw0]; exact Box.new _ _ _
  have HL0 : Hid (Below w.heap.size w w0) := by show Below _ _ _; rw [hw0]; exact (Below.refl _ _).alloc (Nat.le_refl _) _
  rw [hds] at hw0
  have HW0 := Lib.hid hw0
  clear hw0 hds
  obtain ⟨c, hc⟩ : ∃ x, x = w.heap.size := ⟨_, rfl⟩
  rw [← hc] at HB0
  have HC : Hid (c = w.heap.size) := hc
  clear hc
  go_enter Try.func6, Try.ntmps6
  go_wp2_with fail
  rw [← HW0.out, ← HC.out]
  clear HW0
  refine (works_any w0).mono ?_
  rintro e w1 ⟨rfl, hb1⟩
  have HB1 : Hid (Box w1 c 33 ds) := HB0.out.below hb1 HB0.out.lt
  have HL1 : Hid (Below w.heap.size w w1) := HL0.out.trans (hb1.mono HL0.out.size)
  clear hb1 HB0 HL0
  go_wp2_with fail
  refine (C1.out w1).mono ?_
  rintro e w2 ⟨rfl, hb2⟩
  have HB2 : Hid (Box w2 c 33 ds) := HB1.out.below hb2 HB1.out.lt
  have HL2 : Hid (Below w.heap.size w w2) := HL1.out.trans (hb2.mono HL1.out.size)
  clear hb2 HB1 HL1
  have hcv := run_bytes_of_string (P := Try.prog) w2 9 34 5 s Try.underlying9 Try.underlying34 Try.underlying5
  obtain ⟨cap, hcap⟩ : ∃ x, x = grownCap w2 s.size 0 5 := ⟨_, rfl⟩
  rw [← hcap] at hcv
  clear hcap
  obtain ⟨w3, hw3⟩ : ∃ x, x = w2.drew.alloc (.cells (bytesRow s cap) 5 ((bytesRow s cap).size, (bytesRow s cap).size + 1)) := ⟨_, rfl⟩
  rw [← hw3] at hcv
  have HR3 : Hid (RowU w3 w2.heap.size s.data.toList) := by show RowU _ _ _; rw [hw3]; exact row_new w2 s cap
  have HB3 : Hid (Box w3 c 33 ds) := by
    show Box _ _ _ _
    rw [hw3]
    exact (Below.heap_alloc w2.drew _ c HB2.out.lt).trans HB2.out
  have HL3 : Hid (Below w.heap.size w w3) := by show Below _ _ _; rw [hw3]; exact (HL2.out.drew).alloc HL2.out.size _
  have HZ : Hid (c < w2.heap.size) := HB2.out.lt
  clear hw3 HB2 HL2
  obtain ⟨g, hg⟩ : ∃ x, x = w2.heap.size := ⟨_, rfl⟩
  rw [← hg] at hcv HR3 HZ
  clear hg
  go_wp2_with fail
  rw [hkk]
  clear hkk hcv
  have HZC : Hid (w.heap.size ≤ g) := by show _ ≤ _; have := HZ.out; have := HC.out; omega
  go_loopw [13] (fun j wr => TnHead w g c k s.data.toList ds j wr) (fun j _ => 4 - (intOf j).toNat)
  case atStart => exact ⟨0, s.data.toList, Nat.zero_le _, rfl, HR3.out, Near.refl _ _, HB3.out, HL3.out⟩
  case round =>
    clear HR3 HB3 HL3
    obtain ⟨i, bl, hi, rfl, hR, hN, hB, hL⟩ := hrel
    have hbl : bl.length = s.size := hN.1
    by_cases hgo : i < 4 ∧ k + i < s.size
    · obtain ⟨h4, hki⟩ := hgo
      have hd4 : decide ((i : Int) < 4) = true := by simp; omega
      obtain ⟨m, hm⟩ : ∃ m, m = k + i := ⟨_, rfl⟩
      have hmi : (k : Int) + (i : Int) = (m : Int) := by omega
      have hc0 := hR.cell m (by omega)
      have hfz := hR.frozen m (by omega)
      obtain ⟨d, hd⟩ := HF.out i h4
      have hc1 := hB.cell i
      rw [hd] at hc1
      have HR := Lib.hid (hR.set m (bl[m]'(by omega) ^^^ d))
      obtain ⟨x, hx⟩ : ∃ x, x = bl[m]'(by omega) := ⟨_, rfl⟩
      rw [← hx] at hc0 HR
      have ht := u8_turn x d
      have HN := Lib.hid (hN.set i h4 (x ^^^ d))
      rw [← hm] at HN
      have HB := Lib.hid hB
      have HL := Lib.hid hL
      have hm1 : (m : Int) < (s.size : Int) := by omega
      have hm2 : m < s.size := by omega
      clear hx hd hR hN hB hL hm hki hbl
      have hi0 : (0 : Int) ≤ (i : Int) := by omega
      have hi4 : (i : Int) < 4 := by omega
      have hm0 : (0 : Int) ≤ (m : Int) := by omega
      have hwm : IntKind.i64.wrap (m : Int) = (m : Int) := by simp [IntKind.wrap, IntKind.bits, IntKind.signed]; omega
      go_wp2_with fail
      go_still_tail 15, (by kernel_rfl)
      change wpList _ _ _ _ _ wr.drew
      obtain ⟨w5, hw5⟩ : ∃ x, x = wr.drew := ⟨_, rfl⟩
      have hfz3 : w5.frozen? ⟨g, m, none⟩ = false := by rw [hw5]; exact hfz
      have hc3 : w5.cell? ⟨g, m, none⟩ = some (.int .u8 (x.toNat : Int)) := by rw [hw5]; exact hc0
      have HR5 : Hid (RowU (w5.setCell ⟨g, m, none⟩ (.int .u8 ((x ^^^ d).toNat : Int))) g (bl.set m (x ^^^ d))) := by show RowU _ _ _; rw [hw5]; exact HR.out
      have HB5 : Hid (Box (w5.setCell ⟨g, m, none⟩ (.int .u8 ((x ^^^ d).toNat : Int))) c 33 ds) := by
        show Box _ _ _ _
        have hB5 : Box w5 c 33 ds := by rw [hw5]; exact HB.out
        exact hB5.kept (grown_set _ _ _ _) (by have := HZ.out; omega)
      have HL5 : Hid (Below w.heap.size w (w5.setCell ⟨g, m, none⟩ (.int .u8 ((x ^^^ d).toNat : Int)))) := by
        show Below _ _ _
        have hL5 : Below w.heap.size w w5 := by rw [hw5]; exact HL.out.drew
        exact below_by hL5 (grown_set _ _ _ _) HZC.out hL5.size
      rw [← hw5]
      clear hw5 HR HB HL hc0 hc1 hfz
      go_wp2_with fail
      go_roundw
      case rel => exact ⟨i + 1, bl.set m (x ^^^ d), by omega, by go_num, HR5.out, HN.out, HB5.out, HL5.out⟩
      case measure => simp [intOf]; omega
    · have hex : decide ((i : Int) < 4) = false ∨ (decide ((i : Int) < 4) = true ∧ decide ((k : Int) + (i : Int) < (s.size : Int)) = false) := by
        by_cases h4 : i < 4
        · exact Or.inr ⟨by simp; omega, by simp; omega⟩
        · exact Or.inl (by simp; omega)
      clear hgo
      obtain ⟨bs, hbs⟩ : ∃ x : ByteArray, x = ⟨bl.toArray⟩ := ⟨_, rfl⟩
      have HR := Lib.hid hR
      have HB := Lib.hid hB
      have HL := Lib.hid hL
      have HBL := Lib.hid hbl
      have HBS := Lib.hid hbs
      have hcb := hR.back s.size cap hbl bs hbs
      have hsame : (bs = s ∧ (M.get bs).e = 0) ∨ (¬ bs = s ∧ (M.get bs).e ≠ 0) := by
        by_cases e : bs = s
        · exact Or.inl ⟨e, by rw [e, HG.out]⟩
        · exact Or.inr ⟨e, fun h => e (HT.out k bl bs hbs hN h)⟩
      have HSame : Hid (bs = s ∧ (M.get bs).e = 0 ∨ ¬ bs = s ∧ (M.get bs).e ≠ 0) := hsame
      clear hR hB hL hN hbl hbs hsame
      have C2 := Lib.hid (fun w => get3 bs _ rfl w)
      have C3 := Lib.hid (fun w => get3 (s.extract 0 k) _ rfl w)
      have C4 := Lib.hid (fun w => get3 (s ++ ⟨#[d0]⟩) _ (HM.out ⟨#[d0]⟩ (by show 1 ≠ 0; omega)) w)
      have hg0 := HS.out k hkm
      obtain ⟨⟨a1, a2, a3, a4⟩, ha⟩ : ∃ x, x = M.get bs := ⟨_, rfl⟩
      obtain ⟨⟨q1, q2, q3, q4⟩, hq⟩ : ∃ x, x = M.get (s.extract 0 k) := ⟨_, rfl⟩
      rw [← ha] at C2 HSame
      rw [← hq] at C3 hg0
      have hg0 : (q4 != 0) = true := by simpa using hg0
      clear ha hq
      have hmin : (if (k : Int) ≤ (s.size : Int) then (k : Int) else (s.size : Int)) = (k : Int) := by rw [if_pos (by omega)]
      have hk0 : (0 : Int) ≤ (k : Int) := by omega
      have hks : (k : Int) ≤ (s.size : Int) := by omega
      have hks2 : (k : Int) < (s.size : Int) := by omega
      rcases hex with hd4 | ⟨hd4, hdk⟩
      all_goals
        go_wp2_with fail
        refine (C2.out wr).mono ?_
        rintro e w4 ⟨rfl, hb4⟩
        have HR4 : Hid (RowU w4 g bl) := HR.out.below hb4 HR.out.lt
        have HB4 : Hid (Box w4 c 33 ds) := HB.out.below hb4 HB.out.lt
        have HL4 : Hid (Below w.heap.size w w4) := HL.out.trans (hb4.mono HL.out.size)
        clear hb4 hcb
        go_wp2_with fail
        refine (C3.out w4).mono ?_
        rintro e w5 ⟨rfl, hb5⟩
        have HR5 : Hid (RowU w5 g bl) := HR4.out.below hb5 HR4.out.lt
        have HB5 : Hid (Box w5 c 33 ds) := HB4.out.below hb5 HB4.out.lt
        have HL5 : Hid (Below w.heap.size w w5) := HL4.out.trans (hb5.mono HL4.out.size)
        clear hb5 HR4 HB4 HL4
        have hc0 : w5.cell? ⟨c, 0, none⟩ = some (.int .u8 (d0.toNat : Int)) := (HB5.out.cell 0).trans HF0.out
        have hcv := bytes_back w5 #[.int .u8 (d0.toNat : Int)] 1 [d0] rfl (fun i hi => by
          have : i = 0 := by simpa using hi
          subst this
          rfl)
        have HA : Hid (Below w5.heap.size w5 (w5.alloc (.cells #[.int .u8 (d0.toNat : Int)] 5))) := (Below.refl _ _).alloc (Nat.le_refl _) _
        have HR6 := Lib.hid (HR5.out.below HA.out HR5.out.lt)
        have HL6 : Hid (Below w.heap.size w (w5.alloc (.cells #[.int .u8 (d0.toNat : Int)] 5))) := HL5.out.trans (HA.out.mono HL5.out.size)
        have hd1 : (⟨[d0].toArray⟩ : ByteArray) = ⟨#[d0]⟩ := rfl
        rw [hd1] at hcv
        have hdz : (⟨#[d0]⟩ : ByteArray).size = 1 := rfl
        clear HA HR5 HB5 HL5 hd1
        go_wp2_with fail
        refine (C4.out _).mono ?_
        rintro e w6 ⟨rfl, hb6⟩
        have hR7 : RowU w6 g bl := HR6.out.below hb6 HR6.out.lt
        have hcb := hR7.back s.size cap HBL.out bs HBS.out
        have HL7 : Hid (Below w.heap.size w w6) := HL6.out.trans (hb6.mono HL6.out.size)
        clear hb6 HR6 HL6 hcv hR7
        rcases HSame.out with ⟨e1, e2⟩ | ⟨e1, e2⟩
        · have e2 : a4 = 0 := e2
          subst e2
          have f1 : (bs.toList == s.toList) = true := by rw [e1]; exact str_eq_self s
          clear e1
          go_wp2_with fail
          go_ret
          exact ⟨rfl, HL7.out⟩
        · have f2 : (a4 == 0) = false := by simpa using e2
          have f1 : (bs.toList == s.toList) = false := by
            rw [beq_eq_false_iff_ne]
            intro e
            apply e1
            rw [ByteArray.toList_eq, ByteArray.toList_eq] at e
            exact M.ba_ext e
          clear e1 e2
          go_wp2_with fail
          go_ret
          exact ⟨rfl, HL7.out⟩

theorem sealTurned_walk (k : Int) (k0 : -9223372036854775808 ≤ k) (k9 : k ≤ 9223372036854775807) (b : ByteArray) (n : Int) (_n0 : -9223372036854775808 ≤ n) (_n9 : n ≤ 9223372036854775807) (v : Value) (w : World) (hv : FourAt w v) :
    Calls Try.prog 6 #[.int .i64 k, .string b, .int .i64 n, v] w fun e w' => e = .returned (.bool true) ∧ Below w.heap.size w w' := by
  obtain ⟨d0, d1, d2, d3, rfl⟩ := hv
  by_cases hp : M.putE k b = 0
  · obtain ⟨m, rfl, h1, h2, _⟩ := M.putE_ok k b hp
    exact turned_yes m h1 b h2 n d0 d1 d2 d3 w
  · exact turned_no k k0 k9 b n d0 d1 d2 d3 w hp
end Go.Proofs.Ytbmhmoemkkijpaa
