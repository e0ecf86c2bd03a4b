/-
  Walks over logrec.Put and solderref11.Put.
-/
import Derived.Test.YtnjlkjphkimapaaPBld
namespace Go.Proofs.Ytnjlkjphkimapaa
open Go.RowKit Go.Deep

set_option maxRecDepth 100000 in
set_option maxHeartbeats 2000000 in
theorem put11_yes (A : Option Addr) (n cap : Nat) (a : Nat → Int) (t : Nat → ByteArray) (q : Int) (w : World) (h : SecF w A n a t) (hn : n ≤ cap) (hc : cap ≤ maxLen) (hr : M.rE a t q n = 0) :
    Calls Try.prog 8 #[.int .i64 q, .slice A n cap] w fun e w' => e = .returned (.tuple #[.string (M.rec a t q.toNat n), .int .i64 0]) ∧ Below w.heap.size w w' := by
  obtain ⟨hq, hn1, hall⟩ := M.rE_ok a t hr
  have hck : M.chk a t n = 0 := by unfold M.rE at hr; rw [if_neg (by omega)] at hr; exact hr
  have C0 := Lib.hid (fun x => fits_any q 6 x (by decide) (by decide))
  rw [M.fitsQ, decide_eq_true (by omega)] at C0
  have C1 := Lib.hid (fun y (hb : Below w.heap.size w y) => check_any A n cap a t y (h.below (Nat.le_refl _) hb) hn hc)
  rw [hck] at C1
  obtain ⟨s1, e1, z1, e2⟩ := M.put_start a q n hq hn1.2
  have C2 := Lib.hid (fun x => put_any ⟨#[82]⟩ q 6 x (by decide) (by omega) (by decide) (by decide))
  rw [e1] at C2
  have C3 := Lib.hid (fun x => put_any s1 (n : Int) 1 x (by omega) (by omega) (by decide) (by decide))
  rw [e2] at C3
  have HP := Lib.hid (M.put_steps a q.toNat n (fun i hi => (hall i hi).1) hn1.2).1
  have HT : Hid (∀ k, k < n → (M.alls t k ++ t k = M.alls t (k + 1)) ∧ (t k).size = 64 ∧ (M.alls t k).size = 64 * k) := fun k hk => ⟨rfl, (hall k hk).2, M.alls_size t k (fun i hi => (hall i (by omega)).2)⟩
  have zH := M.head_size a q.toNat n n
  have zA := M.alls_size t n (fun i hi => (hall i hi).2)
  have zr := M.rsum_size a q.toNat n (M.alls t n)
  have C4 := Lib.hid (fun x => tail2 (M.head a q.toNat n n) (M.alls t n) x (by omega) (by omega))
  have C5 := Lib.hid (fun x => pad_any (M.head a q.toNat n n ++ M.tail (M.head a q.toNat n n ++ M.alls t n)) (by omega) x)
  have zt := M.tail_size (M.head a q.toNat n n ++ M.alls t n)
  have zp : (M.pad (M.head a q.toNat n n ++ M.tail (M.head a q.toNat n n ++ M.alls t n))).size ≤ 1000 := by rw [M.pad_size, zr]; have := M.lack_le (12 + 2 * n); omega
  have HR : Hid (M.rec a t q.toNat n = M.pad (M.head a q.toNat n n ++ M.tail (M.head a q.toNat n n ++ M.alls t n)) ++ M.alls t n) := rfl
  obtain ⟨R, hR⟩ : ∃ R, R = M.rec a t q.toNat n := ⟨_, rfl⟩
  rw [← hR] at HR ⊢
  obtain ⟨H, hH⟩ : ∃ H, H = fun k => M.head a q.toNat n k := ⟨_, rfl⟩
  have hHk : ∀ k, M.head a q.toNat n k = H k := fun k => by rw [hH]
  simp only [hHk] at C3 HP C4 C5 HR zH zr zt zp
  obtain ⟨G, hG⟩ : ∃ G, G = fun k => M.alls t k := ⟨_, rfl⟩
  have hGk : ∀ k, M.alls t k = G k := fun k => by rw [hG]
  have hG0 : Hid (G 0 = ⟨#[]⟩) := by rw [hG]; rfl
  simp only [hGk] at HT C4 C5 HR zA zt zp
  obtain ⟨T, hT⟩ : ∃ T, T = M.tail (H n ++ G n) := ⟨_, rfl⟩
  rw [← hT] at C4 C5 HR zt zp
  obtain ⟨S, hS⟩ : ∃ S, S = M.pad (H n ++ T) := ⟨_, rfl⟩
  rw [← hS] at C5 HR zp
  rw [HR.out]
  have HF := Lib.hid (fun y (hb : Below w.heap.size w y) => h.below (Nat.le_refl _) hb)
  have hnn : (n : Int) ≤ 16 := by omega
  have zG : (G n).size ≤ 1024 := by omega
  have HAa : Hid (∀ i, i < n → a i < 1000) := fun i hi => (hall i hi).1.2
  have zHn : (H n).size ≤ 100 := by omega
  clear hr hall hck e1 e2 zr hR hH hHk hG hGk hT hS h hn hc zA zH hq hn1
  go_enter Try.func8, Try.ntmps8
  go_wp2_with fail
  refine (C0.out _).mono ?_
  rintro e w1 ⟨rfl, rfl⟩
  go_wp2_with fail
  refine (C1.out _ (Below.refl _ _)).mono ?_
  rintro e w1 ⟨rfl, hb1⟩
  have HB1 := Lib.hid hb1
  clear hb1
  go_wp2_with fail
  refine (C2.out _).mono ?_
  rintro e w2 ⟨rfl, hb2⟩
  have HB2 : Hid (Below w.heap.size w w2) := HB1.out.trans (hb2.mono HB1.out.size)
  clear hb2
  go_wp2_with fail
  refine (C3.out _).mono ?_
  rintro e w3 ⟨rfl, hb3⟩
  have HB3 : Hid (Below w.heap.size w w3) := HB2.out.trans (hb3.mono HB2.out.size)
  clear hb3
  obtain ⟨W, hW⟩ : ∃ W, W = w3.alloc (.cells #[.pointer none, .slice none 0 0] 46) := ⟨_, rfl⟩
  obtain ⟨b, hb⟩ : ∃ b, b = w3.heap.size := ⟨_, rfl⟩
  have HBld : Hid (Bld w.heap.size b ⟨#[]⟩ W) := by rw [hW, hb]; exact (Bld.new w3).mono HB3.out.size
  have HBW : Hid (Below w.heap.size w W) := by rw [hW]; exact HB3.out.alloc HB3.out.size _
  have HW := Lib.hid hW
  have Hb := Lib.hid hb
  clear hW hb
  go_wp2_with fail
  rw [← HW.out, ← Hb.out]
  clear HW Hb HB1 HB2 HB3
  rw [← hG0.out] at HBld
  go_loopw [7, 28] (fun v j wr => ∃ k : Nat, k ≤ n ∧ v = .string (H k) ∧ j = .int .i64 k ∧ Hid (Below w.heap.size w wr) ∧ Hid (Bld w.heap.size b (G k) wr)) (fun _ j _ => n - (intOf j).toNat)
  case atStart => exact ⟨0, Nat.zero_le _, rfl, rfl, HBW, HBld⟩
  case round =>
    clear HBW HBld
    obtain ⟨k, hk, rfl, rfl, HB, HBld⟩ := hrel
    by_cases hlt : k < n
    · have hk0 : (0 : Int) ≤ (k : Int) := by omega
      have hlt' : (k : Int) < (n : Int) := by omega
      have hk16 : (k : Int) < 16 := by omega
      obtain ⟨ad, rfl, x0, x1⟩ := (HF.out _ HB.out).at_ hlt
      have CP := Lib.hid (HP.out k hlt)
      obtain ⟨HG1, hts, hgs⟩ := HT.out k hlt
      obtain ⟨z, hz⟩ : ∃ z, z = a k := ⟨_, rfl⟩
      obtain ⟨s, hs⟩ : ∃ s, s = t k := ⟨_, rfl⟩
      rw [← hz] at x0 CP
      rw [← hs] at x1 HG1 hts
      have HG := Lib.hid HG1
      have HZ2 : Hid (s.size = 64 ∧ (G k).size = 64 * k ∧ k < 16) := ⟨hts, hgs, by omega⟩
      clear hz hs HG1 hts hgs
      obtain ⟨W2, hW2⟩ : ∃ W2, W2 = wr.alloc (.cells #[.int .i64 z, .string s] 41) := ⟨_, rfl⟩
      obtain ⟨c, hc⟩ : ∃ c, c = wr.heap.size := ⟨_, rfl⟩
      have hB : Box W2 c 41 #[.int .i64 z, .string s] := by rw [hW2, hc]; exact Box.new _ _ _
      have b0 : W2.cell? ⟨c, 0, none⟩ = some (.int .i64 z) := hB.cell 0
      have HBX := Lib.hid hB
      have HBl2 : Hid (Bld w.heap.size b (G k) W2) := by rw [hW2]; exact HBld.out.below ((Below.refl _ _).alloc (Nat.le_refl _) _)
      have HBW2 : Hid (Below w.heap.size w W2) := by rw [hW2]; exact HB.out.alloc HB.out.size _
      have HW2 := Lib.hid hW2
      have Hc := Lib.hid hc
      clear hW2 hc hB
      go_wp2_with fail
      rw [← HW2.out, ← Hc.out]
      clear HW2 Hc x0 x1
      go_wp2_with fail
      refine (CP.out _).mono ?_
      rintro e w4 ⟨rfl, hb4⟩
      have b1 : w4.cell? ⟨c, 1, none⟩ = some (.string s) := (HBX.out.below hb4 HBX.out.lt).cell 1
      have HB4 : Hid (Below w.heap.size w w4) := HBW2.out.trans (hb4.mono HBW2.out.size)
      have HBl4 : Hid (Bld w.heap.size b (G k) w4) := HBl2.out.below hb4
      clear hb4 b0
      go_wp2_with fail
      refine (HBl4.out.write HB4.out.size s (by have := HZ2.out; omega)).mono ?_
      rintro e w5 ⟨rfl, h5, hb5⟩
      rw [HG.out] at h5
      have HBl5 := Lib.hid h5
      have HB5 : Hid (Below w.heap.size w w5) := HB4.out.trans hb5
      clear h5 hb5 b1
      go_wp2_with fail
      go_roundw
      case rel => exact ⟨k + 1, by omega, rfl, by go_num, HB5, HBl5⟩
      case measure => simp [intOf]; omega
    · have e : k = n := by omega
      subst e
      clear hlt
      go_wp2_with fail
      refine (HBld.out.read HB.out.size).mono ?_
      rintro e w4 ⟨rfl, hb4⟩
      have HB4 : Hid (Below w.heap.size w w4) := HB.out.trans hb4
      clear hb4
      go_wp2_with fail
      refine (C4.out _).mono ?_
      rintro e w5 ⟨rfl, hb5⟩
      have HB5 : Hid (Below w.heap.size w w5) := HB4.out.trans (hb5.mono HB4.out.size)
      clear hb5
      go_wp2_with fail
      refine (C5.out _).mono ?_
      rintro e w6 ⟨rfl, hb6⟩
      have HB6 : Hid (Below w.heap.size w w6) := HB5.out.trans (hb6.mono HB5.out.size)
      clear hb6
      go_wp2_with fail
      go_ret2
      exact ⟨rfl, HB6.out⟩

set_option maxRecDepth 100000 in
theorem put11_no (A : Option Addr) (n cap : Nat) (a : Nat → Int) (t : Nat → ByteArray) (q : Int) (w : World) (h : SecF w A n a t) (hn : n ≤ cap) (hc : cap ≤ maxLen) (hr : M.rE a t q n ≠ 0) :
    Calls Try.prog 8 #[.int .i64 q, .slice A n cap] w fun e w' => e = .returned (.tuple #[.string ⟨#[]⟩, .int .i64 (M.rE a t q n)]) ∧ Below w.heap.size w w' := by
  have C0 := Lib.hid (fun x => fits_any q 6 x (by decide) (by decide))
  have C1 := Lib.hid (check_any A n cap a t w h hn hc)
  rw [M.fitsQ] at C0
  unfold M.rE at hr ⊢
  by_cases hq : q < 0 ∨ 281474976710656 ≤ q
  · rw [if_pos hq]
    rw [decide_eq_false (fun hx => hx hq)] at C0
    clear hq hr h C1
    go_enter Try.func8, Try.ntmps8
    go_wp2_with fail
    refine (C0.out _).mono ?_
    rintro e w1 ⟨rfl, rfl⟩
    go_wp2_with fail
    go_ret2
    exact ⟨rfl, Below.refl _ _⟩
  · rw [if_neg hq] at hr ⊢
    rw [decide_eq_true hq] at C0
    obtain ⟨E, hE⟩ : ∃ E, E = M.chk a t n := ⟨_, rfl⟩
    rw [← hE] at hr C1 ⊢
    have hr' : (E == 0) = false := by simp [hr]
    clear hq hE h hr
    go_enter Try.func8, Try.ntmps8
    go_wp2_with fail
    refine (C0.out _).mono ?_
    rintro e w1 ⟨rfl, rfl⟩
    go_wp2_with fail
    refine C1.out.mono ?_
    rintro e w1 ⟨rfl, hb⟩
    go_wp2_with fail
    go_ret2
    exact ⟨rfl, hb⟩
theorem put11_any (A : Option Addr) (n cap : Nat) (a : Nat → Int) (t : Nat → ByteArray) (q : Int) (w : World) (h : SecF w A n a t) (hn : n ≤ cap) (hc : cap ≤ maxLen) :
    Calls Try.prog 8 #[.int .i64 q, .slice A n cap] w fun e w' => e = .returned (.tuple #[.string (M.rS a t q n), .int .i64 (M.rE a t q n)]) ∧ Below w.heap.size w w' := by
  by_cases hr : M.rE a t q n = 0
  · rw [M.rS_yes a t hr, hr]
    exact put11_yes A n cap a t q w h hn hc hr
  · rw [M.rS_no a t hr]
    exact put11_no A n cap a t q w h hn hc hr

set_option maxRecDepth 100000 in
set_option maxHeartbeats 2000000 in
theorem rput11_yes (A : Option Addr) (n cap : Nat) (a : Nat → Int) (t : Nat → ByteArray) (q : Int) (w : World) (h : SecF w A n a t) (hn : n ≤ maxLen) (hr : M.rE a t q n = 0) :
    Calls Try.prog 9 #[.int .i64 q, .slice A n cap] w fun e w' => e = .returned (.tuple #[.string (M.rec a t q.toNat n), .int .i64 0]) ∧ Below w.heap.size w w' := by
  obtain ⟨hq, hn1, hall⟩ := M.rE_ok a t hr
  have hck : M.chk a t n = 0 := by unfold M.rE at hr; rw [if_neg (by omega)] at hr; exact hr
  have C1 := Lib.hid (rcheck_any A n cap a t w h hn)
  rw [hck] at C1
  obtain ⟨s1, e1, z1, e2⟩ := M.put_start a q n hq hn1.2
  have C2 := Lib.hid (fun x => rput_any ⟨#[82]⟩ q 6 x (by decide) (by omega))
  rw [e1] at C2
  have C3 := Lib.hid (fun x => rput_any s1 (n : Int) 1 x (by omega) (by omega))
  rw [e2] at C3
  have HP := Lib.hid (M.put_steps a q.toNat n (fun i hi => (hall i hi).1) hn1.2).2
  have HT : Hid (∀ k, k < n → (M.alls t k ++ t k = M.alls t (k + 1)) ∧ (t k).size = 64 ∧ (M.alls t k).size = 64 * k) := fun k hk => ⟨rfl, (hall k hk).2, M.alls_size t k (fun i hi => (hall i (by omega)).2)⟩
  have zH := M.head_size a q.toNat n n
  have zA := M.alls_size t n (fun i hi => (hall i hi).2)
  have zr := M.rsum_size a q.toNat n (M.alls t n)
  have C4 := Lib.hid (fun x => rtail11 (M.head a q.toNat n n ++ M.alls t n) x (by rw [ByteArray.size_append]; omega))
  have C5 := Lib.hid (fun x => rpad_any (M.head a q.toNat n n ++ M.tail (M.head a q.toNat n n ++ M.alls t n)) (by omega) x)
  have zt := M.tail_size (M.head a q.toNat n n ++ M.alls t n)
  have zp : (M.pad (M.head a q.toNat n n ++ M.tail (M.head a q.toNat n n ++ M.alls t n))).size ≤ 1000 := by rw [M.pad_size, zr]; have := M.lack_le (12 + 2 * n); omega
  have HR : Hid (M.rec a t q.toNat n = M.pad (M.head a q.toNat n n ++ M.tail (M.head a q.toNat n n ++ M.alls t n)) ++ M.alls t n) := rfl
  obtain ⟨R, hR⟩ : ∃ R, R = M.rec a t q.toNat n := ⟨_, rfl⟩
  rw [← hR] at HR ⊢
  obtain ⟨H, hH⟩ : ∃ H, H = fun k => M.head a q.toNat n k := ⟨_, rfl⟩
  have hHk : ∀ k, M.head a q.toNat n k = H k := fun k => by rw [hH]
  simp only [hHk] at C3 HP C4 C5 HR zH zr zt zp
  obtain ⟨G, hG⟩ : ∃ G, G = fun k => M.alls t k := ⟨_, rfl⟩
  have hGk : ∀ k, M.alls t k = G k := fun k => by rw [hG]
  have hG0 : Hid (G 0 = ⟨#[]⟩) := by rw [hG]; rfl
  simp only [hGk] at HT C4 C5 HR zA zt zp
  obtain ⟨T, hT⟩ : ∃ T, T = M.tail (H n ++ G n) := ⟨_, rfl⟩
  rw [← hT] at C4 C5 HR zt zp
  obtain ⟨S, hS⟩ : ∃ S, S = M.pad (H n ++ T) := ⟨_, rfl⟩
  rw [← hS] at C5 HR zp
  rw [HR.out]
  have HF := Lib.hid (fun y (hb : Below w.heap.size w y) => h.below (Nat.le_refl _) hb)
  have hnn : (n : Int) ≤ 16 := by omega
  have zG : (G n).size ≤ 1024 := by omega
  have zHn : (H n).size ≤ 100 := by omega
  have hq0 : 0 ≤ q := hq.1
  have hq1 : q < 281474976710656 := hq.2
  clear hr hall hck e1 e2 zr hR hH hHk hG hGk hT hS h hn zA zH hq hn1
  go_enter Try.func9, Try.ntmps9
  go_wp2_with fail
  refine C1.out.mono ?_
  rintro e w1 ⟨rfl, hb1⟩
  have HB1 := Lib.hid hb1
  clear hb1
  go_wp2_with fail
  refine (C2.out _).mono ?_
  rintro e w2 ⟨rfl, hb2⟩
  have HB2 : Hid (Below w.heap.size w w2) := HB1.out.trans (hb2.mono HB1.out.size)
  clear hb2
  go_wp2_with fail
  refine (C3.out _).mono ?_
  rintro e w3 ⟨rfl, hb3⟩
  have HB3 : Hid (Below w.heap.size w w3) := HB2.out.trans (hb3.mono HB2.out.size)
  clear hb3
  rw [← hG0.out]
  go_wp2_with fail
  clear HB1 HB2
  go_loopw [7, 8, 9] (fun v x j wr => ∃ k : Nat, k ≤ n ∧ v = .string (H k) ∧ x = .string (G k) ∧ j = .int .i64 k ∧ Hid (Below w.heap.size w wr)) (fun _ _ j _ => n - (intOf j).toNat)
  case atStart => exact ⟨0, Nat.zero_le _, rfl, (by rw [hG0.out]), rfl, HB3⟩
  case round =>
    clear HB3
    obtain ⟨k, hk, rfl, rfl, rfl, HB⟩ := hrel
    by_cases hlt : k < n
    · have hk0 : (0 : Int) ≤ (k : Int) := by omega
      have hlt' : (k : Int) < (n : Int) := by omega
      have hk16 : (k : Int) < 16 := by omega
      obtain ⟨ad, rfl, x0, _⟩ := (HF.out _ HB.out).at_ hlt
      have CP := Lib.hid (HP.out k hlt)
      obtain ⟨HG1, hts, hgs⟩ := HT.out k hlt
      obtain ⟨z, hz⟩ : ∃ z, z = a k := ⟨_, rfl⟩
      obtain ⟨s, hs⟩ : ∃ s, s = t k := ⟨_, rfl⟩
      rw [← hz] at x0 CP
      rw [← hs] at HG1 hts
      have HG := Lib.hid HG1
      have HsT := Lib.hid hs
      have hgs' : (G k).size ≤ 1024 := by omega
      clear hz hs HG1 hgs
      go_wp2_with fail
      refine (CP.out _).mono ?_
      rintro e w4 ⟨rfl, hb4⟩
      have HB4 : Hid (Below w.heap.size w w4) := HB.out.trans (hb4.mono HB.out.size)
      clear hb4 x0
      obtain ⟨ad2, e2, _, x1⟩ := (HF.out _ HB4.out).at_ hlt
      obtain rfl : ad2 = ad := by injection e2 with e2; exact e2.symm
      rw [← HsT.out] at x1
      clear e2
      go_wp2_with fail
      go_roundw
      case rel => exact ⟨k + 1, by omega, rfl, by rw [HG.out], by go_num, HB4⟩
      case measure => simp [intOf]; omega
    · have e : k = n := by omega
      subst e
      clear hlt
      go_wp2_with fail
      refine (C4.out _).mono ?_
      rintro e w5 ⟨rfl, hb5⟩
      have HB5 : Hid (Below w.heap.size w w5) := HB.out.trans (hb5.mono HB.out.size)
      clear hb5
      go_wp2_with fail
      refine (C5.out _).mono ?_
      rintro e w6 ⟨rfl, rfl⟩
      go_wp2_with fail
      go_ret2
      exact ⟨rfl, HB5.out⟩
set_option maxRecDepth 100000 in
theorem rput11_no (A : Option Addr) (n cap : Nat) (a : Nat → Int) (t : Nat → ByteArray) (q : Int) (w : World) (h : SecF w A n a t) (hn : n ≤ maxLen) (hr : M.rE a t q n ≠ 0) :
    Calls Try.prog 9 #[.int .i64 q, .slice A n cap] w fun e w' => e = .returned (.tuple #[.string ⟨#[]⟩, .int .i64 (M.rE a t q n)]) ∧ Below w.heap.size w w' := by
  have C1 := Lib.hid (rcheck_any A n cap a t w h hn)
  unfold M.rE at hr ⊢
  by_cases hq : q < 0 ∨ 281474976710656 ≤ q
  · rw [if_pos hq]
    clear hr h C1
    rcases hq with hq | hq
    · go_enter Try.func9, Try.ntmps9
      go_wp2_with fail
      go_ret2
      exact ⟨rfl, Below.refl _ _⟩
    · have hq' : ¬ q < 0 := by omega
      go_enter Try.func9, Try.ntmps9
      go_wp2_with fail
      go_ret2
      exact ⟨rfl, Below.refl _ _⟩
  · rw [if_neg hq] at hr ⊢
    obtain ⟨E, hE⟩ : ∃ E, E = M.chk a t n := ⟨_, rfl⟩
    rw [← hE] at hr C1 ⊢
    have hr' : (E == 0) = false := by simp [hr]
    have hq0 : ¬ q < 0 := by omega
    have hq1 : ¬ 281474976710656 ≤ q := by omega
    clear hq hE h hr
    go_enter Try.func9, Try.ntmps9
    go_wp2_with fail
    refine C1.out.mono ?_
    rintro e w1 ⟨rfl, hb⟩
    go_wp2_with fail
    go_ret2
    exact ⟨rfl, hb⟩
theorem rput11_any (A : Option Addr) (n cap : Nat) (a : Nat → Int) (t : Nat → ByteArray) (q : Int) (w : World) (h : SecF w A n a t) (hn : n ≤ maxLen) :
    Calls Try.prog 9 #[.int .i64 q, .slice A n cap] w fun e w' => e = .returned (.tuple #[.string (M.rS a t q n), .int .i64 (M.rE a t q n)]) ∧ Below w.heap.size w w' := by
  by_cases hr : M.rE a t q n = 0
  · rw [M.rS_yes a t hr, hr]
    exact rput11_yes A n cap a t q w h hn hr
  · rw [M.rS_no a t hr]
    exact rput11_no A n cap a t q w h hn hr
end Go.Proofs.Ytnjlkjphkimapaa
