/-
  Walks over logrec.Check and what it calls.
-/
import Derived.Test.YtnjlkjphkimapaaPCheck
import Derived.StillTailTactics
namespace Go.Proofs.Ytnjlkjphkimapaa
open Go.RowKit Go.Deep

def M.has (a : Nat → Int) (n : Nat) (z : Int) : Bool := (List.range n).any fun k => a k == z
theorem M.has_yes {a : Nat → Int} {n k : Nat} {z : Int} (hk : k < n) (h : a k = z) : M.has a n z = true := by
  simp only [M.has, List.any_eq_true, List.mem_range]
  exact ⟨k, hk, by simp [h]⟩
theorem M.has_no {a : Nat → Int} {n : Nat} {z : Int} (h : ∀ k, k < n → a k ≠ z) : M.has a n z = false := by
  cases hc : M.has a n z
  · rfl
  · simp only [M.has, List.any_eq_true, List.mem_range] at hc
    obtain ⟨k, hk, e⟩ := hc
    exact absurd (by simpa using e) (h k hk)
/-- What is wrong with one behind others. -/
def M.behE (a : Nat → Int) (n : Nat) (z : Int) (s : ByteArray) : Int := if z < 0 ∨ 1000 ≤ z then 3 else if s.size ≠ 64 then 12 else if M.has a n z = true then 9 else 0
theorem M.behE_eq (a : Nat → Int) (t : Nat → ByteArray) (i : Nat) : M.behE a i (a i) (t i) = M.secE a t i := rfl

theorem same_any (o z : Int) (d : ByteArray) (b : Nat) (w : World) (h : w.cell? ⟨b, 0, none⟩ = some (.int .i64 z)) :
    Calls Try.prog 40 #[.agg #[.int .i64 o, .string d], .pointer (some ⟨b, 0, none⟩)] w fun e w' => e = .returned (.bool (o == z)) ∧ Below w.heap.size w w' := by
  have hb : b < w.heap.size := World.block_lt_of_cell? w _ h
  have h' : (w.alloc (.cells #[.int .i64 o, .string d] 41)).cell? ⟨b, 0, none⟩ = some (.int .i64 z) := (((Below.refl w.heap.size w).alloc (Nat.le_refl _) _).cell hb).trans h
  have HB : Hid (Below w.heap.size w (w.alloc (.cells #[.int .i64 o, .string d] 41))) := (Below.refl w.heap.size w).alloc (Nat.le_refl _) _
  obtain ⟨r, hr⟩ : ∃ r, r = (o == z) := ⟨_, rfl⟩
  rw [← hr]
  have hr' := hr.symm
  clear hr
  go_enter Try.func40, Try.ntmps40
  go_wp2_with fail
  go_ret
  exact ⟨rfl, HB.out⟩

set_option maxRecDepth 100000 in
theorem indexFunc_any (A : Option Addr) (n cap : Nat) (a : Nat → Int) (t : Nat → ByteArray) (z : Int) (b : Nat) (w : World) (h : SecF w A n a t) (hn : n ≤ maxLen) (hz : w.cell? ⟨b, 0, none⟩ = some (.int .i64 z)) :
    Calls Try.prog 48 #[.slice A n cap, .func (.func 40) #[] #[.pointer (some ⟨b, 0, none⟩)]] w fun e w' =>
      (∃ r : Int, e = .returned (.int .i64 r) ∧ decide (0 ≤ r) = M.has a n z) ∧ Below w.heap.size w w' := by
  have hb : b < w.heap.size := World.block_lt_of_cell? w _ hz
  have HF := Lib.hid (fun y (hb : Below w.heap.size w y) i (hi : i < n) => (h.below (Nat.le_refl _) hb).at_ hi)
  have HZ : Hid (∀ y, Below w.heap.size w y → y.cell? ⟨b, 0, none⟩ = some (.int .i64 z)) := fun y hb' => (hb'.cell hb).trans hz
  have hn1 : (n : Int) ≤ 9223372036854775807 := by unfold maxLen at hn; omega
  clear h hn hb hz
  go_enter Try.func48, Try.ntmps48
  go_wp2_with fail
  go_loopw [8] (fun j wr => ∃ k : Nat, k ≤ n ∧ j = .int .i64 k ∧ Hid (Below w.heap.size w wr) ∧ Hid (∀ j, j < k → a j ≠ z)) (fun j _ => n - (intOf j).toNat)
  case atStart => exact ⟨0, Nat.zero_le _, rfl, Below.refl _ _, fun j hj => absurd hj (by omega)⟩
  case round =>
    obtain ⟨k, hk, rfl, HB, HO⟩ := hrel
    by_cases hlt : k < n
    · have hk0 : (0 : Int) ≤ (k : Int) := by omega
      have hlt' : (k : Int) < (n : Int) := by omega
      obtain ⟨ad, rfl, x0, x1⟩ := HF.out _ HB.out k hlt
      obtain ⟨y, hy⟩ : ∃ y, y = a k := ⟨_, rfl⟩
      obtain ⟨s, hs⟩ : ∃ s, s = t k := ⟨_, rfl⟩
      rw [← hy] at x0
      rw [← hs] at x1
      have HY := Lib.hid hy
      clear hy hs
      have c0 := Lib.hid (HZ.out _ HB.out)
      obtain ⟨f, hf⟩ : ∃ f, f = (y == z) := ⟨_, rfl⟩
      have HFq := Lib.hid hf
      have HC := Lib.hid (same_any y z s b _ c0.out)
      rw [← hf] at HC
      clear hf c0
      go_wp2_with fail
      refine HC.out.mono ?_
      rintro e w1 ⟨rfl, hb1⟩
      have HB1 : Hid (Below w.heap.size w w1) := HB.out.trans (hb1.mono HB.out.size)
      clear hb1
      cases f
      · have HO2 : Hid (∀ j, j < k + 1 → a j ≠ z) := fun j hj => by
          by_cases e : j = k
          · rw [e, ← HY.out]; have := HFq.out; intro h; rw [h] at this; simp at this
          · exact HO.out j (by omega)
        go_wp2_with fail
        go_roundw
        case rel => exact ⟨k + 1, by omega, by go_num, HB1, HO2⟩
        case measure => simp [intOf]; omega
      · have HR : Hid (M.has a n z = true) := M.has_yes hlt (by rw [← HY.out]; have := HFq.out; simpa using this.symm)
        go_wp2_with fail
        go_ret
        exact ⟨⟨k, rfl, by rw [HR.out]; simp⟩, HB1.out⟩
    · have e : k = n := by omega
      rw [e] at HO
      have HR : Hid (M.has a n z = false) := M.has_no HO.out
      have hlt' : ¬ (k : Int) < (n : Int) := by omega
      clear hlt e
      go_wp2_with fail
      go_ret
      exact ⟨⟨-1, rfl, by rw [HR.out]; rfl⟩, HB.out⟩
theorem contains_any (A : Option Addr) (n cap : Nat) (a : Nat → Int) (t : Nat → ByteArray) (z : Int) (b : Nat) (w : World) (h : SecF w A n a t) (hn : n ≤ maxLen) (hz : w.cell? ⟨b, 0, none⟩ = some (.int .i64 z)) :
    Calls Try.prog 39 #[.slice A n cap, .func (.func 40) #[] #[.pointer (some ⟨b, 0, none⟩)]] w fun e w' =>
      e = .returned (.bool (M.has a n z)) ∧ Below w.heap.size w w' := by
  have HC := Lib.hid (indexFunc_any A n cap a t z b w h hn hz)
  clear h hn hz
  obtain ⟨f, hf⟩ : ∃ f, f = M.has a n z := ⟨_, rfl⟩
  rw [← hf] at HC ⊢
  clear hf
  go_enter Try.func39, Try.ntmps39
  go_wp2_with fail
  refine HC.out.mono ?_
  rintro e w1 ⟨⟨r, rfl, hr⟩, hb⟩
  subst hr
  go_wp2_with fail
  go_ret
  exact ⟨rfl, hb⟩

set_option maxRecDepth 100000 in
theorem behind_any (A : Option Addr) (n cap : Nat) (a : Nat → Int) (t : Nat → ByteArray) (z : Int) (s : ByteArray) (w : World) (h : SecF w A n a t) (hn : n ≤ maxLen) :
    Calls Try.prog 26 #[.slice A n cap, .agg #[.int .i64 z, .string s]] w fun e w' => e = .returned (.int .i64 (M.behE a n z s)) ∧ Below w.heap.size w w' := by
  obtain ⟨W, hW⟩ : ∃ W, W = w.alloc (.cells #[.int .i64 z, .string s] 41) := ⟨_, rfl⟩
  have hB : Box W w.heap.size 41 #[.int .i64 z, .string s] := by rw [hW]; exact Box.new _ _ _
  have c0 : W.cell? ⟨w.heap.size, 0, none⟩ = some (.int .i64 z) := hB.cell 0
  have c1 : W.cell? ⟨w.heap.size, 1, none⟩ = some (.string s) := hB.cell 1
  have hb : Below w.heap.size w W := by rw [hW]; exact (Below.refl _ _).alloc (Nat.le_refl _) _
  have HC := Lib.hid (contains_any A n cap a t z w.heap.size W (h.below (Nat.le_refl _) hb) hn c0)
  have HB := Lib.hid hb
  obtain ⟨f, hf⟩ : ∃ f, f = M.has a n z := ⟨_, rfl⟩
  rw [← hf] at HC
  have HFq := Lib.hid hf
  obtain ⟨r, hr⟩ : ∃ r, r = M.behE a n z s := ⟨_, rfl⟩
  rw [← hr]
  rw [M.behE, ← hf] at hr
  have HR := Lib.hid hr
  have HW := Lib.hid hW
  clear h hn hB hb hf hr
  by_cases d1 : z < 0
  · have E : Hid (r = 3) := by rw [if_pos (Or.inl d1)] at HR; exact HR.out
    clear hW
    go_enter Try.func26, Try.ntmps26
    go_wp2_with fail
    rw [← HW.out]
    go_wp2_with fail
    go_ret
    rw [E.out]
    exact ⟨rfl, HB.out⟩
  by_cases d2 : 1000 ≤ z
  · have E : Hid (r = 3) := by rw [if_pos (Or.inr d2)] at HR; exact HR.out
    clear hW
    go_enter Try.func26, Try.ntmps26
    go_wp2_with fail
    rw [← HW.out]
    go_wp2_with fail
    go_ret
    rw [E.out]
    exact ⟨rfl, HB.out⟩
  rw [if_neg (by omega)] at HR
  by_cases d3 : s.size = 64
  · have d3' : ((s.size : Int) == 64) = true := by simp; omega
    rw [if_neg (by simp [d3])] at HR
    clear d3 hW
    go_enter Try.func26, Try.ntmps26
    go_wp2_with fail
    rw [← HW.out]
    go_wp2_with fail
    refine HC.out.mono ?_
    rintro e w1 ⟨rfl, hb1⟩
    have HB1 : Hid (Below w.heap.size w w1) := HB.out.trans (hb1.mono HB.out.size)
    clear hb1
    cases f
    · have E : Hid (r = 0) := by rw [if_neg (by simp)] at HR; exact HR.out
      go_wp2_with fail
      go_ret
      rw [E.out]
      exact ⟨rfl, HB1.out⟩
    · have E : Hid (r = 9) := by rw [if_pos rfl] at HR; exact HR.out
      go_wp2_with fail
      go_ret
      rw [E.out]
      exact ⟨rfl, HB1.out⟩
  · have d3' : ((s.size : Int) == 64) = false := by simp; omega
    have E : Hid (r = 12) := by rw [if_pos d3] at HR; exact HR.out
    clear d3 hW
    go_enter Try.func26, Try.ntmps26
    go_wp2_with fail
    rw [← HW.out]
    go_wp2_with fail
    go_ret
    rw [E.out]
    exact ⟨rfl, HB.out⟩

set_option maxRecDepth 100000 in
set_option maxHeartbeats 1000000 in
theorem check_any (A : Option Addr) (n cap : Nat) (a : Nat → Int) (t : Nat → ByteArray) (w : World) (h : SecF w A n a t) (hn : n ≤ cap) (hc : cap ≤ maxLen) :
    Calls Try.prog 10 #[.slice A n cap] w fun e w' => e = .returned (.int .i64 (M.chk a t n)) ∧ Below w.heap.size w w' := by
  have HF := Lib.hid (fun y (hb : Below w.heap.size w y) => h.below (Nat.le_refl _) hb)
  have hn1 : (n : Int) ≤ 9223372036854775807 := by unfold maxLen at hc; omega
  have HCap : Hid (n ≤ cap ∧ cap ≤ maxLen) := ⟨hn, hc⟩
  clear h hn hc
  by_cases h0 : n = 0
  · have E : Hid (M.chk a t n = 8) := by show _ = _; rw [M.chk, if_pos h0]
    subst h0
    go_enter Try.func10, Try.ntmps10
    go_wp2_with fail
    go_ret
    rw [E.out]
    exact ⟨rfl, Below.refl _ _⟩
  by_cases h16 : 16 < n
  · have E : Hid (M.chk a t n = 6) := by show _ = _; rw [M.chk, if_neg h0, if_pos h16]
    have c0 : ¬ (n : Int) = 0 := by omega
    have c1 : (16 : Int) < (n : Int) := by omega
    have HN : Hid (¬ n = 0) := h0
    clear h0
    go_enter Try.func10, Try.ntmps10
    go_wp2_with fail
    go_ret
    rw [E.out]
    exact ⟨rfl, Below.refl _ _⟩
  have E : Hid (M.chk a t n = M.firstE a t n) := by show _ = _; rw [M.chk, if_neg h0, if_neg h16]
  have c0 : ((n : Int) == 0) = false := by simp; omega
  have c1 : ¬ (16 : Int) < (n : Int) := by omega
  have HN : Hid (¬ n = 0 ∧ ¬ 16 < n) := ⟨h0, h16⟩
  clear h0 h16
  go_enter Try.func10, Try.ntmps10
  go_wp2_with fail
  go_loopw [16] (fun j wr => ∃ k : Nat, k ≤ n ∧ j = .int .i64 k ∧ Hid (Below w.heap.size w wr) ∧ Hid (M.firstE a t k = 0)) (fun j _ => n - (intOf j).toNat)
  case atStart => exact ⟨0, Nat.zero_le _, rfl, Below.refl _ _, rfl⟩
  case round =>
    obtain ⟨k, hk, rfl, HB, HZ⟩ := hrel
    by_cases hlt : k < n
    · have hk0 : (0 : Int) ≤ (k : Int) := by omega
      have hlt' : (k : Int) < (n : Int) := by omega
      have hk16 : (k : Int) < 16 := by have := HN.out; omega
      have hkc : (k : Int) ≤ (cap : Int) := by have := HCap.out; omega
      obtain ⟨ad, rfl, x0, x1⟩ := (HF.out _ HB.out).at_ hlt
      obtain ⟨z, hz⟩ : ∃ z, z = a k := ⟨_, rfl⟩
      obtain ⟨s, hs⟩ : ∃ s, s = t k := ⟨_, rfl⟩
      rw [← hz] at x0
      rw [← hs] at x1
      obtain ⟨E1, hE1⟩ : ∃ E1, E1 = M.secE a t k := ⟨_, rfl⟩
      have HC : Hid (∀ y, Below w.heap.size w y → Calls Try.prog 26 #[.slice (some ad) k cap, .agg #[.int .i64 z, .string s]] y fun e w' => e = .returned (.int .i64 E1) ∧ Below y.heap.size y w') := fun y hb => by
        rw [hE1, ← M.behE_eq, hz, hs]
        exact behind_any (some ad) k cap a t (a k) (t k) y ((HF.out y hb).take (by omega)) (by have := HCap.out; omega)
      have HE1 := Lib.hid hE1
      clear hz hs hE1
      obtain ⟨W, hW⟩ : ∃ W, W = wr.alloc (.cells #[.int .i64 z, .string s] 41) := ⟨_, rfl⟩
      have hB : Box W wr.heap.size 41 #[.int .i64 z, .string s] := by rw [hW]; exact Box.new _ _ _
      have b0 : W.cell? ⟨wr.heap.size, 0, none⟩ = some (.int .i64 z) := hB.cell 0
      have b1 : W.cell? ⟨wr.heap.size, 1, none⟩ = some (.string s) := hB.cell 1
      have HBW : Hid (Below w.heap.size w W) := by rw [hW]; exact HB.out.alloc HB.out.size _
      have HW := Lib.hid hW
      clear hW hB
      go_wp2_with fail
      rw [← HW.out]
      go_still_tail 4, (by kernel_rfl)
      change wpList _ _ _ _ _ W.drew
      clear x0 x1
      go_wp2_with fail
      refine (HC.out _ HBW.out.drew).mono ?_
      rintro e w1 ⟨rfl, hb1⟩
      have HB1 : Hid (Below w.heap.size w w1) := HBW.out.drew.trans (hb1.mono HBW.out.size)
      clear hb1
      by_cases he : E1 = 0
      · have he' : (E1 == 0) = true := by simp [he]
        have HK : Hid (M.firstE a t (k + 1) = 0) := by show _ = _; rw [M.firstE_next a t k HZ.out, ← HE1.out, he]
        clear he b0 b1
        go_wp2_with fail
        go_roundw
        case rel => exact ⟨k + 1, by omega, by go_num, HB1, HK⟩
        case measure => simp [intOf]; omega
      · have he' : (E1 == 0) = false := by simp [he]
        have HR : Hid (M.firstE a t n = E1) := by show _ = _; rw [M.firstE_stop a t hlt HZ.out (by rw [← HE1.out]; exact he), HE1.out]
        clear he b0 b1
        go_wp2_with fail
        go_ret
        rw [E.out, HR.out]
        exact ⟨rfl, HB1.out⟩
    · have e : k = n := by omega
      rw [e] at HZ
      have hlt' : ¬ (k : Int) < (n : Int) := by omega
      clear hlt e
      go_wp2_with fail
      go_ret
      rw [E.out, HZ.out]
      exact ⟨rfl, HB.out⟩
end Go.Proofs.Ytnjlkjphkimapaa
