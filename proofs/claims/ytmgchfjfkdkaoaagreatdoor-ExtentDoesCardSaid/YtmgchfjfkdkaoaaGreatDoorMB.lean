/-
  Sectors in memory: a slice of them, as functions of the index. Walks over solderref11.Check and logrec.Check. Walks over logrec.Check and what it calls. Steps of Put; a strings.Builder; walk over logrec.tail. Walks over logrec.Put and solderref11.Put.
-/
import Derived.Test.YtmgchfjfkdkaoaaGreatDoorMA
import Derived.Test.YtmgchfjfkdkaoaaGreatDoorShelf
import Derived.Deep.SlicePairs
import Derived.ChangeOld
import Derived.ProofKit
import Derived.OpenShut
import Derived.WalkKit
import Derived.WalkSpells
import Derived.WalkSmall
import Derived.Deep.QuietTactic
import Derived.StillTailTactics
import Derived.Shelf.Strings.Builder1
namespace Go.Proofs.YtmgchfjfkdkaoaaGreatDoor
open Go.RowKit Go.ChangeShapes Go.WideShapes Go.ChangeAt Go.Deep

theorem add_block (a : Addr) (n : Nat) : (a.add n).block = a.block := by unfold Addr.add; split <;> rfl
theorem add_next (a : Addr) (m : Nat) : a.add (m + 1) = ⟨(a.add m).block, (a.add m).off + 1, none⟩ := by
  unfold Addr.add
  by_cases h : m = 0
  · subst h; simp
  · simp [h]; omega

/-- v is a slice of sectors: at each index a number and a text stand, in a block of w. -/
def SecsAt (w : World) (v : Value) : Prop := ∃ (A : Option Addr) (len cap : Nat), v = .slice A len cap ∧ len ≤ cap ∧ cap ≤ maxLen ∧
  ∀ i, i < len → ∃ (ad : Addr) (n : Int) (s : ByteArray), A = some ad ∧ ad.block < w.heap.size ∧ w.cell? (ad.add (i * 2)) = some (.int .i64 n) ∧ w.cell? (ad.add (i * 2 + 1)) = some (.string s) ∧ n ≤ 9223372036854775807

set_option maxRecDepth 100000 in
theorem secs_open {H : Type} {enc : TypeId × Value → H} {W : World} {r : Reach} {b0 : Nat} {v : Value} {d : DataW H} {p : List MemPlace} (hval : Value.okWide Tryz.prog W r b0 66 v)
    (h : DataW.Trod enc Tryz.prog W 0 (fun _ => true) true 66 v d p) : SecsAt W v := by
  obtain ⟨A, len, cap, rfl⟩ := okWide_slice Tryz.underlying66 hval
  obtain ⟨fuel, hf⟩ := h
  rcases open_slice_pairs Tryz.underlying66 Tryz.underlying111 (by kernel_rfl) rfl rfl (by kernel_rfl) (by kernel_rfl) hf with ⟨hc, _⟩ | ⟨a, l, c, m, k, V0, V1, D0, D1, P0, P1, hc, _, hl, hcc, hmm, _, hall⟩
  · simp [Value.cells] at hc
    obtain ⟨rfl, rfl, rfl⟩ := hc
    exact ⟨none, 0, 0, rfl, Nat.le_refl _, Nat.zero_le _, fun i hi => absurd hi (by omega)⟩
  · simp [Value.cells] at hc
    obtain ⟨rfl, rfl, rfl⟩ := hc
    simp only [if_true] at hmm
    subst hmm
    refine ⟨some a, len, m, rfl, by omega, by omega, fun i hi => ?_⟩
    obtain ⟨c0, c1, t0, t1⟩ := hall i (by omega)
    obtain ⟨n, h1, _, w1⟩ := DataW.trod_int Tryz.underlying3 t0
    obtain ⟨s, h2, _⟩ := DataW.trod_string Tryz.underlying9 t1
    simp only [List.cons.injEq, and_true] at h1 h2
    rw [h1] at c0
    rw [h2] at c1
    have hlt := World.block_lt_of_cell? W _ c0
    rw [add_block] at hlt
    exact ⟨a, n, s, rfl, hlt, c0, c1, (bounds_i64 w1).2⟩

/-- The same with functions that tell what stands there. -/
def SecF (w : World) (A : Option Addr) (len : Nat) (a : Nat → Int) (t : Nat → ByteArray) : Prop :=
  ∀ i, i < len → ∃ ad : Addr, A = some ad ∧ ad.block < w.heap.size ∧ w.cell? (ad.add (i * 2)) = some (.int .i64 (a i)) ∧ w.cell? ⟨(ad.add (i * 2)).block, (ad.add (i * 2)).off + 1, none⟩ = some (.string (t i)) ∧ a i ≤ 9223372036854775807
theorem SecF.of {w : World} {A : Option Addr} {len : Nat} (h : ∀ i, i < len → ∃ (ad : Addr) (n : Int) (s : ByteArray), A = some ad ∧ ad.block < w.heap.size ∧ w.cell? (ad.add (i * 2)) = some (.int .i64 n) ∧ w.cell? (ad.add (i * 2 + 1)) = some (.string s) ∧ n ≤ 9223372036854775807) :
    ∃ a t, SecF w A len a t := by
  classical
  refine ⟨fun i => if hi : i < len then Classical.choose (Classical.choose_spec (h i hi)) else 0, fun i => if hi : i < len then Classical.choose (Classical.choose_spec (Classical.choose_spec (h i hi))) else ⟨#[]⟩, fun i hi => ?_⟩
  have := Classical.choose_spec (Classical.choose_spec (Classical.choose_spec (h i hi)))
  simp only [dif_pos hi]
  refine ⟨Classical.choose (h i hi), this.1, this.2.1, this.2.2.1, ?_, this.2.2.2.2⟩
  rw [← add_next]
  exact this.2.2.2.1
theorem SecF.at_ {w : World} {A : Option Addr} {len : Nat} {a : Nat → Int} {t : Nat → ByteArray} (h : SecF w A len a t) {i : Nat} (hi : i < len) :
    ∃ ad : Addr, A = some ad ∧ w.cell? (ad.add (i * 2)) = some (.int .i64 (a i)) ∧ w.cell? ⟨(ad.add (i * 2)).block, (ad.add (i * 2)).off + 1, none⟩ = some (.string (t i)) := by
  obtain ⟨ad, h1, _, h3, h4, _⟩ := h i hi
  exact ⟨ad, h1, h3, h4⟩
theorem SecF.below {w y : World} {N : Nat} {A : Option Addr} {len : Nat} {a : Nat → Int} {t : Nat → ByteArray} (h : SecF w A len a t) (hN : w.heap.size ≤ N) (hb : Below N w y) : SecF y A len a t := by
  intro i hi
  obtain ⟨ad, h1, h2, h3, h4, h5⟩ := h i hi
  have hl : ad.block < N := by omega
  exact ⟨ad, h1, Nat.lt_of_lt_of_le h2 hb.size, (hb.cell (by rw [add_block]; exact hl)).trans h3, (hb.cell (by show (ad.add (i * 2)).block < _; rw [add_block]; exact hl)).trans h4, h5⟩
theorem SecF.take {w : World} {A : Option Addr} {len k : Nat} {a : Nat → Int} {t : Nat → ByteArray} (h : SecF w A len a t) (hk : k ≤ len) : SecF w A k a t := fun i hi => h i (by omega)
theorem SecF.nil (w : World) (a : Nat → Int) (t : Nat → ByteArray) (A : Option Addr) : SecF w A 0 a t := fun i hi => absurd hi (by omega)
end Go.Proofs.YtmgchfjfkdkaoaaGreatDoor
namespace Go.Proofs.YtmgchfjfkdkaoaaGreatDoor
open Go.RowKit Go.Deep

/-- What is ahead of i and has its place: the first so many have not. -/
def M.none11 (a : Nat → Int) (i k : Nat) : Prop := ∀ j, j < k → a j ≠ a i
theorem M.twice_yes {a : Nat → Int} {i k : Nat} (hk : k < i) (e : a k = a i) : M.twice a i = true := (M.twice_iff a i).2 ⟨k, hk, e⟩
theorem M.twice_no {a : Nat → Int} {i : Nat} (h : M.none11 a i i) : M.twice a i = false := by
  cases hc : M.twice a i
  · rfl
  · obtain ⟨k, hk, e⟩ := (M.twice_iff a i).1 hc
    exact absurd e (h k hk)

end Go.Proofs.YtmgchfjfkdkaoaaGreatDoor
namespace Go.Proofs.YtmgchfjfkdkaoaaGreatDoor
open Go.RowKit Go.Deep

def M.has (a : Nat → Int) (n : Nat) (z : Int) : Bool := (List.range n).any fun k => a k == z
theorem M.has_yes {a : Nat → Int} {n k : Nat} {z : Int} (hk : k < n) (h : a k = z) : M.has a n z = true := by
  simp only [M.has, List.any_eq_true, List.mem_range]
  exact ⟨k, hk, by simp [h]⟩
theorem M.has_no {a : Nat → Int} {n : Nat} {z : Int} (h : ∀ k, k < n → a k ≠ z) : M.has a n z = false := by
  cases hc : M.has a n z
  · rfl
  · simp only [M.has, List.any_eq_true, List.mem_range] at hc
    obtain ⟨k, hk, e⟩ := hc
    exact absurd (by simpa using e) (h k hk)
/-- What is wrong with one behind others. -/
def M.behE (a : Nat → Int) (n : Nat) (z : Int) (s : ByteArray) : Int := if z < 0 ∨ 1000 ≤ z then 3 else if s.size ≠ 64 then 12 else if M.has a n z = true then 9 else 0
theorem M.behE_eq (a : Nat → Int) (t : Nat → ByteArray) (i : Nat) : M.behE a i (a i) (t i) = M.secE a t i := rfl

theorem same_any (o z : Int) (d : ByteArray) (b : Nat) (w : World) (h : w.cell? ⟨b, 0, none⟩ = some (.int .i64 z)) :
    Calls Tryz.prog 158 #[.agg #[.int .i64 o, .string d], .pointer (some ⟨b, 0, none⟩)] w fun e w' => e = .returned (.bool (o == z)) ∧ Below w.heap.size w w' := by
  have hb : b < w.heap.size := World.block_lt_of_cell? w _ h
  have h' : (w.alloc (.cells #[.int .i64 o, .string d] 111)).cell? ⟨b, 0, none⟩ = some (.int .i64 z) := (((Below.refl w.heap.size w).alloc (Nat.le_refl _) _).cell hb).trans h
  have HB : Hid (Below w.heap.size w (w.alloc (.cells #[.int .i64 o, .string d] 111))) := (Below.refl w.heap.size w).alloc (Nat.le_refl _) _
  obtain ⟨r, hr⟩ : ∃ r, r = (o == z) := ⟨_, rfl⟩
  rw [← hr]
  have hr' := hr.symm
  clear hr
  go_enter Tryz.func158, Tryz.ntmps158
  go_wp2_with fail
  go_ret
  exact ⟨rfl, HB.out⟩

set_option maxRecDepth 100000 in
theorem indexFunc_any (A : Option Addr) (n cap : Nat) (a : Nat → Int) (t : Nat → ByteArray) (z : Int) (b : Nat) (w : World) (h : SecF w A n a t) (hn : n ≤ maxLen) (hz : w.cell? ⟨b, 0, none⟩ = some (.int .i64 z)) :
    Calls Tryz.prog 106 #[.slice A n cap, .func (.func 158) #[] #[.pointer (some ⟨b, 0, none⟩)]] w fun e w' =>
      (∃ r : Int, e = .returned (.int .i64 r) ∧ decide (0 ≤ r) = M.has a n z) ∧ Below w.heap.size w w' := by
  have hb : b < w.heap.size := World.block_lt_of_cell? w _ hz
  have HF := Lib.hid (fun y (hb : Below w.heap.size w y) i (hi : i < n) => (h.below (Nat.le_refl _) hb).at_ hi)
  have HZ : Hid (∀ y, Below w.heap.size w y → y.cell? ⟨b, 0, none⟩ = some (.int .i64 z)) := fun y hb' => (hb'.cell hb).trans hz
  have hn1 : (n : Int) ≤ 9223372036854775807 := by unfold maxLen at hn; omega
  clear h hn hb hz
  go_enter Tryz.func106, Tryz.ntmps106
  go_wp2_with fail
  go_loopw [8] (fun j wr => ∃ k : Nat, k ≤ n ∧ j = .int .i64 k ∧ Hid (Below w.heap.size w wr) ∧ Hid (∀ j, j < k → a j ≠ z)) (fun j _ => n - (intOf j).toNat)
  case atStart => exact ⟨0, Nat.zero_le _, rfl, Below.refl _ _, fun j hj => absurd hj (by omega)⟩
  case round =>
    obtain ⟨k, hk, rfl, HB, HO⟩ := hrel
    by_cases hlt : k < n
    · have hk0 : (0 : Int) ≤ (k : Int) := by omega
      have hlt' : (k : Int) < (n : Int) := by omega
      obtain ⟨ad, rfl, x0, x1⟩ := HF.out _ HB.out k hlt
      obtain ⟨y, hy⟩ : ∃ y, y = a k := ⟨_, rfl⟩
      obtain ⟨s, hs⟩ : ∃ s, s = t k := ⟨_, rfl⟩
      rw [← hy] at x0
      rw [← hs] at x1
      have HY := Lib.hid hy
      clear hy hs
      have c0 := Lib.hid (HZ.out _ HB.out)
      obtain ⟨f, hf⟩ : ∃ f, f = (y == z) := ⟨_, rfl⟩
      have HFq := Lib.hid hf
      have HC := Lib.hid (same_any y z s b _ c0.out)
      rw [← hf] at HC
      clear hf c0
      go_wp2_with fail
      refine HC.out.mono ?_
      rintro e w1 ⟨rfl, hb1⟩
      have HB1 : Hid (Below w.heap.size w w1) := HB.out.trans (hb1.mono HB.out.size)
      clear hb1
      cases f
      · have HO2 : Hid (∀ j, j < k + 1 → a j ≠ z) := fun j hj => by
          by_cases e : j = k
          · rw [e, ← HY.out]; have := HFq.out; intro h; rw [h] at this; simp at this
          · exact HO.out j (by omega)
        go_wp2_with fail
        go_roundw
        case rel => exact ⟨k + 1, by omega, by go_num, HB1, HO2⟩
        case measure => simp [intOf]; omega
      · have HR : Hid (M.has a n z = true) := M.has_yes hlt (by rw [← HY.out]; have := HFq.out; simpa using this.symm)
        go_wp2_with fail
        go_ret
        exact ⟨⟨k, rfl, by rw [HR.out]; simp⟩, HB1.out⟩
    · have e : k = n := by omega
      rw [e] at HO
      have HR : Hid (M.has a n z = false) := M.has_no HO.out
      have hlt' : ¬ (k : Int) < (n : Int) := by omega
      clear hlt e
      go_wp2_with fail
      go_ret
      exact ⟨⟨-1, rfl, by rw [HR.out]; rfl⟩, HB.out⟩
theorem contains11_any (A : Option Addr) (n cap : Nat) (a : Nat → Int) (t : Nat → ByteArray) (z : Int) (b : Nat) (w : World) (h : SecF w A n a t) (hn : n ≤ maxLen) (hz : w.cell? ⟨b, 0, none⟩ = some (.int .i64 z)) :
    Calls Tryz.prog 71 #[.slice A n cap, .func (.func 158) #[] #[.pointer (some ⟨b, 0, none⟩)]] w fun e w' =>
      e = .returned (.bool (M.has a n z)) ∧ Below w.heap.size w w' := by
  have HC := Lib.hid (indexFunc_any A n cap a t z b w h hn hz)
  clear h hn hz
  obtain ⟨f, hf⟩ : ∃ f, f = M.has a n z := ⟨_, rfl⟩
  rw [← hf] at HC ⊢
  clear hf
  go_enter Tryz.func71, Tryz.ntmps71
  go_wp2_with fail
  refine HC.out.mono ?_
  rintro e w1 ⟨⟨r, rfl, hr⟩, hb⟩
  subst hr
  go_wp2_with fail
  go_ret
  exact ⟨rfl, hb⟩

set_option maxRecDepth 100000 in
theorem behind_any (A : Option Addr) (n cap : Nat) (a : Nat → Int) (t : Nat → ByteArray) (z : Int) (s : ByteArray) (w : World) (h : SecF w A n a t) (hn : n ≤ maxLen) :
    Calls Tryz.prog 151 #[.slice A n cap, .agg #[.int .i64 z, .string s]] w fun e w' => e = .returned (.int .i64 (M.behE a n z s)) ∧ Below w.heap.size w w' := by
  obtain ⟨W, hW⟩ : ∃ W, W = w.alloc (.cells #[.int .i64 z, .string s] 111) := ⟨_, rfl⟩
  have hB : Box W w.heap.size 111 #[.int .i64 z, .string s] := by rw [hW]; exact Box.new _ _ _
  have c0 : W.cell? ⟨w.heap.size, 0, none⟩ = some (.int .i64 z) := hB.cell 0
  have c1 : W.cell? ⟨w.heap.size, 1, none⟩ = some (.string s) := hB.cell 1
  have hb : Below w.heap.size w W := by rw [hW]; exact (Below.refl _ _).alloc (Nat.le_refl _) _
  have HC := Lib.hid (contains11_any A n cap a t z w.heap.size W (h.below (Nat.le_refl _) hb) hn c0)
  have HB := Lib.hid hb
  obtain ⟨f, hf⟩ : ∃ f, f = M.has a n z := ⟨_, rfl⟩
  rw [← hf] at HC
  have HFq := Lib.hid hf
  obtain ⟨r, hr⟩ : ∃ r, r = M.behE a n z s := ⟨_, rfl⟩
  rw [← hr]
  rw [M.behE, ← hf] at hr
  have HR := Lib.hid hr
  have HW := Lib.hid hW
  clear h hn hB hb hf hr
  by_cases d1 : z < 0
  · have E : Hid (r = 3) := by rw [if_pos (Or.inl d1)] at HR; exact HR.out
    clear hW
    go_enter Tryz.func151, Tryz.ntmps151
    go_wp2_with fail
    rw [← HW.out]
    go_wp2_with fail
    go_ret
    rw [E.out]
    exact ⟨rfl, HB.out⟩
  by_cases d2 : 1000 ≤ z
  · have E : Hid (r = 3) := by rw [if_pos (Or.inr d2)] at HR; exact HR.out
    clear hW
    go_enter Tryz.func151, Tryz.ntmps151
    go_wp2_with fail
    rw [← HW.out]
    go_wp2_with fail
    go_ret
    rw [E.out]
    exact ⟨rfl, HB.out⟩
  rw [if_neg (by omega)] at HR
  by_cases d3 : s.size = 64
  · have d3' : ((s.size : Int) == 64) = true := by simp; omega
    rw [if_neg (by simp [d3])] at HR
    clear d3 hW
    go_enter Tryz.func151, Tryz.ntmps151
    go_wp2_with fail
    rw [← HW.out]
    go_wp2_with fail
    refine HC.out.mono ?_
    rintro e w1 ⟨rfl, hb1⟩
    have HB1 : Hid (Below w.heap.size w w1) := HB.out.trans (hb1.mono HB.out.size)
    clear hb1
    cases f
    · have E : Hid (r = 0) := by rw [if_neg (by simp)] at HR; exact HR.out
      go_wp2_with fail
      go_ret
      rw [E.out]
      exact ⟨rfl, HB1.out⟩
    · have E : Hid (r = 9) := by rw [if_pos rfl] at HR; exact HR.out
      go_wp2_with fail
      go_ret
      rw [E.out]
      exact ⟨rfl, HB1.out⟩
  · have d3' : ((s.size : Int) == 64) = false := by simp; omega
    have E : Hid (r = 12) := by rw [if_pos d3] at HR; exact HR.out
    clear d3 hW
    go_enter Tryz.func151, Tryz.ntmps151
    go_wp2_with fail
    rw [← HW.out]
    go_wp2_with fail
    go_ret
    rw [E.out]
    exact ⟨rfl, HB.out⟩

set_option maxRecDepth 100000 in
set_option maxHeartbeats 1000000 in
theorem check_any (A : Option Addr) (n cap : Nat) (a : Nat → Int) (t : Nat → ByteArray) (w : World) (h : SecF w A n a t) (hn : n ≤ cap) (hc : cap ≤ maxLen) :
    Calls Tryz.prog 129 #[.slice A n cap] w fun e w' => e = .returned (.int .i64 (M.chk a t n)) ∧ Below w.heap.size w w' := by
  have HF := Lib.hid (fun y (hb : Below w.heap.size w y) => h.below (Nat.le_refl _) hb)
  have hn1 : (n : Int) ≤ 9223372036854775807 := by unfold maxLen at hc; omega
  have HCap : Hid (n ≤ cap ∧ cap ≤ maxLen) := ⟨hn, hc⟩
  clear h hn hc
  by_cases h0 : n = 0
  · have E : Hid (M.chk a t n = 8) := by show _ = _; rw [M.chk, if_pos h0]
    subst h0
    go_enter Tryz.func129, Tryz.ntmps129
    go_wp2_with fail
    go_ret
    rw [E.out]
    exact ⟨rfl, Below.refl _ _⟩
  by_cases h16 : 16 < n
  · have E : Hid (M.chk a t n = 6) := by show _ = _; rw [M.chk, if_neg h0, if_pos h16]
    have c0 : ¬ (n : Int) = 0 := by omega
    have c1 : (16 : Int) < (n : Int) := by omega
    have HN : Hid (¬ n = 0) := h0
    clear h0
    go_enter Tryz.func129, Tryz.ntmps129
    go_wp2_with fail
    go_ret
    rw [E.out]
    exact ⟨rfl, Below.refl _ _⟩
  have E : Hid (M.chk a t n = M.firstE a t n) := by show _ = _; rw [M.chk, if_neg h0, if_neg h16]
  have c0 : ((n : Int) == 0) = false := by simp; omega
  have c1 : ¬ (16 : Int) < (n : Int) := by omega
  have HN : Hid (¬ n = 0 ∧ ¬ 16 < n) := ⟨h0, h16⟩
  clear h0 h16
  go_enter Tryz.func129, Tryz.ntmps129
  go_wp2_with fail
  go_loopw [16] (fun j wr => ∃ k : Nat, k ≤ n ∧ j = .int .i64 k ∧ Hid (Below w.heap.size w wr) ∧ Hid (M.firstE a t k = 0)) (fun j _ => n - (intOf j).toNat)
  case atStart => exact ⟨0, Nat.zero_le _, rfl, Below.refl _ _, rfl⟩
  case round =>
    obtain ⟨k, hk, rfl, HB, HZ⟩ := hrel
    by_cases hlt : k < n
    · have hk0 : (0 : Int) ≤ (k : Int) := by omega
      have hlt' : (k : Int) < (n : Int) := by omega
      have hk16 : (k : Int) < 16 := by have := HN.out; omega
      have hkc : (k : Int) ≤ (cap : Int) := by have := HCap.out; omega
      obtain ⟨ad, rfl, x0, x1⟩ := (HF.out _ HB.out).at_ hlt
      obtain ⟨z, hz⟩ : ∃ z, z = a k := ⟨_, rfl⟩
      obtain ⟨s, hs⟩ : ∃ s, s = t k := ⟨_, rfl⟩
      rw [← hz] at x0
      rw [← hs] at x1
      obtain ⟨E1, hE1⟩ : ∃ E1, E1 = M.secE a t k := ⟨_, rfl⟩
      have HC : Hid (∀ y, Below w.heap.size w y → Calls Tryz.prog 151 #[.slice (some ad) k cap, .agg #[.int .i64 z, .string s]] y fun e w' => e = .returned (.int .i64 E1) ∧ Below y.heap.size y w') := fun y hb => by
        rw [hE1, ← M.behE_eq, hz, hs]
        exact behind_any (some ad) k cap a t (a k) (t k) y ((HF.out y hb).take (by omega)) (by have := HCap.out; omega)
      have HE1 := Lib.hid hE1
      clear hz hs hE1
      obtain ⟨W, hW⟩ : ∃ W, W = wr.alloc (.cells #[.int .i64 z, .string s] 111) := ⟨_, rfl⟩
      have hB : Box W wr.heap.size 111 #[.int .i64 z, .string s] := by rw [hW]; exact Box.new _ _ _
      have b0 : W.cell? ⟨wr.heap.size, 0, none⟩ = some (.int .i64 z) := hB.cell 0
      have b1 : W.cell? ⟨wr.heap.size, 1, none⟩ = some (.string s) := hB.cell 1
      have HBW : Hid (Below w.heap.size w W) := by rw [hW]; exact HB.out.alloc HB.out.size _
      have HW := Lib.hid hW
      clear hW hB
      go_wp2_with fail
      rw [← HW.out]
      go_still_tail 4, (by kernel_rfl)
      change wpList _ _ _ _ _ W.drew
      clear x0 x1
      go_wp2_with fail
      refine (HC.out _ HBW.out.drew).mono ?_
      rintro e w1 ⟨rfl, hb1⟩
      have HB1 : Hid (Below w.heap.size w w1) := HBW.out.drew.trans (hb1.mono HBW.out.size)
      clear hb1
      by_cases he : E1 = 0
      · have he' : (E1 == 0) = true := by simp [he]
        have HK : Hid (M.firstE a t (k + 1) = 0) := by show _ = _; rw [M.firstE_next a t k HZ.out, ← HE1.out, he]
        clear he b0 b1
        go_wp2_with fail
        go_roundw
        case rel => exact ⟨k + 1, by omega, by go_num, HB1, HK⟩
        case measure => simp [intOf]; omega
      · have he' : (E1 == 0) = false := by simp [he]
        have HR : Hid (M.firstE a t n = E1) := by show _ = _; rw [M.firstE_stop a t hlt HZ.out (by rw [← HE1.out]; exact he), HE1.out]
        clear he b0 b1
        go_wp2_with fail
        go_ret
        rw [E.out, HR.out]
        exact ⟨rfl, HB1.out⟩
    · have e : k = n := by omega
      rw [e] at HZ
      have hlt' : ¬ (k : Int) < (n : Int) := by omega
      clear hlt e
      go_wp2_with fail
      go_ret
      rw [E.out, HZ.out]
      exact ⟨rfl, HB.out⟩
end Go.Proofs.YtmgchfjfkdkaoaaGreatDoor
namespace Go.Proofs.YtmgchfjfkdkaoaaGreatDoor
open Go.RowKit Go.Deep

theorem tail11 (s : ByteArray) (w : World) (hs : s.size ≤ 100000) : Calls Tryz.prog 110 #[.string s] w fun e w' => e = .returned (.string (M.tail s)) ∧ Below w.heap.size w w' := tail_any s w (by omega)
theorem tail2 (h d : ByteArray) (w : World) (hh : h.size ≤ 1000) (hd : d.size ≤ 10000) : Calls Tryz.prog 130 #[.string h, .string d] w fun e w' => e = .returned (.string (M.tail (h ++ d))) ∧ Below w.heap.size w w' := by
  have HC := Lib.hid (fun x => tail11 (h ++ d) x (by rw [ByteArray.size_append]; omega))
  obtain ⟨s, hs⟩ : ∃ s, s = M.tail (h ++ d) := ⟨_, rfl⟩
  rw [← hs] at HC ⊢
  clear hs
  go_enter Tryz.func130, Tryz.ntmps130
  go_wp2_with fail
  refine (HC.out _).mono ?_
  rintro e w1 ⟨rfl, hb⟩
  go_wp2_with fail
  go_ret
  exact ⟨rfl, hb⟩

theorem M.fitsQ (n : Int) : M.fitsB n 6 = decide (¬ (n < 0 ∨ 281474976710656 ≤ n)) := by
  unfold M.fitsB
  have e : (256 : Int) ^ (6 : Int).toNat = 281474976710656 := by decide
  rw [e, Bool.eq_iff_iff, decide_eq_true_eq, decide_eq_true_eq]
  omega
theorem M.fits1 {n : Int} (h0 : 0 ≤ n) (h1 : n < 256) : M.fitsB n 1 = true := by
  unfold M.fitsB
  have e : (256 : Int) ^ (1 : Int).toNat = 256 := by decide
  rw [e, decide_eq_true_eq]
  omega
theorem M.fits2' {n : Int} (h0 : 0 ≤ n) (h1 : n < 1000) : M.fitsB n 2 = true := by
  unfold M.fitsB
  have e : (256 : Int) ^ (2 : Int).toNat = 65536 := by decide
  rw [e, decide_eq_true_eq]
  omega
theorem M.putS_ok {s : ByteArray} {n z : Int} (h : M.fitsB n z = true) : M.putS s n z = s ++ M.bytes n.toNat z.toNat := by rw [M.putS, if_pos h]; rfl
theorem M.put_next (a : Nat → Int) (q n k : Nat) (h : 0 ≤ a k ∧ a k < 1000) : M.putS (M.head a q n k) (a k) 2 = M.head a q n (k + 1) := by
  rw [M.putS_ok (M.fits2' h.1 h.2)]; rfl
/-- The text that Put begins with. -/
theorem M.put_start (a : Nat → Int) (q : Int) (n : Nat) (hq : 0 ≤ q ∧ q < 281474976710656) (hn : n ≤ 16) :
    ∃ s1 : ByteArray, M.putS ⟨#[82]⟩ q 6 = s1 ∧ s1.size ≤ 100 ∧ M.putS s1 n 1 = M.head a q.toNat n 0 := by
  refine ⟨_, rfl, ?_, ?_⟩
  · rw [M.putS_ok (by rw [M.fitsQ]; simp; omega), ByteArray.size_append, M.bytes_size, M.R_size]; decide
  · rw [M.putS_ok (M.fits1 (by omega) (by omega)), M.putS_ok (by rw [M.fitsQ]; simp; omega)]; rfl
/-- The steps of Put. -/
theorem M.put_steps (a : Nat → Int) (q n : Nat) (h : ∀ i, i < n → 0 ≤ a i ∧ a i < 1000) (hn : n ≤ 16) :
    ∀ k, k < n → ∀ y : World, Calls Tryz.prog 108 #[.string (M.head a q n k), .int .i64 (a k), .int .i64 2] y fun e y' => e = .returned (.string (M.head a q n (k + 1))) ∧ Below y.heap.size y y' := by
  refine fun k hk y => ?_
  have := h k hk
  rw [← M.put_next a q n k this]
  exact put_any _ _ _ _ (by rw [M.head_size]; omega) (by omega) (by decide) (by decide)
/-- A builder in block b, made behind B, that has these bytes. -/
def Bld (B b : Nat) (s : ByteArray) (y : World) : Prop := Lib.IsBuilder 92 5 B b (Lib.byteCells s.data.toList) y
theorem Bld.below {B b : Nat} {s : ByteArray} {y z : World} (h : Bld B b s y) (hb : Below y.heap.size y z) : Bld B b s z := by
  have key : ∀ p, Lib.BuilderAt 92 5 B b p (Lib.byteCells s.data.toList) y → Lib.BuilderAt 92 5 B b p (Lib.byteCells s.data.toList) z := by
    rintro p ⟨h1, v, h2, h3, h4⟩
    have hlt := lt_of_block h2
    refine ⟨h1, v, (hb.block b hlt).trans h2, ?_, h4⟩
    refine ⟨h3.1, ?_⟩
    rcases h3.2 with e | ⟨g, cap, cur, e, hg, hbk, hr⟩
    · exact Or.inl e
    · exact Or.inr ⟨g, cap, cur, e, hg, (hb.block g (lt_of_block hbk)).trans hbk, hr⟩
  exact h.elim (fun x => Or.inl (key _ x)) (fun x => Or.inr (key _ x))
theorem Bld.new (y : World) : Bld y.heap.size y.heap.size ⟨#[]⟩ (y.alloc (.cells #[.pointer none, .slice none 0 0] 92)) := Lib.fresh_isBuilder _ _ _
theorem Bld.mono {B B' b : Nat} {s : ByteArray} {y : World} (h : Bld B b s y) (hB : B' ≤ B) : Bld B' b s y := by
  have key : ∀ p, Lib.BuilderAt 92 5 B b p (Lib.byteCells s.data.toList) y → Lib.BuilderAt 92 5 B' b p (Lib.byteCells s.data.toList) y := by
    rintro p ⟨h1, v, h2, h3, h4⟩
    refine ⟨by omega, v, h2, ⟨h3.1, ?_⟩, h4⟩
    rcases h3.2 with e | ⟨g, cap, cur, e, hg, hr⟩
    · exact Or.inl e
    · exact Or.inr ⟨g, cap, cur, e, by omega, hr⟩
  exact h.elim (fun x => Or.inl (key _ x)) (fun x => Or.inr (key _ x))
/-- The shelf's own laying of WriteString falls (its structure names a type that no body of this closure names): out of Repeat's laying. -/
theorem bwrite_any (B b : Nat) (bs : List Value) (s : ByteArray) (w : World) (h : Lib.IsBuilder 92 5 B b bs w) (hlen : bs.length + s.size ≤ 140737488355328) (hBw : B ≤ w.heap.size) :
    Calls Tryz.prog 43 #[.pointer (some ⟨b, 0, none⟩), .string s] w fun e w' => e = .returned (.tuple #[.int .i64 s.size, .nilIface]) ∧ (Lib.BuilderAt 92 5 B b (.pointer (some ⟨b, 0, none⟩)) (bs ++ Lib.strCells s) w' ∧ Below B w w') :=
  Any.Builder_WriteString { Tryz.lays105 with } Tryz.Builder_Extra_105 B b bs s w h hlen hBw
theorem Bld.write {B b : Nat} {s : ByteArray} {y : World} (h : Bld B b s y) (hB : B ≤ y.heap.size) (u : ByteArray) (hs : s.size + u.size ≤ 1000000) :
    Calls Tryz.prog 43 #[.pointer (some ⟨b, 0, none⟩), .string u] y fun e y' => e = .returned (.tuple #[.int .i64 u.size, .nilIface]) ∧ Bld B b (s ++ u) y' ∧ Below B y y' := by
  refine (bwrite_any B b _ u y h (by simp [Lib.byteCells]; omega) hB).mono ?_
  rintro e y' ⟨h1, h2, h3⟩
  refine ⟨h1, Or.inr ?_, h3⟩
  have e1 : Lib.byteCells s.data.toList ++ Lib.strCells u = Lib.byteCells (s ++ u).data.toList := by
    rw [M.app_list, Lib.byteCells, Lib.strCells, Lib.byteCells, List.map_append]
  rw [e1] at h2
  exact h2
theorem Bld.read {B b : Nat} {s : ByteArray} {y : World} (h : Bld B b s y) (hB : B ≤ y.heap.size) :
    Calls Tryz.prog 44 #[.pointer (some ⟨b, 0, none⟩)] y fun e y' => e = .returned (.string s) ∧ Below B y y' := Tryz.Builder_String_any B b s.data.toList y h hB
end Go.Proofs.YtmgchfjfkdkaoaaGreatDoor
namespace Go.Proofs.YtmgchfjfkdkaoaaGreatDoor
open Go.RowKit Go.Deep

set_option maxRecDepth 100000 in
set_option maxHeartbeats 2000000 in
theorem put11_yes (A : Option Addr) (n cap : Nat) (a : Nat → Int) (t : Nat → ByteArray) (q : Int) (w : World) (h : SecF w A n a t) (hn : n ≤ cap) (hc : cap ≤ maxLen) (hr : M.rE a t q n = 0) :
    Calls Tryz.prog 94 #[.int .i64 q, .slice A n cap] w fun e w' => e = .returned (.tuple #[.string (M.rec a t q.toNat n), .int .i64 0]) ∧ Below w.heap.size w w' := by
  obtain ⟨hq, hn1, hall⟩ := M.rE_ok a t hr
  have hck : M.chk a t n = 0 := by unfold M.rE at hr; rw [if_neg (by omega)] at hr; exact hr
  have C0 := Lib.hid (fun x => fits_any q 6 x (by decide) (by decide))
  rw [M.fitsQ, decide_eq_true (by omega)] at C0
  have C1 := Lib.hid (fun y (hb : Below w.heap.size w y) => check_any A n cap a t y (h.below (Nat.le_refl _) hb) hn hc)
  rw [hck] at C1
  obtain ⟨s1, e1, z1, e2⟩ := M.put_start a q n hq hn1.2
  have C2 := Lib.hid (fun x => put_any ⟨#[82]⟩ q 6 x (by decide) (by omega) (by decide) (by decide))
  rw [e1] at C2
  have C3 := Lib.hid (fun x => put_any s1 (n : Int) 1 x (by omega) (by omega) (by decide) (by decide))
  rw [e2] at C3
  have HP := Lib.hid (M.put_steps a q.toNat n (fun i hi => (hall i hi).1) hn1.2)
  have HT : Hid (∀ k, k < n → (M.alls t k ++ t k = M.alls t (k + 1)) ∧ (t k).size = 64 ∧ (M.alls t k).size = 64 * k) := fun k hk => ⟨rfl, (hall k hk).2, M.alls_size t k (fun i hi => (hall i (by omega)).2)⟩
  have zH := M.head_size a q.toNat n n
  have zA := M.alls_size t n (fun i hi => (hall i hi).2)
  have zr := M.rsum_size a q.toNat n (M.alls t n)
  have C4 := Lib.hid (fun x => tail2 (M.head a q.toNat n n) (M.alls t n) x (by omega) (by omega))
  have C5 := Lib.hid (fun x => pad_any (M.head a q.toNat n n ++ M.tail (M.head a q.toNat n n ++ M.alls t n)) (by omega) x)
  have zt := M.tail_size (M.head a q.toNat n n ++ M.alls t n)
  have zp : (M.pad (M.head a q.toNat n n ++ M.tail (M.head a q.toNat n n ++ M.alls t n))).size ≤ 1000 := by rw [M.pad_size, zr]; have := M.lack_le (12 + 2 * n); omega
  have HR : Hid (M.rec a t q.toNat n = M.pad (M.head a q.toNat n n ++ M.tail (M.head a q.toNat n n ++ M.alls t n)) ++ M.alls t n) := rfl
  obtain ⟨R, hR⟩ : ∃ R, R = M.rec a t q.toNat n := ⟨_, rfl⟩
  rw [← hR] at HR ⊢
  obtain ⟨H, hH⟩ : ∃ H, H = fun k => M.head a q.toNat n k := ⟨_, rfl⟩
  have hHk : ∀ k, M.head a q.toNat n k = H k := fun k => by rw [hH]
  simp only [hHk] at C3 HP C4 C5 HR zH zr zt zp
  obtain ⟨G, hG⟩ : ∃ G, G = fun k => M.alls t k := ⟨_, rfl⟩
  have hGk : ∀ k, M.alls t k = G k := fun k => by rw [hG]
  have hG0 : Hid (G 0 = ⟨#[]⟩) := by rw [hG]; rfl
  simp only [hGk] at HT C4 C5 HR zA zt zp
  obtain ⟨T, hT⟩ : ∃ T, T = M.tail (H n ++ G n) := ⟨_, rfl⟩
  rw [← hT] at C4 C5 HR zt zp
  obtain ⟨S, hS⟩ : ∃ S, S = M.pad (H n ++ T) := ⟨_, rfl⟩
  rw [← hS] at C5 HR zp
  rw [HR.out]
  have HF := Lib.hid (fun y (hb : Below w.heap.size w y) => h.below (Nat.le_refl _) hb)
  have hnn : (n : Int) ≤ 16 := by omega
  have zG : (G n).size ≤ 1024 := by omega
  have HAa : Hid (∀ i, i < n → a i < 1000) := fun i hi => (hall i hi).1.2
  have zHn : (H n).size ≤ 100 := by omega
  clear hr hall hck e1 e2 zr hR hH hHk hG hGk hT hS h hn hc zA zH hq hn1
  go_enter Tryz.func94, Tryz.ntmps94
  go_wp2_with fail
  refine (C0.out _).mono ?_
  rintro e w1 ⟨rfl, rfl⟩
  go_wp2_with fail
  refine (C1.out _ (Below.refl _ _)).mono ?_
  rintro e w1 ⟨rfl, hb1⟩
  have HB1 := Lib.hid hb1
  clear hb1
  go_wp2_with fail
  refine (C2.out _).mono ?_
  rintro e w2 ⟨rfl, hb2⟩
  have HB2 : Hid (Below w.heap.size w w2) := HB1.out.trans (hb2.mono HB1.out.size)
  clear hb2
  go_wp2_with fail
  refine (C3.out _).mono ?_
  rintro e w3 ⟨rfl, hb3⟩
  have HB3 : Hid (Below w.heap.size w w3) := HB2.out.trans (hb3.mono HB2.out.size)
  clear hb3
  obtain ⟨W, hW⟩ : ∃ W, W = w3.alloc (.cells #[.pointer none, .slice none 0 0] 92) := ⟨_, rfl⟩
  obtain ⟨b, hb⟩ : ∃ b, b = w3.heap.size := ⟨_, rfl⟩
  have HBld : Hid (Bld w.heap.size b ⟨#[]⟩ W) := by rw [hW, hb]; exact (Bld.new w3).mono HB3.out.size
  have HBW : Hid (Below w.heap.size w W) := by rw [hW]; exact HB3.out.alloc HB3.out.size _
  have HW := Lib.hid hW
  have Hb := Lib.hid hb
  clear hW hb
  go_wp2_with fail
  rw [← HW.out, ← Hb.out]
  clear HW Hb HB1 HB2 HB3
  rw [← hG0.out] at HBld
  go_loopw [7, 28] (fun v j wr => ∃ k : Nat, k ≤ n ∧ v = .string (H k) ∧ j = .int .i64 k ∧ Hid (Below w.heap.size w wr) ∧ Hid (Bld w.heap.size b (G k) wr)) (fun _ j _ => n - (intOf j).toNat)
  case atStart => exact ⟨0, Nat.zero_le _, rfl, rfl, HBW, HBld⟩
  case round =>
    clear HBW HBld
    obtain ⟨k, hk, rfl, rfl, HB, HBld⟩ := hrel
    by_cases hlt : k < n
    · have hk0 : (0 : Int) ≤ (k : Int) := by omega
      have hlt' : (k : Int) < (n : Int) := by omega
      have hk16 : (k : Int) < 16 := by omega
      obtain ⟨ad, rfl, x0, x1⟩ := (HF.out _ HB.out).at_ hlt
      have CP := Lib.hid (HP.out k hlt)
      obtain ⟨HG1, hts, hgs⟩ := HT.out k hlt
      obtain ⟨z, hz⟩ : ∃ z, z = a k := ⟨_, rfl⟩
      obtain ⟨s, hs⟩ : ∃ s, s = t k := ⟨_, rfl⟩
      rw [← hz] at x0 CP
      rw [← hs] at x1 HG1 hts
      have HG := Lib.hid HG1
      have HZ2 : Hid (s.size = 64 ∧ (G k).size = 64 * k ∧ k < 16) := ⟨hts, hgs, by omega⟩
      clear hz hs HG1 hts hgs
      obtain ⟨W2, hW2⟩ : ∃ W2, W2 = wr.alloc (.cells #[.int .i64 z, .string s] 111) := ⟨_, rfl⟩
      obtain ⟨c, hc⟩ : ∃ c, c = wr.heap.size := ⟨_, rfl⟩
      have hB : Box W2 c 111 #[.int .i64 z, .string s] := by rw [hW2, hc]; exact Box.new _ _ _
      have b0 : W2.cell? ⟨c, 0, none⟩ = some (.int .i64 z) := hB.cell 0
      have HBX := Lib.hid hB
      have HBl2 : Hid (Bld w.heap.size b (G k) W2) := by rw [hW2]; exact HBld.out.below ((Below.refl _ _).alloc (Nat.le_refl _) _)
      have HBW2 : Hid (Below w.heap.size w W2) := by rw [hW2]; exact HB.out.alloc HB.out.size _
      have HW2 := Lib.hid hW2
      have Hc := Lib.hid hc
      clear hW2 hc hB
      go_wp2_with fail
      rw [← HW2.out, ← Hc.out]
      clear HW2 Hc x0 x1
      go_wp2_with fail
      refine (CP.out _).mono ?_
      rintro e w4 ⟨rfl, hb4⟩
      have b1 : w4.cell? ⟨c, 1, none⟩ = some (.string s) := (HBX.out.below hb4 HBX.out.lt).cell 1
      have HB4 : Hid (Below w.heap.size w w4) := HBW2.out.trans (hb4.mono HBW2.out.size)
      have HBl4 : Hid (Bld w.heap.size b (G k) w4) := HBl2.out.below hb4
      clear hb4 b0
      go_wp2_with fail
      refine (HBl4.out.write HB4.out.size s (by have := HZ2.out; omega)).mono ?_
      rintro e w5 ⟨rfl, h5, hb5⟩
      rw [HG.out] at h5
      have HBl5 := Lib.hid h5
      have HB5 : Hid (Below w.heap.size w w5) := HB4.out.trans hb5
      clear h5 hb5 b1
      go_wp2_with fail
      go_roundw
      case rel => exact ⟨k + 1, by omega, rfl, by go_num, HB5, HBl5⟩
      case measure => simp [intOf]; omega
    · have e : k = n := by omega
      subst e
      clear hlt
      go_wp2_with fail
      refine (HBld.out.read HB.out.size).mono ?_
      rintro e w4 ⟨rfl, hb4⟩
      have HB4 : Hid (Below w.heap.size w w4) := HB.out.trans hb4
      clear hb4
      go_wp2_with fail
      refine (C4.out _).mono ?_
      rintro e w5 ⟨rfl, hb5⟩
      have HB5 : Hid (Below w.heap.size w w5) := HB4.out.trans (hb5.mono HB4.out.size)
      clear hb5
      go_wp2_with fail
      refine (C5.out _).mono ?_
      rintro e w6 ⟨rfl, hb6⟩
      have HB6 : Hid (Below w.heap.size w w6) := HB5.out.trans (hb6.mono HB5.out.size)
      clear hb6
      go_wp2_with fail
      go_ret2
      exact ⟨rfl, HB6.out⟩

set_option maxRecDepth 100000 in
theorem put11_no (A : Option Addr) (n cap : Nat) (a : Nat → Int) (t : Nat → ByteArray) (q : Int) (w : World) (h : SecF w A n a t) (hn : n ≤ cap) (hc : cap ≤ maxLen) (hr : M.rE a t q n ≠ 0) :
    Calls Tryz.prog 94 #[.int .i64 q, .slice A n cap] w fun e w' => e = .returned (.tuple #[.string ⟨#[]⟩, .int .i64 (M.rE a t q n)]) ∧ Below w.heap.size w w' := by
  have C0 := Lib.hid (fun x => fits_any q 6 x (by decide) (by decide))
  have C1 := Lib.hid (check_any A n cap a t w h hn hc)
  rw [M.fitsQ] at C0
  unfold M.rE at hr ⊢
  by_cases hq : q < 0 ∨ 281474976710656 ≤ q
  · rw [if_pos hq]
    rw [decide_eq_false (fun hx => hx hq)] at C0
    clear hq hr h C1
    go_enter Tryz.func94, Tryz.ntmps94
    go_wp2_with fail
    refine (C0.out _).mono ?_
    rintro e w1 ⟨rfl, rfl⟩
    go_wp2_with fail
    go_ret2
    exact ⟨rfl, Below.refl _ _⟩
  · rw [if_neg hq] at hr ⊢
    rw [decide_eq_true hq] at C0
    obtain ⟨E, hE⟩ : ∃ E, E = M.chk a t n := ⟨_, rfl⟩
    rw [← hE] at hr C1 ⊢
    have hr' : (E == 0) = false := by simp [hr]
    clear hq hE h hr
    go_enter Tryz.func94, Tryz.ntmps94
    go_wp2_with fail
    refine (C0.out _).mono ?_
    rintro e w1 ⟨rfl, rfl⟩
    go_wp2_with fail
    refine C1.out.mono ?_
    rintro e w1 ⟨rfl, hb⟩
    go_wp2_with fail
    go_ret2
    exact ⟨rfl, hb⟩
theorem put11_any (A : Option Addr) (n cap : Nat) (a : Nat → Int) (t : Nat → ByteArray) (q : Int) (w : World) (h : SecF w A n a t) (hn : n ≤ cap) (hc : cap ≤ maxLen) :
    Calls Tryz.prog 94 #[.int .i64 q, .slice A n cap] w fun e w' => e = .returned (.tuple #[.string (M.rS a t q n), .int .i64 (M.rE a t q n)]) ∧ Below w.heap.size w w' := by
  by_cases hr : M.rE a t q n = 0
  · rw [M.rS_yes a t hr, hr]
    exact put11_yes A n cap a t q w h hn hc hr
  · rw [M.rS_no a t hr]
    exact put11_no A n cap a t q w h hn hc hr

end Go.Proofs.YtmgchfjfkdkaoaaGreatDoor
