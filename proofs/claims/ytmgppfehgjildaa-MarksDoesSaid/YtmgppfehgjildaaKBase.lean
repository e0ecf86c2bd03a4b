/-
  Sets of numbers in memory. Walks over marks.New, Many, may, bitOf, width, Has.
-/
import Derived.Test.YtmgppfehgjildaaKept
import Derived.Test.YtmgppfehgjildaaKMath
import Derived.BigQuiet
import Derived.Deep.QuietTactic
import Derived.Handy
import Derived.Deep.RegionHeld3
import Derived.Laws.BitsAllLaws
namespace Go.Proofs.Ytmgppfehgjildaa
open Go.RowKit

/-- The cells of a set. -/
def M.cells (m : Nat) (f : Nat → Bool) : Array Value := (Value.int .i64 (m : Nat) :: (List.range 125).map (fun j => Value.int .u8 (M.byte f j : Nat))).toArray
theorem M.cells_zero (m : Nat) (f : Nat → Bool) : (M.cells m f)[0]? = some (.int .i64 (m : Nat)) := by simp [M.cells]
theorem M.cells_at (m : Nat) (f : Nat → Bool) (j : Nat) (h : j < 125) : (M.cells m f)[1 + j]? = some (.int .u8 (M.byte f j : Nat)) := by
  rw [Nat.add_comm]
  simp [M.cells, h]
theorem M.cells_put (m : Nat) (f : Nat → Bool) (i : Nat) (v : Bool) (h : i / 8 < 125) : (M.cells m f).setIfInBounds (1 + i / 8) (.int .u8 (M.byte (M.put f i v) (i / 8) : Nat)) = M.cells m (M.put f i v) := by
  apply Array.ext_getElem?
  intro k
  rw [Array.getElem?_setIfInBounds]
  have hz : (M.cells m f).size = 126 := by simp [M.cells]
  by_cases e : 1 + i / 8 = k
  · subst e
    rw [if_pos rfl, if_pos (by omega), M.cells_at _ _ _ h]
  · rw [if_neg e]
    cases k with
    | zero => rw [M.cells_zero, M.cells_zero]
    | succ k =>
      rw [Nat.add_comm k 1]
      by_cases hk : k < 125
      · rw [M.cells_at _ _ _ hk, M.cells_at _ _ _ hk, M.byte_other f i v k (by omega)]
      · rw [Array.getElem?_eq_none (by omega), Array.getElem?_eq_none (by simp [M.cells]; omega)]

/-- The set f of numbers below m in block b of w. -/
structure Set (w : World) (b m : Nat) (f : Nat → Bool) : Prop where
  box : Box w b 54 (M.cells m f)
  le : m ≤ 1000
  low : M.Below m f
section
variable {w w' : World} {b m : Nat} {f : Nat → Bool}
theorem Set.drewN (h : Set w b m f) (n : Nat) : Set (w.drewN n) b m f := ⟨h.box, h.le, h.low⟩
theorem Set.drew (h : Set w b m f) : Set w.drew b m f := ⟨h.box, h.le, h.low⟩
theorem Set.kept {P : Nat → Prop} (h : Set w b m f) (hk : Kept P w w') (hb : ¬ P b) : Set w' b m f := ⟨hk.box h.box hb, h.le, h.low⟩
theorem Set.below {B : Nat} (h : Set w b m f) (hk : Below B w w') (hb : b < B) : Set w' b m f := ⟨h.box.below hk hb, h.le, h.low⟩
theorem Set.c0 (h : Set w b m f) : w.cell? ⟨b, 0, none⟩ = some (.int .i64 (m : Nat)) := (h.box.cell 0).trans (M.cells_zero m f)
theorem Set.c1 (h : Set w b m f) (j : Nat) (hj : j < 125) : w.cell? ⟨b, 1 + j, none⟩ = some (.int .u8 (M.byte f j : Nat)) := (h.box.cell (1 + j)).trans (M.cells_at m f j hj)
theorem Set.put (h : Set w b m f) {i : Nat} (hi : i < m) (v : Bool) : Set (w.setCell ⟨b, 1 + i / 8, none⟩ (.int .u8 (M.byte (M.put f i v) (i / 8) : Nat))) b m (M.put f i v) := by
  have hm := h.le
  have := h.box.set (1 + i / 8) (.int .u8 (M.byte (M.put f i v) (i / 8) : Nat))
  rw [M.cells_put m f i v (by omega)] at this
  exact ⟨this, h.le, h.low.put hi v⟩
end

theorem zeroS (w : World) : (zeroValue 54).run Try.prog w = .ok (.agg (M.cells 0 (fun _ => false))) w := by
  have h : Try.t54.zero = some (.agg (M.cells 0 (fun _ => false))) := by kernel_rfl
  simp [zeroValue, h]
theorem M.cells_new (m : Nat) : (M.cells 0 (fun _ => false)).setIfInBounds 0 (.int .i64 (m : Nat)) = M.cells m (fun _ => false) := by
  simp [M.cells]
theorem M.cells_ne (m : Nat) (f : Nat → Bool) : (M.cells m f = #[]) = False := by simp [M.cells]

theorem new_any (n : Int) (w : World) :
    Calls Try.prog 8 #[.int .i64 n] w fun e w' => e = .returned (.pointer (some ⟨w.heap.size, 0, none⟩)) ∧ w' = w.alloc (.cells (M.cells (M.most n) (fun _ => false)) 54) := by
  have hz := zeroS
  have hne := M.cells_ne 0 (fun _ => false)
  have hst := M.cells_new (M.most n)
  obtain ⟨Z, hZ⟩ : ∃ Z, Z = M.cells 0 (fun _ => false) := ⟨_, rfl⟩
  rw [← hZ] at hst hne
  simp only [← hZ] at hz
  clear hZ
  by_cases h0 : n < 0
  · rw [M.most, if_pos h0] at hst ⊢
    go_enter Try.func8, Try.ntmps8
    go_wp2_with fail
    go_ret
    exact ⟨rfl, by rw [← hst]; rfl⟩
  · by_cases h1 : 1000 < n
    · rw [M.most, if_neg h0, if_pos h1] at hst ⊢
      have h0' : 0 ≤ n := by omega
      clear h0
      go_enter Try.func8, Try.ntmps8
      go_wp2_with fail
      go_ret
      exact ⟨rfl, by rw [← hst]; rfl⟩
    · rw [M.most, if_neg h0, if_neg h1] at hst ⊢
      obtain ⟨m, rfl⟩ : ∃ m : Nat, n = m := ⟨n.toNat, by omega⟩
      have h0' : (0 : Int) ≤ (m : Int) := by omega
      have h1' : (m : Int) ≤ 1000 := by omega
      rw [Int.toNat_natCast] at hst ⊢
      clear h0 h1
      go_enter Try.func8, Try.ntmps8
      go_wp2_with fail
      go_ret
      exact ⟨rfl, by rw [← hst]⟩
theorem Set.new (w : World) (n : Int) : Set (w.alloc (.cells (M.cells (M.most n) (fun _ => false)) 54)) w.heap.size (M.most n) (fun _ => false) :=
  ⟨Box.new _ _ _, M.most_le n, M.Below.none _⟩

theorem bitOf_any (i : Nat) (w : World) : Calls Try.prog 29 #[.int .i64 i] w fun e w' => e = .returned (.int .u8 ((2 ^ (i % 8) : Nat) : Int)) ∧ w' = w := by
  have e : ∀ k, k < 8 → (2 : Int) ^ k % 256 = ((2 ^ k : Nat) : Int) := by decide
  have e' := e (i % 8) (by omega)
  clear e
  rw [← e']
  clear e'
  go_enter Try.func29, Try.ntmps29
  go_wp2_with fail
  go_ret
  exact ⟨rfl, rfl⟩

theorem many_nil (w : World) : Calls Try.prog 23 #[.pointer none] w fun e w' => e = .returned (.int .i64 0) ∧ w' = w := by
  go_enter Try.func23, Try.ntmps23
  go_wp2_with fail
  go_ret
  exact ⟨rfl, rfl⟩
theorem many_any (w : World) {b m : Nat} {f : Nat → Bool} (h : Set w b m f) : Calls Try.prog 23 #[.pointer (some ⟨b, 0, none⟩)] w fun e w' => e = .returned (.int .i64 (m : Nat)) ∧ w' = w := by
  have h0 := h.c0
  clear h
  go_enter Try.func23, Try.ntmps23
  go_wp2_with fail
  go_ret
  exact ⟨rfl, rfl⟩
/-- A set, or none (of 0 numbers). -/
def SetN (w : World) (p : Option Addr) (m : Nat) (f : Nat → Bool) : Prop := (p = none ∧ m = 0 ∧ f = fun _ => false) ∨ ∃ b, p = some ⟨b, 0, none⟩ ∧ Set w b m f
theorem SetN.drewN {w : World} {p : Option Addr} {m : Nat} {f : Nat → Bool} (h : SetN w p m f) (n : Nat) : SetN (w.drewN n) p m f := h.imp id (fun ⟨b, e, hs⟩ => ⟨b, e, hs.drewN n⟩)
theorem SetN.le {w : World} {p : Option Addr} {m : Nat} {f : Nat → Bool} (h : SetN w p m f) : m ≤ 1000 := by
  rcases h with ⟨_, e, _⟩ | ⟨b, _, hs⟩
  · omega
  · exact hs.le
theorem SetN.low {w : World} {p : Option Addr} {m : Nat} {f : Nat → Bool} (h : SetN w p m f) : M.Below m f := by
  rcases h with ⟨_, _, e⟩ | ⟨b, _, hs⟩
  · rw [e]; exact M.Below.none _
  · exact hs.low
theorem SetN.below {w w' : World} {p : Option Addr} {m : Nat} {f : Nat → Bool} (h : SetN w p m f) (hk : Below w.heap.size w w') : SetN w' p m f :=
  h.imp id (fun ⟨b, e, hs⟩ => ⟨b, e, hs.below hk hs.box.lt⟩)
theorem Set.n {w : World} {b m : Nat} {f : Nat → Bool} (h : Set w b m f) : SetN w (some ⟨b, 0, none⟩) m f := Or.inr ⟨b, rfl, h⟩
theorem SetN.nil (w : World) : SetN w none 0 (fun _ => false) := Or.inl ⟨rfl, rfl, rfl⟩
theorem many_n (w : World) {p : Option Addr} {m : Nat} {f : Nat → Bool} (h : SetN w p m f) : Calls Try.prog 23 #[.pointer p] w fun e w' => e = .returned (.int .i64 (m : Nat)) ∧ w' = w := by
  rcases h with ⟨rfl, rfl, _⟩ | ⟨b, rfl, hs⟩
  · exact many_nil w
  · exact many_any w hs

theorem may_n (i : Int) (w : World) {p : Option Addr} {m : Nat} {f : Nat → Bool} (h : SetN w p m f) :
    Calls Try.prog 28 #[.pointer p, .int .i64 i] w fun e w' => e = .returned (.bool (decide (0 ≤ i) && decide (i < (m : Int)))) ∧ w' = w := by
  have HM := Lib.hid (many_n w h)
  clear h
  by_cases h0 : 0 ≤ i
  · have hd : decide (0 ≤ i) = true := by simpa using h0
    rw [hd, Bool.true_and]
    clear h0
    go_enter Try.func28, Try.ntmps28
    go_wp2_with fail
    refine HM.out.mono ?_
    rintro e w1 ⟨rfl, rfl⟩
    go_wp2_with fail
    go_ret
    exact ⟨rfl, rfl⟩
  · have hd : decide (0 ≤ i) = false := by simpa using h0
    rw [hd, Bool.false_and]
    clear h0
    go_enter Try.func28, Try.ntmps28
    go_wp2_with fail
    go_ret
    exact ⟨rfl, rfl⟩

theorem width_n (w : World) {p : Option Addr} {m : Nat} {f : Nat → Bool} (h : SetN w p m f) :
    Calls Try.prog 31 #[.pointer p] w fun e w' => e = .returned (.int .i64 (M.wide m : Nat)) ∧ w' = w := by
  have HM := Lib.hid (many_n w h)
  have hm := h.le
  have e : ((m : Int) + 8 - 1) / 8 = (M.wide m : Nat) := by unfold M.wide; omega
  clear h
  rw [← e]
  clear e
  go_enter Try.func31, Try.ntmps31
  go_wp2_with fail
  refine HM.out.mono ?_
  rintro e w1 ⟨rfl, rfl⟩
  go_wp2_with fail
  go_ret
  exact ⟨rfl, rfl⟩

set_option maxHeartbeats 1000000 in
theorem has_in (i : Nat) (w : World) {b m : Nat} {f : Nat → Bool} (h : Set w b m f) (hi : i < m) :
    Calls Try.prog 17 #[.pointer (some ⟨b, 0, none⟩), .int .i64 i] w fun e w' => e = .returned (.bool (f i)) ∧ ∃ n, w' = w.drewN n := by
  have hm := h.le
  have hi8 : i / 8 < 125 := by omega
  have hc := h.c1 (i / 8) hi8
  have HM := Lib.hid (fun n => may_n i (w.drewN n) (h.drewN n).n)
  have HB := Lib.hid (fun n => bitOf_any i (w.drewN n))
  have e1 : (decide ((0 : Int) ≤ (i : Int)) && decide ((i : Int) < (m : Int))) = true := by simp; omega
  rw [e1] at HM
  clear e1
  have hq : (i : Int) / 8 = ((i / 8 : Nat) : Int) := by omega
  have hand : bits .and .u8 (M.byte f (i / 8) : Nat) ((2 ^ (i % 8) : Nat) : Int) = ((if f i then 2 ^ (i % 8) else 0 : Nat) : Int) := by
    rw [← M.byte_has]
    exact u8_and_nat _ _ (M.byte_lt _ _) (Nat.pow_lt_pow_right (by omega) (by omega : i % 8 < 8))
  obtain ⟨x, hx⟩ : ∃ x : Nat, x = if f i then 2 ^ (i % 8) else 0 := ⟨_, rfl⟩
  rw [← hx] at hand
  have hne : ((x : Int) != 0) = f i := by
    rw [hx]
    have : (0 : Nat) < 2 ^ (i % 8) := Nat.two_pow_pos _
    cases f i
    · simp
    · simp only [if_true]
      rw [bne_iff_ne]
      omega
  obtain ⟨y, hy⟩ : ∃ y, y = 2 ^ (i % 8) := ⟨_, rfl⟩
  rw [← hy] at hand HB
  obtain ⟨z, hz⟩ : ∃ z, z = M.byte f (i / 8) := ⟨_, rfl⟩
  rw [← hz] at hand hc
  obtain ⟨q, hq'⟩ : ∃ q, q = i / 8 := ⟨_, rfl⟩
  rw [← hq'] at hq hc hi8
  have hq0 : (0 : Int) ≤ (q : Int) := by omega
  have hq1 : (q : Int) < 125 := by omega
  obtain ⟨v, hv⟩ : ∃ v, v = f i := ⟨_, rfl⟩
  rw [← hv] at hne
  rw [← hv]
  clear h hx hy hz hq' hv
  have HN := Lib.hid hne
  clear hne
  go_enter Try.func17, Try.ntmps17
  go_wp2_with fail
  go_quiet (first | (go_at_call 28; exact quiet_same (HM.out _)) | (go_at_call 29; exact quiet_same (HB.out _)))
  go_wp2_with fail
  go_ret
  exact ⟨by rw [← HN.out]; rfl, _, rfl⟩

/-- Is i one of the set? -/
def M.hasI (f : Nat → Bool) (i : Int) : Bool := decide (0 ≤ i) && f i.toNat
theorem M.hasI_nat (f : Nat → Bool) (i : Nat) : M.hasI f (i : Int) = f i := by simp [M.hasI]
theorem M.hasI_out {m : Nat} {f : Nat → Bool} (h : M.Below m f) {i : Int} (hi : i < 0 ∨ (m : Int) ≤ i) : M.hasI f i = false := by
  unfold M.hasI
  rcases hi with hi | hi
  · have : ¬ 0 ≤ i := by omega
    simp [this]
  · rw [h i.toNat (by omega), Bool.and_false]
theorem has_out (i : Int) (w : World) {p : Option Addr} {m : Nat} {f : Nat → Bool} (h : SetN w p m f) (hi : i < 0 ∨ (m : Int) ≤ i) :
    Calls Try.prog 17 #[.pointer p, .int .i64 i] w fun e w' => e = .returned (.bool false) ∧ ∃ n, w' = w.drewN n := by
  have HM := Lib.hid (fun n => may_n i (w.drewN n) (h.drewN n))
  have e1 : (decide ((0 : Int) ≤ i) && decide (i < (m : Int))) = false := by simp; omega
  rw [e1] at HM
  clear e1 h hi
  go_enter Try.func17, Try.ntmps17
  go_wp2_with fail
  go_quiet (first | (go_at_call 28; exact quiet_same (HM.out _)))
  go_wp2_with fail
  go_ret
  exact ⟨rfl, _, rfl⟩
theorem has_n (i : Int) (w : World) {p : Option Addr} {m : Nat} {f : Nat → Bool} (h : SetN w p m f) :
    Calls Try.prog 17 #[.pointer p, .int .i64 i] w fun e w' => e = .returned (.bool (M.hasI f i)) ∧ ∃ n, w' = w.drewN n := by
  by_cases hi : i < 0 ∨ (m : Int) ≤ i
  · rw [M.hasI_out h.low hi]
    exact has_out i w h hi
  · obtain ⟨j, rfl⟩ : ∃ j : Nat, i = j := ⟨i.toNat, by omega⟩
    rw [M.hasI_nat]
    rcases h with ⟨_, e, _⟩ | ⟨b, rfl, hs⟩
    · omega
    · exact has_in j w hs (by omega)
theorem bytes_nil (w : World) : Calls Try.prog 24 #[.pointer none] w fun e w' => e = .returned (.string ⟨#[]⟩) ∧ w' = w := by
  go_enter Try.func24, Try.ntmps24
  go_wp2_with fail
  go_ret
  exact ⟨rfl, rfl⟩
end Go.Proofs.Ytmgppfehgjildaa
