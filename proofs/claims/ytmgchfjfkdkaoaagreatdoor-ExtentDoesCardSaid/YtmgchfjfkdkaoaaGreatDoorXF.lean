/-
  A slice of steps (an extent, bytes) as an argument. A walk over solderlaw20.Great. Walks over solderlaw18.Small.
-/
import Derived.Test.YtmgchfjfkdkaoaaGreatDoorTB
import Derived.Test.YtmgchfjfkdkaoaaGreatDoorIA
import Derived.Deep.Slices
import Derived.ChangeSame
import Derived.OpenShut
namespace Go.Proofs.YtmgchfjfkdkaoaaGreatDoor
open Go.RowKit Go.Maps

theorem Tryz.cellsInt20 : Tryz.prog.cellsOf 3 = 1 := by kernel_rfl
theorem Tryz.cellsString20 : Tryz.prog.cellsOf 9 = 1 := by kernel_rfl
theorem add_block20 (a : Addr) (n : Nat) : (a.add n).block = a.block := by unfold Addr.add; split <;> rfl
theorem add_one20 (a : Addr) (m j : Nat) (hj : j ≠ 0) : a.add (m + j) = ⟨(a.add m).block, (a.add m).off + j, none⟩ := by
  unfold Addr.add
  by_cases h : m = 0
  · subst h
    simp [hj]
  · simp [h]
    omega
/-- A step in memory. -/
def Op20 (w : World) (ad : Addr) (x : Int) (d : ByteArray) : Prop := w.cell? ad = some (.int .i64 x) ∧ w.cell? ⟨ad.block, ad.off + 1, none⟩ = some (.string d)
theorem Op20.below {w y : World} {N : Nat} {ad : Addr} {x : Int} {d : ByteArray} (h : Op20 w ad x d) (hb : Below N w y) (hl : ad.block < N) : Op20 y ad x d :=
  ⟨(hb.cell hl).trans h.1, (hb.cell (p := ⟨ad.block, ad.off + 1, none⟩) hl).trans h.2⟩
/-- Steps that X and D tell, in blocks below N. -/
def Row20 (w : World) (N : Nat) (A : Option Addr) (len : Nat) (X : Nat → Int) (D : Nat → ByteArray) : Prop := ∀ i, i < len → ∃ ad : Addr, A = some ad ∧ ad.block < N ∧ Op20 w (ad.add (i * 2)) (X i) (D i)
theorem Row20.below {w y : World} {N : Nat} {A : Option Addr} {len : Nat} {X : Nat → Int} {D : Nat → ByteArray} (h : Row20 w N A len X D) (hb : Below N w y) : Row20 y N A len X D := fun i hi => by
  obtain ⟨ad, h1, h2, h3⟩ := h i hi
  exact ⟨ad, h1, h2, h3.below hb (by rw [add_block20]; exact h2)⟩
theorem Row20.more {w : World} {N M : Nat} {A : Option Addr} {len : Nat} {X : Nat → Int} {D : Nat → ByteArray} (h : Row20 w N A len X D) (hn : N ≤ M) : Row20 w M A len X D := fun i hi => by
  obtain ⟨ad, h1, h2, h3⟩ := h i hi
  exact ⟨ad, h1, by omega, h3⟩
/-- v is a slice of these, in blocks of w. -/
def OpsAt20 (w : World) (v : Value) : Prop := ∃ (A : Option Addr) (len cap : Nat) (X : Nat → Int) (D : Nat → ByteArray), v = .slice A len cap ∧ (len : Int) ≤ 9223372036854775807 ∧ Row20 w w.heap.size A len X D
open Go.ChangeShapes Go.WideShapes Go.ChangeAt Go.Deep
set_option maxRecDepth 100000 in
theorem extentDoes_open1 {H : Type} {enc : TypeId × Value → H} {W : World} {r : Reach} {b0 : Nat} {v : Value} {d : DataW H} {p : List MemPlace} (hval : Value.okWide Tryz.prog W r b0 24 v)
    (h : DataW.Trod enc Tryz.prog W 0 (fun _ => true) true 24 v d p) : OpsAt20 W v := by
  obtain ⟨A, len, cap, rfl⟩ := okWide_slice Tryz.underlying24 hval
  obtain ⟨fuel, hf⟩ := h
  rcases open_slice Tryz.underlying24 hf with ⟨hc, _⟩ | ⟨a, l, c, m, k, D, Pl, hc, _, hl, hcm, hmm, _, hall⟩
  · simp [Value.cells] at hc
    obtain ⟨rfl, rfl, rfl⟩ := hc
    exact ⟨none, 0, 0, fun _ => 0, fun _ => ⟨#[]⟩, rfl, by omega, fun i hi => absurd hi (by omega)⟩
  · simp [Value.cells] at hc
    obtain ⟨rfl, rfl, rfl⟩ := hc
    simp only [if_true] at hmm
    subst hmm
    have key : ∀ i : Nat, ∃ q : Int × ByteArray, i < len → ∃ ad : Addr, some a = some ad ∧ ad.block < W.heap.size ∧ Op20 W (ad.add (i * 2)) q.1 q.2 := fun i => by
      by_cases hi : i < len
      · obtain ⟨cs, h1, h2⟩ := hall i (by omega)
        have ce : Tryz.prog.cellsOf 39 = 2 := by kernel_rfl
        rw [ce] at h1
        obtain ⟨_, hlen, hcell⟩ := World.cells?_some h1
        match cs, hlen with
        | [v0, v1], _ =>
          obtain ⟨y0, y1, k', _, _, g0, g1⟩ := trod_struct2 Tryz.underlying39 h2
          replace g0 : DataW.trod enc Tryz.prog W 0 (fun _ => true) true k' 3 (([v0, v1].drop 0).take (Tryz.prog.cellsOf 3)) = some y0 := g0
          replace g1 : DataW.trod enc Tryz.prog W 0 (fun _ => true) true k' 9 (([v0, v1].drop 1).take (Tryz.prog.cellsOf 9)) = some y1 := g1
          rw [Tryz.cellsInt20] at g0
          rw [Tryz.cellsString20] at g1
          obtain ⟨n0, e0, _, _⟩ := DataW.trod_int Tryz.underlying3 g0
          obtain ⟨n1, e1, _, _⟩ := DataW.trod_string Tryz.underlying9 g1
          obtain rfl : v0 = .int .i64 n0 := by have h : [v0] = [Value.int .i64 n0] := e0; simpa using h
          obtain rfl : v1 = .string n1 := by have h : [v1] = [Value.string n1] := e1; simpa using h
          have c0 := hcell 0 (by omega)
          have c1 := hcell 1 (by omega)
          rw [add_add] at c0 c1
          have hlt : a.block < W.heap.size := by
            have := World.block_lt_of_cell? W _ c0
            rwa [add_block20] at this
          refine ⟨(n0, n1), fun _ => ⟨a, rfl, hlt, ?_, ?_⟩⟩
          · rw [Nat.add_zero] at c0; rw [c0]; simp
          · rw [← add_one20 _ _ 1 (by omega), c1]; simp
      · exact ⟨(0, ⟨#[]⟩), fun e => absurd e hi⟩
    obtain ⟨f, hf⟩ := Classical.axiomOfChoice key
    have h63 : (len : Int) ≤ 9223372036854775807 := by
      have h1 := Nat.le_trans hl hcm
      unfold maxLen at h1
      omega
    exact ⟨some a, len, m, fun i => (f i).1, fun i => (f i).2, rfl, h63, hf⟩

set_option maxRecDepth 100000 in
set_option maxHeartbeats 1000000 in
theorem great20_any (A : Option Addr) (len cap N : Nat) (X : Nat → Int) (D : Nat → ByteArray) (y : World) (h : Row20 y N A len X D) (hl63 : (len : Int) ≤ 9223372036854775807) :
    Calls Tryz.prog 7 #[.slice A len cap] y fun e y' => (e = .returned (.bool true) ∧ y' = y) ∨ (e = .returned (.bool false) ∧ y' = y ∧ Hid (len ≤ 60 ∧ ∀ i, i < len → (D i).size ≤ 1000)) := by
  have HF := Lib.hid (fun i (hi : i < len) => h i hi)
  clear h
  go_enter Tryz.func7, Tryz.ntmps7
  go_wp2_with fail
  go_loopw [3] (fun j wr => ∃ k : Nat, k ≤ len ∧ k ≤ 60 ∧ j = .int .i64 k ∧ wr = y ∧ Hid (∀ i, i < k → (D i).size ≤ 1000)) (fun j _ => len - (intOf j).toNat)
  case atStart => exact ⟨0, Nat.zero_le _, Nat.zero_le _, rfl, rfl, fun i hi => absurd hi (by omega)⟩
  case round =>
    obtain ⟨k, hk, hk1, rfl, rfl, HA⟩ := hrel
    by_cases hlt : k < len
    · have hk0 : (0 : Int) ≤ (k : Int) := by omega
      have hlt' : (k : Int) < (len : Int) := by omega
      by_cases h1 : k < 60
      · have h1' : decide ((60 : Int) ≤ (k : Int)) = false := by simp; omega
        obtain ⟨ad, rfl, -, x0, x1⟩ := HF.out k hlt
        obtain ⟨t, ht⟩ : ∃ t, t = D k := ⟨_, rfl⟩
        rw [← ht] at x1
        by_cases h5 : t.size ≤ 1000
        · have h5' : decide ((1000 : Int) < (t.size : Int)) = false := by simp; omega
          have HN : Hid (∀ i, i < k + 1 → (D i).size ≤ 1000) := fun i hi => by
            by_cases e : i = k
            · rw [e, ← ht]; exact h5
            · exact HA.out i (by omega)
          clear x0 ht
          go_wp2_with fail
          try (go_quiet (fail); go_wp2_with fail)
          go_roundw
          case rel => exact ⟨k + 1, by omega, by omega, by go_num, (by first | rfl | trivial), HN⟩
          case measure => simp [intOf]; omega
        · have h5' : decide ((1000 : Int) < (t.size : Int)) = true := by simp; omega
          clear x0 ht
          go_wp2_with fail
          go_ret
          first | exact Or.inl ⟨rfl, rfl⟩ | exact Or.inl rfl
      · have h1' : decide ((60 : Int) ≤ (k : Int)) = true := by simp; omega
        go_wp2_with fail
        go_ret
        first | exact Or.inl ⟨rfl, rfl⟩ | exact Or.inl rfl
    · have e : k = len := by omega
      subst e
      clear hlt
      have HE : Hid (k ≤ 60 ∧ ∀ i, i < k → (D i).size ≤ 1000) := ⟨hk1, HA.out⟩
      go_wp2_with fail
      go_ret
      first | exact Or.inr ⟨rfl, rfl, HE⟩ | exact Or.inr ⟨rfl, HE⟩
end Go.Proofs.YtmgchfjfkdkaoaaGreatDoor
namespace Go.Proofs.YtmgchfjfkdkaoaaGreatDoor
open Go.RowKit

abbrev Cc (a b c : Int) : Obj := .cells #[.int .i64 a, .int .i64 b, .int .i64 c] 23
set_option maxHeartbeats 1000000 in
theorem small18_no (a b c : Int) (hl : M.lokB a b c = false) (w : World) : Calls Tryz.prog 8 #[Cf a b c] w fun e z => e = .returned (.bool true) ∧ Below w.heap.size w z := by
  have C1 := Lib.hid (fun x => check15_any a b c x)
  rw [M.lerr_no hl] at C1
  have HB := Lib.hid (ib1 w (Cc a b c))
  clear hl
  go_enter Tryz.func8, Tryz.ntmps8
  go_wp2_with fail
  refine (C1.out _).mono ?_
  rintro e z1 ⟨rfl, hb⟩
  have HB1 := Lib.hid (HB.out.trans (hb.mono HB.out.size))
  clear hb
  go_wp2_with fail
  go_ret
  exact ⟨rfl, HB1.out⟩
set_option maxHeartbeats 1000000 in
theorem small18_ok (E S L : Nat) (h : M.lokB E S L = true) (w : World) : Calls Tryz.prog 8 #[Cf E S L] w fun e z => e = .returned (.bool (decide ((L : Int) ≤ 60))) ∧ Below w.heap.size w z := by
  have C1 := Lib.hid (fun x => check15_any E S L x)
  rw [M.lerr_ok h] at C1
  have HB := Lib.hid (ib1 w (Cc E S L))
  have HX : Hid (Box (w.alloc (Cc E S L)) w.heap.size 23 #[.int .i64 E, .int .i64 S, .int .i64 L]) := Box.new _ _ _
  clear h
  go_enter Tryz.func8, Tryz.ntmps8
  go_wp2_with fail
  refine (C1.out _).mono ?_
  rintro e z1 ⟨rfl, hb⟩
  have HB1 := Lib.hid (HB.out.trans (hb.mono HB.out.size))
  have HX1 := Lib.hid (HX.out.below hb HX.out.lt)
  clear hb
  have c2 := (HX1.out.cell 2).trans (rfl : _ = some (Value.int .i64 L))
  go_wp2_with fail
  go_ret
  exact ⟨rfl, HB1.out⟩
end Go.Proofs.YtmgchfjfkdkaoaaGreatDoor
