/-
  Walk over solderlaw07.MarksDoes.
-/
import Derived.Test.YtmgppfehgjildaaKBoth
import Derived.Test.YtmgppfehgjildaaKSame
import Derived.Deep.SlicePairs
import Derived.ChangeOld
import Derived.ProofKit
import Derived.OpenShut
namespace Go.Proofs.Ytmgppfehgjildaa
open Go.RowKit Go.ChangeShapes Go.WideShapes Go.ChangeAt Go.Deep

theorem block_add (a : Addr) (n : Nat) : (a.add n).block = a.block := by unfold Addr.add; split <;> rfl
theorem add_next (a : Addr) (m : Nat) : a.add (m + 1) = ⟨(a.add m).block, (a.add m).off + 1, none⟩ := by
  unfold Addr.add
  by_cases h : m = 0
  · subst h; simp
  · simp [h]; omega

/-- v is a slice of steps: at each index two numbers stand, in a block of w. -/
def StepsAt (w : World) (v : Value) : Prop := ∃ (A : Option Addr) (len cap : Nat), v = .slice A len cap ∧
  ∀ i, i < len → ∃ (ad : Addr) (q n : Int), A = some ad ∧ ad.block < w.heap.size ∧ w.cell? (ad.add (i * 2)) = some (.int .i64 q) ∧ w.cell? (ad.add (i * 2 + 1)) = some (.int .i64 n)

theorem marksDoes_open1 {H : Type} {enc : TypeId × Value → H} {W : World} {r : Reach} {b0 : Nat} {v : Value} {d : DataW H} {p : List MemPlace} (hval : Value.okWide Try.prog W r b0 22 v)
    (h : DataW.Trod enc Try.prog W 0 (fun _ => true) true 22 v d p) : StepsAt W v := by
  obtain ⟨A, len, cap, rfl⟩ := okWide_slice Try.underlying22 hval
  obtain ⟨fuel, hf⟩ := h
  rcases open_slice_pairs Try.underlying22 Try.underlying29 (by kernel_rfl) rfl rfl (by kernel_rfl) (by kernel_rfl) hf with ⟨hc, _⟩ | ⟨a, l, c, m, k, V0, V1, D0, D1, P0, P1, hc, _, hl, _, hmm, _, hall⟩
  · simp [Value.cells] at hc
    obtain ⟨rfl, rfl, rfl⟩ := hc
    exact ⟨none, 0, 0, rfl, fun i hi => absurd hi (by omega)⟩
  · simp [Value.cells] at hc
    obtain ⟨rfl, rfl, rfl⟩ := hc
    simp only [if_true] at hmm
    subst hmm
    refine ⟨some a, len, m, rfl, fun i hi => ?_⟩
    obtain ⟨c0, c1, t0, t1⟩ := hall i (by omega)
    obtain ⟨q, h1, _, _⟩ := DataW.trod_int Try.underlying3 t0
    obtain ⟨n, h2, _, _⟩ := DataW.trod_int Try.underlying3 t1
    simp only [List.cons.injEq, and_true] at h1 h2
    rw [h1] at c0
    rw [h2] at c1
    have hlt := World.block_lt_of_cell? W _ c0
    rw [block_add] at hlt
    exact ⟨a, q, n, rfl, hlt, c0, c1⟩

/-- What holds at a round's head. -/
def AtHead (W : World) (a b m len : Nat) (j : Value) (wr : World) : Prop :=
  ∃ (k : Nat) (f : Nat → Bool), k ≤ len ∧ j = .int .i64 k ∧ Both W a b m f f wr

set_option maxHeartbeats 4000000 in
set_option maxRecDepth 100000 in
theorem marksDoes_few (n : Int) (A : Option Addr) (len cap : Nat) (w : World) (hl : len ≤ 100)
    (hO : ∀ i, i < len → ∃ (ad : Addr) (q n : Int), A = some ad ∧ ad.block < w.heap.size ∧ w.cell? (ad.add (i * 2)) = some (.int .i64 q) ∧ w.cell? (ad.add (i * 2 + 1)) = some (.int .i64 n)) :
    Calls Try.prog 3 #[.int .i64 n, .slice A len cap] w fun e w' => e = .returned (.bool true) ∧ Below w.heap.size w w' := by
  have hd : decide ((100 : Int) < (len : Int)) = false := by simp; omega
  have HO := Lib.hid hO
  clear hO
  go_enter Try.func3, Try.ntmps3
  go_wp2_with fail
  refine (works_any w).mono ?_
  rintro e w1 ⟨rfl, hb1⟩
  have HB1 := Lib.hid hb1
  clear hb1
  go_wp2_with fail
  refine (new_any n w1).mono ?_
  rintro e w2 ⟨rfl, hw2⟩
  have HS2 : Hid (Set w2 w1.heap.size (M.most n) (fun _ => false)) := by rw [hw2]; exact Set.new w1 n
  have HB2 : Hid (Below w.heap.size w w2) := by rw [hw2]; exact HB1.out.alloc HB1.out.size _
  have hz2 : Hid (w2.heap.size = w1.heap.size + 1) := by rw [hw2]; simp [Hid]
  have hz1 : Hid (w.heap.size ≤ w1.heap.size) := HB1.out.size
  obtain ⟨a, ha⟩ : ∃ a, a = w1.heap.size := ⟨_, rfl⟩
  rw [← ha] at HS2 hz2 hz1
  rw [← ha]
  clear hw2 ha HB1
  go_wp2_with fail
  refine (refNew_any n w2).mono ?_
  rintro e w3 ⟨rfl, hR3, hb3, _⟩
  have HX0 : Hid (Both w a (w2.heap.size + 1) (M.most n) (fun _ => false) (fun _ => false) w3) := by
    have z1 := hz1.out
    have z2 := hz2.out
    exact ⟨_, _, HS2.out.below hb3 HS2.out.box.lt, hR3, HB2.out.trans (hb3.mono HB2.out.size), by omega, by omega, by omega, by omega, by omega⟩
  obtain ⟨b, hb⟩ : ∃ b, b = w2.heap.size + 1 := ⟨_, rfl⟩
  rw [← hb] at HX0
  rw [← hb]
  obtain ⟨m, hm⟩ : ∃ m, m = M.most n := ⟨_, rfl⟩
  rw [← hm] at HX0
  clear hR3 hb3 hb hm HS2 HB2 hz1 hz2
  go_wp2_with fail
  go_loopw [7] (fun j wr => AtHead w a b m len j wr) (fun j _ => len - (intOf j).toNat)
  case atStart => exact ⟨0, _, Nat.zero_le _, rfl, HX0.out⟩
  case round =>
    obtain ⟨k, f, hk, rfl, hX⟩ := hrel
    have HXr := Lib.hid hX
    clear hX HX0
    by_cases hlt : k < len
    · obtain ⟨ad, q, v, rfl, hbl, hc0, hc1⟩ := HO.out k hlt
      have hk0 : (0 : Int) ≤ (k : Int) := by omega
      have hk1 : (k : Int) < (len : Int) := by omega
      have hc0 : wr.cell? (ad.add (k * 2)) = some (.int .i64 q) := (HXr.out.low.cell (by rw [block_add]; exact hbl)).trans hc0
      have HCELL : Hid (∀ y : World, Below w.heap.size w y → y.cell? ⟨(ad.add (k * 2)).block, (ad.add (k * 2)).off + 1, none⟩ = some (.int .i64 v)) := fun y hy => by rw [← add_next]; exact (hy.cell (by rw [block_add]; exact hbl)).trans hc1
      have hc1 := HCELL.out wr HXr.out.low
      clear HO hbl
      have hq : q = 0 ∨ q = 1 ∨ (q ≠ 0 ∧ q ≠ 1) := by omega
      rcases hq with rfl | rfl | hq
      · -- Add
        have C1 := Lib.hid (fun y (h : Both w a b m f f y) => aAdd v h)
        obtain ⟨f', hf'⟩ : ∃ f', f' = M.putI m f v true := ⟨_, rfl⟩
        have C2 := Lib.hid (fun y (h : Both w a b m f' f y) => bPut v true h)
        obtain ⟨e1, he1⟩ : ∃ e1, e1 = M.putB m f v true := ⟨_, rfl⟩
        rw [← hf', ← he1] at C1 C2
        have z0 : (e1 != e1) = false := by simp
        clear hf' he1
        go_wp2_with fail
        go_region_held3 (fun y => y.cell? ⟨(ad.add (k * 2)).block, (ad.add (k * 2)).off + 1, none⟩ = some (.int .i64 v)) (first | exact hc1 | exact p4 | exact p5)
          (first
           | (go_at_call 10; refine (C1.out _ HXr.out.drew).mono ?_; rintro e w4 ⟨rfl, hX4⟩
              have HX4 := Lib.hid hX4
              have p4 := HCELL.out w4 hX4.low
              clear hX4)
           | (go_at_call 11; refine (C2.out _ (by first | exact HX4.out | exact HX4.out.drew)).mono ?_; rintro e w5 ⟨rfl, hX5⟩
              have HX5 := Lib.hid hX5
              have p5 := HCELL.out w5 hX5.low
              clear hX5))
        clear hc0 hc1 p4 HX4 HXr C1 C2
        go_wp2_with fail
        have C3 := Lib.hid (fun y (h : Both w a b m f' f' y) => aNext v h)
        have C4 := Lib.hid (fun y (h : Both w a b m f' f' y) => bNext v h)
        have C5 := Lib.hid (fun y (h : Both w a b m f' f' y) => aFree h)
        have C6 := Lib.hid (fun y (h : Both w a b m f' f' y) => bFree h)
        have C7 := Lib.hid (fun y (h : Both w a b m f' f' y) => aHas v h)
        have C8 := Lib.hid (fun y (h : Both w a b m f' f' y) => bHas v h)
        obtain ⟨x1, hx1⟩ : ∃ x, x = M.num (M.next m f' v) := ⟨_, rfl⟩
        obtain ⟨x2, hx2⟩ : ∃ x, x = (M.next m f' v).isSome := ⟨_, rfl⟩
        obtain ⟨x3, hx3⟩ : ∃ x, x = M.num (M.free m f') := ⟨_, rfl⟩
        obtain ⟨x4, hx4⟩ : ∃ x, x = (M.free m f').isSome := ⟨_, rfl⟩
        obtain ⟨x5, hx5⟩ : ∃ x, x = M.hasI f' v := ⟨_, rfl⟩
        rw [← hx1, ← hx2] at C3 C4
        rw [← hx3, ← hx4] at C5 C6
        rw [← hx5] at C7 C8
        have z1 : (x1 != x1) = false := by simp
        have z2 : (x2 != x2) = false := by simp
        have z3 : (x3 != x3) = false := by simp
        have z4 : (x4 != x4) = false := by simp
        have z5 : (x5 != x5) = false := by simp
        clear hx1 hx2 hx3 hx4 hx5
        have pt := HCELL.out _ HX5.out.low
        go_wp2_with fail
        refine (C3.out _ HX5.out).mono ?_
        rintro e w7 ⟨rfl, hX7⟩
        have HX7 := Lib.hid hX7
        have p7 := HCELL.out w7 hX7.low
        clear hX7 pt HX5
        go_wp2_with fail
        refine (C4.out _ HX7.out).mono ?_
        rintro e w8 ⟨rfl, hX8⟩
        have HX8 := Lib.hid hX8
        clear hX8 p7 HX7
        go_wp2_with fail
        refine (C5.out _ HX8.out).mono ?_
        rintro e w9 ⟨rfl, hX9⟩
        have HX9 := Lib.hid hX9
        clear hX9 HX8
        go_wp2_with fail
        refine (C6.out _ HX9.out).mono ?_
        rintro e u ⟨rfl, hXu⟩
        have HXu := Lib.hid hXu
        have pu := HCELL.out u hXu.low
        have HH1 := Lib.hid (fun n => C7.out _ (HXu.out.drewN n))
        have HH2 := Lib.hid (fun n => C8.out _ (HXu.out.drewN n))
        clear hXu HX9 C3 C4 C5 C6 C7 C8 HCELL
        go_wp2_with fail
        go_quiet ((first
          | (go_at_call 17; exact quiet_more (HH1.out _))
          | (go_at_call 18; exact quiet_same (HH2.out _))))
        go_wp2_with fail
        go_roundw
        case rel => exact ⟨k + 1, f', by omega, by go_num, HXu.out.drewN _⟩
        case measure => simp [intOf]; omega
      · -- Remove
        have C1 := Lib.hid (fun y (h : Both w a b m f f y) => aRemove v h)
        obtain ⟨f', hf'⟩ : ∃ f', f' = M.putI m f v false := ⟨_, rfl⟩
        have C2 := Lib.hid (fun y (h : Both w a b m f' f y) => bPut v false h)
        obtain ⟨e1, he1⟩ : ∃ e1, e1 = M.putB m f v false := ⟨_, rfl⟩
        rw [← hf', ← he1] at C1 C2
        have z0 : (e1 != e1) = false := by simp
        clear hf' he1
        go_wp2_with fail
        go_region_held3 (fun y => y.cell? ⟨(ad.add (k * 2)).block, (ad.add (k * 2)).off + 1, none⟩ = some (.int .i64 v)) (first | exact hc1 | exact p4 | exact p5)
          (first
           | (go_at_call 12; refine (C1.out _ HXr.out.drew).mono ?_; rintro e w4 ⟨rfl, hX4⟩
              have HX4 := Lib.hid hX4
              have p4 := HCELL.out w4 hX4.low
              clear hX4)
           | (go_at_call 11; refine (C2.out _ (by first | exact HX4.out | exact HX4.out.drew)).mono ?_; rintro e w5 ⟨rfl, hX5⟩
              have HX5 := Lib.hid hX5
              have p5 := HCELL.out w5 hX5.low
              clear hX5))
        clear hc0 hc1 p4 HX4 HXr C1 C2
        go_wp2_with fail
        have C3 := Lib.hid (fun y (h : Both w a b m f' f' y) => aNext v h)
        have C4 := Lib.hid (fun y (h : Both w a b m f' f' y) => bNext v h)
        have C5 := Lib.hid (fun y (h : Both w a b m f' f' y) => aFree h)
        have C6 := Lib.hid (fun y (h : Both w a b m f' f' y) => bFree h)
        have C7 := Lib.hid (fun y (h : Both w a b m f' f' y) => aHas v h)
        have C8 := Lib.hid (fun y (h : Both w a b m f' f' y) => bHas v h)
        obtain ⟨x1, hx1⟩ : ∃ x, x = M.num (M.next m f' v) := ⟨_, rfl⟩
        obtain ⟨x2, hx2⟩ : ∃ x, x = (M.next m f' v).isSome := ⟨_, rfl⟩
        obtain ⟨x3, hx3⟩ : ∃ x, x = M.num (M.free m f') := ⟨_, rfl⟩
        obtain ⟨x4, hx4⟩ : ∃ x, x = (M.free m f').isSome := ⟨_, rfl⟩
        obtain ⟨x5, hx5⟩ : ∃ x, x = M.hasI f' v := ⟨_, rfl⟩
        rw [← hx1, ← hx2] at C3 C4
        rw [← hx3, ← hx4] at C5 C6
        rw [← hx5] at C7 C8
        have z1 : (x1 != x1) = false := by simp
        have z2 : (x2 != x2) = false := by simp
        have z3 : (x3 != x3) = false := by simp
        have z4 : (x4 != x4) = false := by simp
        have z5 : (x5 != x5) = false := by simp
        clear hx1 hx2 hx3 hx4 hx5
        have pt := HCELL.out _ HX5.out.low
        go_wp2_with fail
        refine (C3.out _ HX5.out).mono ?_
        rintro e w7 ⟨rfl, hX7⟩
        have HX7 := Lib.hid hX7
        have p7 := HCELL.out w7 hX7.low
        clear hX7 pt HX5
        go_wp2_with fail
        refine (C4.out _ HX7.out).mono ?_
        rintro e w8 ⟨rfl, hX8⟩
        have HX8 := Lib.hid hX8
        clear hX8 p7 HX7
        go_wp2_with fail
        refine (C5.out _ HX8.out).mono ?_
        rintro e w9 ⟨rfl, hX9⟩
        have HX9 := Lib.hid hX9
        clear hX9 HX8
        go_wp2_with fail
        refine (C6.out _ HX9.out).mono ?_
        rintro e u ⟨rfl, hXu⟩
        have HXu := Lib.hid hXu
        have pu := HCELL.out u hXu.low
        have HH1 := Lib.hid (fun n => C7.out _ (HXu.out.drewN n))
        have HH2 := Lib.hid (fun n => C8.out _ (HXu.out.drewN n))
        clear hXu HX9 C3 C4 C5 C6 C7 C8 HCELL
        go_wp2_with fail
        go_quiet ((first
          | (go_at_call 17; exact quiet_more (HH1.out _))
          | (go_at_call 18; exact quiet_same (HH2.out _))))
        go_wp2_with fail
        go_roundw
        case rel => exact ⟨k + 1, f', by omega, by go_num, HXu.out.drewN _⟩
        case measure => simp [intOf]; omega
      · -- a look
        obtain ⟨f', rfl⟩ : ∃ f', f' = f := ⟨_, rfl⟩
        have y0 : (q == 0) = false := by rw [beq_eq_false_iff_ne]; exact hq.1
        have y1 : (q == 1) = false := by rw [beq_eq_false_iff_ne]; exact hq.2
        clear hq
        have C3 := Lib.hid (fun y (h : Both w a b m f' f' y) => aNext v h)
        have C4 := Lib.hid (fun y (h : Both w a b m f' f' y) => bNext v h)
        have C5 := Lib.hid (fun y (h : Both w a b m f' f' y) => aFree h)
        have C6 := Lib.hid (fun y (h : Both w a b m f' f' y) => bFree h)
        have C7 := Lib.hid (fun y (h : Both w a b m f' f' y) => aHas v h)
        have C8 := Lib.hid (fun y (h : Both w a b m f' f' y) => bHas v h)
        obtain ⟨x1, hx1⟩ : ∃ x, x = M.num (M.next m f' v) := ⟨_, rfl⟩
        obtain ⟨x2, hx2⟩ : ∃ x, x = (M.next m f' v).isSome := ⟨_, rfl⟩
        obtain ⟨x3, hx3⟩ : ∃ x, x = M.num (M.free m f') := ⟨_, rfl⟩
        obtain ⟨x4, hx4⟩ : ∃ x, x = (M.free m f').isSome := ⟨_, rfl⟩
        obtain ⟨x5, hx5⟩ : ∃ x, x = M.hasI f' v := ⟨_, rfl⟩
        rw [← hx1, ← hx2] at C3 C4
        rw [← hx3, ← hx4] at C5 C6
        rw [← hx5] at C7 C8
        have z1 : (x1 != x1) = false := by simp
        have z2 : (x2 != x2) = false := by simp
        have z3 : (x3 != x3) = false := by simp
        have z4 : (x4 != x4) = false := by simp
        have z5 : (x5 != x5) = false := by simp
        clear hx1 hx2 hx3 hx4 hx5
        have pt := HCELL.out _ HXr.out.low
        go_wp2_with fail
        refine (C3.out _ HXr.out).mono ?_
        rintro e w7 ⟨rfl, hX7⟩
        have HX7 := Lib.hid hX7
        have p7 := HCELL.out w7 hX7.low
        clear hX7 pt HXr
        go_wp2_with fail
        refine (C4.out _ HX7.out).mono ?_
        rintro e w8 ⟨rfl, hX8⟩
        have HX8 := Lib.hid hX8
        clear hX8 p7 HX7
        go_wp2_with fail
        refine (C5.out _ HX8.out).mono ?_
        rintro e w9 ⟨rfl, hX9⟩
        have HX9 := Lib.hid hX9
        clear hX9 HX8
        go_wp2_with fail
        refine (C6.out _ HX9.out).mono ?_
        rintro e u ⟨rfl, hXu⟩
        have HXu := Lib.hid hXu
        have pu := HCELL.out u hXu.low
        have HH1 := Lib.hid (fun n => C7.out _ (HXu.out.drewN n))
        have HH2 := Lib.hid (fun n => C8.out _ (HXu.out.drewN n))
        clear hXu HX9 C3 C4 C5 C6 C7 C8 HCELL
        go_wp2_with fail
        go_quiet ((first
          | (go_at_call 17; exact quiet_more (HH1.out _))
          | (go_at_call 18; exact quiet_same (HH2.out _))))
        go_wp2_with fail
        go_roundw
        case rel => exact ⟨k + 1, f', by omega, by go_num, HXu.out.drewN _⟩
        case measure => simp [intOf]; omega
    · have ek : k = len := by omega
      subst ek
      go_wp2_with fail
      refine (bAll HXr.out).mono ?_
      rintro e u ⟨⟨wv, rfl, hw⟩, hXu⟩
      have hlow := hXu.low
      have hmle := hXu.le
      obtain ⟨g, c, hA, hR, _⟩ := hXu
      have HBu := Lib.hid hlow
      have HS : Hid (∀ y, Below u.heap.size u y → Set y a m f ∧ RSet y b g c m f ∧ Ints y wv (M.nums m f)) := fun y hy => ⟨hA.below hy hA.box.lt, hR.below hy, hw.below hy⟩
      have hlen := M.nums_len m f
      have hS0 := hR.c0
      have hb0 : Below u.heap.size u u := Below.refl _ _
      obtain ⟨Aw, cw, rfl, hcw, hcells⟩ := hw.parts
      have HCE := Lib.hid hcells
      clear hlow hA hR hw hcells HXr HO
      obtain ⟨L, hL⟩ : ∃ L, L = M.nums m f := ⟨_, rfl⟩
      rw [← hL] at HS hlen hcw HCE
      rw [← hL]
      have HT : Hid (∀ x q, Below u.heap.size u x → 1 ≤ q → Calls Try.prog 21 #[.pointer (some ⟨a, 0, none⟩), .int .i64 (q : Nat)] x fun e y => (∃ v, e = .returned v ∧ Ints y v (L.take q)) ∧ Below u.heap.size u y ∧ y.cell? ⟨b, 0, none⟩ = some (.slice (some ⟨g, 0, none⟩) m c)) := fun x q hx hq => by
        refine (all_some x (HS.out x hx).1 q hq).mono ?_
        rintro e y ⟨⟨v, he, hv⟩, hb⟩
        rw [← hL] at hv
        have hy := hx.trans (hb.mono hx.size)
        exact ⟨⟨v, he, hv⟩, hy, (HS.out y hy).2.1.c0⟩
      have C1 : Hid (∀ x, Below u.heap.size u x → Calls Try.prog 21 #[.pointer (some ⟨a, 0, none⟩), .int .i64 2000] x fun e y => (∃ v, e = .returned v ∧ Ints y v L) ∧ Below u.heap.size u y ∧ y.cell? ⟨b, 0, none⟩ = some (.slice (some ⟨g, 0, none⟩) m c)) := fun x hx => by
        have := HT.out x 2000 hx (by omega)
        rw [List.take_of_length_le (by omega)] at this
        exact this
      have C2 : Hid (∀ x, Below u.heap.size u x → Calls Try.prog 21 #[.pointer (some ⟨a, 0, none⟩), .int .i64 2] x fun e y => (∃ v, e = .returned v ∧ Ints y v (L.take 2)) ∧ Below u.heap.size u y ∧ y.cell? ⟨b, 0, none⟩ = some (.slice (some ⟨g, 0, none⟩) m c)) := fun x hx => HT.out x 2 hx (by omega)
      have C3 : Hid (∀ x v K, Below u.heap.size u x → Ints x v K → ∀ v', Ints x v' K → K.length ≤ 1000 → Calls Try.prog 20 #[v, v'] x fun e y => e = .returned (.bool true) ∧ Below u.heap.size u y ∧ y.cell? ⟨b, 0, none⟩ = some (.slice (some ⟨g, 0, none⟩) m c)) := fun x v K hx hv v' hv' hK => by
        refine (same_any x hv hv' hK).mono ?_
        rintro e y ⟨he, n, hn⟩
        have hy : Below u.heap.size u y := by rw [hn]; exact below_drewN hx n
        exact ⟨he, hy, (HS.out y hy).2.1.c0⟩
      have C4 : Hid (∀ x, Below u.heap.size u x → Calls Try.prog 22 #[.pointer (some ⟨a, 0, none⟩)] x fun e y => e = .returned (.int .i64 (L.length : Nat)) ∧ Below u.heap.size u y ∧ y.cell? ⟨b, 0, none⟩ = some (.slice (some ⟨g, 0, none⟩) m c)) := fun x hx => by
        refine (len_n x (HS.out x hx).1.n).mono ?_
        rintro e y ⟨he, hb⟩
        rw [← hL] at he
        have hy := hx.trans (hb.mono hx.size)
        exact ⟨he, hy, (HS.out y hy).2.1.c0⟩
      have C5 : Hid (∀ x, Below u.heap.size u x → Calls Try.prog 23 #[.pointer (some ⟨a, 0, none⟩)] x fun e y => e = .returned (.int .i64 (m : Nat)) ∧ Below u.heap.size u y ∧ y.cell? ⟨b, 0, none⟩ = some (.slice (some ⟨g, 0, none⟩) m c)) := fun x hx => by
        refine (many_any x (HS.out x hx).1).mono ?_
        rintro e y ⟨he, rfl⟩
        exact ⟨he, hx, (HS.out _ hx).2.1.c0⟩
      obtain ⟨s, hs⟩ : ∃ s : ByteArray, s = ⟨(M.bytes m f).toArray⟩ := ⟨_, rfl⟩
      have C6 : Hid (∀ x, Below u.heap.size u x → Calls Try.prog 24 #[.pointer (some ⟨a, 0, none⟩)] x fun e y => e = .returned (.string s) ∧ Below u.heap.size u y ∧ y.cell? ⟨b, 0, none⟩ = some (.slice (some ⟨g, 0, none⟩) m c)) := fun x hx => by
        rw [hs]
        refine (bytes_any x (HS.out x hx).1).mono ?_
        rintro e y ⟨he, n, hn⟩
        have hy : Below u.heap.size u y := by rw [hn]; exact below_drewN hx n
        exact ⟨he, hy, (HS.out y hy).2.1.c0⟩
      have C7 : Hid (∀ x, Below u.heap.size u x → Calls Try.prog 25 #[.pointer (some ⟨b, 0, none⟩)] x fun e y => e = .returned (.string s) ∧ Below u.heap.size u y ∧ y.cell? ⟨b, 0, none⟩ = some (.slice (some ⟨g, 0, none⟩) m c)) := fun x hx => by
        rw [hs]
        refine (refBytes_any x (HS.out x hx).2.1).mono ?_
        rintro e y ⟨he, hb⟩
        have hy := hx.trans (hb.mono hx.size)
        exact ⟨he, hy, (HS.out y hy).2.1.c0⟩
      have HW : Hid (∀ x, Below u.heap.size u x → Ints x (.slice Aw L.length cw) L) := fun x hx => (HS.out x hx).2.2
      have hss := str_eq_self s
      have hmm : ((m : Int) == (m : Int)) = true := by simp
      clear hL hs HS HT
      have HL1000 : Hid (L.length ≤ 1000) := by show _ ≤ _; omega
      obtain ⟨len2, hl2⟩ : ∃ x, x = L.length := ⟨_, rfl⟩
      rw [← hl2] at hlen hcw C4 HW
      rw [← hl2]
      have HL2 := Lib.hid hl2
      clear hl2
      have hll : ((len2 : Int) == (len2 : Int)) = true := by simp
      by_cases h2 : len2 < 2
      · have h2' : (len2 : Int) < 2 := by omega
        have h2d : decide ((len2 : Int) < 2) = true := by simpa using h2'
        clear h2 HCE C2
        go_wp2_with fail
        refine wp_region_held_drew (S := (fun y => y.cell? ⟨b, 0, none⟩ = some (.slice (some ⟨g, 0, none⟩) m c))) (by kernel_rfl) (by first | assumption) (fun hHeld => ?_)
        refine wpAnyH_take (i := 0) (oi := ?_) (v := ?_) ?_ (by kernel_rfl) (by kernel_rfl) (by kernel_rfl) ?_ ?_ (by assumption) ?_
        rotate_left 2
        · (simp only [List.getElem?_toArray, List.getElem?_cons_zero]; rfl)
        rotate_left
        · (refine Or.inl ⟨by rfl, ?_⟩; intro w hSw; (try dsimp only at hSw); go_simp; try with_reducible rfl)
        rotate_right
        · exact fun _ _ _ h => h
        simp only [Act.put, List.setIfInBounds_toArray, List.set_cons_zero, List.set_cons_succ]
        refine wpAnyH_take (i := 2) (oi := ?_) (v := ?_) ?_ (by kernel_rfl) (by kernel_rfl) (by kernel_rfl) ?_ ?_ (by assumption) ?_
        rotate_left 2
        · (simp only [List.getElem?_toArray, List.getElem?_cons_zero, List.getElem?_cons_succ]; rfl)
        rotate_left
        · (refine Or.inl ⟨by rfl, ?_⟩; intro w hSw; (try dsimp only at hSw); go_simp; try with_reducible rfl)
        rotate_right
        · exact fun _ _ _ h => h
        simp only [Act.put, List.setIfInBounds_toArray, List.set_cons_zero, List.set_cons_succ]
        refine wpAnyH_ready (rs := [1]) (by kernel_rfl) (by simp) ?_
        refine AllReadyH.cons (o := ?_) ?_ (fun K hK => ?_) AllReadyH.nil
        rotate_left
        · (simp only [List.getElem?_toArray, List.getElem?_cons_zero, List.getElem?_cons_succ]; rfl)
        go_simp
        (go_at_call 21; refine (C1.out _ (by first | assumption | exact Below.drew (by assumption))).mono ?_; rintro e w4 ⟨⟨v4, rfl, hv4⟩, hb4, hS4⟩)
        refine hK.out _ _ (by first | assumption) (fun hHeld => ?_)
        clear hK K
        refine wpAnyH_ready (rs := [3]) (by kernel_rfl) (by simp) ?_
        refine AllReadyH.cons (o := ?_) ?_ (fun K hK => ?_) AllReadyH.nil
        rotate_left
        · (simp only [List.getElem?_toArray, List.getElem?_cons_zero, List.getElem?_cons_succ]; rfl)
        go_simp
        (go_at_call 20; refine (C3.out _ _ _ (by first | assumption | exact Below.drew (by assumption)) hv4 _ (HW.out _ (by first | assumption | exact Below.drew (by assumption))) HL1000.out).mono ?_; rintro e w5 ⟨rfl, hb5, hS5⟩)
        refine hK.out _ _ (by first | assumption) (fun hHeld => ?_)
        clear hK K
        refine wpAnyH_take (i := 4) (oi := ?_) (v := ?_) ?_ (by kernel_rfl) (by kernel_rfl) (by kernel_rfl) ?_ ?_ (by assumption) ?_
        rotate_left 2
        · (simp only [List.getElem?_toArray, List.getElem?_cons_zero, List.getElem?_cons_succ]; rfl)
        rotate_left
        · (refine Or.inl ⟨by rfl, ?_⟩; intro w hSw; (try dsimp only at hSw); go_simp; try with_reducible rfl)
        rotate_right
        · exact fun _ _ _ h => h
        simp only [Act.put, List.setIfInBounds_toArray, List.set_cons_zero, List.set_cons_succ]
        refine wpAnyH_take (i := 5) (oi := ?_) (v := ?_) ?_ (by kernel_rfl) (by kernel_rfl) (by kernel_rfl) ?_ ?_ (by assumption) ?_
        rotate_left 2
        · (simp only [List.getElem?_toArray, List.getElem?_cons_zero, List.getElem?_cons_succ]; rfl)
        rotate_left
        · (refine Or.inl ⟨by rfl, ?_⟩; intro w hSw; (try dsimp only at hSw); go_simp; try with_reducible rfl)
        rotate_right
        · exact fun _ _ _ h => h
        simp only [Act.put, List.setIfInBounds_toArray, List.set_cons_zero, List.set_cons_succ]
        refine wpAnyH_take (i := 7) (oi := ?_) (v := ?_) ?_ (by kernel_rfl) (by kernel_rfl) (by kernel_rfl) ?_ ?_ (by assumption) ?_
        rotate_left 2
        · (simp only [List.getElem?_toArray, List.getElem?_cons_zero, List.getElem?_cons_succ]; rfl)
        rotate_left
        · (refine Or.inl ⟨by rfl, ?_⟩; intro w hSw; (try dsimp only at hSw); go_simp; try with_reducible rfl)
        rotate_right
        · exact fun _ _ _ h => h
        simp only [Act.put, List.setIfInBounds_toArray, List.set_cons_zero, List.set_cons_succ]
        refine wpAnyH_take (i := 8) (oi := ?_) (v := ?_) ?_ (by kernel_rfl) (by kernel_rfl) (by kernel_rfl) ?_ ?_ (by assumption) ?_
        rotate_left 2
        · (simp only [List.getElem?_toArray, List.getElem?_cons_zero, List.getElem?_cons_succ]; rfl)
        rotate_left
        · (refine Or.inl ⟨by rfl, ?_⟩; intro w hSw; (try dsimp only at hSw); go_simp; try with_reducible rfl)
        rotate_right
        · exact fun _ _ _ h => h
        simp only [Act.put, List.setIfInBounds_toArray, List.set_cons_zero, List.set_cons_succ]
        refine wpAnyH_ready (rs := [6]) (by kernel_rfl) (by simp) ?_
        refine AllReadyH.cons (o := ?_) ?_ (fun K hK => ?_) AllReadyH.nil
        rotate_left
        · (simp only [List.getElem?_toArray, List.getElem?_cons_zero, List.getElem?_cons_succ]; rfl)
        go_simp
        (go_at_call 22; refine (C4.out _ (by first | assumption | exact Below.drew (by assumption))).mono ?_; rintro e w6 ⟨rfl, hb6, hS6⟩)
        refine hK.out _ _ (by first | assumption) (fun hHeld => ?_)
        clear hK K
        refine wpAnyH_take (i := 9) (oi := ?_) (v := ?_) ?_ (by kernel_rfl) (by kernel_rfl) (by kernel_rfl) ?_ ?_ (by assumption) ?_
        rotate_left 2
        · (simp only [List.getElem?_toArray, List.getElem?_cons_zero, List.getElem?_cons_succ]; rfl)
        rotate_left
        · (refine Or.inl ⟨by rfl, ?_⟩; intro w hSw; (try dsimp only at hSw); go_simp; try with_reducible rfl)
        rotate_right
        · exact fun _ _ _ h => h
        simp only [Act.put, List.setIfInBounds_toArray, List.set_cons_zero, List.set_cons_succ]
        refine wpAnyH_take (i := 10) (oi := ?_) (v := ?_) ?_ (by kernel_rfl) (by kernel_rfl) (by kernel_rfl) ?_ ?_ (by assumption) ?_
        rotate_left 2
        · (simp only [List.getElem?_toArray, List.getElem?_cons_zero, List.getElem?_cons_succ]; rfl)
        rotate_left
        · (refine Or.inl ⟨by rfl, ?_⟩; intro w hSw; (try dsimp only at hSw); go_simp; try with_reducible rfl)
        rotate_right
        · exact fun _ _ _ h => h
        simp only [Act.put, List.setIfInBounds_toArray, List.set_cons_zero, List.set_cons_succ]
        refine wpAnyH_take (i := 11) (oi := ?_) (v := ?_) ?_ (by kernel_rfl) (by kernel_rfl) (by kernel_rfl) ?_ ?_ (by assumption) ?_
        rotate_left 2
        · (simp only [List.getElem?_toArray, List.getElem?_cons_zero, List.getElem?_cons_succ]; rfl)
        rotate_left
        · (refine Or.inl ⟨by rfl, ?_⟩; intro w hSw; (try dsimp only at hSw); go_simp; try with_reducible rfl)
        rotate_right
        · exact fun _ _ _ h => h
        simp only [Act.put, List.setIfInBounds_toArray, List.set_cons_zero, List.set_cons_succ]
        refine wpAnyH_take (i := 12) (oi := ?_) (v := ?_) ?_ (by kernel_rfl) (by kernel_rfl) (by kernel_rfl) ?_ ?_ (by assumption) ?_
        rotate_left 2
        · (simp only [List.getElem?_toArray, List.getElem?_cons_zero, List.getElem?_cons_succ]; rfl)
        rotate_left
        · (refine Or.inl ⟨by rfl, ?_⟩; intro w hSw; (try dsimp only at hSw); go_simp; try with_reducible rfl)
        rotate_right
        · exact fun _ _ _ h => h
        simp only [Act.put, List.setIfInBounds_toArray, List.set_cons_zero, List.set_cons_succ]
        refine wpAnyH_take (i := 14) (oi := ?_) (v := ?_) ?_ (by kernel_rfl) (by kernel_rfl) (by kernel_rfl) ?_ ?_ (by assumption) ?_
        rotate_left 2
        · (simp only [List.getElem?_toArray, List.getElem?_cons_zero, List.getElem?_cons_succ]; rfl)
        rotate_left
        · (refine Or.inl ⟨by rfl, ?_⟩; intro w hSw; (try dsimp only at hSw); go_simp; try with_reducible rfl)
        rotate_right
        · exact fun _ _ _ h => h
        simp only [Act.put, List.setIfInBounds_toArray, List.set_cons_zero, List.set_cons_succ]
        refine wpAnyH_take (i := 15) (oi := ?_) (v := ?_) ?_ (by kernel_rfl) (by kernel_rfl) (by kernel_rfl) ?_ ?_ (by assumption) ?_
        rotate_left 2
        · (simp only [List.getElem?_toArray, List.getElem?_cons_zero, List.getElem?_cons_succ]; rfl)
        rotate_left
        · (refine Or.inl ⟨by rfl, ?_⟩; intro w hSw; (try dsimp only at hSw); go_simp; try with_reducible rfl)
        rotate_right
        · exact fun _ _ _ h => h
        simp only [Act.put, List.setIfInBounds_toArray, List.set_cons_zero, List.set_cons_succ]
        refine wpAnyH_take (i := 16) (oi := ?_) (v := ?_) ?_ (by kernel_rfl) (by kernel_rfl) (by kernel_rfl) ?_ ?_ (by assumption) ?_
        rotate_left 2
        · (simp only [List.getElem?_toArray, List.getElem?_cons_zero, List.getElem?_cons_succ]; rfl)
        rotate_left
        · (refine Or.inl ⟨by rfl, ?_⟩; intro w hSw; (try dsimp only at hSw); go_simp; try with_reducible rfl)
        rotate_right
        · exact fun _ _ _ h => h
        simp only [Act.put, List.setIfInBounds_toArray, List.set_cons_zero, List.set_cons_succ]
        refine wpAnyH_take (i := 17) (oi := ?_) (v := ?_) ?_ (by kernel_rfl) (by kernel_rfl) (by kernel_rfl) ?_ ?_ (by assumption) ?_
        rotate_left 2
        · (simp only [List.getElem?_toArray, List.getElem?_cons_zero, List.getElem?_cons_succ]; rfl)
        rotate_left
        · (refine Or.inl ⟨by rfl, ?_⟩; intro w hSw; (try dsimp only at hSw); go_simp; try with_reducible rfl)
        rotate_right
        · exact fun _ _ _ h => h
        simp only [Act.put, List.setIfInBounds_toArray, List.set_cons_zero, List.set_cons_succ]
        refine wpAnyH_take (i := 18) (oi := ?_) (v := ?_) ?_ (by kernel_rfl) (by kernel_rfl) (by kernel_rfl) ?_ ?_ (by assumption) ?_
        rotate_left 2
        · (simp only [List.getElem?_toArray, List.getElem?_cons_zero, List.getElem?_cons_succ]; rfl)
        rotate_left
        · (refine Or.inl ⟨by rfl, ?_⟩; intro w hSw; (try dsimp only at hSw); go_simp; try with_reducible rfl)
        rotate_right
        · exact fun _ _ _ h => h
        simp only [Act.put, List.setIfInBounds_toArray, List.set_cons_zero, List.set_cons_succ]
        refine wpAnyH_ready (rs := [13]) (by kernel_rfl) (by simp) ?_
        refine AllReadyH.cons (o := ?_) ?_ (fun K hK => ?_) AllReadyH.nil
        rotate_left
        · (simp only [List.getElem?_toArray, List.getElem?_cons_zero, List.getElem?_cons_succ]; rfl)
        go_simp
        (go_at_call 23; refine (C5.out _ (by first | assumption | exact Below.drew (by assumption))).mono ?_; rintro e w7 ⟨rfl, hb7, hS7⟩)
        refine hK.out _ _ (by first | assumption) (fun hHeld => ?_)
        clear hK K
        refine wpAnyH_take (i := 19) (oi := ?_) (v := ?_) ?_ (by kernel_rfl) (by kernel_rfl) (by kernel_rfl) ?_ ?_ (by assumption) ?_
        rotate_left 2
        · (simp only [List.getElem?_toArray, List.getElem?_cons_zero, List.getElem?_cons_succ]; rfl)
        rotate_left
        · (refine Or.inl ⟨by rfl, ?_⟩; intro w hSw; (try dsimp only at hSw); go_simp; try with_reducible rfl)
        rotate_right
        · exact fun _ _ _ h => h
        simp only [Act.put, List.setIfInBounds_toArray, List.set_cons_zero, List.set_cons_succ]
        refine wpAnyH_take (i := 20) (oi := ?_) (v := ?_) ?_ (by kernel_rfl) (by kernel_rfl) (by kernel_rfl) ?_ ?_ (by assumption) ?_
        rotate_left 2
        · (simp only [List.getElem?_toArray, List.getElem?_cons_zero, List.getElem?_cons_succ]; rfl)
        rotate_left
        · (refine Or.inl ⟨by rfl, ?_⟩; intro w hSw; (try dsimp only at hSw); go_simp; try with_reducible rfl)
        rotate_right
        · exact fun _ _ _ h => h
        simp only [Act.put, List.setIfInBounds_toArray, List.set_cons_zero, List.set_cons_succ]
        refine wpAnyH_take (i := 21) (oi := ?_) (v := ?_) ?_ (by kernel_rfl) (by kernel_rfl) (by kernel_rfl) ?_ ?_ (by assumption) ?_
        rotate_left 2
        · (simp only [List.getElem?_toArray, List.getElem?_cons_zero, List.getElem?_cons_succ]; rfl)
        rotate_left
        · (refine Or.inl ⟨by rfl, ?_⟩; intro w hSw; (try dsimp only at hSw); go_simp; try with_reducible rfl)
        rotate_right
        · exact fun _ _ _ h => h
        simp only [Act.put, List.setIfInBounds_toArray, List.set_cons_zero, List.set_cons_succ]
        refine wpAnyH_take (i := 22) (oi := ?_) (v := ?_) ?_ (by kernel_rfl) (by kernel_rfl) (by kernel_rfl) ?_ ?_ (by assumption) ?_
        rotate_left 2
        · (simp only [List.getElem?_toArray, List.getElem?_cons_zero, List.getElem?_cons_succ]; rfl)
        rotate_left
        · (refine Or.inl ⟨by rfl, ?_⟩; intro w hSw; (try dsimp only at hSw); go_simp; try with_reducible rfl)
        rotate_right
        · exact fun _ _ _ h => h
        simp only [Act.put, List.setIfInBounds_toArray, List.set_cons_zero, List.set_cons_succ]
        refine wpAnyH_take (i := 24) (oi := ?_) (v := ?_) ?_ (by kernel_rfl) (by kernel_rfl) (by kernel_rfl) ?_ ?_ (by assumption) ?_
        rotate_left 2
        · (simp only [List.getElem?_toArray, List.getElem?_cons_zero, List.getElem?_cons_succ]; rfl)
        rotate_left
        · (refine Or.inl ⟨by rfl, ?_⟩; intro w hSw; (try dsimp only at hSw); go_simp; try with_reducible rfl)
        rotate_right
        · exact fun _ _ _ h => h
        simp only [Act.put, List.setIfInBounds_toArray, List.set_cons_zero, List.set_cons_succ]
        refine wpAnyH_ready (rs := [23]) (by kernel_rfl) (by simp) ?_
        refine AllReadyH.cons (o := ?_) ?_ (fun K hK => ?_) AllReadyH.nil
        rotate_left
        · (simp only [List.getElem?_toArray, List.getElem?_cons_zero, List.getElem?_cons_succ]; rfl)
        go_simp
        (go_at_call 24; refine (C6.out _ (by first | assumption | exact Below.drew (by assumption))).mono ?_; rintro e w8 ⟨rfl, hb8, hS8⟩)
        refine hK.out _ _ (by first | assumption) (fun hHeld => ?_)
        clear hK K
        refine wpAnyH_ready (rs := [25]) (by kernel_rfl) (by simp) ?_
        refine AllReadyH.cons (o := ?_) ?_ (fun K hK => ?_) AllReadyH.nil
        rotate_left
        · (simp only [List.getElem?_toArray, List.getElem?_cons_zero, List.getElem?_cons_succ]; rfl)
        go_simp
        (go_at_call 25; refine (C7.out _ (by first | assumption | exact Below.drew (by assumption))).mono ?_; rintro e w9 ⟨rfl, hb9, hS9⟩)
        refine hK.out _ _ (by first | assumption) (fun hHeld => ?_)
        clear hK K
        refine wpAnyH_take (i := 26) (oi := ?_) (v := ?_) ?_ (by kernel_rfl) (by kernel_rfl) (by kernel_rfl) ?_ ?_ (by assumption) ?_
        rotate_left 2
        · (simp only [List.getElem?_toArray, List.getElem?_cons_zero, List.getElem?_cons_succ]; rfl)
        rotate_left
        · (refine Or.inl ⟨by rfl, ?_⟩; intro w hSw; (try dsimp only at hSw); go_simp; try with_reducible rfl)
        rotate_right
        · exact fun _ _ _ h => h
        simp only [Act.put, List.setIfInBounds_toArray, List.set_cons_zero, List.set_cons_succ]
        refine wpAnyH_take (i := 27) (oi := ?_) (v := ?_) ?_ (by kernel_rfl) (by kernel_rfl) (by kernel_rfl) ?_ ?_ (by assumption) ?_
        rotate_left 2
        · (simp only [List.getElem?_toArray, List.getElem?_cons_zero, List.getElem?_cons_succ]; rfl)
        rotate_left
        · (refine Or.inl ⟨by rfl, ?_⟩; intro w hSw; (try dsimp only at hSw); go_simp; try with_reducible rfl)
        rotate_right
        · exact fun _ _ _ h => h
        simp only [Act.put, List.setIfInBounds_toArray, List.set_cons_zero, List.set_cons_succ]
        refine wpAnyH_take (i := 28) (oi := ?_) (v := ?_) ?_ (by kernel_rfl) (by kernel_rfl) (by kernel_rfl) ?_ ?_ (by assumption) ?_
        rotate_left 2
        · (simp only [List.getElem?_toArray, List.getElem?_cons_zero, List.getElem?_cons_succ]; rfl)
        rotate_left
        · (refine Or.inl ⟨by rfl, ?_⟩; intro w hSw; (try dsimp only at hSw); go_simp; try with_reducible rfl)
        rotate_right
        · exact fun _ _ _ h => h
        simp only [Act.put, List.setIfInBounds_toArray, List.set_cons_zero, List.set_cons_succ]
        refine wpAnyH_take (i := 29) (oi := ?_) (v := ?_) ?_ (by kernel_rfl) (by kernel_rfl) (by kernel_rfl) ?_ ?_ (by assumption) ?_
        rotate_left 2
        · (simp only [List.getElem?_toArray, List.getElem?_cons_zero, List.getElem?_cons_succ]; rfl)
        rotate_left
        · (refine Or.inl ⟨by rfl, ?_⟩; intro w hSw; (try dsimp only at hSw); go_simp; try with_reducible rfl)
        rotate_right
        · exact fun _ _ _ h => h
        simp only [Act.put, List.setIfInBounds_toArray, List.set_cons_zero, List.set_cons_succ]
        refine wpAnyH_take (i := 30) (oi := ?_) (v := ?_) ?_ (by kernel_rfl) (by kernel_rfl) (by kernel_rfl) ?_ ?_ (by assumption) ?_
        rotate_left 2
        · (simp only [List.getElem?_toArray, List.getElem?_cons_zero, List.getElem?_cons_succ]; rfl)
        rotate_left
        · (refine Or.inl ⟨by rfl, ?_⟩; intro w hSw; (try dsimp only at hSw); go_simp; try with_reducible rfl)
        rotate_right
        · exact fun _ _ _ h => h
        simp only [Act.put, List.setIfInBounds_toArray, List.set_cons_zero, List.set_cons_succ]
        refine wpAnyH_take (i := 31) (oi := ?_) (v := ?_) ?_ (by kernel_rfl) (by kernel_rfl) (by kernel_rfl) ?_ ?_ (by assumption) ?_
        rotate_left 2
        · (simp only [List.getElem?_toArray, List.getElem?_cons_zero, List.getElem?_cons_succ]; rfl)
        rotate_left
        · (refine Or.inl ⟨by rfl, ?_⟩; intro w hSw; (try dsimp only at hSw); go_simp; try with_reducible rfl)
        rotate_right
        · exact fun _ _ _ h => h
        simp only [Act.put, List.setIfInBounds_toArray, List.set_cons_zero, List.set_cons_succ]
        refine wpAnyH_take (i := 32) (oi := ?_) (v := ?_) ?_ (by kernel_rfl) (by kernel_rfl) (by kernel_rfl) ?_ ?_ (by assumption) ?_
        rotate_left 2
        · (simp only [List.getElem?_toArray, List.getElem?_cons_zero, List.getElem?_cons_succ]; rfl)
        rotate_left
        · (refine Or.inl ⟨by rfl, ?_⟩; intro w hSw; (try dsimp only at hSw); go_simp; try with_reducible rfl)
        rotate_right
        · exact fun _ _ _ h => h
        simp only [Act.put, List.setIfInBounds_toArray, List.set_cons_zero, List.set_cons_succ]
        refine wpAnyH_take (i := 33) (oi := ?_) (v := undef) ?_ (by kernel_rfl) (by kernel_rfl) (by kernel_rfl) ?_ (Or.inr ⟨?_, rfl⟩) (by assumption) ?_
        rotate_left
        · (simp only [List.getElem?_toArray, List.getElem?_cons_zero, List.getElem?_cons_succ]; rfl)
        · exact fun _ _ _ h => h
        · rfl
        simp only [Act.put, List.setIfInBounds_toArray, List.set_cons_zero, List.set_cons_succ]
        refine wpAnyH_take (i := 34) (oi := ?_) (v := undef) ?_ (by kernel_rfl) (by kernel_rfl) (by kernel_rfl) ?_ (Or.inr ⟨?_, rfl⟩) (by assumption) ?_
        rotate_left
        · (simp only [List.getElem?_toArray, List.getElem?_cons_zero, List.getElem?_cons_succ]; rfl)
        · exact fun _ _ _ h => h
        · rfl
        simp only [Act.put, List.setIfInBounds_toArray, List.set_cons_zero, List.set_cons_succ]
        refine wpAnyH_take (i := 35) (oi := ?_) (v := undef) ?_ (by kernel_rfl) (by kernel_rfl) (by kernel_rfl) ?_ (Or.inr ⟨?_, rfl⟩) (by assumption) ?_
        rotate_left
        · (simp only [List.getElem?_toArray, List.getElem?_cons_zero, List.getElem?_cons_succ]; rfl)
        · exact fun _ _ _ h => h
        · rfl
        simp only [Act.put, List.setIfInBounds_toArray, List.set_cons_zero, List.set_cons_succ]
        refine wpAnyH_take (i := 36) (oi := ?_) (v := undef) ?_ (by kernel_rfl) (by kernel_rfl) (by kernel_rfl) ?_ (Or.inr ⟨?_, rfl⟩) (by assumption) ?_
        rotate_left
        · (simp only [List.getElem?_toArray, List.getElem?_cons_zero, List.getElem?_cons_succ]; rfl)
        · exact fun _ _ _ h => h
        · rfl
        simp only [Act.put, List.setIfInBounds_toArray, List.set_cons_zero, List.set_cons_succ]
        refine wpAnyH_take (i := 37) (oi := ?_) (v := undef) ?_ (by kernel_rfl) (by kernel_rfl) (by kernel_rfl) ?_ (Or.inr ⟨?_, rfl⟩) (by assumption) ?_
        rotate_left
        · (simp only [List.getElem?_toArray, List.getElem?_cons_zero, List.getElem?_cons_succ]; rfl)
        · exact fun _ _ _ h => h
        · rfl
        simp only [Act.put, List.setIfInBounds_toArray, List.set_cons_zero, List.set_cons_succ]
        refine wpAnyH_take (i := 38) (oi := ?_) (v := ?_) ?_ (by kernel_rfl) (by kernel_rfl) (by kernel_rfl) ?_ ?_ (by assumption) ?_
        rotate_left 2
        · (simp only [List.getElem?_toArray, List.getElem?_cons_zero, List.getElem?_cons_succ]; rfl)
        rotate_left
        · (refine Or.inl ⟨by rfl, ?_⟩; intro w hSw; (try dsimp only at hSw); go_simp; try with_reducible rfl)
        rotate_right
        · exact fun _ _ _ h => h
        simp only [Act.put, List.setIfInBounds_toArray, List.set_cons_zero, List.set_cons_succ]
        refine wpAnyH_take (i := 39) (oi := ?_) (v := ?_) ?_ (by kernel_rfl) (by kernel_rfl) (by kernel_rfl) ?_ ?_ (by assumption) ?_
        rotate_left 2
        · (simp only [List.getElem?_toArray, List.getElem?_cons_zero, List.getElem?_cons_succ]; rfl)
        rotate_left
        · (refine Or.inl ⟨by rfl, ?_⟩; intro w hSw; (try dsimp only at hSw); go_simp; try with_reducible rfl)
        rotate_right
        · exact fun _ _ _ h => h
        simp only [Act.put, List.setIfInBounds_toArray, List.set_cons_zero, List.set_cons_succ]
        refine wpAnyH_take (i := 40) (oi := ?_) (v := ?_) ?_ (by kernel_rfl) (by kernel_rfl) (by kernel_rfl) ?_ ?_ (by assumption) ?_
        rotate_left 2
        · (simp only [List.getElem?_toArray, List.getElem?_cons_zero, List.getElem?_cons_succ]; rfl)
        rotate_left
        · (refine Or.inl ⟨by rfl, ?_⟩; intro w hSw; (try dsimp only at hSw); go_simp; try with_reducible rfl)
        rotate_right
        · exact fun _ _ _ h => h
        simp only [Act.put, List.setIfInBounds_toArray, List.set_cons_zero, List.set_cons_succ]
        refine wpAnyH_done (by kernel_rfl) ?_ _
        have HBz : Hid (Below w.heap.size w w9) := HBu.out.trans (hb9.mono HBu.out.size)
        have HBz' : Hid (Below w.heap.size w w9.drew) := HBz.out.drew
        clear hb0 hb4 hb5 hb6 hb7 hb8 hb9 hS0 hS4 hS5 hS6 hS7 hS8 hS9 hv4
        go_wp2_with fail
        go_ret
        exact ⟨rfl, by first | exact HBz.out | exact HBz'.out⟩
      · have h2' : (2 : Int) ≤ (len2 : Int) := by omega
        have h2d : decide ((len2 : Int) < 2) = false := by simp; omega
        obtain ⟨gw, hgw, _⟩ := HCE.out 0 (by rw [← HL2.out]; omega)
        subst hgw
        have hcw' : (2 : Int) ≤ (cw : Int) := by omega
        have HW2 : Hid (∀ x, Below u.heap.size u x → Ints x (.slice (some ⟨gw, 0, none⟩) 2 cw) (L.take 2)) := fun x hx => by
          have e2 : (L.take 2).length = 2 := by rw [List.length_take, ← HL2.out]; omega
          rcases HW.out x hx with ⟨e, _⟩ | ⟨g', cap', e, h3, h4, h5⟩
          · cases e
          · injection e with q1 q2 q3
            injection q1 with q1
            injection q1 with q1
            subst q1
            subst q3
            refine Or.inr ⟨gw, cw, by rw [e2], by omega, h4, fun i hi => ?_⟩
            rw [e2] at hi
            rw [List.getElem_take]
            exact h5 i (by rw [← HL2.out]; omega)
        have HLT : Hid ((L.take 2).length ≤ 1000) := by show _ ≤ _; rw [List.length_take]; omega
        clear HCE
        go_wp2_with fail
        refine wp_region_held_drew (S := (fun y => y.cell? ⟨b, 0, none⟩ = some (.slice (some ⟨g, 0, none⟩) m c))) (by kernel_rfl) (by first | assumption) (fun hHeld => ?_)
        refine wpAnyH_take (i := 0) (oi := ?_) (v := ?_) ?_ (by kernel_rfl) (by kernel_rfl) (by kernel_rfl) ?_ ?_ (by assumption) ?_
        rotate_left 2
        · (simp only [List.getElem?_toArray, List.getElem?_cons_zero]; rfl)
        rotate_left
        · (refine Or.inl ⟨by rfl, ?_⟩; intro w hSw; (try dsimp only at hSw); go_simp; try with_reducible rfl)
        rotate_right
        · exact fun _ _ _ h => h
        simp only [Act.put, List.setIfInBounds_toArray, List.set_cons_zero, List.set_cons_succ]
        refine wpAnyH_take (i := 2) (oi := ?_) (v := ?_) ?_ (by kernel_rfl) (by kernel_rfl) (by kernel_rfl) ?_ ?_ (by assumption) ?_
        rotate_left 2
        · (simp only [List.getElem?_toArray, List.getElem?_cons_zero, List.getElem?_cons_succ]; rfl)
        rotate_left
        · (refine Or.inl ⟨by rfl, ?_⟩; intro w hSw; (try dsimp only at hSw); go_simp; try with_reducible rfl)
        rotate_right
        · exact fun _ _ _ h => h
        simp only [Act.put, List.setIfInBounds_toArray, List.set_cons_zero, List.set_cons_succ]
        refine wpAnyH_ready (rs := [1]) (by kernel_rfl) (by simp) ?_
        refine AllReadyH.cons (o := ?_) ?_ (fun K hK => ?_) AllReadyH.nil
        rotate_left
        · (simp only [List.getElem?_toArray, List.getElem?_cons_zero, List.getElem?_cons_succ]; rfl)
        go_simp
        (go_at_call 21; refine (C1.out _ (by first | assumption | exact Below.drew (by assumption))).mono ?_; rintro e w4 ⟨⟨v4, rfl, hv4⟩, hb4, hS4⟩)
        refine hK.out _ _ (by first | assumption) (fun hHeld => ?_)
        clear hK K
        refine wpAnyH_ready (rs := [3]) (by kernel_rfl) (by simp) ?_
        refine AllReadyH.cons (o := ?_) ?_ (fun K hK => ?_) AllReadyH.nil
        rotate_left
        · (simp only [List.getElem?_toArray, List.getElem?_cons_zero, List.getElem?_cons_succ]; rfl)
        go_simp
        (go_at_call 20; refine (C3.out _ _ _ (by first | assumption | exact Below.drew (by assumption)) hv4 _ (HW.out _ (by first | assumption | exact Below.drew (by assumption))) HL1000.out).mono ?_; rintro e w5 ⟨rfl, hb5, hS5⟩)
        refine hK.out _ _ (by first | assumption) (fun hHeld => ?_)
        clear hK K
        refine wpAnyH_take (i := 4) (oi := ?_) (v := ?_) ?_ (by kernel_rfl) (by kernel_rfl) (by kernel_rfl) ?_ ?_ (by assumption) ?_
        rotate_left 2
        · (simp only [List.getElem?_toArray, List.getElem?_cons_zero, List.getElem?_cons_succ]; rfl)
        rotate_left
        · (refine Or.inl ⟨by rfl, ?_⟩; intro w hSw; (try dsimp only at hSw); go_simp; try with_reducible rfl)
        rotate_right
        · exact fun _ _ _ h => h
        simp only [Act.put, List.setIfInBounds_toArray, List.set_cons_zero, List.set_cons_succ]
        refine wpAnyH_take (i := 5) (oi := ?_) (v := ?_) ?_ (by kernel_rfl) (by kernel_rfl) (by kernel_rfl) ?_ ?_ (by assumption) ?_
        rotate_left 2
        · (simp only [List.getElem?_toArray, List.getElem?_cons_zero, List.getElem?_cons_succ]; rfl)
        rotate_left
        · (refine Or.inl ⟨by rfl, ?_⟩; intro w hSw; (try dsimp only at hSw); go_simp; try with_reducible rfl)
        rotate_right
        · exact fun _ _ _ h => h
        simp only [Act.put, List.setIfInBounds_toArray, List.set_cons_zero, List.set_cons_succ]
        refine wpAnyH_take (i := 7) (oi := ?_) (v := ?_) ?_ (by kernel_rfl) (by kernel_rfl) (by kernel_rfl) ?_ ?_ (by assumption) ?_
        rotate_left 2
        · (simp only [List.getElem?_toArray, List.getElem?_cons_zero, List.getElem?_cons_succ]; rfl)
        rotate_left
        · (refine Or.inl ⟨by rfl, ?_⟩; intro w hSw; (try dsimp only at hSw); go_simp; try with_reducible rfl)
        rotate_right
        · exact fun _ _ _ h => h
        simp only [Act.put, List.setIfInBounds_toArray, List.set_cons_zero, List.set_cons_succ]
        refine wpAnyH_take (i := 8) (oi := ?_) (v := ?_) ?_ (by kernel_rfl) (by kernel_rfl) (by kernel_rfl) ?_ ?_ (by assumption) ?_
        rotate_left 2
        · (simp only [List.getElem?_toArray, List.getElem?_cons_zero, List.getElem?_cons_succ]; rfl)
        rotate_left
        · (refine Or.inl ⟨by rfl, ?_⟩; intro w hSw; (try dsimp only at hSw); go_simp; try with_reducible rfl)
        rotate_right
        · exact fun _ _ _ h => h
        simp only [Act.put, List.setIfInBounds_toArray, List.set_cons_zero, List.set_cons_succ]
        refine wpAnyH_ready (rs := [6]) (by kernel_rfl) (by simp) ?_
        refine AllReadyH.cons (o := ?_) ?_ (fun K hK => ?_) AllReadyH.nil
        rotate_left
        · (simp only [List.getElem?_toArray, List.getElem?_cons_zero, List.getElem?_cons_succ]; rfl)
        go_simp
        (go_at_call 22; refine (C4.out _ (by first | assumption | exact Below.drew (by assumption))).mono ?_; rintro e w6 ⟨rfl, hb6, hS6⟩)
        refine hK.out _ _ (by first | assumption) (fun hHeld => ?_)
        clear hK K
        refine wpAnyH_take (i := 9) (oi := ?_) (v := ?_) ?_ (by kernel_rfl) (by kernel_rfl) (by kernel_rfl) ?_ ?_ (by assumption) ?_
        rotate_left 2
        · (simp only [List.getElem?_toArray, List.getElem?_cons_zero, List.getElem?_cons_succ]; rfl)
        rotate_left
        · (refine Or.inl ⟨by rfl, ?_⟩; intro w hSw; (try dsimp only at hSw); go_simp; try with_reducible rfl)
        rotate_right
        · exact fun _ _ _ h => h
        simp only [Act.put, List.setIfInBounds_toArray, List.set_cons_zero, List.set_cons_succ]
        refine wpAnyH_take (i := 10) (oi := ?_) (v := ?_) ?_ (by kernel_rfl) (by kernel_rfl) (by kernel_rfl) ?_ ?_ (by assumption) ?_
        rotate_left 2
        · (simp only [List.getElem?_toArray, List.getElem?_cons_zero, List.getElem?_cons_succ]; rfl)
        rotate_left
        · (refine Or.inl ⟨by rfl, ?_⟩; intro w hSw; (try dsimp only at hSw); go_simp; try with_reducible rfl)
        rotate_right
        · exact fun _ _ _ h => h
        simp only [Act.put, List.setIfInBounds_toArray, List.set_cons_zero, List.set_cons_succ]
        refine wpAnyH_take (i := 11) (oi := ?_) (v := ?_) ?_ (by kernel_rfl) (by kernel_rfl) (by kernel_rfl) ?_ ?_ (by assumption) ?_
        rotate_left 2
        · (simp only [List.getElem?_toArray, List.getElem?_cons_zero, List.getElem?_cons_succ]; rfl)
        rotate_left
        · (refine Or.inl ⟨by rfl, ?_⟩; intro w hSw; (try dsimp only at hSw); go_simp; try with_reducible rfl)
        rotate_right
        · exact fun _ _ _ h => h
        simp only [Act.put, List.setIfInBounds_toArray, List.set_cons_zero, List.set_cons_succ]
        refine wpAnyH_take (i := 12) (oi := ?_) (v := ?_) ?_ (by kernel_rfl) (by kernel_rfl) (by kernel_rfl) ?_ ?_ (by assumption) ?_
        rotate_left 2
        · (simp only [List.getElem?_toArray, List.getElem?_cons_zero, List.getElem?_cons_succ]; rfl)
        rotate_left
        · (refine Or.inl ⟨by rfl, ?_⟩; intro w hSw; (try dsimp only at hSw); go_simp; try with_reducible rfl)
        rotate_right
        · exact fun _ _ _ h => h
        simp only [Act.put, List.setIfInBounds_toArray, List.set_cons_zero, List.set_cons_succ]
        refine wpAnyH_take (i := 14) (oi := ?_) (v := ?_) ?_ (by kernel_rfl) (by kernel_rfl) (by kernel_rfl) ?_ ?_ (by assumption) ?_
        rotate_left 2
        · (simp only [List.getElem?_toArray, List.getElem?_cons_zero, List.getElem?_cons_succ]; rfl)
        rotate_left
        · (refine Or.inl ⟨by rfl, ?_⟩; intro w hSw; (try dsimp only at hSw); go_simp; try with_reducible rfl)
        rotate_right
        · exact fun _ _ _ h => h
        simp only [Act.put, List.setIfInBounds_toArray, List.set_cons_zero, List.set_cons_succ]
        refine wpAnyH_take (i := 15) (oi := ?_) (v := ?_) ?_ (by kernel_rfl) (by kernel_rfl) (by kernel_rfl) ?_ ?_ (by assumption) ?_
        rotate_left 2
        · (simp only [List.getElem?_toArray, List.getElem?_cons_zero, List.getElem?_cons_succ]; rfl)
        rotate_left
        · (refine Or.inl ⟨by rfl, ?_⟩; intro w hSw; (try dsimp only at hSw); go_simp; try with_reducible rfl)
        rotate_right
        · exact fun _ _ _ h => h
        simp only [Act.put, List.setIfInBounds_toArray, List.set_cons_zero, List.set_cons_succ]
        refine wpAnyH_take (i := 16) (oi := ?_) (v := ?_) ?_ (by kernel_rfl) (by kernel_rfl) (by kernel_rfl) ?_ ?_ (by assumption) ?_
        rotate_left 2
        · (simp only [List.getElem?_toArray, List.getElem?_cons_zero, List.getElem?_cons_succ]; rfl)
        rotate_left
        · (refine Or.inl ⟨by rfl, ?_⟩; intro w hSw; (try dsimp only at hSw); go_simp; try with_reducible rfl)
        rotate_right
        · exact fun _ _ _ h => h
        simp only [Act.put, List.setIfInBounds_toArray, List.set_cons_zero, List.set_cons_succ]
        refine wpAnyH_take (i := 17) (oi := ?_) (v := ?_) ?_ (by kernel_rfl) (by kernel_rfl) (by kernel_rfl) ?_ ?_ (by assumption) ?_
        rotate_left 2
        · (simp only [List.getElem?_toArray, List.getElem?_cons_zero, List.getElem?_cons_succ]; rfl)
        rotate_left
        · (refine Or.inl ⟨by rfl, ?_⟩; intro w hSw; (try dsimp only at hSw); go_simp; try with_reducible rfl)
        rotate_right
        · exact fun _ _ _ h => h
        simp only [Act.put, List.setIfInBounds_toArray, List.set_cons_zero, List.set_cons_succ]
        refine wpAnyH_take (i := 18) (oi := ?_) (v := ?_) ?_ (by kernel_rfl) (by kernel_rfl) (by kernel_rfl) ?_ ?_ (by assumption) ?_
        rotate_left 2
        · (simp only [List.getElem?_toArray, List.getElem?_cons_zero, List.getElem?_cons_succ]; rfl)
        rotate_left
        · (refine Or.inl ⟨by rfl, ?_⟩; intro w hSw; (try dsimp only at hSw); go_simp; try with_reducible rfl)
        rotate_right
        · exact fun _ _ _ h => h
        simp only [Act.put, List.setIfInBounds_toArray, List.set_cons_zero, List.set_cons_succ]
        refine wpAnyH_ready (rs := [13]) (by kernel_rfl) (by simp) ?_
        refine AllReadyH.cons (o := ?_) ?_ (fun K hK => ?_) AllReadyH.nil
        rotate_left
        · (simp only [List.getElem?_toArray, List.getElem?_cons_zero, List.getElem?_cons_succ]; rfl)
        go_simp
        (go_at_call 23; refine (C5.out _ (by first | assumption | exact Below.drew (by assumption))).mono ?_; rintro e w7 ⟨rfl, hb7, hS7⟩)
        refine hK.out _ _ (by first | assumption) (fun hHeld => ?_)
        clear hK K
        refine wpAnyH_take (i := 19) (oi := ?_) (v := ?_) ?_ (by kernel_rfl) (by kernel_rfl) (by kernel_rfl) ?_ ?_ (by assumption) ?_
        rotate_left 2
        · (simp only [List.getElem?_toArray, List.getElem?_cons_zero, List.getElem?_cons_succ]; rfl)
        rotate_left
        · (refine Or.inl ⟨by rfl, ?_⟩; intro w hSw; (try dsimp only at hSw); go_simp; try with_reducible rfl)
        rotate_right
        · exact fun _ _ _ h => h
        simp only [Act.put, List.setIfInBounds_toArray, List.set_cons_zero, List.set_cons_succ]
        refine wpAnyH_take (i := 20) (oi := ?_) (v := ?_) ?_ (by kernel_rfl) (by kernel_rfl) (by kernel_rfl) ?_ ?_ (by assumption) ?_
        rotate_left 2
        · (simp only [List.getElem?_toArray, List.getElem?_cons_zero, List.getElem?_cons_succ]; rfl)
        rotate_left
        · (refine Or.inl ⟨by rfl, ?_⟩; intro w hSw; (try dsimp only at hSw); go_simp; try with_reducible rfl)
        rotate_right
        · exact fun _ _ _ h => h
        simp only [Act.put, List.setIfInBounds_toArray, List.set_cons_zero, List.set_cons_succ]
        refine wpAnyH_take (i := 21) (oi := ?_) (v := ?_) ?_ (by kernel_rfl) (by kernel_rfl) (by kernel_rfl) ?_ ?_ (by assumption) ?_
        rotate_left 2
        · (simp only [List.getElem?_toArray, List.getElem?_cons_zero, List.getElem?_cons_succ]; rfl)
        rotate_left
        · (refine Or.inl ⟨by rfl, ?_⟩; intro w hSw; (try dsimp only at hSw); go_simp; try with_reducible rfl)
        rotate_right
        · exact fun _ _ _ h => h
        simp only [Act.put, List.setIfInBounds_toArray, List.set_cons_zero, List.set_cons_succ]
        refine wpAnyH_take (i := 22) (oi := ?_) (v := ?_) ?_ (by kernel_rfl) (by kernel_rfl) (by kernel_rfl) ?_ ?_ (by assumption) ?_
        rotate_left 2
        · (simp only [List.getElem?_toArray, List.getElem?_cons_zero, List.getElem?_cons_succ]; rfl)
        rotate_left
        · (refine Or.inl ⟨by rfl, ?_⟩; intro w hSw; (try dsimp only at hSw); go_simp; try with_reducible rfl)
        rotate_right
        · exact fun _ _ _ h => h
        simp only [Act.put, List.setIfInBounds_toArray, List.set_cons_zero, List.set_cons_succ]
        refine wpAnyH_take (i := 24) (oi := ?_) (v := ?_) ?_ (by kernel_rfl) (by kernel_rfl) (by kernel_rfl) ?_ ?_ (by assumption) ?_
        rotate_left 2
        · (simp only [List.getElem?_toArray, List.getElem?_cons_zero, List.getElem?_cons_succ]; rfl)
        rotate_left
        · (refine Or.inl ⟨by rfl, ?_⟩; intro w hSw; (try dsimp only at hSw); go_simp; try with_reducible rfl)
        rotate_right
        · exact fun _ _ _ h => h
        simp only [Act.put, List.setIfInBounds_toArray, List.set_cons_zero, List.set_cons_succ]
        refine wpAnyH_ready (rs := [23]) (by kernel_rfl) (by simp) ?_
        refine AllReadyH.cons (o := ?_) ?_ (fun K hK => ?_) AllReadyH.nil
        rotate_left
        · (simp only [List.getElem?_toArray, List.getElem?_cons_zero, List.getElem?_cons_succ]; rfl)
        go_simp
        (go_at_call 24; refine (C6.out _ (by first | assumption | exact Below.drew (by assumption))).mono ?_; rintro e w8 ⟨rfl, hb8, hS8⟩)
        refine hK.out _ _ (by first | assumption) (fun hHeld => ?_)
        clear hK K
        refine wpAnyH_ready (rs := [25]) (by kernel_rfl) (by simp) ?_
        refine AllReadyH.cons (o := ?_) ?_ (fun K hK => ?_) AllReadyH.nil
        rotate_left
        · (simp only [List.getElem?_toArray, List.getElem?_cons_zero, List.getElem?_cons_succ]; rfl)
        go_simp
        (go_at_call 25; refine (C7.out _ (by first | assumption | exact Below.drew (by assumption))).mono ?_; rintro e w9 ⟨rfl, hb9, hS9⟩)
        refine hK.out _ _ (by first | assumption) (fun hHeld => ?_)
        clear hK K
        refine wpAnyH_take (i := 26) (oi := ?_) (v := ?_) ?_ (by kernel_rfl) (by kernel_rfl) (by kernel_rfl) ?_ ?_ (by assumption) ?_
        rotate_left 2
        · (simp only [List.getElem?_toArray, List.getElem?_cons_zero, List.getElem?_cons_succ]; rfl)
        rotate_left
        · (refine Or.inl ⟨by rfl, ?_⟩; intro w hSw; (try dsimp only at hSw); go_simp; try with_reducible rfl)
        rotate_right
        · exact fun _ _ _ h => h
        simp only [Act.put, List.setIfInBounds_toArray, List.set_cons_zero, List.set_cons_succ]
        refine wpAnyH_take (i := 27) (oi := ?_) (v := ?_) ?_ (by kernel_rfl) (by kernel_rfl) (by kernel_rfl) ?_ ?_ (by assumption) ?_
        rotate_left 2
        · (simp only [List.getElem?_toArray, List.getElem?_cons_zero, List.getElem?_cons_succ]; rfl)
        rotate_left
        · (refine Or.inl ⟨by rfl, ?_⟩; intro w hSw; (try dsimp only at hSw); go_simp; try with_reducible rfl)
        rotate_right
        · exact fun _ _ _ h => h
        simp only [Act.put, List.setIfInBounds_toArray, List.set_cons_zero, List.set_cons_succ]
        refine wpAnyH_take (i := 28) (oi := ?_) (v := ?_) ?_ (by kernel_rfl) (by kernel_rfl) (by kernel_rfl) ?_ ?_ (by assumption) ?_
        rotate_left 2
        · (simp only [List.getElem?_toArray, List.getElem?_cons_zero, List.getElem?_cons_succ]; rfl)
        rotate_left
        · (refine Or.inl ⟨by rfl, ?_⟩; intro w hSw; (try dsimp only at hSw); go_simp; try with_reducible rfl)
        rotate_right
        · exact fun _ _ _ h => h
        simp only [Act.put, List.setIfInBounds_toArray, List.set_cons_zero, List.set_cons_succ]
        refine wpAnyH_take (i := 29) (oi := ?_) (v := ?_) ?_ (by kernel_rfl) (by kernel_rfl) (by kernel_rfl) ?_ ?_ (by assumption) ?_
        rotate_left 2
        · (simp only [List.getElem?_toArray, List.getElem?_cons_zero, List.getElem?_cons_succ]; rfl)
        rotate_left
        · (refine Or.inl ⟨by rfl, ?_⟩; intro w hSw; (try dsimp only at hSw); go_simp; try with_reducible rfl)
        rotate_right
        · exact fun _ _ _ h => h
        simp only [Act.put, List.setIfInBounds_toArray, List.set_cons_zero, List.set_cons_succ]
        refine wpAnyH_take (i := 30) (oi := ?_) (v := ?_) ?_ (by kernel_rfl) (by kernel_rfl) (by kernel_rfl) ?_ ?_ (by assumption) ?_
        rotate_left 2
        · (simp only [List.getElem?_toArray, List.getElem?_cons_zero, List.getElem?_cons_succ]; rfl)
        rotate_left
        · (refine Or.inl ⟨by rfl, ?_⟩; intro w hSw; (try dsimp only at hSw); go_simp; try with_reducible rfl)
        rotate_right
        · exact fun _ _ _ h => h
        simp only [Act.put, List.setIfInBounds_toArray, List.set_cons_zero, List.set_cons_succ]
        refine wpAnyH_take (i := 31) (oi := ?_) (v := ?_) ?_ (by kernel_rfl) (by kernel_rfl) (by kernel_rfl) ?_ ?_ (by assumption) ?_
        rotate_left 2
        · (simp only [List.getElem?_toArray, List.getElem?_cons_zero, List.getElem?_cons_succ]; rfl)
        rotate_left
        · (refine Or.inl ⟨by rfl, ?_⟩; intro w hSw; (try dsimp only at hSw); go_simp; try with_reducible rfl)
        rotate_right
        · exact fun _ _ _ h => h
        simp only [Act.put, List.setIfInBounds_toArray, List.set_cons_zero, List.set_cons_succ]
        refine wpAnyH_take (i := 32) (oi := ?_) (v := ?_) ?_ (by kernel_rfl) (by kernel_rfl) (by kernel_rfl) ?_ ?_ (by assumption) ?_
        rotate_left 2
        · (simp only [List.getElem?_toArray, List.getElem?_cons_zero, List.getElem?_cons_succ]; rfl)
        rotate_left
        · (refine Or.inl ⟨by rfl, ?_⟩; intro w hSw; (try dsimp only at hSw); go_simp; try with_reducible rfl)
        rotate_right
        · exact fun _ _ _ h => h
        simp only [Act.put, List.setIfInBounds_toArray, List.set_cons_zero, List.set_cons_succ]
        refine wpAnyH_take (i := 33) (oi := ?_) (v := ?_) ?_ (by kernel_rfl) (by kernel_rfl) (by kernel_rfl) ?_ ?_ (by assumption) ?_
        rotate_left 2
        · (simp only [List.getElem?_toArray, List.getElem?_cons_zero, List.getElem?_cons_succ]; rfl)
        rotate_left
        · (refine Or.inl ⟨by rfl, ?_⟩; intro w hSw; (try dsimp only at hSw); go_simp; try with_reducible rfl)
        rotate_right
        · exact fun _ _ _ h => h
        simp only [Act.put, List.setIfInBounds_toArray, List.set_cons_zero, List.set_cons_succ]
        refine wpAnyH_take (i := 35) (oi := ?_) (v := ?_) ?_ (by kernel_rfl) (by kernel_rfl) (by kernel_rfl) ?_ ?_ (by assumption) ?_
        rotate_left 2
        · (simp only [List.getElem?_toArray, List.getElem?_cons_zero, List.getElem?_cons_succ]; rfl)
        rotate_left
        · (refine Or.inl ⟨by rfl, ?_⟩; intro w hSw; (try dsimp only at hSw); go_simp; try with_reducible rfl)
        rotate_right
        · exact fun _ _ _ h => h
        simp only [Act.put, List.setIfInBounds_toArray, List.set_cons_zero, List.set_cons_succ]
        refine wpAnyH_take (i := 36) (oi := ?_) (v := ?_) ?_ (by kernel_rfl) (by kernel_rfl) (by kernel_rfl) ?_ ?_ (by assumption) ?_
        rotate_left 2
        · (simp only [List.getElem?_toArray, List.getElem?_cons_zero, List.getElem?_cons_succ]; rfl)
        rotate_left
        · (refine Or.inl ⟨by rfl, ?_⟩; intro w hSw; (try dsimp only at hSw); go_simp; try with_reducible rfl)
        rotate_right
        · exact fun _ _ _ h => h
        simp only [Act.put, List.setIfInBounds_toArray, List.set_cons_zero, List.set_cons_succ]
        refine wpAnyH_ready (rs := [34]) (by kernel_rfl) (by simp) ?_
        refine AllReadyH.cons (o := ?_) ?_ (fun K hK => ?_) AllReadyH.nil
        rotate_left
        · (simp only [List.getElem?_toArray, List.getElem?_cons_zero, List.getElem?_cons_succ]; rfl)
        go_simp
        (go_at_call 21; refine (C2.out _ (by first | assumption | exact Below.drew (by assumption))).mono ?_; rintro e w4 ⟨⟨v4, rfl, hv4⟩, hb4, hS4⟩)
        refine hK.out _ _ (by first | assumption) (fun hHeld => ?_)
        clear hK K
        refine wpAnyH_ready (rs := [37]) (by kernel_rfl) (by simp) ?_
        refine AllReadyH.cons (o := ?_) ?_ (fun K hK => ?_) AllReadyH.nil
        rotate_left
        · (simp only [List.getElem?_toArray, List.getElem?_cons_zero, List.getElem?_cons_succ]; rfl)
        go_simp
        (go_at_call 20; refine (C3.out _ _ _ (by first | assumption | exact Below.drew (by assumption)) hv4 _ (HW2.out _ (by first | assumption | exact Below.drew (by assumption))) HLT.out).mono ?_; rintro e w5 ⟨rfl, hb5, hS5⟩)
        refine hK.out _ _ (by first | assumption) (fun hHeld => ?_)
        clear hK K
        refine wpAnyH_take (i := 38) (oi := ?_) (v := ?_) ?_ (by kernel_rfl) (by kernel_rfl) (by kernel_rfl) ?_ ?_ (by assumption) ?_
        rotate_left 2
        · (simp only [List.getElem?_toArray, List.getElem?_cons_zero, List.getElem?_cons_succ]; rfl)
        rotate_left
        · (refine Or.inl ⟨by rfl, ?_⟩; intro w hSw; (try dsimp only at hSw); go_simp; try with_reducible rfl)
        rotate_right
        · exact fun _ _ _ h => h
        simp only [Act.put, List.setIfInBounds_toArray, List.set_cons_zero, List.set_cons_succ]
        refine wpAnyH_take (i := 39) (oi := ?_) (v := ?_) ?_ (by kernel_rfl) (by kernel_rfl) (by kernel_rfl) ?_ ?_ (by assumption) ?_
        rotate_left 2
        · (simp only [List.getElem?_toArray, List.getElem?_cons_zero, List.getElem?_cons_succ]; rfl)
        rotate_left
        · (refine Or.inl ⟨by rfl, ?_⟩; intro w hSw; (try dsimp only at hSw); go_simp; try with_reducible rfl)
        rotate_right
        · exact fun _ _ _ h => h
        simp only [Act.put, List.setIfInBounds_toArray, List.set_cons_zero, List.set_cons_succ]
        refine wpAnyH_take (i := 40) (oi := ?_) (v := ?_) ?_ (by kernel_rfl) (by kernel_rfl) (by kernel_rfl) ?_ ?_ (by assumption) ?_
        rotate_left 2
        · (simp only [List.getElem?_toArray, List.getElem?_cons_zero, List.getElem?_cons_succ]; rfl)
        rotate_left
        · (refine Or.inl ⟨by rfl, ?_⟩; intro w hSw; (try dsimp only at hSw); go_simp; try with_reducible rfl)
        rotate_right
        · exact fun _ _ _ h => h
        simp only [Act.put, List.setIfInBounds_toArray, List.set_cons_zero, List.set_cons_succ]
        refine wpAnyH_done (by kernel_rfl) ?_ _
        have HBz : Hid (Below w.heap.size w w5) := HBu.out.trans (hb5.mono HBu.out.size)
        have HBz' : Hid (Below w.heap.size w w5.drew) := HBz.out.drew
        clear hb0 hb6 hb7 hb8 hb9 hS0 hS6 hS7 hS8 hS9
        go_wp2_with fail
        go_ret
        exact ⟨rfl, by first | exact HBz.out | exact HBz'.out⟩

set_option maxRecDepth 100000 in
theorem marksDoes_walk (n : Int) (_n0 : -9223372036854775808 ≤ n) (_n9 : n ≤ 9223372036854775807) (v : Value) (w : World) (hO : StepsAt w v) :
    Calls Try.prog 3 #[.int .i64 n, v] w fun e w' => e = .returned (.bool true) ∧ Below w.heap.size w w' := by
  obtain ⟨A, len, cap, rfl, hO⟩ := hO
  by_cases hl : len ≤ 100
  · exact marksDoes_few n A len cap w hl hO
  · have hd : decide ((100 : Int) < (len : Int)) = true := by simp; omega
    clear hO
    go_enter Try.func3, Try.ntmps3
    go_wp2_with fail
    refine (works_any _).mono ?_
    rintro e w1 ⟨rfl, hb1⟩
    have HB1 := Lib.hid hb1
    clear hb1
    go_wp2_with fail
    go_ret
    exact ⟨rfl, HB1.out⟩
end Go.Proofs.Ytmgppfehgjildaa
