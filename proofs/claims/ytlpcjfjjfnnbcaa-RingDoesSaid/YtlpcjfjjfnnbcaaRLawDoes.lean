/-
  Walk over solderlaw06.RingDoes.
-/
import Derived.Test.YtlpcjfjjfnnbcaaRBoth
import Derived.Deep.SlicePairs
import Derived.ChangeOld
import Derived.ProofKit
import Derived.OpenShut
namespace Go.Proofs.Ytlpcjfjjfnnbcaa
open Go.RowKit Go.ChangeShapes Go.WideShapes Go.ChangeAt Go.Deep

theorem block_add (a : Addr) (n : Nat) : (a.add n).block = a.block := by unfold Addr.add; split <;> rfl
theorem add_next (a : Addr) (m : Nat) : a.add (m + 1) = ⟨(a.add m).block, (a.add m).off + 1, none⟩ := by
  unfold Addr.add
  by_cases h : m = 0
  · subst h; simp
  · simp [h]; omega

/-- v is a slice of steps: at each index two numbers stand, in a block of w. -/
def StepsAt (w : World) (v : Value) : Prop := ∃ (A : Option Addr) (len cap : Nat), v = .slice A len cap ∧
  ∀ i, i < len → ∃ (ad : Addr) (q n : Int), A = some ad ∧ ad.block < w.heap.size ∧ w.cell? (ad.add (i * 2)) = some (.int .i64 q) ∧ w.cell? (ad.add (i * 2 + 1)) = some (.int .i64 n)

theorem ringDoes_open1 {H : Type} {enc : TypeId × Value → H} {W : World} {r : Reach} {b0 : Nat} {v : Value} {d : DataW H} {p : List MemPlace} (hval : Value.okWide Try.prog W r b0 22 v)
    (h : DataW.Trod enc Try.prog W 0 (fun _ => true) true 22 v d p) : StepsAt W v := by
  obtain ⟨A, len, cap, rfl⟩ := okWide_slice Try.underlying22 hval
  obtain ⟨fuel, hf⟩ := h
  rcases open_slice_pairs Try.underlying22 Try.underlying29 (by kernel_rfl) rfl rfl (by kernel_rfl) (by kernel_rfl) hf with ⟨hc, _⟩ | ⟨a, l, c, m, k, V0, V1, D0, D1, P0, P1, hc, _, hl, _, hmm, _, hall⟩
  · simp [Value.cells] at hc
    obtain ⟨rfl, rfl, rfl⟩ := hc
    exact ⟨none, 0, 0, rfl, fun i hi => absurd hi (by omega)⟩
  · simp [Value.cells] at hc
    obtain ⟨rfl, rfl, rfl⟩ := hc
    simp only [if_true] at hmm
    subst hmm
    refine ⟨some a, len, m, rfl, fun i hi => ?_⟩
    obtain ⟨c0, c1, t0, t1⟩ := hall i (by omega)
    obtain ⟨q, h1, _, _⟩ := DataW.trod_int Try.underlying3 t0
    obtain ⟨n, h2, _, _⟩ := DataW.trod_int Try.underlying3 t1
    simp only [List.cons.injEq, and_true] at h1 h2
    rw [h1] at c0
    rw [h2] at c1
    have hlt := World.block_lt_of_cell? W _ c0
    rw [block_add] at hlt
    exact ⟨a, q, n, rfl, hlt, c0, c1⟩

/-- What holds at a round's head. -/
def AtHead (W : World) (a B b most len : Nat) (j : Value) (wr : World) : Prop :=
  ∃ (k : Nat) (L : List Int), k ≤ len ∧ j = .int .i64 k ∧ Both W a B b most L L wr

set_option maxHeartbeats 4000000 in
set_option maxRecDepth 100000 in
theorem ringDoes_few (n : Int) (A : Option Addr) (len cap : Nat) (w : World) (hl : len ≤ 300)
    (hO : ∀ i, i < len → ∃ (ad : Addr) (q n : Int), A = some ad ∧ ad.block < w.heap.size ∧ w.cell? (ad.add (i * 2)) = some (.int .i64 q) ∧ w.cell? (ad.add (i * 2 + 1)) = some (.int .i64 n)) :
    Calls Try.prog 3 #[.int .i64 n, .slice A len cap] w fun e w' => e = .returned (.bool true) ∧ Below w.heap.size w w' := by
  have hd : decide ((300 : Int) < (len : Int)) = false := by simp; omega
  have HO := Lib.hid hO
  clear hO
  go_enter Try.func3, Try.ntmps3
  go_wp2_with fail
  refine (works_any w).mono ?_
  rintro e w1 ⟨rfl, hb1⟩
  have HB1 := Lib.hid hb1
  clear hb1
  go_wp2_with fail
  refine (new_any n w1).mono ?_
  rintro e w2 ⟨rfl, hw2⟩
  have HR2 : Hid (Ring w2 w1.heap.size w1.heap.size (M.most n) none [] 0 []) := by rw [hw2]; exact Ring.new w1 _ (M.most_le n)
  have HB2 : Hid (Below w.heap.size w w2) := by rw [hw2]; exact HB1.out.alloc HB1.out.size _
  have hz2 : Hid (w2.heap.size = w1.heap.size + 1) := by rw [hw2]; simp [Hid]
  have hz1 : Hid (w.heap.size ≤ w1.heap.size) := HB1.out.size
  obtain ⟨a, ha⟩ : ∃ a, a = w1.heap.size := ⟨_, rfl⟩
  rw [← ha] at HR2 hz2 hz1
  rw [← ha]
  clear hw2 ha HB1
  go_wp2_with fail
  refine (refNew_any n w2).mono ?_
  rintro e w3 ⟨rfl, hw3⟩
  have HF3 : Hid (Ref w3 w2.heap.size w2.heap.size (M.most n) none 0 []) := by rw [hw3]; exact Ref.new w2 _ (M.most_le n)
  have HK3 : Hid (Kept (fun _ => False) w2 w3) := by rw [hw3]; exact (Kept.refl _ w2).alloc _
  have hz3 : Hid (w3.heap.size = w2.heap.size + 1) := by rw [hw3]; simp [Hid]
  obtain ⟨b, hb⟩ : ∃ b, b = w2.heap.size := ⟨_, rfl⟩
  rw [← hb] at HF3 hz3 hz2
  rw [← hb]
  clear hw3 hb
  obtain ⟨mo, hmo⟩ : ∃ mo, mo = M.most n := ⟨_, rfl⟩
  rw [← hmo] at HR2 HF3
  clear hmo
  have HX : Hid (∀ y : World, y = w3.alloc (.cells #[.pointer (some ⟨b, 0, none⟩)] 26) → Both w a w3.heap.size b mo [] [] y ∧ Lie w a w3.heap.size b) := by
    rintro y rfl
    have z1 := hz1.out
    have z2 := hz2.out
    have z3 := hz3.out
    have hk : Kept (fun _ => False) w3 (w3.alloc (.cells #[.pointer (some ⟨b, 0, none⟩)] 26)) := (Kept.refl _ w3).alloc _
    have hk2 := HK3.out.trans hk
    have hB := Box.new w3 26 #[.pointer (some ⟨b, 0, none⟩)]
    refine ⟨⟨a, none, [], 0, b, none, 0, HR2.out.kept hk2 (fun h => h) (fun h => h), HF3.out.kept hk (fun h => h) (fun _ h => h), (hB.cell 0).trans rfl, HB2.out.trans (hk2.below HB2.out.size (fun _ _ h => h)), by omega, ?_, ?_, ?_, ?_, ?_, ?_, ?_⟩, ⟨by omega, by omega, by omega, by omega, by omega, by omega⟩⟩
    all_goals (try simp)
    all_goals omega
  clear HR2 HF3 HK3 HB2
  go_wp2_with fail
  obtain ⟨w4, hw4⟩ : ∃ x, x = w3.alloc (.cells #[.pointer (some ⟨b, 0, none⟩)] 26) := ⟨_, rfl⟩
  have HX0 := Lib.hid (HX.out w4 hw4).1
  have HLie := Lib.hid (HX.out w4 hw4).2
  obtain ⟨B, hB⟩ : ∃ B, B = w3.heap.size := ⟨_, rfl⟩
  rw [← hB] at HX0 HLie
  rw [← hB, ← hw4]
  clear HX hw4 hB hz1 hz2 hz3
  go_loopw [7] (fun j wr => AtHead w a B b mo len j wr) (fun j _ => len - (intOf j).toNat)
  case atStart => exact ⟨0, [], Nat.zero_le _, rfl, HX0.out⟩
  case round =>
    obtain ⟨k, L, hk, rfl, hX⟩ := hrel
    have HXr := Lib.hid hX
    have hp := hX.ptr
    clear hX HX0
    by_cases hlt : k < len
    · obtain ⟨ad, q, v, rfl, hbl, hc0, hc1⟩ := HO.out k hlt
      have hk0 : (0 : Int) ≤ (k : Int) := by omega
      have hk1 : (k : Int) < (len : Int) := by omega
      have hc0 : wr.cell? (ad.add (k * 2)) = some (.int .i64 q) := (HXr.out.low.cell (by rw [block_add]; exact hbl)).trans hc0
      have HCELL : Hid (∀ y : World, Below w.heap.size w y → y.cell? ⟨(ad.add (k * 2)).block, (ad.add (k * 2)).off + 1, none⟩ = some (.int .i64 v)) := fun y hy => by rw [← add_next]; exact (hy.cell (by rw [block_add]; exact hbl)).trans hc1
      have hc1 := HCELL.out wr HXr.out.low
      clear HO hbl
      have hq : q = 0 ∨ q = 1 ∨ q = 2 ∨ (q ≠ 0 ∧ q ≠ 1 ∧ q ≠ 2) := by omega
      rcases hq with rfl | rfl | rfl | hq
      · -- Push
        have C1 := Lib.hid (fun y (h : Both w a B b mo L L y) => aPush HLie.out v h)
        obtain ⟨L', hL'⟩ : ∃ L', L' = M.pushL mo L v := ⟨_, rfl⟩
        have C2 := Lib.hid (fun y (h : Both w a B b mo L' L y) => bPush HLie.out v h)
        obtain ⟨e1, he1⟩ : ∃ e1, e1 = M.pushE mo L := ⟨_, rfl⟩
        rw [← hL', ← he1] at C1 C2
        clear hL' he1
        go_wp2_with fail
        go_region_held3 (fun y => y.cell? ⟨(ad.add (k * 2)).block, (ad.add (k * 2)).off + 1, none⟩ = some (.int .i64 v) ∧ y.cell? ⟨B, 0, none⟩ = some (.pointer (some ⟨b, 0, none⟩))) (first | exact ⟨hc1, hp⟩ | exact ⟨p4, r4⟩ | exact ⟨p5, r5⟩)
          (first
           | (go_at_call 9; refine (C1.out _ HXr.out.drew).mono ?_; rintro e w4 ⟨rfl, hX4⟩
              have HX4 := Lib.hid hX4
              have p4 := HCELL.out w4 hX4.low
              have r4 := hX4.ptr
              clear hX4)
           | (go_at_call 10; refine (C2.out _ (by first | exact HX4.out | exact HX4.out.drew)).mono ?_; rintro e w5 ⟨rfl, hX5⟩
              have HX5 := Lib.hid hX5
              have p5 := HCELL.out w5 hX5.low
              have r5 := hX5.ptr
              clear hX5))
        go_wp2_with fail
        have C3 := Lib.hid (fun y (h : Both w a B b mo L' L' y) => aAt v h)
        have C4 := Lib.hid (fun y (h : Both w a B b mo L' L' y) => bAt v h)
        obtain ⟨x1, hx1⟩ : ∃ x, x = M.atV L' v := ⟨_, rfl⟩
        obtain ⟨c1, hc1'⟩ : ∃ x, x = M.atB L' v := ⟨_, rfl⟩
        rw [← hx1, ← hc1'] at C3 C4
        clear hx1 hc1'
        have pt := HCELL.out _ HX5.out.low
        go_wp2_with fail
        refine (C3.out _ HX5.out).mono ?_
        rintro e w7 ⟨rfl, hX7⟩
        have HX7 := Lib.hid hX7
        have p7 := HCELL.out w7 hX7.low
        have r7 := hX7.ptr
        clear hX7 pt
        go_wp2_with fail
        go_region_held3 (fun y => y.cell? ⟨(ad.add (k * 2)).block, (ad.add (k * 2)).off + 1, none⟩ = some (.int .i64 v) ∧ y.cell? ⟨B, 0, none⟩ = some (.pointer (some ⟨b, 0, none⟩))) (first | exact ⟨p7, r7⟩)
          (first
           | (go_at_call 12; refine (C4.out _ HX7.out.drew).mono ?_; rintro e w8 ⟨rfl, rfl⟩))
        obtain ⟨u, hu⟩ : ∃ u, u = w7.drew := ⟨_, rfl⟩
        have HXu : Hid (Both w a B b mo L' L' u) := by rw [hu]; exact HX7.out.drew
        have pu : u.cell? ⟨B, 0, none⟩ = some (.pointer (some ⟨b, 0, none⟩)) := HXu.out.ptr
        rw [← hu]
        obtain ⟨r, hr⟩ : ∃ r, r = mo - L'.length := ⟨_, rfl⟩
        obtain ⟨Ab, cb, q0, q1⟩ := HXu.out.cells
        have hsm := HXu.out.small
        have HLen := Lib.hid (fun n => aLen (HXu.out.drewN n))
        have HRoom := Lib.hid (fun n => aRoom (HXu.out.drewN n))
        clear hu HX7 p7 r7
        rw [← hr] at HRoom
        obtain ⟨k', hk'⟩ : ∃ k', k' = L'.length := ⟨_, rfl⟩
        rw [← hk'] at q0 HLen hr hsm
        have xr : (mo : Int) - (k' : Int) = (r : Int) := by omega
        have z1 : (x1 != x1) = false := by simp
        have z2 : (c1 != c1) = false := by simp
        clear hk' hr C3 C4
        go_wp2_with fail
        go_quiet ((first
          | (go_at_call 16; exact Calls.quiet_of_same (HLen.out _))
          | (go_at_call 17; exact quiet_more (HRoom.out _))))
        go_wp2_with fail
        go_roundw
        case rel => exact ⟨k + 1, L', by omega, by go_num, by first | exact HXu.out.drewN _ | exact (HXu.out.drewN _).drewN _⟩
        case measure => simp [intOf]; omega
      · -- Pop
        have C1 := Lib.hid (aPop HLie.out HXr.out)
        obtain ⟨L', hL'⟩ : ∃ L', L' = L.drop 1 := ⟨_, rfl⟩
        have C2 := Lib.hid (fun y (h : Both w a B b mo L' L y) => bAt 0 h)
        have C2' := Lib.hid (fun y (h : Both w a B b mo L' L y) => bDrop HLie.out 1 h)
        rw [M.drop_few, ← hL'] at C2'
        rw [← hL'] at C1
        obtain ⟨x0, hx0⟩ : ∃ x, x = M.atV L 0 := ⟨_, rfl⟩
        obtain ⟨c0, hc0'⟩ : ∃ x, x = M.atB L 0 := ⟨_, rfl⟩
        rw [← hx0, ← hc0'] at C1 C2
        have z3 : (x0 != x0) = false := by simp
        have z4 : (c0 != c0) = false := by simp
        clear hL' hx0 hc0'
        go_wp2_with fail
        refine C1.out.mono ?_
        rintro e w4 ⟨rfl, hX4⟩
        have HX4 := Lib.hid hX4
        have r4 := hX4.ptr
        clear hX4
        go_wp2_with fail
        refine (C2.out w4 HX4.out).mono ?_
        rintro e w5' ⟨rfl, hw5'⟩
        subst hw5'
        go_wp2_with fail
        refine (C2'.out _ HX4.out).mono ?_
        rintro e w5 ⟨rfl, hX5⟩
        have HX5 := Lib.hid hX5
        have r5 := hX5.ptr
        have p5 := HCELL.out w5 hX5.low
        clear hX5
        go_wp2_with fail
        have C3 := Lib.hid (fun y (h : Both w a B b mo L' L' y) => aAt v h)
        have C4 := Lib.hid (fun y (h : Both w a B b mo L' L' y) => bAt v h)
        obtain ⟨x1, hx1⟩ : ∃ x, x = M.atV L' v := ⟨_, rfl⟩
        obtain ⟨c1, hc1'⟩ : ∃ x, x = M.atB L' v := ⟨_, rfl⟩
        rw [← hx1, ← hc1'] at C3 C4
        clear hx1 hc1'
        have pt := HCELL.out _ HX5.out.low
        go_wp2_with fail
        refine (C3.out _ HX5.out).mono ?_
        rintro e w7 ⟨rfl, hX7⟩
        have HX7 := Lib.hid hX7
        have p7 := HCELL.out w7 hX7.low
        have r7 := hX7.ptr
        clear hX7 pt
        go_wp2_with fail
        go_region_held3 (fun y => y.cell? ⟨(ad.add (k * 2)).block, (ad.add (k * 2)).off + 1, none⟩ = some (.int .i64 v) ∧ y.cell? ⟨B, 0, none⟩ = some (.pointer (some ⟨b, 0, none⟩))) (first | exact ⟨p7, r7⟩)
          (first
           | (go_at_call 12; refine (C4.out _ HX7.out.drew).mono ?_; rintro e w8 ⟨rfl, rfl⟩))
        obtain ⟨u, hu⟩ : ∃ u, u = w7.drew := ⟨_, rfl⟩
        have HXu : Hid (Both w a B b mo L' L' u) := by rw [hu]; exact HX7.out.drew
        have pu : u.cell? ⟨B, 0, none⟩ = some (.pointer (some ⟨b, 0, none⟩)) := HXu.out.ptr
        rw [← hu]
        obtain ⟨r, hr⟩ : ∃ r, r = mo - L'.length := ⟨_, rfl⟩
        obtain ⟨Ab, cb, q0, q1⟩ := HXu.out.cells
        have hsm := HXu.out.small
        have HLen := Lib.hid (fun n => aLen (HXu.out.drewN n))
        have HRoom := Lib.hid (fun n => aRoom (HXu.out.drewN n))
        clear hu HX7 p7 r7
        rw [← hr] at HRoom
        obtain ⟨k', hk'⟩ : ∃ k', k' = L'.length := ⟨_, rfl⟩
        rw [← hk'] at q0 HLen hr hsm
        have xr : (mo : Int) - (k' : Int) = (r : Int) := by omega
        have z1 : (x1 != x1) = false := by simp
        have z2 : (c1 != c1) = false := by simp
        clear hk' hr C3 C4
        go_wp2_with fail
        go_quiet ((first
          | (go_at_call 16; exact Calls.quiet_of_same (HLen.out _))
          | (go_at_call 17; exact quiet_more (HRoom.out _))))
        go_wp2_with fail
        go_roundw
        case rel => exact ⟨k + 1, L', by omega, by go_num, by first | exact HXu.out.drewN _ | exact (HXu.out.drewN _).drewN _⟩
        case measure => simp [intOf]; omega
      · -- Drop
        have C1 := Lib.hid (fun y (h : Both w a B b mo L L y) => aDrop HLie.out v h)
        obtain ⟨L', hL'⟩ : ∃ L', L' = L.drop (M.few v L.length) := ⟨_, rfl⟩
        have C2 := Lib.hid (fun y (h : Both w a B b mo L' L y) => bDrop HLie.out v h)
        rw [← hL'] at C1 C2
        obtain ⟨e1, he1⟩ : ∃ e1, e1 = M.few v L.length := ⟨_, rfl⟩
        rw [← he1] at C1 C2
        clear hL' he1
        go_wp2_with fail
        go_region_held3 (fun y => y.cell? ⟨(ad.add (k * 2)).block, (ad.add (k * 2)).off + 1, none⟩ = some (.int .i64 v) ∧ y.cell? ⟨B, 0, none⟩ = some (.pointer (some ⟨b, 0, none⟩))) (first | exact ⟨hc1, hp⟩ | exact ⟨p4, r4⟩ | exact ⟨p5, r5⟩)
          (first
           | (go_at_call 14; refine (C1.out _ HXr.out.drew).mono ?_; rintro e w4 ⟨rfl, hX4⟩
              have HX4 := Lib.hid hX4
              have p4 := HCELL.out w4 hX4.low
              have r4 := hX4.ptr
              clear hX4)
           | (go_at_call 13; refine (C2.out _ (by first | exact HX4.out | exact HX4.out.drew)).mono ?_; rintro e w5 ⟨rfl, hX5⟩
              have HX5 := Lib.hid hX5
              have p5 := HCELL.out w5 hX5.low
              have r5 := hX5.ptr
              clear hX5))
        go_wp2_with fail
        have C3 := Lib.hid (fun y (h : Both w a B b mo L' L' y) => aAt v h)
        have C4 := Lib.hid (fun y (h : Both w a B b mo L' L' y) => bAt v h)
        obtain ⟨x1, hx1⟩ : ∃ x, x = M.atV L' v := ⟨_, rfl⟩
        obtain ⟨c1, hc1'⟩ : ∃ x, x = M.atB L' v := ⟨_, rfl⟩
        rw [← hx1, ← hc1'] at C3 C4
        clear hx1 hc1'
        have pt := HCELL.out _ HX5.out.low
        go_wp2_with fail
        refine (C3.out _ HX5.out).mono ?_
        rintro e w7 ⟨rfl, hX7⟩
        have HX7 := Lib.hid hX7
        have p7 := HCELL.out w7 hX7.low
        have r7 := hX7.ptr
        clear hX7 pt
        go_wp2_with fail
        go_region_held3 (fun y => y.cell? ⟨(ad.add (k * 2)).block, (ad.add (k * 2)).off + 1, none⟩ = some (.int .i64 v) ∧ y.cell? ⟨B, 0, none⟩ = some (.pointer (some ⟨b, 0, none⟩))) (first | exact ⟨p7, r7⟩)
          (first
           | (go_at_call 12; refine (C4.out _ HX7.out.drew).mono ?_; rintro e w8 ⟨rfl, rfl⟩))
        obtain ⟨u, hu⟩ : ∃ u, u = w7.drew := ⟨_, rfl⟩
        have HXu : Hid (Both w a B b mo L' L' u) := by rw [hu]; exact HX7.out.drew
        have pu : u.cell? ⟨B, 0, none⟩ = some (.pointer (some ⟨b, 0, none⟩)) := HXu.out.ptr
        rw [← hu]
        obtain ⟨r, hr⟩ : ∃ r, r = mo - L'.length := ⟨_, rfl⟩
        obtain ⟨Ab, cb, q0, q1⟩ := HXu.out.cells
        have hsm := HXu.out.small
        have HLen := Lib.hid (fun n => aLen (HXu.out.drewN n))
        have HRoom := Lib.hid (fun n => aRoom (HXu.out.drewN n))
        clear hu HX7 p7 r7
        rw [← hr] at HRoom
        obtain ⟨k', hk'⟩ : ∃ k', k' = L'.length := ⟨_, rfl⟩
        rw [← hk'] at q0 HLen hr hsm
        have xr : (mo : Int) - (k' : Int) = (r : Int) := by omega
        have z1 : (x1 != x1) = false := by simp
        have z2 : (c1 != c1) = false := by simp
        clear hk' hr C3 C4
        go_wp2_with fail
        go_quiet ((first
          | (go_at_call 16; exact Calls.quiet_of_same (HLen.out _))
          | (go_at_call 17; exact quiet_more (HRoom.out _))))
        go_wp2_with fail
        go_roundw
        case rel => exact ⟨k + 1, L', by omega, by go_num, by first | exact HXu.out.drewN _ | exact (HXu.out.drewN _).drewN _⟩
        case measure => simp [intOf]; omega
      · -- At alone
        obtain ⟨n0, n1, n2⟩ := hq
        have d0 : (q == 0) = false := by simpa using n0
        have d1 : (q == 1) = false := by simpa using n1
        have d2 : (q == 2) = false := by simpa using n2
        clear n0 n1 n2
        obtain ⟨L', hL'⟩ : ∃ L', L' = L := ⟨_, rfl⟩
        rw [← hL'] at HXr
        clear hL'
        go_wp2_with fail
        have C3 := Lib.hid (fun y (h : Both w a B b mo L' L' y) => aAt v h)
        have C4 := Lib.hid (fun y (h : Both w a B b mo L' L' y) => bAt v h)
        obtain ⟨x1, hx1⟩ : ∃ x, x = M.atV L' v := ⟨_, rfl⟩
        obtain ⟨c1, hc1'⟩ : ∃ x, x = M.atB L' v := ⟨_, rfl⟩
        rw [← hx1, ← hc1'] at C3 C4
        clear hx1 hc1'
        have pt := HCELL.out _ HXr.out.low
        go_wp2_with fail
        refine (C3.out _ HXr.out).mono ?_
        rintro e w7 ⟨rfl, hX7⟩
        have HX7 := Lib.hid hX7
        have p7 := HCELL.out w7 hX7.low
        have r7 := hX7.ptr
        clear hX7 pt
        go_wp2_with fail
        go_region_held3 (fun y => y.cell? ⟨(ad.add (k * 2)).block, (ad.add (k * 2)).off + 1, none⟩ = some (.int .i64 v) ∧ y.cell? ⟨B, 0, none⟩ = some (.pointer (some ⟨b, 0, none⟩))) (first | exact ⟨p7, r7⟩)
          (first
           | (go_at_call 12; refine (C4.out _ HX7.out.drew).mono ?_; rintro e w8 ⟨rfl, rfl⟩))
        obtain ⟨u, hu⟩ : ∃ u, u = w7.drew := ⟨_, rfl⟩
        have HXu : Hid (Both w a B b mo L' L' u) := by rw [hu]; exact HX7.out.drew
        have pu : u.cell? ⟨B, 0, none⟩ = some (.pointer (some ⟨b, 0, none⟩)) := HXu.out.ptr
        rw [← hu]
        obtain ⟨r, hr⟩ : ∃ r, r = mo - L'.length := ⟨_, rfl⟩
        obtain ⟨Ab, cb, q0, q1⟩ := HXu.out.cells
        have hsm := HXu.out.small
        have HLen := Lib.hid (fun n => aLen (HXu.out.drewN n))
        have HRoom := Lib.hid (fun n => aRoom (HXu.out.drewN n))
        clear hu HX7 p7 r7
        rw [← hr] at HRoom
        obtain ⟨k', hk'⟩ : ∃ k', k' = L'.length := ⟨_, rfl⟩
        rw [← hk'] at q0 HLen hr hsm
        have xr : (mo : Int) - (k' : Int) = (r : Int) := by omega
        have z1 : (x1 != x1) = false := by simp
        have z2 : (c1 != c1) = false := by simp
        clear hk' hr C3 C4
        go_wp2_with fail
        go_quiet ((first
          | (go_at_call 16; exact Calls.quiet_of_same (HLen.out _))
          | (go_at_call 17; exact quiet_more (HRoom.out _))))
        go_wp2_with fail
        go_roundw
        case rel => exact ⟨k + 1, L', by omega, by go_num, by first | exact HXu.out.drewN _ | exact (HXu.out.drewN _).drewN _⟩
        case measure => simp [intOf]; omega
    · clear HO
      obtain ⟨ga, Aa, ss, f, g, A', cap', h1, h2, h3, h4, h5, h6, h7, h8, h9, h10, h11, h12⟩ := HXr.out
      have HK5 : Hid (Kept (fun _ => False) wr ((wr.alloc (.cells #[.int .i64 0] 3)).alloc (.cells #[.bool true] 4))) := ((Kept.refl _ wr).alloc _).alloc _
      have HN5 : Hid (Box ((wr.alloc (.cells #[.int .i64 0] 3)).alloc (.cells #[.bool true] 4)) wr.heap.size 3 #[.int .i64 0]) := (Below.heap_alloc _ _ _ (by simp)).trans (Box.new wr _ _)
      have HS5 : Hid (Box ((wr.alloc (.cells #[.int .i64 0] 3)).alloc (.cells #[.bool true] 4)) (wr.heap.size + 1) 4 #[.bool true]) := by
        have := Box.new (wr.alloc (.cells #[.int .i64 0] 3)) 4 #[.bool true]
        rwa [World.size_alloc] at this
      have hlb := h2.box.lt
      have hla := h1.box.lt
      have hlB : B < wr.heap.size := World.block_lt_of_cell? wr _ h3
      have H1 := Lib.hid h1
      have H2 := Lib.hid h2
      have H3 := Lib.hid h3
      have H4 := Lib.hid h4
      clear h1 h2 h3 h4 hp
      go_wp2_with fail
      obtain ⟨w5, hw5⟩ : ∃ x, x = (wr.alloc (.cells #[.int .i64 0] 3)).alloc (.cells #[.bool true] 4) := ⟨_, rfl⟩
      rw [← hw5] at HK5 HN5 HS5
      rw [← hw5]
      clear hw5
      refine (all_any (some ⟨a, 0, none⟩) w5).mono ?_
      rintro e w6 ⟨rfl, hw6⟩
      have hk6 : Kept (fun _ => False) w5 w6 := by rw [hw6]; exact (Kept.refl _ w5).alloc _
      have HA6 : Hid (w6.cell? ⟨w5.heap.size, 0, none⟩ = some (.pointer (some ⟨a, 0, none⟩))) := by rw [hw6]; exact ((Box.new w5 _ _).cell 0).trans rfl
      have hk06 := HK5.out.trans hk6
      have HR6 := Lib.hid (H1.out.kept hk06 (fun h => h) (fun h => h))
      have HT6 : Hid (Told w6 B wr.heap.size (wr.heap.size + 1) b g mo A' cap' L 0) :=
        ⟨hk06.cell H3.out (fun h => h), hk6.box HN5.out (fun h => h), hk6.box HS5.out (fun h => h), H2.out.kept hk06 (fun h => h) (fun _ h => h), by omega, ⟨by omega, by omega, fun _ => by omega⟩, ⟨by omega, by omega, fun _ => by omega⟩⟩
      have HB6 : Hid (Below w.heap.size w w6) := H4.out.trans (hk06.below H4.out.size (fun _ _ h => h))
      have hz4 := H4.out.size
      clear hw6 hk6 hk06 H1 H2 H3 H4 HK5 HN5 HS5
      go_wp2_with fail
      refine (all1_does w6 HA6.out HR6.out HT6.out).mono ?_
      rintro e w7 ⟨rfl, hT7, hk7⟩
      have HB7 : Hid (Below w.heap.size w w7) := HB6.out.trans (hk7.below HB6.out.size (fun k hk e => by omega))
      have c1 := hT7.ptr
      have c2 : w7.cell? ⟨wr.heap.size, 0, none⟩ = some (.int .i64 (L.length : Nat)) := (hT7.num.cell 0).trans rfl
      have c3 : w7.cell? ⟨wr.heap.size + 1, 0, none⟩ = some (.bool true) := (hT7.same.cell 0).trans rfl
      have c4 := hT7.ref.c0
      clear hT7 hk7 HB6 HA6 HR6 HT6
      obtain ⟨k', hk'⟩ : ∃ k', k' = L.length := ⟨_, rfl⟩
      rw [← hk'] at c2 c4
      clear hk'
      go_wp2_with fail
      go_quiet (fail)
      go_wp2_with fail
      go_ret
      exact ⟨rfl, below_drewN HB7.out _⟩

theorem ringDoes_walk (n : Int) (_n0 : -9223372036854775808 ≤ n) (_n9 : n ≤ 9223372036854775807) (v : Value) (w : World) (hO : StepsAt w v) :
    Calls Try.prog 3 #[.int .i64 n, v] w fun e w' => e = .returned (.bool true) ∧ Below w.heap.size w w' := by
  obtain ⟨A, len, cap, rfl, hO⟩ := hO
  by_cases hl : len ≤ 300
  · exact ringDoes_few n A len cap w hl hO
  · have hd : decide ((300 : Int) < (len : Int)) = true := by simp; omega
    clear hO
    go_enter Try.func3, Try.ntmps3
    go_wp2_with fail
    refine (works_any w).mono ?_
    rintro e w1 ⟨rfl, hb1⟩
    go_wp2_with fail
    go_ret
    exact ⟨rfl, hb1⟩
end Go.Proofs.Ytlpcjfjjfnnbcaa
