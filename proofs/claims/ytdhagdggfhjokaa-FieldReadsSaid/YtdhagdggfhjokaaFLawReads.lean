/-
  Walk over solderlaw02.FieldReads.
-/
import Derived.Test.YtdhagdggfhjokaaFOps
import Derived.Deep.RegionHeld3
namespace Go.Proofs.Ytdhagdggfhjokaa
open Go.RowKit

theorem Box.alloc {w : World} {g : Nat} {t : TypeId} {cs : Array Value} (h : Box w g t cs) (o : Obj) : Box (w.alloc o) g t cs := (Below.heap_alloc w o g h.lt).trans h
theorem RdF.alloc {w : World} {g : Nat} {s : ByteArray} {t : M.St} (h : RdF w g s t) (o : Obj) : RdF (w.alloc o) g s t := Box.alloc h o
theorem RdF.kept {w w' : World} {g b : Nat} {s : ByteArray} {t : M.St} (h : RdF w g s t) (hg : w.grownBy w' (some b)) (hne : g ≠ b) : RdF w' g s t := Box.kept h hg hne
theorem RdR.kept {w w' : World} {g b : Nat} {s : ByteArray} {t : M.St} (h : RdR w g s t) (hg : w.grownBy w' (some b)) (hne : g ≠ b) : RdR w' g s t := Box.kept h hg hne
theorem cell_kept {w w' : World} {b : Nat} {p : Addr} {u : Value} (h : w.cell? p = some u) (hg : w.grownBy w' (some b)) (hne : p.block ≠ b) : w'.cell? p = some u :=
  (World.cell?_of_block (hg.block p.block (World.block_lt_of_cell? w _ h) (fun e => hne (by injection e)))).trans h

/-- The two readers, the number of the read at hand, and what is old, at a world x. -/
def Both (W : World) (ra rb : Nat) (s : ByteArray) (p : Addr) (n : Int) (t1 t2 : M.St) (x : World) : Prop :=
  RdF x ra s t1 ∧ RdR x rb s t2 ∧ x.cell? p = some (.int .i64 n) ∧ Below W.heap.size W x
/-- Where they lie. -/
def Apart (W : World) (ra rb : Nat) (p : Addr) : Prop := ra ≠ rb ∧ p.block ≠ ra ∧ p.block ≠ rb ∧ W.heap.size ≤ ra ∧ W.heap.size ≤ rb
theorem Both.drewN {W : World} {ra rb : Nat} {s : ByteArray} {p : Addr} {n : Int} {t1 t2 : M.St} {x : World} (h : Both W ra rb s p n t1 t2 x) (m : Nat) : Both W ra rb s p n t1 t2 (x.drewN m) :=
  ⟨h.1, h.2.1, h.2.2.1, ⟨h.2.2.2.os, h.2.2.2.tape, h.2.2.2.output, h.2.2.2.size, h.2.2.2.block⟩⟩
theorem Both.drew {W : World} {ra rb : Nat} {s : ByteArray} {p : Addr} {n : Int} {t1 t2 : M.St} {x : World} (h : Both W ra rb s p n t1 t2 x) : Both W ra rb s p n t1 t2 x.drew :=
  ⟨h.1, h.2.1, h.2.2.1, h.2.2.2.drew⟩
theorem add_next (a : Addr) (m : Nat) : a.add (m + 1) = ⟨(a.add m).block, (a.add m).off + 1, none⟩ := by
  unfold Addr.add
  by_cases h : m = 0
  · subst h; simp
  · simp [h]; omega
section
variable {W : World} {ra rb : Nat} {s : ByteArray} {p : Addr} {n : Int} {t1 t2 : M.St} {x : World}
theorem Both.a {y : World} {t : M.St} (h : Both W ra rb s p n t1 t2 x) (ha : Apart W ra rb p) (hF : RdF y ra s t) (hg : x.grownBy y (some ra)) : Both W ra rb s p n t t2 y :=
  ⟨hF, h.2.1.kept hg (Ne.symm ha.1), cell_kept h.2.2.1 hg ha.2.1, below_by h.2.2.2 hg ha.2.2.2.1 h.2.2.2.size⟩
theorem Both.b {y : World} {t : M.St} (h : Both W ra rb s p n t1 t2 x) (ha : Apart W ra rb p) (hR : RdR y rb s t) (hg : x.grownBy y (some rb)) : Both W ra rb s p n t1 t y :=
  ⟨h.1.kept hg ha.1, hR, cell_kept h.2.2.1 hg ha.2.2.1, below_by h.2.2.2 hg ha.2.2.2.2 h.2.2.2.size⟩
theorem num1 (ha : Apart W ra rb p) (h : Both W ra rb s p n t1 t2 x) (ht : t1.ok s) (n0 : -9223372036854775808 ≤ n) (n9 : n ≤ 9223372036854775807) :
    Calls Try.prog 12 #[.pointer (some ⟨ra, 0, none⟩), .int .i64 n] x fun e y => e = .returned (.int .i64 (M.outN s t1 n)) ∧ Both W ra rb s p n (M.stN s t1 n) t2 y ∧ y.cell? p = some (.int .i64 n) :=
  (numF ra s t1 n n0 n9 x h.1 ht).mono fun _ _ ⟨he, hF, hg⟩ => have hB := h.a ha hF hg; ⟨he, hB, hB.2.2.1⟩
theorem num2 (ha : Apart W ra rb p) (h : Both W ra rb s p n t1 t2 x) (ht : t2.ok s) (hs : s.size ≤ 100000) :
    Calls Try.prog 13 #[.pointer (some ⟨rb, 0, none⟩), .int .i64 n] x fun e y => e = .returned (.int .i64 (M.outN s t2 n)) ∧ Both W ra rb s p n t1 (M.stN s t2 n) y ∧ y.cell? p = some (.int .i64 n) :=
  (numR rb s t2 n hs x h.2.1 ht).mono fun _ _ ⟨he, hF, hg⟩ => have hB := h.b ha hF hg; ⟨he, hB, hB.2.2.1⟩
theorem byt1 (ha : Apart W ra rb p) (h : Both W ra rb s p n t1 t2 x) (ht : t1.ok s) :
    Calls Try.prog 14 #[.pointer (some ⟨ra, 0, none⟩), .int .i64 n] x fun e y => e = .returned (.string (M.outB s t1 n)) ∧ Both W ra rb s p n (M.stB s t1 n) t2 y ∧ y.cell? p = some (.int .i64 n) :=
  (bytesF ra s t1 n x h.1 ht).mono fun _ _ ⟨he, hF, hg⟩ => have hB := h.a ha hF hg; ⟨he, hB, hB.2.2.1⟩
theorem byt2 (ha : Apart W ra rb p) (h : Both W ra rb s p n t1 t2 x) (ht : t2.ok s) (hs : s.size ≤ 100000) :
    Calls Try.prog 15 #[.pointer (some ⟨rb, 0, none⟩), .int .i64 n] x fun e y => e = .returned (.string (M.outB s t2 n)) ∧ Both W ra rb s p n t1 (M.stB s t2 n) y ∧ y.cell? p = some (.int .i64 n) :=
  (bytesR rb s t2 n hs x h.2.1 ht).mono fun _ _ ⟨he, hF, hg⟩ => have hB := h.b ha hF hg; ⟨he, hB, hB.2.2.1⟩
end

/-- What holds at a round's head. -/
def AtHead (W : World) (ra rb len : Nat) (s : ByteArray) (j : Value) (wr : World) : Prop :=
  ∃ (k : Nat) (t : M.St), k ≤ len ∧ j = .int .i64 k ∧ t.ok s ∧ RdF wr ra s t ∧ RdR wr rb s t ∧ Below W.heap.size W wr

set_option maxHeartbeats 4000000 in
set_option maxRecDepth 100000 in
theorem fieldReads_few (s : ByteArray) (A : Option Addr) (len cap : Nat) (w : World) (hs : s.size ≤ 3000) (hl : len ≤ 200)
    (hO : ∀ i, i < len → ∃ (ad : Addr) (b : Bool) (n : Int), A = some ad ∧ ad.block < w.heap.size ∧ w.cell? (ad.add (i * 2)) = some (.bool b) ∧ w.cell? (ad.add (i * 2 + 1)) = some (.int .i64 n) ∧ -9223372036854775808 ≤ n ∧ n ≤ 9223372036854775807) :
    Calls Try.prog 4 #[.string s, .slice A len cap] w fun e w' => e = .returned (.bool true) ∧ Below w.heap.size w w' := by
  have hd : decide ((3000 : Int) < (s.size : Int)) = false := by simp; omega
  have hd2 : decide ((200 : Int) < (len : Int)) = false := by simp; omega
  have HO := Lib.hid hO
  clear hO
  go_enter Try.func4, Try.ntmps4
  go_wp2_with fail
  refine (works_any w).mono ?_
  rintro e w1 ⟨rfl, hb1⟩
  go_wp2_with fail
  refine (newF s w1).mono ?_
  rintro e w2 ⟨rfl, hR2, hb2⟩
  have hb2' := hb1.trans (hb2.mono hb1.size)
  have HF0 := Lib.hid (hR2.alloc (.cells #[.string s, .int .i64 0, .int .i64 0] 32))
  have HR0 : Hid (RdR (w2.alloc (.cells #[.string s, .int .i64 0, .int .i64 0] 32)) w2.heap.size s ⟨0, 0⟩) := Box.new _ _ _
  have hb3 := hb2'.alloc hb2'.size (.cells #[.string s, .int .i64 0, .int .i64 0] 32)
  have hz1 := hb1.size
  have hlt := hR2.lt
  obtain ⟨ra, hra⟩ : ∃ r, r = w1.heap.size := ⟨_, rfl⟩
  rw [← hra] at hR2 hb2 HF0 hz1 hlt
  rw [← hra]
  clear hR2 hb2 hb2' hb1 hra
  go_wp2_with fail
  obtain ⟨rb, hrb⟩ : ∃ r, r = w2.heap.size := ⟨_, rfl⟩
  obtain ⟨w3, hw3⟩ : ∃ x, x = w2.alloc (.cells #[.string s, .int .i64 0, .int .i64 0] 32) := ⟨_, rfl⟩
  rw [← hrb, ← hw3] at HR0
  rw [← hw3] at HF0 hb3
  rw [← hrb] at hlt
  rw [← hrb, ← hw3]
  clear hrb hw3
  have hne : ra ≠ rb := by omega
  go_loopw [8] (fun j wr => AtHead w ra rb len s j wr) (fun j _ => len - (intOf j).toNat)
  case atStart => exact ⟨0, ⟨0, 0⟩, Nat.zero_le _, rfl, Nat.zero_le _, HF0.out, HR0.out, hb3⟩
  case round =>
    obtain ⟨k, t, hk, rfl, ht, hF, hR, hbw⟩ := hrel
    have HF := Lib.hid hF
    have HR := Lib.hid hR
    clear hF hR HF0 HR0
    by_cases hlt : k < len
    · obtain ⟨ad, b, n, rfl, hbl, hc0, hc1, hn0, hn9⟩ := HO.out k hlt
      have hk0 : (0 : Int) ≤ (k : Int) := by omega
      have hk1 : (k : Int) < (len : Int) := by omega
      have hc0 : wr.cell? (ad.add (k * 2)) = some (.bool b) := (hbw.cell (by rw [blk_add]; exact hbl)).trans hc0
      have hc1 : wr.cell? ⟨(ad.add (k * 2)).block, (ad.add (k * 2)).off + 1, none⟩ = some (.int .i64 n) := by rw [← add_next]; exact (hbw.cell (by rw [blk_add]; exact hbl)).trans hc1
      have HB := Lib.hid hbw
      clear hbw
      have hap : Hid (Apart w ra rb ⟨(ad.add (k * 2)).block, (ad.add (k * 2)).off + 1, none⟩) := ⟨hne, by show (ad.add (k * 2)).block ≠ _; rw [blk_add]; omega, by show (ad.add (k * 2)).block ≠ _; rw [blk_add]; omega, by omega, by omega⟩
      have HX : Hid (Both w ra rb s ⟨(ad.add (k * 2)).block, (ad.add (k * 2)).off + 1, none⟩ n t t wr) := ⟨HF.out, HR.out, hc1, HB.out⟩
      have HT := Lib.hid ht
      clear HF HR HB ht
      cases b
      · have HT2 : Hid ((M.stB s t n).ok s) := M.stB_ok HT.out n
        obtain ⟨t', ht'⟩ : ∃ x, x = M.stB s t n := ⟨_, rfl⟩
        obtain ⟨q, hq⟩ : ∃ x, x = M.outB s t n := ⟨_, rfl⟩
        have C1 := Lib.hid (fun x (h : Both w ra rb s ⟨(ad.add (k * 2)).block, (ad.add (k * 2)).off + 1, none⟩ n t t x) => byt1 hap.out h HT.out)
        have C2 := Lib.hid (fun x (h : Both w ra rb s ⟨(ad.add (k * 2)).block, (ad.add (k * 2)).off + 1, none⟩ n t' t x) => byt2 hap.out h HT.out (by omega))
        rw [← ht'] at HT2 C1 C2
        rw [← hq] at C1 C2
        clear ht' hq
        go_wp2_with fail
        go_region_held3 (fun x => x.cell? ⟨(ad.add (k * 2)).block, (ad.add (k * 2)).off + 1, none⟩ = some (.int .i64 n)) (first | assumption)
          (first
            | (go_at_call_of 14 (Value.pointer none); refine (bytes_nil n _).mono ?_; rintro e w6 ⟨rfl, rfl⟩)
            | (go_at_call_of 14 (Value.pointer (some ⟨ra, 0, none⟩)); refine (C1.out _ (by first | exact HX.out | exact HX.out.drew)).mono ?_; rintro e w4 ⟨rfl, hX4, hc4⟩; have HX4 := Lib.hid hX4; clear hX4)
            | (go_at_call 15; refine (C2.out _ (by first | exact HX4.out | exact HX4.out.drew)).mono ?_; rintro e w5 ⟨rfl, hX5, hc5⟩; have HX5 := Lib.hid hX5; clear hX5))
        go_wp2_with fail
        refine (leftF ra s t' _ (by first | exact HX5.out.1 | exact HX5.out.drew.1) HT2.out).mono ?_
        rintro e w6 ⟨rfl, rfl⟩
        go_wp2_with fail
        refine (leftR rb s t' (by omega) _ (by first | exact HX5.out.2.1 | exact HX5.out.drew.2.1) HT2.out).mono ?_
        rintro e w7 ⟨rfl, m1, hw7⟩
        have HX7 : Hid (Both w ra rb s ⟨(ad.add (k * 2)).block, (ad.add (k * 2)).off + 1, none⟩ n t' t' w7) := by rw [hw7]; first | exact HX5.out.drewN m1 | exact HX5.out.drew.drewN m1
        clear hw7
        go_wp2_with fail
        refine (endF ra s t' w7 HX7.out.1 HT2.out).mono ?_
        rintro e w8 ⟨rfl, rfl⟩
        go_wp2_with fail
        refine (endR rb s t' w7 HX7.out.2.1 HT2.out).mono ?_
        rintro e w8 ⟨rfl, m2, hw8⟩
        have HX8 : Hid (Both w ra rb s ⟨(ad.add (k * 2)).block, (ad.add (k * 2)).off + 1, none⟩ n t' t' w8) := by rw [hw8]; exact HX7.out.drewN m2
        clear hw8
        go_wp2_with fail
        go_roundw
        case rel => exact ⟨k + 1, t', by omega, by go_num, HT2.out, HX8.out.1, HX8.out.2.1, HX8.out.2.2.2⟩
        case measure => simp [intOf]; omega
      · have HT2 : Hid ((M.stN s t n).ok s) := M.stN_ok HT.out n
        obtain ⟨t', ht'⟩ : ∃ x, x = M.stN s t n := ⟨_, rfl⟩
        obtain ⟨q, hq⟩ : ∃ x, x = M.outN s t n := ⟨_, rfl⟩
        have C1 := Lib.hid (fun x (h : Both w ra rb s ⟨(ad.add (k * 2)).block, (ad.add (k * 2)).off + 1, none⟩ n t t x) => num1 hap.out h HT.out hn0 hn9)
        have C2 := Lib.hid (fun x (h : Both w ra rb s ⟨(ad.add (k * 2)).block, (ad.add (k * 2)).off + 1, none⟩ n t' t x) => num2 hap.out h HT.out (by omega))
        rw [← ht'] at HT2 C1 C2
        rw [← hq] at C1 C2
        clear ht' hq
        go_wp2_with fail
        go_region_held3 (fun x => x.cell? ⟨(ad.add (k * 2)).block, (ad.add (k * 2)).off + 1, none⟩ = some (.int .i64 n)) (first | assumption)
          (first
            | (go_at_call_of 12 (Value.pointer none); refine (num_nil n _ hn0 hn9).mono ?_; rintro e w6 ⟨rfl, rfl⟩)
            | (go_at_call_of 12 (Value.pointer (some ⟨ra, 0, none⟩)); refine (C1.out _ (by first | exact HX.out | exact HX.out.drew)).mono ?_; rintro e w4 ⟨rfl, hX4, hc4⟩; have HX4 := Lib.hid hX4; clear hX4)
            | (go_at_call 13; refine (C2.out _ (by first | exact HX4.out | exact HX4.out.drew)).mono ?_; rintro e w5 ⟨rfl, hX5, hc5⟩; have HX5 := Lib.hid hX5; clear hX5))
        go_wp2_with fail
        refine (leftF ra s t' _ (by first | exact HX5.out.1 | exact HX5.out.drew.1) HT2.out).mono ?_
        rintro e w6 ⟨rfl, rfl⟩
        go_wp2_with fail
        refine (leftR rb s t' (by omega) _ (by first | exact HX5.out.2.1 | exact HX5.out.drew.2.1) HT2.out).mono ?_
        rintro e w7 ⟨rfl, m1, hw7⟩
        have HX7 : Hid (Both w ra rb s ⟨(ad.add (k * 2)).block, (ad.add (k * 2)).off + 1, none⟩ n t' t' w7) := by rw [hw7]; first | exact HX5.out.drewN m1 | exact HX5.out.drew.drewN m1
        clear hw7
        go_wp2_with fail
        refine (endF ra s t' w7 HX7.out.1 HT2.out).mono ?_
        rintro e w8 ⟨rfl, rfl⟩
        go_wp2_with fail
        refine (endR rb s t' w7 HX7.out.2.1 HT2.out).mono ?_
        rintro e w8 ⟨rfl, m2, hw8⟩
        have HX8 : Hid (Both w ra rb s ⟨(ad.add (k * 2)).block, (ad.add (k * 2)).off + 1, none⟩ n t' t' w8) := by rw [hw8]; exact HX7.out.drewN m2
        clear hw8
        go_wp2_with fail
        go_roundw
        case rel => exact ⟨k + 1, t', by omega, by go_num, HT2.out, HX8.out.1, HX8.out.2.1, HX8.out.2.2.2⟩
        case measure => simp [intOf]; omega
    · go_wp2_with fail
      refine (left_nil wr).mono ?_
      rintro e w4 ⟨rfl, rfl⟩
      go_wp2_with fail
      refine (end_nil wr).mono ?_
      rintro e w4 ⟨rfl, rfl⟩
      go_wp2_with fail
      go_ret
      exact ⟨rfl, hbw⟩

set_option maxHeartbeats 1000000 in
theorem fieldReads_walk (s : ByteArray) (v : Value) (w : World) (hO : OpsAt w v) :
    Calls Try.prog 4 #[.string s, v] w fun e w' => e = .returned (.bool true) ∧ Below w.heap.size w w' := by
  obtain ⟨A, len, cap, rfl, hO⟩ := hO
  by_cases hs : s.size ≤ 3000
  · by_cases hl : len ≤ 200
    · exact fieldReads_few s A len cap w hs hl hO
    · have hd : decide ((3000 : Int) < (s.size : Int)) = false := by simp; omega
      have hd2 : decide ((200 : Int) < (len : Int)) = true := by simp; omega
      clear hO
      go_enter Try.func4, Try.ntmps4
      go_wp2_with fail
      refine (works_any w).mono ?_
      rintro e w1 ⟨rfl, hb1⟩
      go_wp2_with fail
      go_ret
      exact ⟨rfl, hb1⟩
  · have hd : decide ((3000 : Int) < (s.size : Int)) = true := by simp; omega
    clear hO
    go_enter Try.func4, Try.ntmps4
    go_wp2_with fail
    refine (works_any w).mono ?_
    rintro e w1 ⟨rfl, hb1⟩
    go_wp2_with fail
    go_ret
    exact ⟨rfl, hb1⟩
end Go.Proofs.Ytdhagdggfhjokaa
