/-
  Walk over solderlaw07.MarksBack.
-/
import Derived.Test.YtmgppfehgjildaaKNone
import Derived.Test.YtmgppfehgjildaaKRead
import Derived.Test.YtmgppfehgjildaaKSame
import Derived.Deep.SlicePairs
import Derived.ChangeOld
import Derived.ProofKit
import Derived.OpenShut
namespace Go.Proofs.Ytmgppfehgjildaa
open Go.RowKit Go.ChangeShapes Go.WideShapes Go.ChangeAt Go.Deep

theorem add_block (a : Addr) (n : Nat) : (a.add n).block = a.block := by unfold Addr.add; split <;> rfl
/-- v is a slice of ints: at each index one stands, in a block of w. -/
def IntsAt (w : World) (v : Value) : Prop := ∃ (A : Option Addr) (len cap : Nat), v = .slice A len cap ∧
  ∀ i, i < len → ∃ (ad : Addr) (x : Int), A = some ad ∧ ad.block < w.heap.size ∧ w.cell? (ad.add i) = some (.int .i64 x)

theorem marksBack_open1 {H : Type} {enc : TypeId × Value → H} {W : World} {r : Reach} {b0 : Nat} {v : Value} {d : DataW H} {p : List MemPlace} (hval : Value.okWide Try.prog W r b0 35 v)
    (h : DataW.Trod enc Try.prog W 0 (fun _ => true) true 35 v d p) : IntsAt W v := by
  obtain ⟨A, len, cap, rfl⟩ := okWide_slice Try.underlying35 hval
  obtain ⟨fuel, hf⟩ := h
  rcases open_slice1 Try.underlying35 (by kernel_rfl) hf with ⟨hc, _⟩ | ⟨a, l, c, m, k, V, D, Pl, hc, _, hl, _, hmm, _, hall⟩
  · simp [Value.cells] at hc
    obtain ⟨rfl, rfl, rfl⟩ := hc
    exact ⟨none, 0, 0, rfl, fun i hi => absurd hi (by omega)⟩
  · simp [Value.cells] at hc
    obtain ⟨rfl, rfl, rfl⟩ := hc
    simp only [if_true] at hmm
    subst hmm
    refine ⟨some a, len, m, rfl, fun i hi => ?_⟩
    obtain ⟨c0, t0⟩ := hall i (by omega)
    obtain ⟨s, h1, _⟩ := DataW.trod_int Try.underlying3 t0
    simp only [List.cons.injEq, and_true] at h1
    rw [h1] at c0
    have hlt := World.block_lt_of_cell? W _ c0
    rw [add_block] at hlt
    exact ⟨a, s, rfl, hlt, c0⟩

theorem M.read_back {m : Nat} {f : Nat → Bool} (hf : M.Below m f) : M.readE m (M.bytes m f) = 0 ∧ M.bitAt (M.bytes m f) = f := by
  have e : M.bitAt (M.bytes m f) = f := by funext i; exact M.bytes_bit m f hf i
  refine ⟨?_, e⟩
  unfold M.readE
  rw [M.bytes_len, if_neg (Nat.lt_irrefl _), if_neg (Nat.lt_irrefl _), if_neg]
  rw [M.good]
  · simp
  · intro i _ hb
    rw [e] at hb
    exact M.hasI_low hf hb
theorem M.read_more {m : Nat} {f : Nat → Bool} : M.readE m (M.bytes m f ++ [0]) = 2 := by
  unfold M.readE
  rw [List.length_append, M.bytes_len, if_neg (by omega), if_pos (by simp)]

set_option maxHeartbeats 4000000 in
set_option maxRecDepth 100000 in
theorem marksBack_few (n : Int) (A : Option Addr) (len cap : Nat) (w : World) (hl : len ≤ 300)
    (hO : ∀ i, i < len → ∃ (ad : Addr) (x : Int), A = some ad ∧ ad.block < w.heap.size ∧ w.cell? (ad.add i) = some (.int .i64 x)) :
    Calls Try.prog 5 #[.int .i64 n, .slice A len cap] w fun e w' => e = .returned (.bool true) ∧ Below w.heap.size w w' := by
  have HO := Lib.hid hO
  clear hO
  have hd : decide ((300 : Int) < (len : Int)) = false := by simp; omega
  have hlen0 : (0 : Int) ≤ (len : Int) := by omega
  go_enter Try.func5, Try.ntmps5
  go_wp2_with fail
  refine (works_any w).mono ?_
  rintro e w1 ⟨rfl, hb1⟩
  have HB1 := Lib.hid hb1
  clear hb1
  go_wp2_with fail
  refine (new_any n w1).mono ?_
  rintro e w2 ⟨rfl, hw2⟩
  have HS2 : Hid (Set w2 w1.heap.size (M.most n) (fun _ => false)) := by rw [hw2]; exact Set.new w1 n
  have HB2 : Hid (Below w.heap.size w w2) := by rw [hw2]; exact HB1.out.alloc HB1.out.size _
  have hz1 : w.heap.size ≤ w1.heap.size := HB1.out.size
  obtain ⟨a, ha⟩ : ∃ a, a = w1.heap.size := ⟨_, rfl⟩
  rw [← ha] at HS2 hz1
  rw [← ha]
  clear hw2 ha HB1
  obtain ⟨m, hm⟩ : ∃ m, m = M.most n := ⟨_, rfl⟩
  rw [← hm] at HS2
  have HM := Lib.hid hm
  clear hm
  go_wp2_with fail
  go_loopw [6] (fun i wr => ∃ k : Nat, k ≤ len ∧ i = .int .i64 k ∧ (∃ f, Set wr a m f) ∧ Below w.heap.size w wr) (fun i _ => len - (intOf i).toNat)
  case atStart => exact ⟨0, Nat.zero_le _, rfl, ⟨_, HS2.out⟩, HB2.out⟩
  case round =>
    obtain ⟨k, hk, rfl, ⟨f, hS⟩, hB⟩ := hrel
    have HS := Lib.hid hS
    have HB := Lib.hid hB
    clear hS hB HS2 HB2
    by_cases hlt : k < len
    · obtain ⟨ad, x, rfl, hbl, hc0⟩ := HO.out k hlt
      have hc : wr.cell? (ad.add k) = some (.int .i64 x) := (HB.out.cell (by rw [add_block]; exact hbl)).trans hc0
      have hk0 : (0 : Int) ≤ (k : Int) := by omega
      have hk1 : (k : Int) < (len : Int) := by omega
      clear hc0 hbl
      go_wp2_with fail
      refine (add_any x wr HS.out).mono ?_
      rintro e w3 ⟨rfl, hS3, hK3⟩
      have HS3 := Lib.hid hS3
      have HB3 : Hid (Below w.heap.size w w3) := HB.out.trans (hK3.below HB.out.size (fun i hi e => by omega))
      clear hS3 hK3 HS HB hc
      go_wp2_with fail
      go_roundw
      case rel => exact ⟨k + 1, by omega, by go_num, ⟨_, HS3.out⟩, HB3.out⟩
      case measure => simp [intOf]; omega
    · have ek : len = k := by omega
      subst ek
      have hlow := HS.out.low
      have hml := HS.out.le
      have HLow := Lib.hid hlow
      have hqs : M.wide m ≤ 125 := by unfold M.wide; omega
      obtain ⟨s, hs⟩ : ∃ s : ByteArray, s = ⟨(M.bytes m f).toArray⟩ := ⟨_, rfl⟩
      have hsz : s.size = M.wide m := by rw [hs, ← M.bytes_len m f]; rfl
      have HSL : Hid (s.data.toList = M.bytes m f) := by rw [hs]; rfl
      have HSM : Hid ((s ++ (⟨#[0]⟩ : ByteArray)).data.toList = M.bytes m f ++ [0]) := by
        show _ = _
        rw [ByteArray.data_append, Array.toList_append, HSL.out]
      have HBy : Hid (∀ x b, Set x b m f → Calls Try.prog 24 #[.pointer (some ⟨b, 0, none⟩)] x fun e w' => e = .returned (.string s) ∧ ∃ n, w' = x.drewN n) := fun x b hx => by rw [hs]; exact bytes_any x hx
      have HRd : Hid (∀ x, Calls Try.prog 26 #[.int .i64 n, .string (s ++ (⟨#[0]⟩ : ByteArray))] x fun e w' => ReadPost (M.most n) (s ++ (⟨#[0]⟩ : ByteArray)).data.toList x e w') := fun x => read_any n _ x
      clear hs hlow
      obtain ⟨q, hq⟩ : ∃ q, q = M.wide m := ⟨_, rfl⟩
      rw [← hq] at hqs hsz
      clear hq
      have hss := str_eq_self s
      go_wp2_with fail
      refine (HBy.out wr a HS.out).mono ?_
      rintro e w3 ⟨rfl, n3, hw3⟩
      have HS3 : Hid (Set w3 a m f) := by rw [hw3]; exact HS.out.drewN n3
      have HB3 : Hid (Below w.heap.size w w3) := by rw [hw3]; exact below_drewN HB.out n3
      clear hw3 HS HB
      go_wp2_with fail
      refine (read_any n s w3).mono ?_
      rintro e w4 ⟨p, he, _, hp, hb4⟩
      rw [← HM.out, HSL.out, (M.read_back HLow.out).1] at he
      rw [← HM.out, HSL.out, (M.read_back HLow.out).1, (M.read_back HLow.out).2] at hp
      subst he
      obtain ⟨t, rfl, htz, hSt⟩ := hp rfl
      have HT4 := Lib.hid hSt
      have HS4 := Lib.hid (HS3.out.below hb4 HS3.out.box.lt)
      have HB4 : Hid (Below w.heap.size w w4) := HB3.out.trans (hb4.mono HB3.out.size)
      clear hb4 hSt hp htz HS3 HB3
      go_wp2_with fail
      refine (HBy.out w4 a HS4.out).mono ?_
      rintro e w5 ⟨rfl, n5, hw5⟩
      have HS5 : Hid (Set w5 a m f) := by rw [hw5]; exact HS4.out.drewN n5
      have HT5 : Hid (Set w5 t m f) := by rw [hw5]; exact HT4.out.drewN n5
      have HB5 : Hid (Below w.heap.size w w5) := by rw [hw5]; exact below_drewN HB4.out n5
      clear hw5 HS4 HB4 HT4
      go_wp2_with fail
      refine (HRd.out w5).mono ?_
      rintro e w6 ⟨p, he, hp, _, hb6⟩
      rw [← HM.out, HSM.out, M.read_more] at he
      rw [← HM.out, HSM.out, M.read_more] at hp
      obtain rfl := hp (by decide)
      subst he
      have HS6 := Lib.hid (HS5.out.below hb6 HS5.out.box.lt)
      have HT6 := Lib.hid (HT5.out.below hb6 HT5.out.box.lt)
      have HB6 : Hid (Below w.heap.size w w6) := HB5.out.trans (hb6.mono HB5.out.size)
      clear hb6 hp HS5 HB5 HT5
      go_wp2_with fail
      refine (all_some w6 HT6.out 2000 (by omega)).mono ?_
      rintro e w7 ⟨⟨u, rfl, hu⟩, hb7⟩
      have HU7 := Lib.hid hu
      have HS7 := Lib.hid (HS6.out.below hb7 HS6.out.box.lt)
      have HT7 := Lib.hid (HT6.out.below hb7 HT6.out.box.lt)
      have HB7 : Hid (Below w.heap.size w w7) := HB6.out.trans (hb7.mono HB6.out.size)
      clear hb7 hu HS6 HB6 HT6
      go_wp2_with fail
      refine (all_some w7 HS7.out 2000 (by omega)).mono ?_
      rintro e w8 ⟨⟨v, rfl, hv⟩, hb8⟩
      have HV8 := Lib.hid hv
      have HU8 := Lib.hid (HU7.out.below hb8)
      have HS8 := Lib.hid (HS7.out.below hb8 HS7.out.box.lt)
      have HT8 := Lib.hid (HT7.out.below hb8 HT7.out.box.lt)
      have HB8 : Hid (Below w.heap.size w w8) := HB7.out.trans (hb8.mono HB7.out.size)
      clear hb8 hv HS7 HB7 HT7 HU7
      go_wp2_with fail
      refine (same_any w8 HU8.out HV8.out (by have := M.nums_len m f; rw [List.length_take]; omega)).mono ?_
      rintro e w9 ⟨rfl, n9, hw9⟩
      have HS9 : Hid (Set w9 a m f) := by rw [hw9]; exact HS8.out.drewN n9
      have HT9 : Hid (Set w9 t m f) := by rw [hw9]; exact HT8.out.drewN n9
      have HB9 : Hid (Below w.heap.size w w9) := by rw [hw9]; exact below_drewN HB8.out n9
      clear hw9 HS8 HT8 HB8 HU8 HV8
      go_wp2_with fail
      refine (HBy.out w9 t HT9.out).mono ?_
      rintro e w10 ⟨rfl, n10, hw10⟩
      have HS10 : Hid (Set w10 a m f) := by rw [hw10]; exact HS9.out.drewN n10
      have HB10 : Hid (Below w.heap.size w w10) := by rw [hw10]; exact below_drewN HB9.out n10
      clear hw10 HS9 HT9 HB9
      go_wp2_with fail
      refine (HBy.out w10 a HS10.out).mono ?_
      rintro e w11 ⟨rfl, n11, hw11⟩
      have HB11 : Hid (Below w.heap.size w w11) := by rw [hw11]; exact below_drewN HB10.out n11
      clear hw11 HS10 HB10
      go_wp2_with fail
      go_ret
      exact ⟨rfl, HB11.out⟩

theorem marksBack_walk (n : Int) (_n0 : -9223372036854775808 ≤ n) (_n9 : n ≤ 9223372036854775807) (v : Value) (w : World) (hO : IntsAt w v) :
    Calls Try.prog 5 #[.int .i64 n, v] w fun e w' => e = .returned (.bool true) ∧ Below w.heap.size w w' := by
  obtain ⟨A, len, cap, rfl, hO⟩ := hO
  by_cases hl : len ≤ 300
  · exact marksBack_few n A len cap w hl hO
  · have hd : decide ((300 : Int) < (len : Int)) = true := by simp; omega
    clear hO
    go_enter Try.func5, Try.ntmps5
    go_wp2_with fail
    refine (works_any _).mono ?_
    rintro e w1 ⟨rfl, hb1⟩
    have HB1 := Lib.hid hb1
    clear hb1
    go_wp2_with fail
    go_ret
    exact ⟨rfl, HB1.out⟩
end Go.Proofs.Ytmgppfehgjildaa
