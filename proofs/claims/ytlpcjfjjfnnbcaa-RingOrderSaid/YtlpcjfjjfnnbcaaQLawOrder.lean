/-
  Walk over solderlaw06.RingOrder.
-/
import Derived.Test.YtlpcjfjjfnnbcaaQAll
import Derived.Deep.SlicePairs
import Derived.ChangeOld
import Derived.ProofKit
import Derived.OpenShut
namespace Go.Proofs.Ytlpcjfjjfnnbcaa
open Go.RowKit Go.ChangeShapes Go.WideShapes Go.ChangeAt Go.Deep

theorem add_block (a : Addr) (n : Nat) : (a.add n).block = a.block := by unfold Addr.add; split <;> rfl
/-- v is a slice of strings: at each index one stands, in a block of w. -/
def StrsAt (w : World) (v : Value) : Prop := ∃ (A : Option Addr) (len cap : Nat), v = .slice A len cap ∧
  ∀ i, i < len → ∃ (ad : Addr) (s : ByteArray), A = some ad ∧ ad.block < w.heap.size ∧ w.cell? (ad.add i) = some (.string s)

theorem ringOrder_open0 {H : Type} {enc : TypeId × Value → H} {W : World} {r : Reach} {b0 : Nat} {v : Value} {d : DataW H} {p : List MemPlace} (hval : Value.okWide Try.prog W r b0 44 v)
    (h : DataW.Trod enc Try.prog W 0 (fun _ => true) true 44 v d p) : StrsAt W v := by
  obtain ⟨A, len, cap, rfl⟩ := okWide_slice Try.underlying44 hval
  obtain ⟨fuel, hf⟩ := h
  rcases open_slice1 Try.underlying44 (by kernel_rfl) hf with ⟨hc, _⟩ | ⟨a, l, c, m, k, V, D, Pl, hc, _, hl, _, hmm, _, hall⟩
  · simp [Value.cells] at hc
    obtain ⟨rfl, rfl, rfl⟩ := hc
    exact ⟨none, 0, 0, rfl, fun i hi => absurd hi (by omega)⟩
  · simp [Value.cells] at hc
    obtain ⟨rfl, rfl, rfl⟩ := hc
    simp only [if_true] at hmm
    subst hmm
    refine ⟨some a, len, m, rfl, fun i hi => ?_⟩
    obtain ⟨c0, t0⟩ := hall i (by omega)
    obtain ⟨s, h1, _⟩ := DataW.trod_string Try.underlying9 t0
    simp only [List.cons.injEq, and_true] at h1
    rw [h1] at c0
    have hlt := World.block_lt_of_cell? W _ c0
    rw [add_block] at hlt
    exact ⟨a, s, rfl, hlt, c0⟩

theorem list_of {α : Type} {P : Nat → α → Prop} : ∀ n, (∀ i, i < n → ∃ s, P i s) → ∃ l : List α, l.length = n ∧ ∀ i (hi : i < l.length), P i (l[i]'hi)
  | 0, _ => ⟨[], rfl, fun i hi => absurd hi (by simp)⟩
  | n + 1, h => by
    obtain ⟨l, hl, hp⟩ := list_of n (fun i hi => h i (by omega))
    obtain ⟨s, hs⟩ := h n (by omega)
    refine ⟨l ++ [s], by simp [hl], fun i hi => ?_⟩
    simp only [List.length_append, List.length_cons, List.length_nil] at hi
    by_cases e : i < l.length
    · rw [List.getElem_append_left e]; exact hp i e
    · obtain rfl : i = n := by omega
      subst hl
      simpa using hs

set_option maxHeartbeats 4000000 in
set_option maxRecDepth 100000 in
theorem ringOrder_few (L : List ByteArray) (n : Int) (A : Option Addr) (cap : Nat) (w : World) (hl : L.length ≤ 300)
    (hO : ∀ i (hi : i < L.length), ∃ ad : Addr, A = some ad ∧ ad.block < w.heap.size ∧ w.cell? (ad.add i) = some (.string (L[i]'hi))) :
    Calls Try.prog 4 #[.slice A L.length cap, .int .i64 n] w fun e w' => e = .returned (.bool true) ∧ Below w.heap.size w w' := by
  have HO := Lib.hid hO
  have HM0 := Lib.hid (Box.new w 3 #[.int .i64 n])
  have HB0 := Lib.hid ((Below.refl w.heap.size w).alloc (Nat.le_refl _) (.cells #[.int .i64 n] 3))
  have hz0 : Hid ((w.alloc (.cells #[.int .i64 n] 3)).heap.size = w.heap.size + 1) := by simp [Hid]
  clear hO
  obtain ⟨len, hlen⟩ : ∃ len, len = L.length := ⟨_, rfl⟩
  rw [← hlen] at hl
  rw [← hlen]
  have HLN := Lib.hid hlen
  clear hlen
  have hd : decide ((300 : Int) < (len : Int)) = false := by simp; omega
  have hlen0 : (0 : Int) ≤ (len : Int) := by omega
  go_enter Try.func4, Try.ntmps4
  go_wp2_with fail
  obtain ⟨w0, hw0⟩ : ∃ x, x = w.alloc (.cells #[.int .i64 n] 3) := ⟨_, rfl⟩
  rw [← hw0] at HM0 HB0 hz0
  rw [← hw0]
  clear hw0
  obtain ⟨Mb, hMb⟩ : ∃ Mb, Mb = w.heap.size := ⟨_, rfl⟩
  rw [← hMb] at HM0 hz0
  rw [← hMb]
  have HMb := Lib.hid hMb
  clear hMb
  refine (works_any w0).mono ?_
  rintro e w1 ⟨rfl, hb1⟩
  have HM1 : Hid (Box w1 Mb 3 #[.int .i64 n]) := HM0.out.below hb1 HM0.out.lt
  have HB1 : Hid (Below w.heap.size w w1) := HB0.out.trans (hb1.mono HB0.out.size)
  have hz1 : Hid (Mb + 1 ≤ w1.heap.size) := by have := hb1.size; have := hz0.out; simp only [Hid]; omega
  clear hb1 HM0 HB0 hz0
  go_wp2_with fail
  refine (Q.new_any len w1).mono ?_
  rintro e w2 ⟨rfl, hw2⟩
  have em : M.most (len : Int) = len := by
    unfold M.most
    rw [if_neg (by omega), if_neg (by omega)]
    rfl
  rw [em] at hw2
  have HR2 : Hid (Q.Ring w2 w1.heap.size w1.heap.size len none [] 0 []) := by rw [hw2]; exact Q.Ring.new w1 _ (by omega)
  have HM2 : Hid (Box w2 Mb 3 #[.int .i64 n]) := by rw [hw2]; exact (Below.heap_alloc _ _ _ HM1.out.lt).trans HM1.out
  have HB2 : Hid (Below w.heap.size w w2) := by rw [hw2]; exact HB1.out.alloc HB1.out.size _
  have hz2 : Hid (w2.heap.size = w1.heap.size + 1) := by rw [hw2]; simp [Hid]
  obtain ⟨a, ha⟩ : ∃ a, a = w1.heap.size := ⟨_, rfl⟩
  rw [← ha] at HR2 hz2 hz1
  rw [← ha]
  clear hw2 ha HB1 HM1 em
  go_wp2_with fail
  go_loopw [6] (fun i wr => ∃ k : Nat, k ≤ len ∧ i = .int .i64 k ∧ (∃ g A' ss f, Q.Ring wr a g len A' ss f (L.take k) ∧ a ≤ g ∧ g < wr.heap.size) ∧ Box wr Mb 3 #[.int .i64 n] ∧ Below w.heap.size w wr ∧ a < wr.heap.size) (fun i _ => len - (intOf i).toNat)
  case atStart => exact ⟨0, Nat.zero_le _, rfl, ⟨a, none, [], 0, HR2.out, Nat.le_refl _, by have := hz2.out; omega⟩, HM2.out, HB2.out, by have := hz2.out; omega⟩
  case round =>
    obtain ⟨k, hk, rfl, ⟨g, A', ss, f, hR, hg, hgl⟩, hM, hB, ha⟩ := hrel
    have HR := Lib.hid hR
    have HM := Lib.hid hM
    have HB := Lib.hid hB
    have hMa : Mb < a := hz1.out
    clear hR hM hB HR2 HM2 HB2
    by_cases hlt : k < len
    · have hkl : k < L.length := by rw [← HLN.out]; exact hlt
      obtain ⟨ad, rfl, hbl, hc0⟩ := HO.out k hkl
      have hc : wr.cell? (ad.add k) = some (.string (L[k]'hkl)) := (HB.out.cell (by rw [add_block]; exact hbl)).trans hc0
      clear hc0
      have hk0 : (0 : Int) ≤ (k : Int) := by omega
      have hk1 : (k : Int) < (len : Int) := by omega
      have HC := Lib.hid (Q.push_any (L[k]'hkl) wr HR.out (by rw [List.length_take]; omega))
      rw [← List.take_succ_eq_append_getElem hkl] at HC
      obtain ⟨s, hs⟩ : ∃ s, s = L[k]'hkl := ⟨_, rfl⟩
      rw [← hs] at hc HC
      clear hs hkl hbl
      go_wp2_with fail
      refine HC.out.mono ?_
      rintro e w3 ⟨rfl, ⟨g', A3, ss', f', hR3, hg3⟩, hk3⟩
      have HR3 := Lib.hid hR3
      have HM3 : Hid (Box w3 Mb 3 #[.int .i64 n]) := hk3.box HM.out (by omega)
      have HB3 : Hid (Below w.heap.size w w3) := HB.out.trans (hk3.below HB.out.size (fun i hi e => by have := HMb.out; omega))
      have hz3 : Hid (wr.heap.size ≤ w3.heap.size) := hk3.size
      have hg' : Hid (a ≤ g') := by simp only [Hid]; omega
      have hgl' : Hid (g' < w3.heap.size) := by
        refine (hR3.full ?_).2.lt
        have h1 := hR3.lies.le
        rw [List.length_take] at h1
        have := HLN.out
        omega
      clear hR3 hk3 HR HM HB HC hc hg3
      go_wp2_with fail
      go_roundw
      case rel => exact ⟨k + 1, by omega, by go_num, ⟨_, _, _, _, HR3.out, hg'.out, hgl'.out⟩, HM3.out, HB3.out, by have := hz3.out; omega⟩
      case measure => simp [intOf]; omega
    · have ek : len = k := by omega
      subst ek
      have HR' : Hid (Q.Ring wr a g len A' ss f L) := by
        have := HR.out
        rw [show L.take len = L by rw [HLN.out]; exact List.take_length] at this
        exact this
      have HK5 : Hid (Kept (fun _ => False) wr (wr.alloc (.cells #[.int .i64 0] 3))) := (Kept.refl _ wr).alloc _
      have HN5 := Lib.hid (Box.new wr 3 #[.int .i64 0])
      clear HR
      go_wp2_with fail
      obtain ⟨w5, hw5⟩ : ∃ x, x = wr.alloc (.cells #[.int .i64 0] 3) := ⟨_, rfl⟩
      rw [← hw5] at HK5 HN5
      rw [← hw5]
      clear hw5
      refine (Q.all_any (some ⟨a, 0, none⟩) w5).mono ?_
      rintro e w6 ⟨rfl, hw6⟩
      have hk6 : Kept (fun _ => False) w5 w6 := by rw [hw6]; exact (Kept.refl _ w5).alloc _
      have HA6 : Hid (w6.cell? ⟨w5.heap.size, 0, none⟩ = some (.pointer (some ⟨a, 0, none⟩))) := by rw [hw6]; exact ((Box.new w5 _ _).cell 0).trans rfl
      have hk06 := HK5.out.trans hk6
      have HR6 := Lib.hid (HR'.out.kept hk06 (fun h => h) (fun h => h))
      have HN6 := Lib.hid (hk6.box HN5.out (fun h => h))
      have HM6 : Hid (w6.cell? ⟨Mb, 0, none⟩ = some (.int .i64 n)) := hk06.cell ((HM.out.cell 0).trans rfl) (fun h => h)
      have HB6 : Hid (Below w.heap.size w w6) := HB.out.trans (hk06.below HB.out.size (fun _ _ h => h))
      have hz4 := HB.out.size
      have hMN : Mb ≠ wr.heap.size := by omega
      have haN : a ≠ wr.heap.size := by omega
      have hgN : g ≠ wr.heap.size := by omega
      clear hw6 hk6 hk06 HR' HM HB HK5 HN5
      go_wp2_with fail
      refine (Q.all1_order w6 HA6.out HR6.out HN6.out HM6.out hMN).mono ?_
      rintro e w7 ⟨rfl, hN7, hk7⟩
      have HB7 : Hid (Below w.heap.size w w7) := HB6.out.trans (hk7.below HB6.out.size (fun i hi e => by omega))
      have HR7 : Hid (Q.Ring w7 a g len A' ss f L) := HR6.out.kept hk7 haN hgN
      have c2 : w7.cell? ⟨wr.heap.size, 0, none⟩ = some (.int .i64 (Q.told n L.length : Nat)) := (hN7.cell 0).trans rfl
      have c3 : w7.cell? ⟨Mb, 0, none⟩ = some (.int .i64 n) := hk7.cell HM6.out hMN
      obtain ⟨m1, e1⟩ : ∃ m1 : Int, (if n < 1 then (1 : Int) else n) = m1 := ⟨_, rfl⟩
      have e2 : (if (len : Int) < m1 then (len : Int) else m1) = ((Q.told n L.length : Nat) : Int) := by
        rw [← e1, ← HLN.out]
        unfold Q.told
        by_cases h1 : n < 1
        · rw [if_pos h1, if_pos h1]
          split <;> omega
        · rw [if_neg h1, if_neg h1]
          split <;> omega
      clear hN7 hk7 HB6 HA6 HR6 HN6 HM6
      obtain ⟨T, hT⟩ : ∃ T, T = Q.told n L.length := ⟨_, rfl⟩
      rw [← hT] at c2 e2
      clear hT
      go_wp2_with fail
      have HX : Hid (∀ y : World, Kept (fun k => k = a ∨ k = g) w7 y → Below w.heap.size w y) := fun y hy => HB7.out.trans (hy.below HB7.out.size (fun i hi e => by have := HMb.out; omega))
      clear HB7 c2 c3 e1 e2
      go_loopw [8] (fun i y => ∃ k : Nat, k ≤ len ∧ i = .int .i64 k ∧ (∃ ss f, Q.Ring y a g len A' ss f (L.drop k)) ∧ Kept (fun k => k = a ∨ k = g) w7 y) (fun i _ => len - (intOf i).toNat)
      case atStart => exact ⟨0, Nat.zero_le _, rfl, ⟨ss, f, HR7.out⟩, Kept.refl _ _⟩
      case round =>
        obtain ⟨k, hk, rfl, ⟨ss', f', hR⟩, hK⟩ := hrel
        have HR := Lib.hid hR
        have HK := Lib.hid hK
        clear hR hK HR7
        by_cases hlt : k < len
        · have hkl : k < L.length := by rw [← HLN.out]; exact hlt
          obtain ⟨ad, rfl, hbl, hc0⟩ := HO.out k hkl
          have HCE : Hid (∀ y : World, Below w.heap.size w y → y.cell? (ad.add k) = some (.string (L[k]'hkl))) := fun y hy => (hy.cell (by rw [add_block]; exact hbl)).trans hc0
          clear hc0
          rw [List.drop_eq_getElem_cons hkl] at HR
          have HC := Lib.hid (Q.pop_some _ HR.out)
          have hk0 : (0 : Int) ≤ (k : Int) := by omega
          have hk1 : (k : Int) < (len : Int) := by omega
          obtain ⟨s, hs⟩ : ∃ s, s = L[k]'hkl := ⟨_, rfl⟩
          rw [← hs] at HCE HC
          have hss := str_eq_self s
          clear HR hs hkl hbl
          go_wp2_with fail
          refine HC.out.mono ?_
          rintro e w8 ⟨rfl, hR8, hk8⟩
          have HR8 := Lib.hid hR8
          have HK8 := Lib.hid (HK.out.trans hk8)
          have hc := HCE.out w8 (HX.out w8 HK8.out)
          clear hR8 hk8 HC HCE
          go_wp2_with fail
          go_roundw
          case rel => exact ⟨k + 1, by omega, by go_num, HR8.out, HK8.out⟩
          case measure => simp [intOf]; omega
        · have ek : len = k := by omega
          subst ek
          have HR' : Hid (Q.Ring wr a g len A' ss' f' []) := by
            have := HR.out
            rw [show L.drop len = [] by rw [HLN.out]; exact List.drop_length] at this
            exact this
          clear HR
          go_wp2_with fail
          refine (Q.pop_none _ HR'.out).mono ?_
          rintro e w8 ⟨rfl, _, hk8⟩
          have HB8 := Lib.hid (HX.out w8 (HK.out.trans hk8))
          clear hk8
          go_wp2_with fail
          go_ret
          exact ⟨rfl, HB8.out⟩

theorem ringOrder_walk (v : Value) (n : Int) (_n0 : -9223372036854775808 ≤ n) (_n9 : n ≤ 9223372036854775807) (w : World) (hO : StrsAt w v) :
    Calls Try.prog 4 #[v, .int .i64 n] w fun e w' => e = .returned (.bool true) ∧ Below w.heap.size w w' := by
  obtain ⟨A, len, cap, rfl, hO⟩ := hO
  by_cases hl : len ≤ 300
  · obtain ⟨L, hL, hP⟩ := list_of (P := fun i s => ∃ ad : Addr, A = some ad ∧ ad.block < w.heap.size ∧ w.cell? (ad.add i) = some (.string s)) len (fun i hi => by
      obtain ⟨ad, s, h1, h2, h3⟩ := hO i hi
      exact ⟨s, ad, h1, h2, h3⟩)
    subst hL
    exact ringOrder_few L n A cap w hl hP
  · have hd : decide ((300 : Int) < (len : Int)) = true := by simp; omega
    have HB0 := Lib.hid ((Below.refl w.heap.size w).alloc (Nat.le_refl _) (.cells #[.int .i64 n] 3))
    clear hO
    go_enter Try.func4, Try.ntmps4
    go_wp2_with fail
    refine (works_any _).mono ?_
    rintro e w1 ⟨rfl, hb1⟩
    have HB1 := Lib.hid (HB0.out.trans (hb1.mono HB0.out.size))
    clear hb1
    go_wp2_with fail
    go_ret
    exact ⟨rfl, HB1.out⟩
end Go.Proofs.Ytlpcjfjjfnnbcaa
