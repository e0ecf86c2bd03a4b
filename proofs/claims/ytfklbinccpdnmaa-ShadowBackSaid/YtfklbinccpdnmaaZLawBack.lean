/-
  A walk over solderlaw13.ShadowBack.
-/
import Derived.Test.YtfklbinccpdnmaaZWorks
import Derived.Test.YtfklbinccpdnmaaZQSk
import Derived.Deep.SlicePairs
import Derived.ChangeOld
import Derived.ProofKit
import Derived.OpenShut
namespace Go.Proofs.Ytfklbinccpdnmaa
open Go.RowKit Go.Maps Go.ChangeShapes Go.WideShapes Go.ChangeAt Go.Deep

theorem add_block (a : Addr) (n : Nat) : (a.add n).block = a.block := by unfold Addr.add; split <;> rfl
/-- A slice of strings. -/
def StrsAt (w : World) (v : Value) : Prop := ∃ (A : Option Addr) (len cap : Nat), v = .slice A len cap ∧
  ∀ i, i < len → ∃ (ad : Addr) (s : ByteArray), A = some ad ∧ ad.block < w.heap.size ∧ w.cell? (ad.add i) = some (.string s)

theorem shadowBack_open0 {H : Type} {enc : TypeId × Value → H} {W : World} {r : Reach} {b0 : Nat} {v : Value} {d : DataW H} {p : List MemPlace} (hval : Value.okWide Try.prog W r b0 43 v)
    (h : DataW.Trod enc Try.prog W 0 (fun _ => true) true 43 v d p) : StrsAt W v := by
  obtain ⟨A, len, cap, rfl⟩ := okWide_slice Try.underlying43 hval
  obtain ⟨fuel, hf⟩ := h
  rcases open_slice1 Try.underlying43 (by kernel_rfl) hf with ⟨hc, _⟩ | ⟨a, l, c, m, k, V, D, Pl, hc, _, hl, _, hmm, _, hall⟩
  · simp [Value.cells] at hc
    obtain ⟨rfl, rfl, rfl⟩ := hc
    exact ⟨none, 0, 0, rfl, fun i hi => absurd hi (by omega)⟩
  · simp [Value.cells] at hc
    obtain ⟨rfl, rfl, rfl⟩ := hc
    simp only [if_true] at hmm
    subst hmm
    refine ⟨some a, len, m, rfl, fun i hi => ?_⟩
    obtain ⟨c0, t0⟩ := hall i (by omega)
    obtain ⟨s, h1, _⟩ := DataW.trod_string Try.underlying9 t0
    simp only [List.cons.injEq, and_true] at h1
    rw [h1] at c0
    have hlt := World.block_lt_of_cell? W _ c0
    rw [add_block] at hlt
    exact ⟨a, s, rfl, hlt, c0⟩
theorem shadowBack_open1 {H : Type} {enc : TypeId × Value → H} {W : World} {r : Reach} {b0 : Nat} {v : Value} {d : DataW H} {p : List MemPlace} (hval : Value.okWide Try.prog W r b0 43 v)
    (h : DataW.Trod enc Try.prog W 0 (fun _ => true) true 43 v d p) : StrsAt W v := shadowBack_open0 hval h

/-- Strings as the code's map holds them. -/
def M.strs13 (T : List (Int × ByteArray)) : List (Int × Value) := T.map (fun p => (p.1, Value.string p.2))
theorem M.strs13_len (T : List (Int × ByteArray)) : (M.strs13 T).length = T.length := by simp [M.strs13]
theorem wf_tmod {x : Int} (h : 0 ≤ x) : (Lit.int .i64 (x.tmod 100)).wf = true := by
  have h1 := Int.tmod_nonneg (b := 100) h
  have h2 := Int.tmod_lt_of_pos x (b := 100) (by omega)
  exact WalkArith.wf_i64 (by omega)

set_option maxHeartbeats 4000000 in
set_option maxRecDepth 100000 in
theorem shadowBack_few (A B : Option Addr) (len ca n cb : Nat) (ask : Int) (w : World) (hask : (Lit.int .i64 ask).wf = true) (hl : len ≤ 200) (hn : n ≤ 200)
    (hO : ∀ i, i < len → ∃ (ad : Addr) (s : ByteArray), A = some ad ∧ ad.block < w.heap.size ∧ w.cell? (ad.add i) = some (.string s))
    (hU : ∀ i, i < n → ∃ (ad : Addr) (s : ByteArray), B = some ad ∧ ad.block < w.heap.size ∧ w.cell? (ad.add i) = some (.string s)) :
    Calls Try.prog 4 #[.slice A len ca, .slice B n cb, .int .i64 ask] w fun e w' => e = .returned (.bool true) ∧ Below w.heap.size w w' := by
  have HO := Lib.hid hO
  have HU := Lib.hid hU
  have HW := Lib.hid (works13_any w)
  have HN : Hid (∀ y, Below w.heap.size w y → Calls Try.prog 20 #[] y fun e w' => e = .returned (.pointer (some ⟨y.heap.size, 0, none⟩)) ∧ Sk 60 w w' y.heap.size (M.strs13 []) (M.strs13 []) ∧ Below y.heap.size y w') := fun y hy => Q.sk_new w y hy
  have HP : Hid (∀ (y : World) b (T K : List (Int × ByteArray)) (k : Int) (s : ByteArray), Sk 60 w y b (M.strs13 T) (M.strs13 K) → T.length ≤ 100000 → (Lit.int .i64 k).wf = true → Calls Try.prog 21 #[.pointer (some ⟨b, 0, none⟩), .int .i64 k, .string s] y fun e w' => e = .returned (.tuple #[]) ∧ ∃ T', T'.length ≤ T.length + 1 ∧ Sk 60 w w' b (M.strs13 T') (M.strs13 K)) := by
    intro y b T K k s h hl hk
    refine (Q.sk_put h k (.string s) hk (by rw [M.strs13_len]; exact hl)).mono ?_
    rintro e w' ⟨rfl, h'⟩
    refine ⟨rfl, M.ins k s T, M.ins_le k s T, ?_⟩
    have e : M.ins k (Value.string s) (M.strs13 T) = M.strs13 (M.ins k s T) := M.ins_map Value.string k s T
    rw [← e]
    exact h'
  have HK : Hid (∀ (y : World) b (T : List (Int × ByteArray)), Sk 60 w y b (M.strs13 T) (M.strs13 []) → T.length ≤ 100000 → Calls Try.prog 22 #[.pointer (some ⟨b, 0, none⟩)] y fun e w' => e = .returned (.tuple #[]) ∧ Sk 60 w w' b (M.strs13 []) (M.strs13 (M.puts T []))) := by
    intro y b T h hl
    refine (Q.sk_keep h (by rw [M.strs13_len, M.strs13_len]; simpa using hl)).mono ?_
    rintro e w' ⟨rfl, h'⟩
    have e : M.puts (M.strs13 T) (M.strs13 []) = M.strs13 (M.puts T []) := M.puts_map Value.string T []
    rw [← e]
    exact ⟨rfl, h'⟩
  have HB : Hid (∀ (y : World) b (T K : List (Int × ByteArray)), Sk 60 w y b (M.strs13 T) (M.strs13 K) → Calls Try.prog 24 #[.pointer (some ⟨b, 0, none⟩)] y fun e w' => e = .returned (.tuple #[]) ∧ Sk 60 w w' b (M.strs13 []) (M.strs13 K)) := fun y b T K h => Q.sk_back h
  have HG : Hid (∀ (y : World) b (K : List (Int × ByteArray)), Sk 60 w y b (M.strs13 []) (M.strs13 K) → Calls Try.prog 23 #[.pointer (some ⟨b, 0, none⟩), .int .i64 ask] y fun e w' => e = .returned (.tuple #[.string ((M.get13 ask [] K).getD ⟨#[]⟩), .bool (M.get13 ask [] K).isSome]) ∧ w' = y) := by
    intro y b K h
    have hg := Q.sk_get h ask hask
    have e : M.get13 ask (M.strs13 []) (M.strs13 K) = (M.get13 ask [] K).map Value.string := M.get_map Value.string ask [] K
    rw [e] at hg
    have e1 : ((M.get13 ask [] K).map Value.string).getD (.string ⟨#[]⟩) = .string ((M.get13 ask [] K).getD ⟨#[]⟩) := by cases M.get13 ask [] K <;> rfl
    rw [e1, Option.isSome_map] at hg
    exact hg
  have HL : Hid (∀ (y : World) b (K : List (Int × ByteArray)), Sk 60 w y b (M.strs13 []) (M.strs13 K) → Calls Try.prog 25 #[.pointer (some ⟨b, 0, none⟩)] y fun e w' => e = .returned (.int .i64 0) ∧ w' = y) := fun y b K h => Q.sk_loose h
  have hd : decide ((200 : Int) < (len : Int)) = false := by simp; omega
  have hd2 : decide ((200 : Int) < (n : Int)) = false := by simp; omega
  clear hO hU hask
  go_enter Try.func4, Try.ntmps4
  go_wp2_with fail
  refine HW.out.mono ?_
  rintro e w1 ⟨rfl, hb1⟩
  have HB1 := Lib.hid hb1
  clear hb1 HW
  go_wp2_with fail
  refine (HN.out w1 HB1.out).mono ?_
  rintro e w2 ⟨rfl, h2, -⟩
  obtain ⟨b, hb⟩ : ∃ b, b = w1.heap.size := ⟨_, rfl⟩
  rw [← hb] at h2
  rw [← hb]
  have H2 := Lib.hid h2
  clear h2 hb HB1 HN
  go_wp2_with fail
  go_loopw [8] (fun i wr => ∃ k : Nat, k ≤ len ∧ i = .int .i64 k ∧ ∃ T : List (Int × ByteArray), Sk 60 w wr b (M.strs13 T) (M.strs13 []) ∧ T.length ≤ k) (fun i _ => len - (intOf i).toNat)
  case atStart => exact ⟨0, Nat.zero_le _, rfl, [], H2.out, Nat.le_refl _⟩
  case round =>
    obtain ⟨k, hk, rfl, T, hS, hT⟩ := hrel
    have HS := Lib.hid hS
    have HT := Lib.hid hT
    clear hS hT H2
    by_cases hlt : k < len
    · obtain ⟨ad, s, rfl, hbl, hc0⟩ := HO.out k hlt
      have hc : wr.cell? (ad.add k) = some (.string s) := (HS.out.low.cell (by rw [add_block]; exact hbl)).trans hc0
      have hk0 : (0 : Int) ≤ (k : Int) := by omega
      have hk1 : (k : Int) < (len : Int) := by omega
      have HPk := Lib.hid (HP.out wr b T [] ((3 * (k : Int)).tmod 100) s HS.out (by have := HT.out; omega) (wf_tmod (by omega)))
      clear hc0 hbl
      go_wp2_with fail
      refine HPk.out.mono ?_
      rintro e w3 ⟨rfl, T', hT', hS'⟩
      have HS' := Lib.hid hS'
      have HT' : Hid (T'.length ≤ k + 1) := by have := HT.out; simp only [Hid]; omega
      clear hS' hT' hc HPk HS HT
      go_wp2_with fail
      go_roundw
      case rel => exact ⟨k + 1, by omega, by go_num, T', HS'.out, HT'.out⟩
      case measure => simp [intOf]; omega
    · have e : k = len := by omega
      subst e
      have HKk := Lib.hid (HK.out wr b T HS.out (by have := HT.out; omega))
      clear HS HT HK hlt hk
      go_wp2_with fail
      refine HKk.out.mono ?_
      rintro e w4 ⟨rfl, h4⟩
      obtain ⟨K, hK⟩ : ∃ K, K = M.puts T [] := ⟨_, rfl⟩
      rw [← hK] at h4
      have H4 := Lib.hid h4
      clear h4 hK HKk
      obtain ⟨s0, hs0⟩ : ∃ s, s = (M.get13 ask [] K).getD ⟨#[]⟩ := ⟨_, rfl⟩
      obtain ⟨i0, hi0⟩ : ∃ i, i = (M.get13 ask [] K).isSome := ⟨_, rfl⟩
      have HGK : Hid (∀ (y : World), Sk 60 w y b (M.strs13 []) (M.strs13 K) → Calls Try.prog 23 #[.pointer (some ⟨b, 0, none⟩), .int .i64 ask] y fun e w' => e = .returned (.tuple #[.string s0, .bool i0]) ∧ w' = y) := by
        rw [hs0, hi0]
        exact fun y h => HG.out y b K h
      clear hs0 hi0 HG
      go_wp2_with fail
      refine (HGK.out w4 H4.out).mono ?_
      rintro e w5 ⟨rfl, rfl⟩
      go_wp2_with fail
      go_loopw [11] (fun i wr => ∃ k : Nat, k ≤ n ∧ i = .int .i64 k ∧ ∃ T : List (Int × ByteArray), Sk 60 w wr b (M.strs13 T) (M.strs13 K) ∧ T.length ≤ k) (fun i _ => n - (intOf i).toNat)
      case atStart => exact ⟨0, Nat.zero_le _, rfl, [], H4.out, Nat.le_refl _⟩
      case round =>
        obtain ⟨j, hj, rfl, T, hS, hT⟩ := hrel
        have HS := Lib.hid hS
        have HT := Lib.hid hT
        clear hS hT H4
        by_cases hlt : j < n
        · obtain ⟨ad, s, rfl, hbl, hc0⟩ := HU.out j hlt
          have hc : wr.cell? (ad.add j) = some (.string s) := (HS.out.low.cell (by rw [add_block]; exact hbl)).trans hc0
          have hj0 : (0 : Int) ≤ (j : Int) := by omega
          have hj1 : (j : Int) < (n : Int) := by omega
          have HPk := Lib.hid (HP.out wr b T K ((j : Int).tmod 100) s HS.out (by have := HT.out; omega) (wf_tmod (by omega)))
          clear hc0 hbl
          go_wp2_with fail
          refine HPk.out.mono ?_
          rintro e w6 ⟨rfl, T', hT', hS'⟩
          have HS' := Lib.hid hS'
          have HT' : Hid (T'.length ≤ j + 1) := by have := HT.out; simp only [Hid]; omega
          clear hS' hT' hc HPk HS HT
          go_wp2_with fail
          go_roundw
          case rel => exact ⟨j + 1, by omega, by go_num, T', HS'.out, HT'.out⟩
          case measure => simp [intOf]; omega
        · have e : j = n := by omega
          subst e
          have hss := str_eq_self s0
          have hii : (i0 == i0) = true := by simp
          have HBk := Lib.hid (HB.out wr b T K HS.out)
          clear HS HT HP hlt hj
          go_wp2_with fail
          refine HBk.out.mono ?_
          rintro e w7 ⟨rfl, h7⟩
          have H7 := Lib.hid h7
          clear h7 HBk
          go_wp2_with fail
          refine (HGK.out w7 H7.out).mono ?_
          rintro e w8 ⟨rfl, rfl⟩
          go_wp2_with fail
          refine (HL.out _ b K H7.out).mono ?_
          rintro e w9 ⟨rfl, rfl⟩
          go_wp2_with fail
          go_ret
          exact ⟨rfl, H7.out.low⟩

theorem shadowBack_walk (v u : Value) (ask : Int) (a0 : -9223372036854775808 ≤ ask) (a9 : ask ≤ 9223372036854775807) (w : World) (hO : StrsAt w v) (hU : StrsAt w u) :
    Calls Try.prog 4 #[v, u, .int .i64 ask] w fun e w' => e = .returned (.bool true) ∧ Below w.heap.size w w' := by
  obtain ⟨A, len, ca, rfl, hO⟩ := hO
  obtain ⟨B, n, cb, rfl, hU⟩ := hU
  by_cases hl : len ≤ 200
  · by_cases hn : n ≤ 200
    · exact shadowBack_few A B len ca n cb ask w (WalkArith.wf_i64 (by omega)) hl hn hO hU
    · have hd : decide ((200 : Int) < (len : Int)) = false := by simp; omega
      have hd2 : decide ((200 : Int) < (n : Int)) = true := by simp; omega
      clear hO hU
      go_enter Try.func4, Try.ntmps4
      go_wp2_with fail
      refine (works13_any _).mono ?_
      rintro e w1 ⟨rfl, hb1⟩
      have HB1 := Lib.hid hb1
      clear hb1
      go_wp2_with fail
      go_ret
      exact ⟨rfl, HB1.out⟩
  · have hd : decide ((200 : Int) < (len : Int)) = true := by simp; omega
    clear hO hU
    go_enter Try.func4, Try.ntmps4
    go_wp2_with fail
    refine (works13_any _).mono ?_
    rintro e w1 ⟨rfl, hb1⟩
    have HB1 := Lib.hid hb1
    clear hb1
    go_wp2_with fail
    go_ret
    exact ⟨rfl, HB1.out⟩
end Go.Proofs.Ytfklbinccpdnmaa
