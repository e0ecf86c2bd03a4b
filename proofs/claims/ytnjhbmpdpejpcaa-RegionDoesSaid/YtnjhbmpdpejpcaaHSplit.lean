/-
  Walks over solderref09's Split.
-/
import Derived.Test.YtnjhbmpdpejpcaaHRead
import Derived.Test.YtnjhbmpdpejpcaaGOwn
import Derived.Deep.AppendLies
namespace Go.Proofs.Ytnjhbmpdpejpcaa
open Go.RowKit

theorem hsplit_size (i : Int) (s : ByteArray) (w : World) {rb : Nat} (hs : s.size % 64 ≠ 0) :
    Calls Try.prog 15 #[.pointer (some ⟨rb, 0, none⟩), .int .i64 i, .string s] w fun e w' => e = .returned (.tuple #[.slice none 0 0, .int .i64 12]) ∧ w' = w := by
  have h1 : (((s.size : Int) % 64) == 0) = false := by
    rw [beq_eq_false_iff_ne]
    omega
  have h2 : (((s.size : Int) % 64) != 0) = true := by
    rw [bne, h1]
    rfl
  clear hs
  go_enter Try.func15, Try.ntmps15
  go_wp2_with fail
  go_ret2
  exact ⟨rfl, rfl⟩
theorem hsplit_no (i : Int) (n : Nat) (s : ByteArray) (w : World) {rb b fr mn : Nat} (hr : RReg w rb b fr mn) (hs : s.size = 64 * n) (hn : n ≤ 1000000000) (hmn : mn ≤ 1000) (hy : M.within i (n : Nat) (mn : Nat) = false) :
    Calls Try.prog 15 #[.pointer (some ⟨rb, 0, none⟩), .int .i64 i, .string s] w fun e w' => e = .returned (.tuple #[.slice none 0 0, .int .i64 3]) ∧ w' = w := by
  have c2 := hr.c2
  have h1 : (s.size : Int).tmod 64 = 0 := by rw [Int.tmod_eq_emod_of_nonneg (by omega)]; omega
  have h2 : (s.size : Int).tdiv 64 = (n : Int) := by rw [Int.tdiv_eq_ediv_of_nonneg (by omega)]; omega
  have hn1 : (n : Int) ≤ 1000000000 := by omega
  have hy' : ¬ (0 ≤ i ∧ (n : Int) ≤ (mn : Int) - i) := fun ⟨q1, q3⟩ => by
    unfold M.within at hy
    simp at hy
    omega
  have g2 : (mn : Int) ≤ 1000 := by omega
  clear hr hy hmn hs hn
  by_cases h0 : i < 0
  · have f0 : decide (i < 0) = true := by simpa using h0
    clear hy'
    go_enter Try.func15, Try.ntmps15
    go_wp2_with fail
    go_ret2
    exact ⟨rfl, rfl⟩
  · have f0 : decide (i < 0) = false := by simpa using h0
    by_cases h2 : (mn : Int) < i
    · have f2 : decide ((mn : Int) < i) = true := by simpa using h2
      clear hy'
      go_enter Try.func15, Try.ntmps15
      go_wp2_with fail
      go_ret2
      exact ⟨rfl, rfl⟩
    · have f2 : decide ((mn : Int) < i) = false := by simpa using h2
      have h3 : (mn : Int) - i < (n : Int) := by omega
      have f3 : decide ((mn : Int) - i < (n : Int)) = true := by simpa using h3
      clear hy'
      go_enter Try.func15, Try.ntmps15
      go_wp2_with fail
      go_ret2
      exact ⟨rfl, rfl⟩

theorem cut_more {w wr y3 : World} {B k q g c : Nat} {LA : Option Addr} {lc : Nat} {s t : ByteArray} {p : Nat} (hb : Below B w wr) (hB : B = w.heap.size) (hrow : wr.ownsRow B 80 2 (.slice LA k lc) k (M.cells (M.cut k q s))) (hp : p = q + k) (ht : t = M.piece s k)
    (ho : y3.ownsRow B 80 2 (.slice (some ⟨g, 0, none⟩) (k + 1) c) (k + 1) (M.cells (M.cut k q s) ++ [.int .i64 (p : Nat), .string t]))
    (hg : (wr.alloc (.cells #[.int .i64 (p : Nat), .string t] 80)).drew.grownBy y3 (Value.slice LA k lc).ownBlock) :
    y3.ownsRow B 80 2 (.slice (some ⟨g, 0, none⟩) (k + 1) c) (k + 1) (M.cells (M.cut (k + 1) q s)) ∧ Below B w y3 := by
  have hz : B ≤ wr.heap.size := by rw [hB]; exact hb.size
  refine ⟨?_, ?_⟩
  · rw [M.cut_snoc, M.cells_snoc, ← hp, ← ht]
    exact ho
  · have hg' : (wr.alloc (.cells #[.int .i64 (p : Nat), .string t] 80)).grownBy y3 (Value.slice LA k lc).ownBlock := ⟨hg.os, hg.tape, hg.output, hg.size, hg.block⟩
    exact (hb.alloc hz _).grown hg' (by rw [World.size_alloc]; omega) (fun k e => (hrow.lt k e).1)

set_option maxRecDepth 100000 in
set_option maxHeartbeats 2000000 in
theorem hsplit_yes (i n : Nat) (s : ByteArray) (w : World) {rb b fr mn : Nat} (hr : RReg w rb b fr mn) (hs : s.size = 64 * n) (hin : i + n ≤ mn) (hf : fr ≤ 1000) (hmn : mn ≤ 1000) :
    Calls Try.prog 15 #[.pointer (some ⟨rb, 0, none⟩), .int .i64 (i : Nat), .string s] w fun e w' =>
      ∃ v, e = .returned (.tuple #[v, .int .i64 0]) ∧ w'.ownsRow w.heap.size 80 2 v n (M.cells (M.cut n (fr + i) s)) ∧ Below w.heap.size w w' := by
  obtain ⟨i0, hi, hz0, hz1, hz2⟩ := info_parts infoSec
  have c2 := hr.c2
  have hlt := hr.lt
  obtain ⟨B, hB⟩ : ∃ B, B = w.heap.size := ⟨_, rfl⟩
  rw [← hB]
  have HC : Hid (∀ y, Below B w y → y.cell? ⟨rb, 1, none⟩ = some (.int .i64 (fr : Nat))) := fun y hk => (World.cell?_of_block (hk.block rb (by rw [hB]; exact hlt))).trans hr.c1
  have h1 : (s.size : Int).tmod 64 = 0 := by rw [Int.tmod_eq_emod_of_nonneg (by omega)]; omega
  have h2 : (s.size : Int).tdiv 64 = (n : Int) := by rw [Int.tdiv_eq_ediv_of_nonneg (by omega)]; omega
  have hn1 : (n : Int) ≤ 1000 := by omega
  have f0 : decide ((i : Int) < 0) = false := by simp
  have f2 : decide (mn < i) = false := by simp; omega
  have f3 : decide ((mn : Int) - (i : Int) < (n : Int)) = false := by simp; omega
  have g1 : (i : Int) ≤ (mn : Int) := by omega
  have g2 : (mn : Int) ≤ 1000 := by omega
  obtain ⟨q, hq⟩ : ∃ q, q = fr + i := ⟨_, rfl⟩
  rw [← hq]
  have HBB := Lib.hid hB
  have HB := Lib.hid (And.intro hs (And.intro hin (And.intro hf (And.intro hmn hq))))
  clear hr hin hf hmn hlt hs hB hq
  go_enter Try.func15, Try.ntmps15
  go_wp2_with fail
  clear c2 g1 g2
  go_loopw [9, 10] (fun v j wr => ∃ k : Nat, k ≤ n ∧ j = .int .i64 k ∧ Hid (wr.ownsRow B 80 2 v k (M.cells (M.cut k q s)) ∧ Below B w wr)) (fun v j _ => n - (intOf j).toNat)
  case atStart => exact ⟨0, Nat.zero_le _, rfl, World.ownsRow_nil _ _ _ _, by rw [HBB.out]; exact Below.refl _ _⟩
  case round =>
    obtain ⟨k, hk, rfl, HW⟩ := hrel
    obtain ⟨LA, lc, rfl, _⟩ := owns_shape HW.out.1
    by_cases hlt : k < n
    · have hd : decide (k < n) = true := by simp; omega
      have c1 := HC.out wr HW.out.2
      obtain ⟨hs, hin, hf, hmn, hq⟩ := HB.out
      obtain ⟨p, hp⟩ : ∃ p, p = q + k := ⟨_, rfl⟩
      obtain ⟨st, hst⟩ : ∃ st, st = 64 * k := ⟨_, rfl⟩
      obtain ⟨en, hen⟩ : ∃ en, en = 64 * k + 64 := ⟨_, rfl⟩
      obtain ⟨k1, hk1⟩ : ∃ k1, k1 = k + 1 := ⟨_, rfl⟩
      have e1 : IntKind.i64.wrap ((fr : Int) + (i : Int)) = (q : Int) := by rw [IntKind.wrap_i64]; omega
      have e2 : IntKind.i64.wrap ((q : Int) + (k : Int)) = (p : Int) := by rw [IntKind.wrap_i64]; omega
      have e3 : IntKind.i64.wrap ((k : Int) * 64) = (st : Int) := by rw [IntKind.wrap_i64]; omega
      have e4 : IntKind.i64.wrap ((k : Int) + 1) = (k1 : Int) := by rw [IntKind.wrap_i64]; omega
      have e5 : IntKind.i64.wrap ((k1 : Int) * 64) = (en : Int) := by rw [IntKind.wrap_i64]; omega
      have b1 : (0 : Int) ≤ (st : Int) := by omega
      have b2 : (st : Int) ≤ (en : Int) := by omega
      have b3 : (en : Int) ≤ (s.size : Int) := by omega
      have b4 : (0 : Int) ≤ (en : Int) := by omega
      obtain ⟨t, ht⟩ : ∃ t, t = s.extract st en := ⟨_, rfl⟩
      have htp : t = M.piece s k := by rw [ht, hst, hen]; rfl
      have HTX : Hid (s.extract st en = t) := ht.symm
      obtain ⟨xs, hxs⟩ : ∃ xs, xs = M.cells (M.cut k q s) := ⟨_, rfl⟩
      have HN : Hid (k + 1 ≤ maxLen ∧ (k + 1) * 24 ≤ 140737488355328 ∧ B ≤ wr.heap.size + 1) := ⟨by unfold maxLen; omega, by omega, by have := HW.out.2.size; have := HBB.out; omega⟩
      have HO : Hid ((wr.alloc (.cells #[.int .i64 (p : Nat), .string (s.extract st en)] 80)).drew.ownsRow B 80 2 (.slice LA k lc) k xs) := by rw [hxs]; exact HW.out.1.alloc _
      have HCN : Hid (∀ j u, [Value.int .i64 (p : Nat), .string (s.extract st en)][j]? = some u → (wr.alloc (.cells #[.int .i64 (p : Nat), .string (s.extract st en)] 80)).drew.cell? ((⟨wr.heap.size, 0, none⟩ : Addr).add j) = some u) := cell2_new _ _ _ _
      have HL : Hid (∀ (y3 : World) (g c : Nat), y3.ownsRow B 80 2 (.slice (some ⟨g, 0, none⟩) (k + 1) c) (k + 1) (xs ++ [.int .i64 (p : Nat), .string (s.extract st en)]) → (wr.alloc (.cells #[.int .i64 (p : Nat), .string (s.extract st en)] 80)).drew.grownBy y3 (Value.slice LA k lc).ownBlock →
          Hid (y3.ownsRow B 80 2 (.slice (some ⟨g, 0, none⟩) (k + 1) c) (k + 1) (M.cells (M.cut (k + 1) q s)) ∧ Below B w y3)) := by
        intro y3 g c p1 p2
        rw [hxs, ← ht] at p1
        rw [← ht] at p2
        exact cut_more HW.out.2 HBB.out HW.out.1 hp htp p1 p2
      have HKN : Hid (k < n ∧ n ≤ 1000) := ⟨hlt, by omega⟩
      clear hs hin hf hmn hq hp hst hen hk1 ht htp hxs HW hlt hk HTX
      go_wp2_with fail
      go_region_law (refine step_append_lies _ rfl _ _ 40 rfl B 80 i0 (.agg #[.int .i64 0, .string ⟨#[]⟩]) 2 24 Try.underlying40 hi hz0 hz1 hz2 rfl (by decide) (.slice LA k lc) k xs rfl (by exact HO.out) ⟨wr.heap.size, 0, none⟩ 1 1 [.int .i64 (p : Nat), .string (s.extract st en)] rfl rfl (by exact HCN.out) (fun x hx => by simp at hx; rcases hx with rfl | rfl <;> rfl) (by omega) HN.out.1 HN.out.2.1 (by show B ≤ (wr.alloc _).heap.size; rw [World.size_alloc]; exact HN.out.2.2) (wr.heap.size + 1) (by simp [World.drew]) ?_; intro g3 k3 w3 hown3 hgrow3 _ _; have HX := HL.out w3 g3 k3 hown3 hgrow3; clear hown3 hgrow3)
      all_goals
        clear e1 e2 e3 e4 e5
        have hkb : (k : Int) ≤ 1000 := by have := HKN.out; omega
        go_wp2_with fail
        go_roundw
        case rel => exact ⟨k + 1, HKN.out.1, by go_num, HX⟩
        case measure => have := HKN.out; simp [intOf]; omega
    · have e : k = n := by omega
      subst e
      clear hlt hk
      go_wp2_with fail
      go_ret2
      exact ⟨_, rfl, HW.out⟩
end Go.Proofs.Ytnjhbmpdpejpcaa
