/-
  Walks over RingDoes$1 and over ring.All's function, that tells it all things.
-/
import Derived.Test.YtlpcjfjjfnnbcaaRNil
import Derived.Test.YtlpcjfjjfnnbcaaRRef
namespace Go.Proofs.Ytlpcjfjjfnnbcaa
open Go.RowKit

/-- What the told function holds: the document's ring, how many were told, whether all was the same. -/
structure Told (w : World) (B N S b g most : Nat) (A : Option Addr) (cap : Nat) (L : List Int) (j : Nat) : Prop where
  ptr : w.cell? ⟨B, 0, none⟩ = some (.pointer (some ⟨b, 0, none⟩))
  num : Box w N 3 #[.int .i64 (j : Nat)]
  same : Box w S 4 #[.bool true]
  ref : Ref w b g most A cap L
  ns : N ≠ S
  bn : B ≠ N ∧ b ≠ N ∧ (0 < L.length → g ≠ N)
  bs : B ≠ S ∧ b ≠ S ∧ (0 < L.length → g ≠ S)

theorem Told.kept {P : Nat → Prop} {w w' : World} {B N S b g most : Nat} {A : Option Addr} {cap : Nat} {L : List Int} {j : Nat} (h : Told w B N S b g most A cap L j) (hk : Kept P w w') (h1 : ¬ P B) (h2 : ¬ P N) (h3 : ¬ P S) (h4 : ¬ P b) (h5 : 0 < L.length → ¬ P g) : Told w' B N S b g most A cap L j :=
  ⟨hk.cell h.ptr h1, hk.box h.num h2, hk.box h.same h3, h.ref.kept hk h4 h5, h.ns, h.bn, h.bs⟩

set_option maxHeartbeats 1000000 in
theorem told_any (w : World) {B N S b g most : Nat} {A : Option Addr} {cap : Nat} {L : List Int} {j : Nat} (h : Told w B N S b g most A cap L j) (hj : j < L.length) :
    Calls Try.prog 19 #[.int .i64 (j : Nat), .int .i64 (L[j]'hj), .pointer (some ⟨B, 0, none⟩), .pointer (some ⟨N, 0, none⟩), .pointer (some ⟨S, 0, none⟩)] w fun e w' => e = .returned (.bool true) ∧
      Told w' B N S b g most A cap L (j + 1) ∧ Kept (fun k => k = N ∨ k = S) w w' := by
  have hp := h.ptr
  have hn := h.num.cell 0
  have fn := h.num.frozen 0
  have hs := h.same.cell 0
  have fs := h.same.frozen 0
  simp at hn hs
  have hle := h.ref.le
  have hm := h.ref.most
  have HA := Lib.hid (refAt_some j w h.ref hj)
  have HN : Hid (Told ((w.setCell ⟨S, 0, none⟩ (.bool true)).setCell ⟨N, 0, none⟩ (.int .i64 ((j : Int) + 1))) B N S b g most A cap L (j + 1) ∧ Kept (fun k => k = N ∨ k = S) w ((w.setCell ⟨S, 0, none⟩ (.bool true)).setCell ⟨N, 0, none⟩ (.int .i64 ((j : Int) + 1)))) := by
    have hk : Kept (fun k => k = N ∨ k = S) w ((w.setCell ⟨S, 0, none⟩ (.bool true)).setCell ⟨N, 0, none⟩ (.int .i64 ((j : Int) + 1))) :=
      Kept.set (Kept.set (P := fun k => k = N ∨ k = S) (Kept.refl _ w) (fun _ => Or.inr rfl) 0 _) (fun _ => Or.inl rfl) 0 _
    refine ⟨⟨hk.cell h.ptr (fun e => e.elim h.bn.1 h.bs.1), ?_, ?_, h.ref.kept hk (fun e => e.elim h.bn.2.1 h.bs.2.1) (fun hl e => e.elim (h.bn.2.2 hl) (h.bs.2.2 hl)), h.ns, h.bn, h.bs⟩, hk⟩
    · have h1 : Box (w.setCell ⟨S, 0, none⟩ (.bool true)) N 3 #[.int .i64 (j : Nat)] := (Below.heap_setCell _ _ _ _ (by simpa using h.ns)).trans h.num
      have h2 := h1.set 0 (.int .i64 ((j : Int) + 1))
      simpa using h2
    · have h1 := h.same.set 0 (.bool true)
      have h2 : Box ((w.setCell ⟨S, 0, none⟩ (.bool true)).setCell ⟨N, 0, none⟩ (.int .i64 ((j : Int) + 1))) S 4 (#[Value.bool true].setIfInBounds 0 (.bool true)) := (Below.heap_setCell _ _ _ _ (by simpa using Ne.symm h.ns)).trans h1
      simpa using h2
  have hns := h.ns
  have hsn := Ne.symm h.ns
  have hn2 : (w.setCell ⟨S, 0, none⟩ (.bool true)).cell? ⟨N, 0, none⟩ = some (.int .i64 (j : Nat)) := (cell_set_other (p := ⟨N, 0, none⟩) hns).trans hn
  clear h
  obtain ⟨x, hx⟩ : ∃ x, x = L[j]'hj := ⟨_, rfl⟩
  rw [← hx] at HA
  rw [← hx]
  clear hx
  have hxx : (x == x) = true := by simp
  go_enter Try.func19, Try.ntmps19
  go_wp2_with fail
  refine HA.out.mono ?_
  rintro e w1 ⟨rfl, rfl⟩
  go_wp2_with fail
  go_ret
  exact ⟨rfl, HN.out.1, HN.out.2⟩

set_option maxRecDepth 100000 in
set_option maxHeartbeats 2000000 in
theorem all1_does (w : World) {R a ga ma : Nat} {Aa : Option Addr} {ss : List Int} {f : Nat} {B N S b g most : Nat} {A : Option Addr} {cap : Nat} {L : List Int}
    (hp : w.cell? ⟨R, 0, none⟩ = some (.pointer (some ⟨a, 0, none⟩))) (hR : Ring w a ga ma Aa ss f L) (hT : Told w B N S b g most A cap L 0) :
    Calls Try.prog 28 #[.func (.func 19) #[] #[.pointer (some ⟨B, 0, none⟩), .pointer (some ⟨N, 0, none⟩), .pointer (some ⟨S, 0, none⟩)], .pointer (some ⟨R, 0, none⟩)] w fun e w' => e = .returned (.tuple #[]) ∧
      Told w' B N S b g most A cap L L.length ∧ Kept (fun k => k = N ∨ k = S) w w' := by
  have hfn : ∀ (f : Fn) (a b : Array Value) (W : World), (binOp .eql 42 (.func f a b) .nilFunc).run Try.prog W = .ok (.bool false) W := fun f a b W => eql_fn W _ f a b Try.underlying42
  have HL := Lib.hid (fun (y : World) (hy : Ring y a ga ma Aa ss f L) => len_any y hy)
  have hle : L.length ≤ 1000 := by have := hT.ref.le; have := hT.ref.most; omega
  have HI := Lib.hid (fun (y : World) (hy : Ring y a ga ma Aa ss f L) => inOrder_any y L.length hle hy (Nat.le_refl _))
  rw [Nat.sub_self, List.replicate_zero, List.append_nil] at HI
  have HR := Lib.hid hR
  have HT := Lib.hid hT
  have hRl := World.block_lt_of_cell? w _ hp
  clear hR hT
  obtain ⟨k, hk⟩ : ∃ k, k = L.length := ⟨_, rfl⟩
  rw [← hk] at HL HI hle
  rw [← hk]
  have HK := Lib.hid hk
  clear hk
  have hk0 : (0 : Int) ≤ (k : Int) := by omega
  go_enter Try.func28, Try.ntmps28
  go_wp2_with fail
  go_region_held3 (fun y => y.cell? ⟨R, 0, none⟩ = some (.pointer (some ⟨a, 0, none⟩))) (first | assumption | exact hp)
    (first
      | (go_at_call 16; refine (HL.out _ HR.out.drew).mono ?_; rintro e w1 ⟨rfl, rfl⟩)
      | (go_at_call 29; refine (HI.out _ HR.out.drew).mono ?_; rintro e w2 ⟨rfl, hB2, hb2⟩; have hp2 := (hb2.cell (p := ⟨R, 0, none⟩) hRl).trans hp))
  have hkw : Kept (fun _ => False) w w2 := (Kept.refl _ w).drew.next (Kept.of_below hb2 _) (fun _ _ h => h)
  have HT2 : Hid (Told w2 B N S b g most A cap L 0) := HT.out.kept hkw (fun h => h) (fun h => h) (fun h => h) (fun h => h) (fun _ h => h)
  have HKw : Hid (Kept (fun k => k = N ∨ k = S) w w2) := hkw.mono (fun _ _ h => h.elim)
  have HB2 : Hid (Box w2 w.heap.size 3 (L.map (Value.int .i64)).toArray) := hB2
  have hn1 := HT.out.num.lt
  have hn2 := HT.out.same.lt
  clear hb2 hB2 hp2 hkw HR HT HI HL
  go_wp2_with fail
  go_loopw [12] (fun i wr => ∃ j : Nat, j ≤ k ∧ i = .int .i64 j ∧ Box wr w.heap.size 3 (L.map (Value.int .i64)).toArray ∧ Told wr B N S b g most A cap L j ∧ Kept (fun k => k = N ∨ k = S) w wr) (fun i _ => k - (intOf i).toNat)
  case atStart => exact ⟨0, Nat.zero_le _, rfl, HB2.out, HT2.out, HKw.out⟩
  case round =>
    obtain ⟨j, hj, rfl, hBj, hTj, hKj⟩ := hrel
    have HTj := Lib.hid hTj
    have HKj := Lib.hid hKj
    have HBj := Lib.hid hBj
    clear hTj hKj hBj HB2 HT2 HKw
    by_cases hlt : j < k
    · have hlt' : (j : Int) < (k : Int) := by omega
      have hj0 : (0 : Int) ≤ (j : Int) := by omega
      have hjl : j < L.length := by rw [← HK.out]; exact hlt
      have hc : wr.cell? ⟨w.heap.size, j, none⟩ = some (.int .i64 (L[j]'hjl)) := by
        have hc := HBj.out.cell j
        rw [List.getElem?_toArray, List.getElem?_map, List.getElem?_eq_getElem hjl] at hc
        exact hc
      have HC := Lib.hid (told_any wr HTj.out hjl)
      obtain ⟨x, hx⟩ : ∃ x, x = L[j]'hjl := ⟨_, rfl⟩
      rw [← hx] at hc HC
      clear hx hjl
      go_wp2_with fail
      refine HC.out.mono ?_
      rintro e w3 ⟨rfl, hT3, hk3⟩
      have HT3 := Lib.hid hT3
      have HB3 : Hid (Box w3 w.heap.size 3 (L.map (Value.int .i64)).toArray) := hk3.box HBj.out (by omega)
      have HK3 : Hid (Kept (fun k => k = N ∨ k = S) w w3) := HKj.out.trans hk3
      clear hT3 hk3 HC HBj HTj HKj hc
      go_wp2_with fail
      go_roundw
      case rel => exact ⟨j + 1, by omega, by go_num, HB3.out, HT3.out, HK3.out⟩
      case measure => simp [intOf]; omega
    · have e : j = k := by omega
      subst e
      go_wp2_with fail
      go_end0
      exact ⟨rfl, HTj.out, HKj.out⟩
end Go.Proofs.Ytlpcjfjjfnnbcaa
