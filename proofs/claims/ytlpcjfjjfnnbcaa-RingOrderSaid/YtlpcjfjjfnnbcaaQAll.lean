/-
  Walks over RingOrder$1 and over ring.All and its function, that tells it all things till it says no more: at things that are strings.
-/
import Derived.Test.YtlpcjfjjfnnbcaaRNil
import Derived.Test.YtlpcjfjjfnnbcaaQDrop
namespace Go.Proofs.Ytlpcjfjjfnnbcaa.Q
open Go.RowKit

/-- How many are told: till there are as many as most (one at the least), or none is left. -/
def told (most : Int) (len : Nat) : Nat := if most < 1 then min 1 len else min most.toNat len

theorem all_any (p : Option Addr) (w : World) :
    Calls Try.prog 22 #[.pointer p] w fun e w' => e = .returned (.func (.func 33) #[] #[.pointer (some ⟨w.heap.size, 0, none⟩)]) ∧ w' = w.alloc (.cells #[.pointer p] 45) := by
  go_enter Try.func22, Try.ntmps22
  go_wp2_with fail
  go_ret
  exact ⟨rfl, rfl⟩

theorem order_any (w : World) {N M j : Nat} {most : Int} {x : ByteArray} (hN : Box w N 3 #[.int .i64 (j : Nat)]) (hM : w.cell? ⟨M, 0, none⟩ = some (.int .i64 most)) (hne : M ≠ N) (hj : j ≤ 1000) :
    Calls Try.prog 23 #[.int .i64 (j : Nat), .string x, .pointer (some ⟨N, 0, none⟩), .pointer (some ⟨M, 0, none⟩)] w fun e w' => e = .returned (.bool (decide ((j : Int) + 1 < most))) ∧
      Box w' N 3 #[.int .i64 ((j + 1 : Nat) : Int)] ∧ Kept (fun k => k = N) w w' := by
  have hn : w.cell? ⟨N, 0, none⟩ = some (.int .i64 (j : Nat)) := (hN.cell 0).trans rfl
  have fn := hN.frozen 0
  have HX : Hid (Box (w.setCell ⟨N, 0, none⟩ (.int .i64 ((j : Int) + 1))) N 3 #[.int .i64 ((j + 1 : Nat) : Int)] ∧ Kept (fun k => k = N) w (w.setCell ⟨N, 0, none⟩ (.int .i64 ((j : Int) + 1)))) := by
    refine ⟨?_, Kept.set (P := fun k => k = N) (Kept.refl _ w) (fun _ => rfl) 0 _⟩
    have := hN.set 0 (.int .i64 ((j : Int) + 1))
    simpa using this
  have hM2 : (w.setCell ⟨N, 0, none⟩ (.int .i64 ((j : Int) + 1))).cell? ⟨M, 0, none⟩ = some (.int .i64 most) := (cell_set_other (p := ⟨M, 0, none⟩) hne).trans hM
  clear hN
  go_enter Try.func23, Try.ntmps23
  go_wp2_with fail
  go_ret
  exact ⟨rfl, HX.out.1, HX.out.2⟩

set_option maxRecDepth 100000 in
set_option maxHeartbeats 2000000 in
theorem all1_order (w : World) {R a ga ma : Nat} {Aa : Option Addr} {ss : List ByteArray} {f : Nat} {N M : Nat} {most : Int} {L : List ByteArray}
    (hp : w.cell? ⟨R, 0, none⟩ = some (.pointer (some ⟨a, 0, none⟩))) (hR : Ring w a ga ma Aa ss f L) (hN : Box w N 3 #[.int .i64 0]) (hM : w.cell? ⟨M, 0, none⟩ = some (.int .i64 most)) (hne : M ≠ N) :
    Calls Try.prog 33 #[.func (.func 23) #[] #[.pointer (some ⟨N, 0, none⟩), .pointer (some ⟨M, 0, none⟩)], .pointer (some ⟨R, 0, none⟩)] w fun e w' => e = .returned (.tuple #[]) ∧
      Box w' N 3 #[.int .i64 (told most L.length : Nat)] ∧ Kept (fun k => k = N) w w' := by
  have hfn : ∀ (f : Fn) (a b : Array Value) (W : World), (binOp .eql 50 (.func f a b) .nilFunc).run Try.prog W = .ok (.bool false) W := fun f a b W => eql_fn W _ f a b Try.underlying50
  have HL := Lib.hid (fun (y : World) (hy : Ring y a ga ma Aa ss f L) => len_any y hy)
  have hle : L.length ≤ 1000 := by have := hR.lies.le; have := hR.le; have := hR.most; omega
  have HI := Lib.hid (fun (y : World) (hy : Ring y a ga ma Aa ss f L) => inOrder_any y L.length hle hy (Nat.le_refl _))
  rw [Nat.sub_self, List.replicate_zero, List.append_nil] at HI
  have HR := Lib.hid hR
  have HN := Lib.hid hN
  have hRl := World.block_lt_of_cell? w _ hp
  have hMl := World.block_lt_of_cell? w _ hM
  have hNl := hN.lt
  clear hR hN
  obtain ⟨k, hk⟩ : ∃ k, k = L.length := ⟨_, rfl⟩
  rw [← hk] at HL HI hle
  rw [← hk]
  have HK := Lib.hid hk
  clear hk
  have hk0 : (0 : Int) ≤ (k : Int) := by omega
  go_enter Try.func33, Try.ntmps33
  go_wp2_with fail
  go_region_held3 (fun y => y.cell? ⟨R, 0, none⟩ = some (.pointer (some ⟨a, 0, none⟩))) (first | assumption | exact hp)
    (first
      | (go_at_call 35; refine (HL.out _ HR.out.drew).mono ?_; rintro e w1 ⟨rfl, rfl⟩)
      | (go_at_call 34; refine (HI.out _ HR.out.drew).mono ?_; rintro e w2 ⟨rfl, hB2, hb2⟩; have hp2 := (hb2.cell (p := ⟨R, 0, none⟩) hRl).trans hp))
  have hkw : Kept (fun _ => False) w w2 := (Kept.refl _ w).drew.next (Kept.of_below hb2 _) (fun _ _ h => h)
  have HN2 : Hid (Box w2 N 3 #[.int .i64 0]) := hkw.box HN.out (fun h => h)
  have HKw : Hid (Kept (fun k => k = N) w w2) := hkw.mono (fun _ _ h => h.elim)
  have HB2 : Hid (Box w2 w.heap.size 9 (L.map Value.string).toArray) := hB2
  have HM := Lib.hid hM
  clear hb2 hB2 hp2 hkw HR HN HI HL hM
  go_wp2_with fail
  go_loopw [12] (fun i wr => ∃ j : Nat, j ≤ k ∧ i = .int .i64 j ∧ (j = 0 ∨ (j : Int) < most) ∧ Box wr w.heap.size 9 (L.map Value.string).toArray ∧ Box wr N 3 #[.int .i64 (j : Nat)] ∧ Kept (fun k => k = N) w wr) (fun i _ => k - (intOf i).toNat)
  case atStart => exact ⟨0, Nat.zero_le _, rfl, Or.inl rfl, HB2.out, HN2.out, HKw.out⟩
  case round =>
    obtain ⟨j, hj, rfl, hjm, hBj, hNj, hKj⟩ := hrel
    have HKj := Lib.hid hKj
    have HBj := Lib.hid hBj
    have HNj := Lib.hid hNj
    have HJM := Lib.hid hjm
    clear hKj hBj hNj hjm HB2 HN2 HKw
    by_cases hlt : j < k
    · have hlt' : (j : Int) < (k : Int) := by omega
      have hj0 : (0 : Int) ≤ (j : Int) := by omega
      have hjl : j < L.length := by rw [← HK.out]; exact hlt
      have hc : wr.cell? ⟨w.heap.size, j, none⟩ = some (.string (L[j]'hjl)) := by
        have hc := HBj.out.cell j
        rw [List.getElem?_toArray, List.getElem?_map, List.getElem?_eq_getElem hjl] at hc
        exact hc
      have hMr : wr.cell? ⟨M, 0, none⟩ = some (.int .i64 most) := HKj.out.cell HM.out hne
      have HC := Lib.hid (fun x => order_any (x := x) wr HNj.out hMr hne (by omega))
      obtain ⟨x, hx⟩ : ∃ x, x = L[j]'hjl := ⟨_, rfl⟩
      rw [← hx] at hc
      clear hx hjl hMr
      have hbr : (decide ((j : Int) + 1 < most) = true ∧ (j : Int) + 1 < most) ∨ (decide ((j : Int) + 1 < most) = false ∧ ¬ (j : Int) + 1 < most) := by
        by_cases h : (j : Int) + 1 < most
        · exact Or.inl ⟨by simpa using h, h⟩
        · exact Or.inr ⟨by simpa using h, h⟩
      rcases hbr with ⟨hd, hbr⟩ | ⟨hd, hbr⟩
      · rw [hd] at HC
        have HBR := Lib.hid hbr
        clear hd hbr
        go_wp2_with fail
        refine (HC.out x).mono ?_
        rintro e w3 ⟨rfl, hN3, hk3⟩
        have HN3 := Lib.hid hN3
        have HB3 : Hid (Box w3 w.heap.size 9 (L.map Value.string).toArray) := hk3.box HBj.out (by omega)
        have HK3 : Hid (Kept (fun k => k = N) w w3) := HKj.out.trans hk3
        clear hN3 hk3 HC HBj HNj HKj hc
        go_wp2_with fail
        go_roundw
        case rel => exact ⟨j + 1, by omega, by go_num, Or.inr (by have := HBR.out; omega), HB3.out, HN3.out, HK3.out⟩
        case measure => simp [intOf]; omega
      · rw [hd] at HC
        have HBR := Lib.hid hbr
        clear hd hbr
        go_wp2_with fail
        refine (HC.out x).mono ?_
        rintro e w3 ⟨rfl, hN3, hk3⟩
        have HN3 := Lib.hid hN3
        have HK3 : Hid (Kept (fun k => k = N) w w3) := HKj.out.trans hk3
        clear hN3 hk3 HC HBj HNj HKj hc
        go_wp2_with fail
        have e : told most k = j + 1 := by
          have h1 := HBR.out
          have h2 := HJM.out
          unfold told
          split <;> omega
        refine bodyPost_ret (results_none rfl _ _ _) rfl ?_
        rw [e]
        exact ⟨rfl, HN3.out, HK3.out⟩
    · have e : j = k := by omega
      subst e
      go_wp2_with fail
      go_end0
      have e : told most j = j := by
        have h2 := HJM.out
        unfold told
        split <;> omega
      rw [e]
      exact ⟨rfl, HNj.out, HKj.out⟩
end Go.Proofs.Ytlpcjfjjfnnbcaa.Q
