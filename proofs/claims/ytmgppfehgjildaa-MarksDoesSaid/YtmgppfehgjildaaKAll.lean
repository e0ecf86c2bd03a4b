/-
  Walks over solderlaw07.all and the function that it tells numbers to, over marks.All and its function.
-/
import Derived.Test.YtmgppfehgjildaaKWalk
import Derived.Deep.AppendLies
import Derived.Laws.AppendOwnNone
import Derived.OwnWalk
import Derived.Deep.WholeRow
namespace Go.Proofs.Ytmgppfehgjildaa
open Go.RowKit

theorem infoI : (Try.prog.info? 3).map (fun i => (i.zero, i.size, i.bytes)) = some (some (.int .i64 0), 1, 8) := by kernel_rfl

/-- v is a slice of these numbers. -/
def Ints (w : World) (v : Value) (L : List Nat) : Prop :=
  (v = .slice none 0 0 ∧ L = []) ∨ ∃ g cap, v = .slice (some ⟨g, 0, none⟩) L.length cap ∧ L.length ≤ cap ∧ g < w.heap.size ∧ ∀ i (hi : i < L.length), w.cell? ⟨g, i, none⟩ = some (.int .i64 (L[i]'hi : Nat))
theorem Ints.below {w w' : World} {v : Value} {L : List Nat} (h : Ints w v L) (hb : Below w.heap.size w w') : Ints w' v L :=
  h.imp id (fun ⟨g, cap, e, hc, hg, hi⟩ => ⟨g, cap, e, hc, Nat.lt_of_lt_of_le hg hb.size, fun i h => (hb.cell (p := ⟨g, i, none⟩) hg).trans (hi i h)⟩)
/-- The cells of a list of numbers. -/
def M.vals (L : List Nat) : List Value := L.map (fun i : Nat => Value.int .i64 (i : Int))
theorem Ints.of_owned {w : World} {B : Nat} {v : Value} {L : List Nat} (h : w.ownsRow B 3 1 v L.length (M.vals L)) : Ints w v L := by
  rcases h.2 with ⟨e, hn⟩ | ⟨g, cap, cur, e, h1, h2, h3, h4, h5, h6⟩
  · exact Or.inl ⟨e, List.eq_nil_of_length_eq_zero hn⟩
  · refine Or.inr ⟨g, cap, e, h3, lt_of_block h2, fun i hi => ?_⟩
    rw [cell_of_row w g i cur _ _ h2]
    have : (cur.toList.take (L.length * 1))[i]? = some (.int .i64 (L[i]'hi : Nat)) := by
      rw [h6, M.vals, List.getElem?_map, List.getElem?_eq_getElem hi]
      rfl
    rw [List.getElem?_take_of_lt (by omega)] at this
    simpa using this
theorem owned_set {w : World} {B T : Nat} {t : TypeId} {z n : Nat} {v : Value} {xs : List Value} (h : w.ownsRow B t z v n xs) (hT : T < B) (i : Nat) (u : Value) : (w.setCell ⟨T, i, none⟩ u).ownsRow B t z v n xs := by
  refine ⟨h.1, ?_⟩
  rcases h.2 with h | ⟨g, cap, cur, e, h1, h2, h3⟩
  · exact Or.inl h
  · exact Or.inr ⟨g, cap, cur, e, h1, (Below.heap_setCell w ⟨T, i, none⟩ u g (by simp only; omega)).trans h2, h3⟩

theorem told_end {w w3 : World} {B T Mb : Nat} {v y : Value} {n n' : Nat} {xs xs' : List Value} {q : Int} {o : Obj} (hT : Box w T 35 #[v]) (hM : w.cell? ⟨Mb, 0, none⟩ = some (.int .i64 q)) (hown : w.ownsRow B 3 1 v n xs)
    (hTB : T < B) (hMT : Mb ≠ T) (hMB : Mb < B) (hown3 : w3.ownsRow B 3 1 y n' xs') (hgrow : (w.alloc o).grownBy w3 v.ownBlock) :
    w3.cell? ⟨T, 0, none⟩ = some v ∧ w3.frozen? ⟨T, 0, none⟩ = false ∧ (w3.setCell ⟨T, 0, none⟩ y).cell? ⟨Mb, 0, none⟩ = some (.int .i64 q) ∧ (w3.setCell ⟨T, 0, none⟩ y).cell? ⟨T, 0, none⟩ = some y ∧
      Hid (Box (w3.setCell ⟨T, 0, none⟩ y) T 35 #[y] ∧ (w3.setCell ⟨T, 0, none⟩ y).ownsRow B 3 1 y n' xs' ∧ Kept (fun j => j = T ∨ B ≤ j) w (w3.setCell ⟨T, 0, none⟩ y)) := by
  have hk : Kept (fun j => B ≤ j) w w3 := Kept.grown (Kept.alloc (Kept.refl _ w) o) hgrow (fun j e _ => (hown.lt j e).1)
  have hT3 : Box w3 T 35 #[v] := hk.box hT (by omega)
  have hS : Box (w3.setCell ⟨T, 0, none⟩ y) T 35 #[y] := by simpa using hT3.set 0 y
  have hX : Kept (fun j => j = T ∨ B ≤ j) w (w3.setCell ⟨T, 0, none⟩ y) := Kept.set (P := fun j => j = T ∨ B ≤ j) (hk.mono (fun _ _ h => Or.inr h)) (fun _ => Or.inl rfl) 0 y
  exact ⟨(hT3.cell 0).trans rfl, hT3.frozen 0, (cell_set_other (p := ⟨Mb, 0, none⟩) hMT).trans (hk.cell hM (by simp only; omega)), (hS.cell 0).trans rfl, hS, owned_set hown3 hTB 0 y, hX⟩

set_option maxHeartbeats 1000000 in
theorem told_any (w : World) {B T Mb : Nat} {v : Value} {L : List Nat} {q k : Nat} (hT : Box w T 35 #[v]) (hM : w.cell? ⟨Mb, 0, none⟩ = some (.int .i64 (q : Nat))) (hown : w.ownsRow B 3 1 v L.length (M.vals L))
    (hTB : T < B) (hMT : Mb ≠ T) (hMB : Mb < B) (hB : B ≤ w.heap.size) (hL : L.length ≤ 1000) :
    Calls Try.prog 33 #[.int .i64 (k : Nat), .pointer (some ⟨T, 0, none⟩), .pointer (some ⟨Mb, 0, none⟩)] w fun e w' => e = .returned (.bool (decide ((L.length : Int) + 1 < (q : Int)))) ∧
      ∃ v', Box w' T 35 #[v'] ∧ w'.ownsRow B 3 1 v' (L ++ [k]).length (M.vals (L ++ [k])) ∧ Kept (fun j => j = T ∨ B ≤ j) w w' := by
  obtain ⟨i0, hi, hz0, hz1, hz2⟩ := info_parts infoI
  have hc := hT.cell 0
  simp at hc
  obtain ⟨n, hn⟩ : ∃ n, n = L.length := ⟨_, rfl⟩
  obtain ⟨xs, hxs⟩ : ∃ xs, xs = M.vals L := ⟨_, rfl⟩
  have HE : Hid ((L ++ [k]).length = n + 1 ∧ M.vals (L ++ [k]) = xs ++ [.int .i64 (k : Nat)]) := ⟨by simp [hn], by simp [hxs, M.vals]⟩
  rw [← hn, ← hxs] at hown
  rw [← hn] at hL
  rw [← hn, HE.out.1, HE.out.2]
  have HT := Lib.hid hT
  have HM := Lib.hid hM
  clear hn hxs HE hT hM
  go_enter Try.func33, Try.ntmps33
  have HO := Lib.hid hown
  clear hown
  go_wp2_with (at_builtin; refine wpList_append_lies _ rfl _ _ 35 rfl B 3 i0 (.int .i64 0) 1 8 Try.underlying35 hi hz0 hz1 hz2 rfl (by decide) _ _ _ rfl (HO.out.alloc _) ⟨w.heap.size, 0, none⟩ 1 1 [.int .i64 (k : Nat)] rfl rfl (cell_one_new _ _ _) (fun x hx => by simp at hx; subst hx; rfl) (by omega) (by unfold maxLen; omega) (by omega) (by simp; omega) _ rfl ?_
               intro g3 c3 w3 hown3 hgrow3 _ _
               obtain ⟨hc3, hf3, hM3, hT3, HX⟩ := told_end HT.out HM.out HO.out hTB hMT hMB hown3 hgrow3
               clear hown3 hgrow3 hc)
  go_ret
  exact ⟨by simp, _, HX.out⟩

/-- What the told function has: its slice, that holds L, and how many it takes at most. -/
structure Told (w : World) (B T Mb q : Nat) (L : List Nat) : Prop where
  box : ∃ v, Box w T 35 #[v] ∧ w.ownsRow B 3 1 v L.length (M.vals L)
  most : w.cell? ⟨Mb, 0, none⟩ = some (.int .i64 (q : Nat))
theorem Told.kept {w w' : World} {B T Mb q : Nat} {L : List Nat} (h : Told w B T Mb q L) (n : Nat) (hw : w' = w.drewN n) : Told w' B T Mb q L := by
  subst hw
  exact ⟨h.box, h.most⟩

set_option maxRecDepth 100000 in
set_option maxHeartbeats 2000000 in
theorem walk_told (w : World) {b m : Nat} {f : Nat → Bool} {B T Mb q : Nat} (hR : Set w b m f) (hT : Told w B T Mb q []) (hbB : b < B) (hTB : T < B) (hbT : b ≠ T) (hMT : Mb ≠ T) (hMB : Mb < B) (hB : B ≤ w.heap.size) (hq : 1 ≤ q) :
    Calls Try.prog 30 #[.pointer (some ⟨b, 0, none⟩), .func (.func 33) #[] #[.pointer (some ⟨T, 0, none⟩), .pointer (some ⟨Mb, 0, none⟩)]] w fun e w' => e = .returned (.tuple #[]) ∧
      Told w' B T Mb q ((M.nums m f).take q) ∧ Kept (fun j => j = T ∨ B ≤ j) w w' := by
  have HM := Lib.hid (many_any w hR)
  have hm := hR.le
  have HR := Lib.hid hR
  have HT := Lib.hid hT
  clear hR hT
  go_enter Try.func30, Try.ntmps30
  go_wp2_with fail
  refine HM.out.mono ?_
  rintro e w1 ⟨rfl, hw1⟩
  rw [hw1]
  clear hw1 HM
  go_wp2_with fail
  go_loopw [7] (fun i wr => ∃ k : Nat, k ≤ m ∧ i = .int .i64 k ∧ Told wr B T Mb q (M.nums k f) ∧ (M.nums k f).length < q ∧ Kept (fun j => j = T ∨ B ≤ j) w wr) (fun i _ => m - (intOf i).toNat)
  case atStart => exact ⟨0, Nat.zero_le _, rfl, HT.out, hq, Kept.refl _ _⟩
  case round =>
    obtain ⟨k, hk, rfl, hTk, hLk, hKk⟩ := hrel
    have HRk : Hid (Set wr b m f) := HR.out.kept hKk (by omega)
    have HKk := Lib.hid hKk
    have HTk := Lib.hid hTk
    have HLk := Lib.hid hLk
    have HBk : Hid (B ≤ wr.heap.size) := Nat.le_trans hB hKk.size
    clear hTk hLk hKk HT
    by_cases hlt : k < m
    · have hlt' : (k : Int) < (m : Int) := by omega
      have HH := Lib.hid (has_in k wr HRk.out hlt)
      have hlen := M.nums_len k f
      by_cases hf : f k = true
      · rw [hf] at HH
        have HF := Lib.hid hf
        have hbr : (decide (((M.nums k f).length : Int) + 1 < (q : Int)) = true ∧ (M.nums k f).length + 1 < q) ∨ (decide (((M.nums k f).length : Int) + 1 < (q : Int)) = false ∧ (M.nums k f).length + 1 = q) := by
          have := HLk.out
          by_cases h : (M.nums k f).length + 1 < q
          · exact Or.inl ⟨by simp; omega, h⟩
          · exact Or.inr ⟨by simp; omega, by omega⟩
        have HW : Hid (∀ x : World, (∃ n, x = wr.drewN n) → Calls Try.prog 33 #[.int .i64 (k : Nat), .pointer (some ⟨T, 0, none⟩), .pointer (some ⟨Mb, 0, none⟩)] x fun e w' => e = .returned (.bool (decide (((M.nums k f).length : Int) + 1 < (q : Int)))) ∧
            Told w' B T Mb q (M.nums (k + 1) f) ∧ Kept (fun j => j = T ∨ B ≤ j) w w') := by
          rintro x ⟨n, rfl⟩
          obtain ⟨v, hv, hown⟩ := HTk.out.box
          refine (told_any (wr.drewN n) (k := k) hv HTk.out.most hown hTB hMT hMB HBk.out (by omega)).mono ?_
          rintro e w' ⟨rfl, v', h1, h2, h3⟩
          rw [M.nums_in k f HF.out]
          exact ⟨rfl, ⟨⟨v', h1, h2⟩, h3.cell HTk.out.most (by simp only; omega)⟩, (HKk.out.drewN n).trans h3⟩
        clear hf hlen HR
        rcases hbr with ⟨hd, hbr⟩ | ⟨hd, hbr⟩
        · rw [hd] at HW
          have HBR := Lib.hid hbr
          clear hd hbr
          go_wp2_with fail
          refine HH.out.mono ?_
          rintro e w2 ⟨rfl, hw2⟩
          have HW2 := Lib.hid (HW.out w2 hw2)
          clear hw2
          go_wp2_with fail
          refine HW2.out.mono ?_
          rintro e w3 ⟨rfl, hT3, hK3⟩
          have HT3 := Lib.hid hT3
          have HK3 := Lib.hid hK3
          clear hT3 hK3
          go_wp2_with fail
          go_roundw
          case rel => exact ⟨k + 1, by omega, by go_num, HT3.out, by rw [M.nums_in k f HF.out]; simpa using HBR.out, HK3.out⟩
          case measure => simp [intOf]; omega
        · rw [hd] at HW
          have HBR := Lib.hid hbr
          clear hd hbr
          go_wp2_with fail
          refine HH.out.mono ?_
          rintro e w2 ⟨rfl, hw2⟩
          have HW2 := Lib.hid (HW.out w2 hw2)
          clear hw2
          go_wp2_with fail
          refine HW2.out.mono ?_
          rintro e w3 ⟨rfl, hT3, hK3⟩
          have hl : (M.nums (k + 1) f).length = q := by rw [M.nums_in k f HF.out]; simpa using HBR.out
          have et : (M.nums m f).take q = M.nums (k + 1) f := by rw [M.nums_take (k := k + 1) (by omega) (by omega), ← hl, List.take_length]
          rw [← et] at hT3
          have HT3 := Lib.hid hT3
          have HK3 := Lib.hid hK3
          clear hT3 hK3 hl et
          go_wp2_with fail
          exact bodyPost_ret (results_none rfl _ _ _) rfl ⟨rfl, HT3.out, HK3.out⟩
      · have hf' : f k = false := by simpa using hf
        have HF := Lib.hid hf'
        rw [hf'] at HH
        clear hf hf' hlen HR
        go_wp2_with fail
        refine HH.out.mono ?_
        rintro e w2 ⟨rfl, n, hw2⟩
        have HT2 := Lib.hid (HTk.out.kept n hw2)
        have HK2 : Hid (Kept (fun j => j = T ∨ B ≤ j) w w2) := by rw [hw2]; exact HKk.out.drewN n
        clear hw2
        go_wp2_with fail
        go_roundw
        case rel => exact ⟨k + 1, by omega, by go_num, by rw [M.nums_out k f HF.out]; exact HT2.out, by rw [M.nums_out k f HF.out]; exact HLk.out, HK2.out⟩
        case measure => simp [intOf]; omega
    · have e : k = m := by omega
      subst e
      have et : (M.nums k f).take q = M.nums k f := List.take_of_length_le (Nat.le_of_lt HLk.out)
      have HX : Hid (Told wr B T Mb q ((M.nums k f).take q)) := by rw [et]; exact HTk.out
      clear et
      go_wp2_with fail
      go_end0
      exact ⟨rfl, HX.out, HKk.out⟩

theorem all_any (p : Option Addr) (w : World) :
    Calls Try.prog 32 #[.pointer p] w fun e w' => e = .returned (.func (.func 34) #[] #[.pointer (some ⟨w.heap.size, 0, none⟩)]) ∧ w' = w.alloc (.cells #[.pointer p] 24) := by
  go_enter Try.func32, Try.ntmps32
  go_wp2_with fail
  go_ret
  exact ⟨rfl, rfl⟩

theorem all1_nil (A T Mb : Nat) (w : World) (hA : w.cell? ⟨A, 0, none⟩ = some (.pointer none)) :
    Calls Try.prog 34 #[.func (.func 33) #[] #[.pointer (some ⟨T, 0, none⟩), .pointer (some ⟨Mb, 0, none⟩)], .pointer (some ⟨A, 0, none⟩)] w fun e w' => e = .returned (.tuple #[]) ∧ w' = w := by
  go_enter Try.func34, Try.ntmps34
  go_wp2_with fail
  exact bodyPost_ret (results_none rfl _ _ _) rfl ⟨rfl, rfl⟩

set_option maxHeartbeats 2000000 in
theorem all1_some (w : World) {A b m : Nat} {f : Nat → Bool} {T Mb q : Nat} (hA : w.cell? ⟨A, 0, none⟩ = some (.pointer (some ⟨b, 0, none⟩))) (hR : Set w b m f) (hT : Box w T 35 #[.slice none 0 0]) (hM : w.cell? ⟨Mb, 0, none⟩ = some (.int .i64 (q : Nat))) (hMT : Mb ≠ T) (hq : 1 ≤ q) :
    Calls Try.prog 34 #[.func (.func 33) #[] #[.pointer (some ⟨T, 0, none⟩), .pointer (some ⟨Mb, 0, none⟩)], .pointer (some ⟨A, 0, none⟩)] w fun e w' => e = .returned (.tuple #[]) ∧
      Told w' (w.heap.size + 1) T Mb q ((M.nums m f).take q) ∧ Kept (fun j => j = T) w w' := by
  have hfn : ∀ (f : Fn) (a b : Array Value) (W : World), (binOp .eql 30 (.func f a b) .nilFunc).run Try.prog W = .ok (.bool false) W := fun f a b W => eql_fn W _ f a b Try.underlying30
  have hz : ∀ W, (zeroValue 54).run Try.prog W = .ok (.agg (M.cells 0 (fun _ => false))) W := zeroS
  have HSZ : Hid ((Try.prog.info? 54).map (·.size) = some (M.cells m f).size) := by
    have h : (Try.prog.info? 54).map (·.size) = some 126 := by kernel_rfl
    show _ = _; rw [h]; simp [M.cells]
  have HOC : Hid ((M.cells m f).all (·.oneCell') = true) := by
    simp only [Hid, Array.all_eq_true_iff_forall_mem]
    intro x hx
    simp only [M.cells, List.mem_toArray, List.mem_cons, List.mem_map] at hx
    rcases hx with rfl | ⟨j, _, rfl⟩ <;> rfl
  have HS0 : Hid ((M.cells 0 (fun _ => false)).size = (M.cells m f).size) := by simp [Hid, M.cells]
  have HR := Lib.hid hR
  have HE : Hid ((w.alloc (.cells (M.cells 0 (fun _ => false)) 54)).setRow w.heap.size (M.cells m f) = w.alloc (.cells (M.cells m f) 54)) := World.setRow_alloc_new w _ _ _
  have HN : Hid ((w.alloc (.cells (M.cells 0 (fun _ => false)) 54)).heap[w.heap.size]? = some (.cells (M.cells 0 (fun _ => false)) 54 (0, 0))) := heap_alloc_last w _
  have HX : Hid (∃ W, W = w.alloc (.cells (M.cells m f) 54) ∧ Set W w.heap.size m f ∧ Told W (w.heap.size + 1) T Mb q [] ∧ W.heap.size = w.heap.size + 1 ∧ Kept (fun j => j = T) w W) := by
    refine ⟨_, rfl, ⟨Box.new _ _ _, hR.le, hR.low⟩, ⟨⟨.slice none 0 0, (Below.heap_alloc w _ _ hT.lt).trans hT, rfl, Or.inl ⟨rfl, rfl⟩⟩, ?_⟩, by simp, (Kept.refl _ w).alloc _⟩
    exact (World.cell?_of_block (Below.heap_alloc w _ _ (World.block_lt_of_cell? w _ hM))).trans hM
  have hTl := hT.lt
  have hMl := World.block_lt_of_cell? w _ hM
  clear hR hT hM
  obtain ⟨Z, hZ⟩ : ∃ Z, Z = M.cells 0 (fun _ => false) := ⟨_, rfl⟩
  rw [← hZ] at HS0 HE HN
  simp only [← hZ] at hz
  clear hZ
  go_enter Try.func34, Try.ntmps34
  go_wp2_with (first
    | (refine wpList_load_row rfl 54 _ rfl b rfl 54 (M.cells m f) (0, 0) _ HR.out.box Try.underlying54 rfl HSZ.out ?_)
    | (refine wpList_store_row rfl 54 _ _ rfl w.heap.size (M.cells m f) rfl rfl 54 Z HN.out HSZ.out HS0.out HOC.out ?_; rw [HE.out]))
  obtain ⟨W, hW, hS, hTo, hsz, hK⟩ := HX.out
  rw [← hW]
  have HT := Lib.hid hTo
  have HS := Lib.hid hS
  have HK := Lib.hid hK
  have hMl' : Mb < w.heap.size := hMl
  clear hW hTo hS hK HX HE HN HS0 HOC HSZ HR hz hA
  go_wp2_with fail
  refine (walk_told W HS.out HT.out (by omega) (by omega) (by omega) hMT (by omega) (by omega) hq).mono ?_
  rintro e w3 ⟨rfl, hT3, hK3⟩
  have HT3 := Lib.hid hT3
  have HK3 : Hid (Kept (fun j => j = T) w w3) := HK.out.next hK3 (fun i hi h => by omega)
  clear hT3 hK3
  go_wp2_with fail
  go_end0
  exact ⟨rfl, HT3.out, HK3.out⟩

theorem all_some (w : World) {b m : Nat} {f : Nat → Bool} (hR : Set w b m f) (q : Nat) (hq : 1 ≤ q) :
    Calls Try.prog 21 #[.pointer (some ⟨b, 0, none⟩), .int .i64 (q : Nat)] w fun e w' => (∃ v, e = .returned v ∧ Ints w' v ((M.nums m f).take q)) ∧ Below w.heap.size w w' := by
  have HK0 : Hid (Kept (fun _ => False) w ((w.alloc (.cells #[.int .i64 (q : Nat)] 3)).alloc (.cells #[.slice none 0 0] 35))) := ((Kept.refl _ w).alloc _).alloc _
  have HM0 : Hid (((w.alloc (.cells #[.int .i64 (q : Nat)] 3)).alloc (.cells #[.slice none 0 0] 35)).cell? ⟨w.heap.size, 0, none⟩ = some (.int .i64 (q : Nat))) :=
    (Box.cell (t := 3) (cs := #[.int .i64 (q : Nat)]) ((Below.heap_alloc _ _ _ (by simp)).trans (Box.new w 3 #[.int .i64 (q : Nat)])) 0).trans rfl
  have HT0 : Hid (Box ((w.alloc (.cells #[.int .i64 (q : Nat)] 3)).alloc (.cells #[.slice none 0 0] 35)) (w.heap.size + 1) 35 #[.slice none 0 0]) := by
    have := Box.new (w.alloc (.cells #[.int .i64 (q : Nat)] 3)) 35 #[.slice none 0 0]
    rwa [World.size_alloc] at this
  have hz0 : Hid (((w.alloc (.cells #[.int .i64 (q : Nat)] 3)).alloc (.cells #[.slice none 0 0] 35)).heap.size = w.heap.size + 2) := by simp [Hid]
  have HR := Lib.hid hR
  clear hR
  go_enter Try.func21, Try.ntmps21
  go_wp2_with fail
  obtain ⟨w0, hw0⟩ : ∃ x, x = (w.alloc (.cells #[.int .i64 (q : Nat)] 3)).alloc (.cells #[.slice none 0 0] 35) := ⟨_, rfl⟩
  rw [← hw0] at HK0 HM0 HT0 hz0
  rw [← hw0]
  clear hw0
  refine (all_any (some ⟨b, 0, none⟩) w0).mono ?_
  rintro e w1 ⟨rfl, hw1⟩
  have HK1 : Hid (Kept (fun _ => False) w w1) := by rw [hw1]; exact HK0.out.alloc _
  have HA1 : Hid (w1.cell? ⟨w0.heap.size, 0, none⟩ = some (.pointer (some ⟨b, 0, none⟩))) := by rw [hw1]; exact ((Box.new w0 _ _).cell 0).trans rfl
  have hk01 : Kept (fun _ => False) w0 w1 := by rw [hw1]; exact (Kept.refl _ w0).alloc _
  have HM1 := Lib.hid (hk01.cell HM0.out (fun h => h))
  have HT1 := Lib.hid (hk01.box HT0.out (fun h => h))
  have HR1 := Lib.hid (HR.out.kept HK1.out (fun h => h))
  clear hw1 hk01 HM0 HT0 HR HK0
  go_wp2_with fail
  refine (all1_some w1 HA1.out HR1.out HT1.out HM1.out (by omega) hq).mono ?_
  rintro e w2 ⟨rfl, hT2, hK2⟩
  obtain ⟨v, hv, hown⟩ := hT2.box
  have hc : w2.cell? ⟨w.heap.size + 1, 0, none⟩ = some v := (hv.cell 0).trans rfl
  have HB2 : Hid (Below w.heap.size w w2) := (HK1.out.mono (Q := fun j => w.heap.size ≤ j) (fun _ _ h => h.elim)).next (hK2.mono (Q := fun j => w.heap.size ≤ j) (fun _ _ h => by omega)) (fun _ _ h => h) |>.below (Nat.le_refl _) (fun k hk h => by omega)
  have HI2 := Lib.hid (Ints.of_owned hown)
  clear hT2 hK2 hv hown HA1 HR1 HT1 HM1 HK1
  go_wp2_with fail
  go_ret
  exact ⟨⟨_, rfl, HI2.out⟩, HB2.out⟩
theorem all_nil (w : World) (q : Nat) :
    Calls Try.prog 21 #[.pointer none, .int .i64 (q : Nat)] w fun e w' => e = .returned (.slice none 0 0) ∧ Below w.heap.size w w' := by
  have HK0 : Hid (Kept (fun _ => False) w ((w.alloc (.cells #[.int .i64 (q : Nat)] 3)).alloc (.cells #[.slice none 0 0] 35))) := ((Kept.refl _ w).alloc _).alloc _
  have HT0 : Hid (Box ((w.alloc (.cells #[.int .i64 (q : Nat)] 3)).alloc (.cells #[.slice none 0 0] 35)) (w.heap.size + 1) 35 #[.slice none 0 0]) := by
    have := Box.new (w.alloc (.cells #[.int .i64 (q : Nat)] 3)) 35 #[.slice none 0 0]
    rwa [World.size_alloc] at this
  go_enter Try.func21, Try.ntmps21
  go_wp2_with fail
  obtain ⟨w0, hw0⟩ : ∃ x, x = (w.alloc (.cells #[.int .i64 (q : Nat)] 3)).alloc (.cells #[.slice none 0 0] 35) := ⟨_, rfl⟩
  rw [← hw0] at HK0 HT0
  rw [← hw0]
  clear hw0
  refine (all_any none w0).mono ?_
  rintro e w1 ⟨rfl, hw1⟩
  have HK1 : Hid (Kept (fun _ => False) w w1) := by rw [hw1]; exact HK0.out.alloc _
  have HA1 : Hid (w1.cell? ⟨w0.heap.size, 0, none⟩ = some (.pointer none)) := by rw [hw1]; exact ((Box.new w0 _ _).cell 0).trans rfl
  have hk01 : Kept (fun _ => False) w0 w1 := by rw [hw1]; exact (Kept.refl _ w0).alloc _
  have hT1 := hk01.box HT0.out (fun h => h)
  have hc : w1.cell? ⟨w.heap.size + 1, 0, none⟩ = some (.slice none 0 0) := (hT1.cell 0).trans rfl
  clear hw1 hk01 hT1 HT0 HK0
  go_wp2_with fail
  refine (all1_nil _ _ _ w1 HA1.out).mono ?_
  rintro e w2 ⟨rfl, rfl⟩
  go_wp2_with fail
  go_ret
  exact ⟨rfl, HK1.out.below (Nat.le_refl _) (fun _ _ h => h)⟩
end Go.Proofs.Ytmgppfehgjildaa
