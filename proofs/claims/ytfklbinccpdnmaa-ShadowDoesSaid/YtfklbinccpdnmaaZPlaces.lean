/-
  Walks over maps.Clone and shadow.risingPlaces, at things that are ints.
-/
import Derived.Test.YtfklbinccpdnmaaZMap
import Derived.Test.YtfklbinccpdnmaaShelf
import Derived.Shelf.SlMaps.Clone
import Derived.Sort.OwnSortedInts
import Derived.Maps.RangeWalk
import Derived.Laws.IdiomRangeMap
namespace Go.Proofs.Ytfklbinccpdnmaa
open Go.RowKit Go.Maps Go.Sort

theorem info13 : (Try.prog.info? 3).map (fun i => (i.zero, i.size, i.bytes)) = some (some (.int .i64 0), 1, 8) := by kernel_rfl

/-- A copy of a map, or nil. -/
theorem clone_any (w : World) {o : Option Nat} {L : List (Int × Value)} (h : MapV w o L) :
    Calls Try.prog 35 #[.map o] w fun e w' => ∃ o', e = .returned (.map o') ∧ MapV w' o' L ∧ Below w.heap.size w w' ∧ ∀ k, o' = some k → w.heap.size ≤ k := by
  rcases h with ⟨rfl, rfl⟩ | ⟨b, D, rfl, hown, hD⟩
  · have hq := fun w => run_eql_map_nil_sl (P := Try.prog) w 51 _ _ none Try.underlying51
    go_enter Try.func35, Try.ntmps35
    go_wp2_with fail
    go_ret
    exact ⟨none, rfl, MapV.nil _, Below.refl _ _, fun _ e => by cases e⟩
  · have hq := fun w => run_eql_map_nil_sl (P := Try.prog) w 51 _ _ (some b) Try.underlying51
    have hlt := hown.lt
    obtain ⟨es, clock, hb, F, hs, hDD⟩ := hown
    have HX : Hid (MapV (w.alloc (.map es clock)) (some w.heap.size) L ∧ Below w.heap.size w (w.alloc (.map es clock))) :=
      ⟨Or.inr ⟨_, D, rfl, ⟨es, clock, (MapKept.heap_alloc w _).1, F, hs, hDD⟩, hD⟩, (Below.refl _ w).alloc (Nat.le_refl _) _⟩
    clear F hs hDD hD
    go_enter Try.func35, Try.ntmps35
    go_wp2_with fail
    rw [run_callFunc_extern Try.func39 (by kernel_rfl) (by kernel_rfl) (by kernel_rfl) (e := Extern.MapsClone.clone) (by kernel_rfl), run_maps_clone_sl w 51 hb]
    simp only [Result.andThen]
    rw [Oper.upon_value]
    go_wp2_with fail
    rw [run_typeAssert_map_sl _ 51 20 _ _ _ Try.underlying51]
    simp only [Result.andThen]
    rw [Oper.upon_value]
    go_wp2_with fail
    go_ret
    exact ⟨_, rfl, HX.out.1, HX.out.2, fun k e => by cases e; exact Nat.le_refl _⟩

/-- The places of things, in order. -/
def M.ks (L : List (Int × Value)) : List Value := (L.map (·.1)).map (Value.int .i64)
theorem M.ks_len (L : List (Int × Value)) : (M.ks L).length = L.length := by simp [M.ks]
theorem M.ks_at (L : List (Int × Value)) (i : Nat) (hi : i < L.length) : (M.ks L)[i]? = some (.int .i64 (L[i]'hi).1) := by
  simp [M.ks, hi]

set_option maxRecDepth 100000 in
set_option maxHeartbeats 2000000 in
theorem places_some (w : World) {b : Nat} {D : DataW Value} {L : List (Int × Value)} (hown : w.ownsMap Try.prog 3 M.tok b L.length D) (hD : M.MapHas D L) (hl : L.length ≤ 100000) :
    Calls Try.prog 36 #[.map (some b)] w fun e w' => ∃ g cap, e = .returned (.slice (some ⟨g, 0, none⟩) L.length cap) ∧
      w'.ownsRow w.heap.size 3 1 (.slice (some ⟨g, 0, none⟩) L.length cap) L.length (M.ks L) ∧ Below w.heap.size w w' := by
  obtain ⟨i0, hi, hz0, hz1, hz2⟩ := info_parts info13
  have hbl := hown.lt
  have hsz := hD.size
  have hmax : Maps.size D ≤ maxLen := by rw [hsz]; unfold maxLen; omega
  have hl' : Maps.size D ≤ 100000 := by omega
  have HD := Lib.hid hD
  obtain ⟨n, hn⟩ : ∃ n, n = L.length := ⟨_, rfl⟩
  rw [← hn] at hown hsz hl
  rw [← hn]
  have HN := Lib.hid hn
  have HZ := Lib.hid hsz
  clear hD hn hsz
  go_enter Try.func36, Try.ntmps36
  go_wp2_with (first
    | (at_len; refine wpList_len_own _ rfl _ 51 rfl 3 _ Try.underlying51 _ b n _ rfl hown ?_)
    | (at_make; refine wpList_make_own _ rfl _ _ 65 rfl w.heap.size 3 i0 (.int .i64 0) 1 Try.underlying65 hi hz0 hz1 _ _ _ (Maps.size D) rfl rfl rfl (by rw [hz2]; omega) hmax (Nat.le_refl _) ?_; intro w1 hrow1 hg1)
    | (at_range; refine wpList_range_own _ rfl _ 51 rfl 3 _ key13 Try.underlying51 _ b n _ rfl (hown.kept hg1 (by simp)) ?_; intro w0 hrg0 hg0 hs0)
    | fail)
  go_frame
  go_loopw [3] (fun v wr => ∃ (left : Lit → Bool) (cnt : Nat) (ss : List Int), wr.ranges Try.prog 3 M.tok b w1.heap.size n D left cnt ∧ ss.length + cnt ≤ Maps.size D ∧
      wr.ownsRow w.heap.size 3 1 v ss.length (ss.map (Value.int .i64)) ∧ v ≠ .slice none 0 0 ∧ M.Coll D left ss ∧ Below w.heap.size w wr)
    (fun _ wr => wr.rangeLeft b w1.heap.size)
  case atStart =>
    exact ⟨_, _, [], hrg0, by simp, hrow1.kept hg0 (Or.inr (by simp [Value.ownBlock])), by simp, M.Coll.start D,
      ((Below.refl _ _).grown hg1 (Nat.le_refl _) (fun j hj => by cases hj)).grown hg0 hg1.size (fun j hj => by cases hj)⟩
  case round =>
    obtain ⟨left, cnt, ss, hrg, hcs, hrow, hnn, hC, hnx⟩ := hrel
    go_wp2_with (first
      | (at_next; refine wpList_next_ranges _ rfl _ rfl 3 key13 M.tok (Value.int .i64) (fun v : Value => v) (fun key kl hk => by obtain ⟨x, hx, _⟩ := Maps.keyOf_int_inv Try.underlying3 hk; exact ⟨x, hx⟩) (fun v y _ => ⟨v, rfl⟩) b w1.heap.size n _ _ _ rfl hrg ?_ ?_)
      | fail)
    · intro hc0 hl0
      rcases hrow.2 with ⟨hnil, _⟩ | ⟨g, cap, cur, rfl, hbase, hb, h1, h2, h3, h4⟩
      · exact absurd hnil hnn
      obtain ⟨d1, d2⟩ := hC.done HD.out hl0
      have hH : Holds (Value.int .i64) wr g 0 ss.toArray := holds_of_blockI hb (by simpa using h4)
      have hgl : g < wr.heap.size := (Array.getElem?_eq_some_iff.1 hb).1
      have hc := Try.slices_Sort_int g 0 cap ss wr hH hgl (by omega)
      have e1 : ss.length = n := by rw [d1, HN.out]
      have HR : Hid (∀ nn os, (grow (putRow (Value.int .i64) (Sort.ahead wr nn) g 0 (ss.mergeSort fun x y => decide (x ≤ y)).toArray) os).ownsRow w.heap.size 3 1 (.slice (some ⟨g, 0, none⟩) n cap) n (M.ks L)) := by
        intro nn os
        have := ownsRow_sortedI (n := nn) (os := os) (ts := ss.mergeSort fun x y => decide (x ≤ y)) (by simp) hbase hb h1 h2 h3
        rw [d2, e1] at this
        rw [d2]
        exact this
      have HB : Hid (∀ nn os, Below w.heap.size w (grow (putRow (Value.int .i64) (Sort.ahead wr nn) g 0 (ss.mergeSort fun x y => decide (x ≤ y)).toArray) os)) := fun nn os => hnx.grown (grownBy_sortedI _) hnx.size (fun j hj => by cases hj; exact hbase)
      rw [e1] at hc
      rw [e1]
      clear d1 d2 e1
      go_wp2_with (go_at_call 40; refine hc.mono ?_; rintro e w' ⟨rfl, nn, os, rfl⟩)
      go_ret
      exact ⟨g, cap, rfl, HR.out nn os, HB.out nn os⟩
    · intro x c kl yd yp w2 cnt2 hkey hlk hv hat hrg2 hlt hg2 hs2 hen
      obtain ⟨x', ex, rfl, _⟩ := Maps.keyOf_int_inv Try.underlying3 hkey
      obtain rfl : x = x' := by injection ex
      have hrow2 := hrow.kept hg2 (Or.inr (row_ne_iter hrow hrg).symm)
      clear hs2
      go_wp2_with (first
        | (at_builtin; refine wpList_append_own _ rfl _ _ 65 rfl w.heap.size 3 i0 (.int .i64 0) 1 8 Try.underlying65 hi hz0 hz1 hz2 rfl (by decide) _ _ _ rfl (hrow2.alloc _) ⟨w2.heap.size, 0, none⟩ 1 1 [.int .i64 x] rfl rfl (cell_one_new _ _ _) (by simp [Value.oneCell']) (by unfold maxLen at *; omega) (by omega) (by have := hnx.size; have := hg2.size; simp; omega) ?_; intro v' w3 hown' hg3 hnil3; go_frame)
        | fail)
      have hrg3 := (hrg2.alloc _).kept hg3 (row_ne_low hrow2 hbl) (row_ne_iter hrow2 hrg2)
      go_roundw
      case rel =>
        refine ⟨_, cnt2, ss ++ [x], hrg3, by simp; omega, by simpa using hown', fun hv' => by have := (hnil3.1 hv').2; omega, hC.step hlk hat, ?_⟩
        exact ((hnx.grown hg2 hnx.size (fun j hj => by cases hj; exact hg1.size)).alloc (by have := hnx.size; have := hg2.size; omega) _).grown hg3 (by have := hnx.size; have := hg2.size; simp; omega) (fun j hj => (hrow2.lt j hj).1)
      case measure => rw [hrg3.left_eq, hrg.left_eq]; exact hlt

set_option maxRecDepth 100000 in
set_option maxHeartbeats 1000000 in
theorem places_nil (w : World) :
    Calls Try.prog 36 #[.map none] w fun e w' => ∃ g cap, e = .returned (.slice (some ⟨g, 0, none⟩) 0 cap) ∧
      w'.ownsRow w.heap.size 3 1 (.slice (some ⟨g, 0, none⟩) 0 cap) 0 [] ∧ Below w.heap.size w w' := by
  obtain ⟨i0, hi, hz0, hz1, hz2⟩ := info_parts info13
  go_enter Try.func36, Try.ntmps36
  go_wp2_with (first
    | (at_make; refine wpList_make_own _ rfl _ _ 65 rfl w.heap.size 3 i0 (.int .i64 0) 1 Try.underlying65 hi hz0 hz1 _ _ _ 0 rfl rfl rfl (by omega) (Nat.zero_le _) (Nat.le_refl _) ?_; intro w1 hrow1 hg1
       have hrg := run_range_nilMap (P := Try.prog) w1 51 3 _ Try.underlying51
       have hnx : ∀ ty, (Instr.next (.pointer (some ⟨w1.heap.size, 0, none⟩)) false ty).run Try.prog (w1.alloc (.mapIter none 0 #[] 0)) = _ := fun ty => run_next_nilMap _ ty 0 0 #[])
    | fail)
  refine wp_loop_rounds 1 ?_
  rw [rounds_succ]
  have hrow2 := hrow1.alloc (.mapIter none 0 #[] 0)
  rcases hrow2.2 with ⟨hnil, _⟩ | ⟨g, cap, cur, hv, hbase, hb, h1, h2, h3, h4⟩
  · cases hnil
  cases hv
  have hc := Try.slices_Sort_int_none (some ⟨w.heap.size, 0, none⟩) 0 (w1.alloc (.mapIter none 0 #[] 0))
  have HX : Hid (Below w.heap.size w (w1.alloc (.mapIter none 0 #[] 0))) := ((Below.refl _ _).grown hg1 (Nat.le_refl _) (fun j hj => by cases hj)).alloc hg1.size _
  have HR := Lib.hid hrow2
  clear hrow2 hrow1 hb h1 h2 h3 h4
  go_wp2_with (go_at_call 40; refine hc.mono ?_; rintro e w' ⟨rfl, rfl⟩)
  go_ret
  exact ⟨_, _, rfl, HR.out, HX.out⟩

theorem places_any (w : World) {o : Option Nat} {L : List (Int × Value)} (h : MapV w o L) (hl : L.length ≤ 100000) :
    Calls Try.prog 36 #[.map o] w fun e w' => ∃ g cap, e = .returned (.slice (some ⟨g, 0, none⟩) L.length cap) ∧
      w'.ownsRow w.heap.size 3 1 (.slice (some ⟨g, 0, none⟩) L.length cap) L.length (M.ks L) ∧ Below w.heap.size w w' := by
  rcases h with ⟨rfl, rfl⟩ | ⟨b, D, rfl, hown, hD⟩
  · exact places_nil w
  · exact places_some w hown hD hl
end Go.Proofs.Ytfklbinccpdnmaa
