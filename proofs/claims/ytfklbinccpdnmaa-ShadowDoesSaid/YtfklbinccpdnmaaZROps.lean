/-
  Walks over solderref13.Put and Keep.
-/
import Derived.Test.YtfklbinccpdnmaaZRWith
import Derived.Deep.RegionHeld3
namespace Go.Proofs.Ytfklbinccpdnmaa
open Go.RowKit Go.Maps

set_option maxHeartbeats 2000000 in
theorem rput13_any (w : World) {b : Nat} {kv lv : Value} {K L : List (Int × Int)} (h : RSh w b kv lv K L) (a n : Int) (hl : L.length ≤ 100000) :
    Calls Try.prog 9 #[.pointer (some ⟨b, 0, none⟩), .agg #[.int .i64 a, .int .i64 n]] w fun e w' => e = .returned (.tuple #[]) ∧ ∃ lv', RSh w' b kv lv' K (M.ins a n L) ∧ Kept (fun k => k = b) w w' ∧ ∀ k, lv'.ownBlock = some k → w.heap.size ≤ k := by
  have hbl := h.box.lt
  obtain ⟨w0, hw0⟩ : ∃ x, x = w.alloc (.cells #[.int .i64 a, .int .i64 n] 35) := ⟨_, rfl⟩
  have hX0 : Box w0 w.heap.size 35 #[.int .i64 a, .int .i64 n] := by rw [hw0]; exact Box.new _ _ _
  have hb0 : Below w.heap.size w w0 := by rw [hw0]; exact (Below.refl _ w).alloc (Nat.le_refl _) _
  have hz0 : w0.heap.size = w.heap.size + 1 := by rw [hw0]; simp
  have h0 : RSh w0 b kv lv K L := h.moved (Kept.of_below hb0 (fun _ => False)) id (fun _ _ => id) (fun _ _ => id)
  have x0 : w0.cell? ⟨w.heap.size, 0, none⟩ = some (.int .i64 a) := (hX0.cell 0).trans rfl
  have x1 : w0.cell? ⟨w.heap.size, 1, none⟩ = some (.int .i64 n) := (hX0.cell 1).trans rfl
  have c1 := h0.c1
  have HW := Lib.hid (rwith_any w0.drew (v := lv) (T := L) h0.loose a n hl)
  have HY : Hid (∀ w2 v', Things w2 v' (M.ins a n L) → Below w0.drew.heap.size w0.drew w2 → (∀ k, v'.ownBlock = some k → w0.drew.heap.size ≤ k) → w2.frozen? ⟨b, 1, none⟩ = false ∧ w2.cell? ⟨b, 1, none⟩ = some lv ∧
      Hid (RSh (w2.setCell ⟨b, 1, none⟩ v') b kv v' K (M.ins a n L) ∧ Kept (fun k => k = b) w0 (w2.setCell ⟨b, 1, none⟩ v') ∧ ∀ k, v'.ownBlock = some k → w.heap.size ≤ k)) := by
    intro w2 v' hm hb ho
    have hk : Kept (fun _ => False) w0 w2 := (Kept.refl _ w0).drew.trans (Kept.of_below hb _)
    obtain ⟨f1, d1, H⟩ := h0.set1 hk hm ho
    exact ⟨f1, d1, H.1, H.2, fun k e => by have := ho k e; simp only [World.drew] at this; omega⟩
  have HS2 : Hid (∀ w2, Below w0.drew.heap.size w0.drew w2 → w2.cell? ⟨w.heap.size, 0, none⟩ = some (.int .i64 a) ∧ w2.cell? ⟨w.heap.size, 1, none⟩ = some (.int .i64 n)) := by
    intro w2 hb
    have hlt : w.heap.size < w0.drew.heap.size := by show _ < w0.heap.size; omega
    exact ⟨(hb.cell (p := ⟨w.heap.size, 0, none⟩) hlt).trans x0, (hb.cell (p := ⟨w.heap.size, 1, none⟩) hlt).trans x1⟩
  have HS3 : Hid (∀ w2 v', Below w0.drew.heap.size w0.drew w2 → (w2.setCell ⟨b, 1, none⟩ v').cell? ⟨w.heap.size, 0, none⟩ = some (.int .i64 a) ∧ (w2.setCell ⟨b, 1, none⟩ v').cell? ⟨w.heap.size, 1, none⟩ = some (.int .i64 n)) := by
    intro w2 v' hb
    obtain ⟨e0, e1⟩ := HS2.out w2 hb
    exact ⟨(cell_set_other (p := ⟨w.heap.size, 0, none⟩) (by simp only; omega)).trans e0, (cell_set_other (p := ⟨w.heap.size, 1, none⟩) (by simp only; omega)).trans e1⟩
  have HB0 := Lib.hid hb0
  clear h hX0 hb0 hz0 h0
  go_enter Try.func9, Try.ntmps9
  go_wp2_with fail
  rw [← hw0]
  clear hw0
  refine wp_region_held_drew (S := fun y => y.cell? ⟨w.heap.size, 0, none⟩ = some (.int .i64 a) ∧ y.cell? ⟨w.heap.size, 1, none⟩ = some (.int .i64 n)) (by kernel_rfl) ⟨x0, x1⟩ (fun hHeld => ?_)
  refine wpAnyH_take (i := 0) (oi := ?_) (v := ?_) ?_ (by kernel_rfl) (by kernel_rfl) (by kernel_rfl) ?_ ?_ (by assumption) ?_
  rotate_left 2
  · (simp only [List.getElem?_toArray, List.getElem?_cons_zero]; rfl)
  rotate_left
  · (refine Or.inl ⟨by rfl, ?_⟩; intro w hSw; (try dsimp only at hSw); go_simp; try with_reducible rfl)
  rotate_right
  · exact fun _ _ _ h => h
  simp only [Act.put, List.setIfInBounds_toArray, List.set_cons_zero, List.set_cons_succ]
  refine wpAnyH_take (i := 1) (oi := ?_) (v := ?_) ?_ (by kernel_rfl) (by kernel_rfl) (by kernel_rfl) ?_ ?_ (by assumption) ?_
  rotate_left 2
  · (simp only [List.getElem?_toArray, List.getElem?_cons_zero, List.getElem?_cons_succ]; rfl)
  rotate_left
  · (refine Or.inl ⟨by rfl, ?_⟩; intro w hSw; (try dsimp only at hSw); go_simp; try with_reducible rfl)
  rotate_right
  · exact fun _ _ _ h => h
  simp only [Act.put, List.setIfInBounds_toArray, List.set_cons_zero, List.set_cons_succ]
  refine wpAnyH_take (i := 2) (oi := ?_) (v := ?_) ?_ (by kernel_rfl) (by kernel_rfl) (by kernel_rfl) ?_ ?_ (by assumption) ?_
  rotate_left 2
  · (simp only [List.getElem?_toArray, List.getElem?_cons_zero, List.getElem?_cons_succ]; rfl)
  rotate_left
  · (refine Or.inl ⟨by rfl, ?_⟩; intro w hSw; (try dsimp only at hSw); go_simp; try with_reducible rfl)
  rotate_right
  · exact fun _ _ _ h => h
  simp only [Act.put, List.setIfInBounds_toArray, List.set_cons_zero, List.set_cons_succ]
  refine wpAnyH_take (i := 3) (oi := ?_) (v := ?_) ?_ (by kernel_rfl) (by kernel_rfl) (by kernel_rfl) ?_ ?_ (by assumption) ?_
  rotate_left 2
  · (simp only [List.getElem?_toArray, List.getElem?_cons_zero, List.getElem?_cons_succ]; rfl)
  rotate_left
  · (refine Or.inl ⟨by rfl, ?_⟩; intro w hSw; (try dsimp only at hSw); go_simp; try with_reducible rfl)
  rotate_right
  · exact fun _ _ _ h => h
  simp only [Act.put, List.setIfInBounds_toArray, List.set_cons_zero, List.set_cons_succ]
  refine wpAnyH_take (i := 5) (oi := ?_) (v := ?_) ?_ (by kernel_rfl) (by kernel_rfl) (by kernel_rfl) ?_ ?_ (by assumption) ?_
  rotate_left 2
  · (simp only [List.getElem?_toArray, List.getElem?_cons_zero, List.getElem?_cons_succ]; rfl)
  rotate_left
  · (refine Or.inl ⟨by rfl, ?_⟩; intro w hSw; (try dsimp only at hSw); go_simp; try with_reducible rfl)
  rotate_right
  · exact fun _ _ _ h => h
  simp only [Act.put, List.setIfInBounds_toArray, List.set_cons_zero, List.set_cons_succ]
  refine wpAnyH_ready (rs := [4]) (by kernel_rfl) (by simp) ?_
  refine AllReadyH.cons (o := ?_) ?_ (fun K hK => ?_) AllReadyH.nil
  rotate_left
  · (simp only [List.getElem?_toArray, List.getElem?_cons_zero, List.getElem?_cons_succ]; rfl)
  go_simp
  refine hK.out _ _ (by first | exact hHeld | exact HS2.out _ hb2 | exact HS3.out _ _ hb2) (fun hHeld => ?_)
  clear hK K
  try simp only [Act.put, List.setIfInBounds_toArray, List.set_cons_zero, List.set_cons_succ]
  refine wpAnyH_ready (rs := [6]) (by kernel_rfl) (by simp) ?_
  refine AllReadyH.cons (o := ?_) ?_ (fun K hK => ?_) AllReadyH.nil
  rotate_left
  · (simp only [List.getElem?_toArray, List.getElem?_cons_zero, List.getElem?_cons_succ]; rfl)
  go_simp
  go_at_call 27; refine HW.out.mono ?_; rintro e w2 ⟨v', rfl, hm2, hb2, ho2⟩; obtain ⟨A2, k2, e2, _⟩ := owns_shape13 hm2; subst e2; obtain ⟨f2, d2, HG⟩ := HY.out w2 _ hm2 hb2 ho2
  refine hK.out _ _ (by first | exact hHeld | exact HS2.out _ hb2 | exact HS3.out _ _ hb2) (fun hHeld => ?_)
  clear hK K
  refine wpAnyH_take (i := 7) (oi := ?_) (v := ?_) ?_ (by kernel_rfl) (by kernel_rfl) (by kernel_rfl) ?_ ?_ (by assumption) ?_
  rotate_left 2
  · (simp only [List.getElem?_toArray, List.getElem?_cons_zero, List.getElem?_cons_succ]; rfl)
  rotate_left
  · (refine Or.inl ⟨by rfl, ?_⟩; intro w hSw; (try dsimp only at hSw); go_simp; try with_reducible rfl)
  rotate_right
  · exact fun _ _ _ h => h
  simp only [Act.put, List.setIfInBounds_toArray, List.set_cons_zero, List.set_cons_succ]
  refine wpAnyH_take (i := 8) (oi := ?_) (v := ?_) ?_ (by kernel_rfl) (by kernel_rfl) (by kernel_rfl) ?_ ?_ (by assumption) ?_
  rotate_left 2
  · (simp only [List.getElem?_toArray, List.getElem?_cons_zero, List.getElem?_cons_succ]; rfl)
  rotate_left
  · (refine Or.inl ⟨by rfl, ?_⟩; intro w hSw; (try dsimp only at hSw); go_simp; try with_reducible rfl)
  rotate_right
  · exact fun _ _ _ h => h
  simp only [Act.put, List.setIfInBounds_toArray, List.set_cons_zero, List.set_cons_succ]
  refine wpAnyH_ready (rs := [9]) (by kernel_rfl) (by simp) ?_
  refine AllReadyH.cons (o := ?_) ?_ (fun K hK => ?_) AllReadyH.nil
  rotate_left
  · (simp only [List.getElem?_toArray, List.getElem?_cons_zero, List.getElem?_cons_succ]; rfl)
  go_simp
  refine hK.out _ _ (by first | exact hHeld | exact HS2.out _ hb2 | exact HS3.out _ _ hb2) (fun hHeld => ?_)
  clear hK K
  try simp only [Act.put, List.setIfInBounds_toArray, List.set_cons_zero, List.set_cons_succ]
  refine wpAnyH_done (by kernel_rfl) ?_ _
  go_wp2_with fail
  go_end0
  exact ⟨rfl, _, HG.out.1, (Kept.of_below HB0.out _).trans HG.out.2.1, HG.out.2.2⟩

set_option maxRecDepth 100000 in
set_option maxHeartbeats 2000000 in
theorem rkeep13_any (w : World) {b : Nat} {kv lv : Value} {K L : List (Int × Int)} (h : RSh w b kv lv K L) (hl : L.length + K.length ≤ 100000) :
    Calls Try.prog 11 #[.pointer (some ⟨b, 0, none⟩)] w fun e w' => e = .returned (.tuple #[]) ∧ ∃ kv', RSh w' b kv' (.slice none 0 0) (M.puts L K) [] ∧ Kept (fun k => k = b) w w' ∧ ∀ k, kv'.ownBlock = some k → kv.ownBlock = some k ∨ w.heap.size ≤ k := by
  have hbl := h.box.lt
  obtain ⟨A, cap, e, hc⟩ := owns_shape13 h.loose
  subst e
  obtain ⟨len, hlen⟩ : ∃ x, x = L.length := ⟨_, rfl⟩
  have HKB := Lib.hid (fun k e => (h.kept.lt k e).2)
  have HLB := Lib.hid (fun k e => (h.loose.lt k e).2)
  have HLb := Lib.hid h.lb
  rw [← hlen] at h hl hc HLB HLb
  have HN := Lib.hid hlen
  have HH := Lib.hid h
  clear h hlen
  go_enter Try.func11, Try.ntmps11
  go_wp2_with fail
  go_loopw [2] (fun i wr => ∃ j : Nat, j ≤ len ∧ i = .int .i64 j ∧ ∃ kv', RSh wr b kv' (.slice A len cap) (M.puts (L.take j) K) L ∧ Kept (fun k => k = b) w wr ∧ ∀ k, kv'.ownBlock = some k → kv.ownBlock = some k ∨ w.heap.size ≤ k) (fun i _ => len - (intOf i).toNat)
  case atStart => exact ⟨0, Nat.zero_le _, rfl, kv, HH.out, Kept.refl _ _, fun _ e => Or.inl e⟩
  case round =>
    obtain ⟨j, hj, rfl, kv', hR, hK, hO⟩ := hrel
    have c0 := hR.c0
    have c1 := hR.c1
    have HR := Lib.hid hR
    have HK := Lib.hid hK
    have HO := Lib.hid hO
    clear hR hK hO HH
    by_cases hlt : j < len
    · have hjL : j < L.length := by rw [← HN.out]; exact hlt
      obtain ⟨g, cap', e, _, t0, t1⟩ := HR.out.loose.at_ hjL
      have eA : A = some ⟨g, 0, none⟩ := by injection e
      subst eA
      clear e
      have hgb : g ≠ b := HLb.out g rfl
      have hgw : g < w.heap.size := HLB.out g rfl
      have hj0 : (0 : Int) ≤ (j : Int) := by omega
      have hj1 : (j : Int) < (len : Int) := by omega
      have hle : (M.puts (L.take j) K).length ≤ 100000 := by
        have h1 := M.puts_len (L.take j) K
        have h2 : (L.take j).length ≤ L.length := by rw [List.length_take]; exact Nat.min_le_right _ _
        have := HN.out
        omega
      have HW := Lib.hid (rwith_any wr.drew (v := kv') (T := M.puts (L.take j) K) HR.out.kept (L[j]'hjL).1 (L[j]'hjL).2 hle)
      have HY : Hid (∀ w2 v', Things w2 v' (M.ins (L[j]'hjL).1 (L[j]'hjL).2 (M.puts (L.take j) K)) → Below wr.drew.heap.size wr.drew w2 → (∀ k, v'.ownBlock = some k → wr.drew.heap.size ≤ k) → w2.frozen? ⟨b, 0, none⟩ = false ∧ w2.cell? ⟨b, 0, none⟩ = some kv' ∧
          Hid (RSh (w2.setCell ⟨b, 0, none⟩ v') b v' (.slice (some ⟨g, 0, none⟩) len cap) (M.puts (L.take (j + 1)) K) L ∧ Kept (fun k => k = b) w (w2.setCell ⟨b, 0, none⟩ v') ∧ ∀ k, v'.ownBlock = some k → kv.ownBlock = some k ∨ w.heap.size ≤ k)) := by
        intro w2 v' hm hb ho
        have hk : Kept (fun _ => False) wr w2 := (Kept.refl _ wr).drew.trans (Kept.of_below hb _)
        obtain ⟨f1, d1, H⟩ := HR.out.set0 hk hm ho
        have e1 : L.take (j + 1) = L.take j ++ [L[j]'hjL] := List.take_succ_eq_append_getElem hjL
        have hz := HK.out.size
        rw [e1, M.puts_snoc]
        exact ⟨f1, d1, H.1, HK.out.trans H.2, fun k e => by have := ho k e; simp only [World.drew] at this; right; omega⟩
      obtain ⟨x, hx⟩ : ∃ x, x = (L[j]'hjL).1 := ⟨_, rfl⟩
      obtain ⟨z, hz⟩ : ∃ x, x = (L[j]'hjL).2 := ⟨_, rfl⟩
      rw [← hx] at t0 HW HY
      rw [← hz] at t1 HW HY
      have HS2 : Hid (∀ w2, Below wr.drew.heap.size wr.drew w2 → w2.cell? ⟨b, 1, none⟩ = some (.slice (some ⟨g, 0, none⟩) len cap) ∧ w2.cell? ⟨g, j * 2, none⟩ = some (.int .i64 x) ∧ w2.cell? ⟨g, j * 2 + 1, none⟩ = some (.int .i64 z)) := by
        intro w2 hb
        have hz := HK.out.size
        have h1 : b < wr.drew.heap.size := by show _ < wr.heap.size; omega
        have h2 : g < wr.drew.heap.size := by show _ < wr.heap.size; omega
        exact ⟨(hb.cell (p := ⟨b, 1, none⟩) h1).trans c1, (hb.cell (p := ⟨g, j * 2, none⟩) h2).trans t0, (hb.cell (p := ⟨g, j * 2 + 1, none⟩) h2).trans t1⟩
      have HS3 : Hid (∀ w2 v', Below wr.drew.heap.size wr.drew w2 → (w2.setCell ⟨b, 0, none⟩ v').cell? ⟨b, 1, none⟩ = some (.slice (some ⟨g, 0, none⟩) len cap) ∧ (w2.setCell ⟨b, 0, none⟩ v').cell? ⟨g, j * 2, none⟩ = some (.int .i64 x) ∧ (w2.setCell ⟨b, 0, none⟩ v').cell? ⟨g, j * 2 + 1, none⟩ = some (.int .i64 z)) := by
        intro w2 v' hb
        obtain ⟨e0, e1, e2⟩ := HS2.out w2 hb
        refine ⟨?_, (cell_set_other (p := ⟨g, j * 2, none⟩) hgb).trans e1, (cell_set_other (p := ⟨g, j * 2 + 1, none⟩) hgb).trans e2⟩
        exact (World.cell?_setCell_other w2 ⟨b, 0, none⟩ ⟨b, 1, none⟩ v' (by simp)).trans e0
      clear hx hz hjL HR HK HO
      go_wp2_with fail
      refine wp_region_held_drew (S := fun y => y.cell? ⟨b, 1, none⟩ = some (.slice (some ⟨g, 0, none⟩) len cap) ∧ y.cell? ⟨g, j * 2, none⟩ = some (.int .i64 x) ∧ y.cell? ⟨g, j * 2 + 1, none⟩ = some (.int .i64 z)) (by kernel_rfl) ⟨c1, t0, t1⟩ (fun hHeld => ?_)
      refine wpAnyH_take (i := 0) (oi := ?_) (v := ?_) ?_ (by kernel_rfl) (by kernel_rfl) (by kernel_rfl) ?_ ?_ (by assumption) ?_
      rotate_left 2
      · (simp only [List.getElem?_toArray, List.getElem?_cons_zero]; rfl)
      rotate_left
      · (refine Or.inl ⟨by rfl, ?_⟩; intro w hSw; (try dsimp only at hSw); go_simp; try with_reducible rfl)
      rotate_right
      · exact fun _ _ _ h => h
      simp only [Act.put, List.setIfInBounds_toArray, List.set_cons_zero, List.set_cons_succ]
      refine wpAnyH_take (i := 1) (oi := ?_) (v := ?_) ?_ (by kernel_rfl) (by kernel_rfl) (by kernel_rfl) ?_ ?_ (by assumption) ?_
      rotate_left 2
      · (simp only [List.getElem?_toArray, List.getElem?_cons_zero, List.getElem?_cons_succ]; rfl)
      rotate_left
      · (refine Or.inl ⟨by rfl, ?_⟩; intro w hSw; (try dsimp only at hSw); go_simp; try with_reducible rfl)
      rotate_right
      · exact fun _ _ _ h => h
      simp only [Act.put, List.setIfInBounds_toArray, List.set_cons_zero, List.set_cons_succ]
      refine wpAnyH_take (i := 2) (oi := ?_) (v := ?_) ?_ (by kernel_rfl) (by kernel_rfl) (by kernel_rfl) ?_ ?_ (by assumption) ?_
      rotate_left 2
      · (simp only [List.getElem?_toArray, List.getElem?_cons_zero, List.getElem?_cons_succ]; rfl)
      rotate_left
      · (refine Or.inl ⟨by rfl, ?_⟩; intro w hSw; (try dsimp only at hSw); go_simp; try with_reducible rfl)
      rotate_right
      · exact fun _ _ _ h => h
      simp only [Act.put, List.setIfInBounds_toArray, List.set_cons_zero, List.set_cons_succ]
      refine wpAnyH_take (i := 3) (oi := ?_) (v := ?_) ?_ (by kernel_rfl) (by kernel_rfl) (by kernel_rfl) ?_ ?_ (by assumption) ?_
      rotate_left 2
      · (simp only [List.getElem?_toArray, List.getElem?_cons_zero, List.getElem?_cons_succ]; rfl)
      rotate_left
      · (refine Or.inl ⟨by rfl, ?_⟩; intro w hSw; (try dsimp only at hSw); go_simp; try with_reducible rfl)
      rotate_right
      · exact fun _ _ _ h => h
      simp only [Act.put, List.setIfInBounds_toArray, List.set_cons_zero, List.set_cons_succ]
      refine wpAnyH_take (i := 5) (oi := ?_) (v := ?_) ?_ (by kernel_rfl) (by kernel_rfl) (by kernel_rfl) ?_ ?_ (by assumption) ?_
      rotate_left 2
      · (simp only [List.getElem?_toArray, List.getElem?_cons_zero, List.getElem?_cons_succ]; rfl)
      rotate_left
      · (refine Or.inl ⟨by rfl, ?_⟩; intro w hSw; (try dsimp only at hSw); go_simp; try with_reducible rfl)
      rotate_right
      · exact fun _ _ _ h => h
      simp only [Act.put, List.setIfInBounds_toArray, List.set_cons_zero, List.set_cons_succ]
      refine wpAnyH_take (i := 6) (oi := ?_) (v := ?_) ?_ (by kernel_rfl) (by kernel_rfl) (by kernel_rfl) ?_ ?_ (by assumption) ?_
      rotate_left 2
      · (simp only [List.getElem?_toArray, List.getElem?_cons_zero, List.getElem?_cons_succ]; rfl)
      rotate_left
      · (refine Or.inl ⟨by rfl, ?_⟩; intro w hSw; (try dsimp only at hSw); go_simp; try with_reducible rfl)
      rotate_right
      · exact fun _ _ _ h => h
      simp only [Act.put, List.setIfInBounds_toArray, List.set_cons_zero, List.set_cons_succ]
      refine wpAnyH_take (i := 7) (oi := ?_) (v := ?_) ?_ (by kernel_rfl) (by kernel_rfl) (by kernel_rfl) ?_ ?_ (by assumption) ?_
      rotate_left 2
      · (simp only [List.getElem?_toArray, List.getElem?_cons_zero, List.getElem?_cons_succ]; rfl)
      rotate_left
      · (refine Or.inl ⟨by rfl, ?_⟩; intro w hSw; (try dsimp only at hSw); go_simp; try with_reducible rfl)
      rotate_right
      · exact fun _ _ _ h => h
      simp only [Act.put, List.setIfInBounds_toArray, List.set_cons_zero, List.set_cons_succ]
      refine wpAnyH_take (i := 8) (oi := ?_) (v := ?_) ?_ (by kernel_rfl) (by kernel_rfl) (by kernel_rfl) ?_ ?_ (by assumption) ?_
      rotate_left 2
      · (simp only [List.getElem?_toArray, List.getElem?_cons_zero, List.getElem?_cons_succ]; rfl)
      rotate_left
      · (refine Or.inl ⟨by rfl, ?_⟩; intro w hSw; (try dsimp only at hSw); go_simp; try with_reducible rfl)
      rotate_right
      · exact fun _ _ _ h => h
      simp only [Act.put, List.setIfInBounds_toArray, List.set_cons_zero, List.set_cons_succ]
      refine wpAnyH_take (i := 9) (oi := ?_) (v := ?_) ?_ (by kernel_rfl) (by kernel_rfl) (by kernel_rfl) ?_ ?_ (by assumption) ?_
      rotate_left 2
      · (simp only [List.getElem?_toArray, List.getElem?_cons_zero, List.getElem?_cons_succ]; rfl)
      rotate_left
      · (refine Or.inl ⟨by rfl, ?_⟩; intro w hSw; (try dsimp only at hSw); go_simp; try with_reducible rfl)
      rotate_right
      · exact fun _ _ _ h => h
      simp only [Act.put, List.setIfInBounds_toArray, List.set_cons_zero, List.set_cons_succ]
      refine wpAnyH_take (i := 10) (oi := ?_) (v := ?_) ?_ (by kernel_rfl) (by kernel_rfl) (by kernel_rfl) ?_ ?_ (by assumption) ?_
      rotate_left 2
      · (simp only [List.getElem?_toArray, List.getElem?_cons_zero, List.getElem?_cons_succ]; rfl)
      rotate_left
      · (refine Or.inl ⟨by rfl, ?_⟩; intro w hSw; (try dsimp only at hSw); go_simp; try with_reducible rfl)
      rotate_right
      · exact fun _ _ _ h => h
      simp only [Act.put, List.setIfInBounds_toArray, List.set_cons_zero, List.set_cons_succ]
      refine wpAnyH_take (i := 11) (oi := ?_) (v := ?_) ?_ (by kernel_rfl) (by kernel_rfl) (by kernel_rfl) ?_ ?_ (by assumption) ?_
      rotate_left 2
      · (simp only [List.getElem?_toArray, List.getElem?_cons_zero, List.getElem?_cons_succ]; rfl)
      rotate_left
      · (refine Or.inl ⟨by rfl, ?_⟩; intro w hSw; (try dsimp only at hSw); go_simp; try with_reducible rfl)
      rotate_right
      · exact fun _ _ _ h => h
      simp only [Act.put, List.setIfInBounds_toArray, List.set_cons_zero, List.set_cons_succ]
      refine wpAnyH_ready (rs := [4]) (by kernel_rfl) (by simp) ?_
      refine AllReadyH.cons (o := ?_) ?_ (fun K hK => ?_) AllReadyH.nil
      rotate_left
      · (simp only [List.getElem?_toArray, List.getElem?_cons_zero, List.getElem?_cons_succ]; rfl)
      go_simp
      refine hK.out _ _ (by first | exact hHeld | exact HS2.out _ hb2 | exact HS3.out _ _ hb2) (fun hHeld => ?_)
      clear hK K
      try simp only [Act.put, List.setIfInBounds_toArray, List.set_cons_zero, List.set_cons_succ]
      refine wpAnyH_ready (rs := [12]) (by kernel_rfl) (by simp) ?_
      refine AllReadyH.cons (o := ?_) ?_ (fun K hK => ?_) AllReadyH.nil
      rotate_left
      · (simp only [List.getElem?_toArray, List.getElem?_cons_zero, List.getElem?_cons_succ]; rfl)
      go_simp
      go_at_call 27; refine HW.out.mono ?_; rintro e w2 ⟨v', rfl, hm2, hb2, ho2⟩; obtain ⟨A2, k2, e2, _⟩ := owns_shape13 hm2; subst e2; obtain ⟨f2, d2, HG⟩ := HY.out w2 _ hm2 hb2 ho2
      refine hK.out _ _ (by first | exact hHeld | exact HS2.out _ hb2 | exact HS3.out _ _ hb2) (fun hHeld => ?_)
      clear hK K
      refine wpAnyH_take (i := 13) (oi := ?_) (v := ?_) ?_ (by kernel_rfl) (by kernel_rfl) (by kernel_rfl) ?_ ?_ (by assumption) ?_
      rotate_left 2
      · (simp only [List.getElem?_toArray, List.getElem?_cons_zero, List.getElem?_cons_succ]; rfl)
      rotate_left
      · (refine Or.inl ⟨by rfl, ?_⟩; intro w hSw; (try dsimp only at hSw); go_simp; try with_reducible rfl)
      rotate_right
      · exact fun _ _ _ h => h
      simp only [Act.put, List.setIfInBounds_toArray, List.set_cons_zero, List.set_cons_succ]
      refine wpAnyH_take (i := 14) (oi := ?_) (v := ?_) ?_ (by kernel_rfl) (by kernel_rfl) (by kernel_rfl) ?_ ?_ (by assumption) ?_
      rotate_left 2
      · (simp only [List.getElem?_toArray, List.getElem?_cons_zero, List.getElem?_cons_succ]; rfl)
      rotate_left
      · (refine Or.inl ⟨by rfl, ?_⟩; intro w hSw; (try dsimp only at hSw); go_simp; try with_reducible rfl)
      rotate_right
      · exact fun _ _ _ h => h
      simp only [Act.put, List.setIfInBounds_toArray, List.set_cons_zero, List.set_cons_succ]
      refine wpAnyH_ready (rs := [15]) (by kernel_rfl) (by simp) ?_
      refine AllReadyH.cons (o := ?_) ?_ (fun K hK => ?_) AllReadyH.nil
      rotate_left
      · (simp only [List.getElem?_toArray, List.getElem?_cons_zero, List.getElem?_cons_succ]; rfl)
      go_simp
      refine hK.out _ _ (by first | exact hHeld | exact HS2.out _ hb2 | exact HS3.out _ _ hb2) (fun hHeld => ?_)
      clear hK K
      try simp only [Act.put, List.setIfInBounds_toArray, List.set_cons_zero, List.set_cons_succ]
      refine wpAnyH_done (by kernel_rfl) ?_ _
      go_wp2_with fail
      go_roundw
      case rel => exact ⟨j + 1, by omega, by go_num, _, HG.out.1, HG.out.2.1, HG.out.2.2⟩
      case measure => simp [intOf]; omega
    · have e : j = len := by omega
      subst e
      have hR := HR.out
      rw [HN.out, List.take_length] at hR
      obtain ⟨f1, d1, H⟩ := hR.set1 (Kept.refl _ wr) (Things.nil wr) (fun k e => by simp [Value.ownBlock] at e)
      have HG := Lib.hid (And.intro H.1 (HK.out.trans H.2))
      clear hR H HR HK
      go_wp2_with fail
      go_end0
      exact ⟨rfl, _, HG.out.1, HG.out.2, HO.out⟩
end Go.Proofs.Ytfklbinccpdnmaa
