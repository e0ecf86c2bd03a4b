/-
  Walks over solderref07: New, Has, All, Free.
-/
import Derived.Test.YtmgppfehgjildaaKAll
namespace Go.Proofs.Ytmgppfehgjildaa
open Go.RowKit

theorem infoB : (Try.prog.info? 4).map (fun i => (i.zero, i.size, i.bytes)) = some (some (.bool false), 1, 1) := by kernel_rfl
/-- The document's set in block b of w, its bools in block g. -/
structure RSet (w : World) (b g c m : Nat) (f : Nat → Bool) : Prop where
  box : Box w b 42 #[.slice (some ⟨g, 0, none⟩) m c]
  row : ∃ cs, Box w g 4 cs ∧ ∀ i, i < m → cs[i]? = some (.bool (f i))
  cap : m ≤ c
  le : m ≤ 1000
  low : M.Below m f
  ne : b ≠ g
section
variable {w w' : World} {b g c m : Nat} {f : Nat → Bool}
theorem RSet.drewN (h : RSet w b g c m f) (n : Nat) : RSet (w.drewN n) b g c m f := ⟨h.box, h.row, h.cap, h.le, h.low, h.ne⟩
theorem RSet.kept {P : Nat → Prop} (h : RSet w b g c m f) (hk : Kept P w w') (hb : ¬ P b) (hg : ¬ P g) : RSet w' b g c m f :=
  ⟨hk.box h.box hb, by obtain ⟨cs, h1, h2⟩ := h.row; exact ⟨cs, hk.box h1 hg, h2⟩, h.cap, h.le, h.low, h.ne⟩
theorem RSet.glt (h : RSet w b g c m f) : g < w.heap.size := by obtain ⟨cs, h1, _⟩ := h.row; exact h1.lt
theorem RSet.below (h : RSet w b g c m f) (hk : Below w.heap.size w w') : RSet w' b g c m f :=
  ⟨h.box.below hk h.box.lt, by obtain ⟨cs, h1, h2⟩ := h.row; exact ⟨cs, h1.below hk h1.lt, h2⟩, h.cap, h.le, h.low, h.ne⟩
theorem RSet.c0 (h : RSet w b g c m f) : w.cell? ⟨b, 0, none⟩ = some (.slice (some ⟨g, 0, none⟩) m c) := (h.box.cell 0).trans rfl
theorem RSet.c1 (h : RSet w b g c m f) (i : Nat) (hi : i < m) : w.cell? ⟨g, i, none⟩ = some (.bool (f i)) := by
  obtain ⟨cs, h1, h2⟩ := h.row
  exact (h1.cell i).trans (h2 i hi)
theorem RSet.fz (h : RSet w b g c m f) (i : Nat) : w.frozen? ⟨g, i, none⟩ = false := by
  obtain ⟨cs, h1, h2⟩ := h.row
  exact h1.frozen i
theorem RSet.set (h : RSet w b g c m f) (i : Nat) (hi : i < m) (v : Bool) : RSet (w.setCell ⟨g, i, none⟩ (.bool v)) b g c m (M.put f i v) := by
  refine ⟨(Below.heap_setCell w ⟨g, i, none⟩ _ b h.ne).trans h.box, ?_, h.cap, h.le, h.low.put hi v, h.ne⟩
  obtain ⟨cs, h1, h2⟩ := h.row
  refine ⟨_, h1.set i (.bool v), fun j hj => ?_⟩
  rw [Array.getElem?_setIfInBounds]
  by_cases e : i = j
  · subst e
    have : i < cs.size := (Array.getElem?_eq_some_iff.1 (h2 i hi)).1
    rw [if_pos rfl, if_pos this, M.put_same]
  · rw [if_neg e, M.put_other f v (Ne.symm e)]
    exact h2 j hj
end

theorem madeB (n i : Nat) (h : i < n) : (madeCells #[Value.bool false] n)[i]? = some (.bool false) := by
  have hz : (madeCells #[Value.bool false] n).size = n := by simp [madeCells]
  rw [Array.getElem?_eq_getElem (by omega)]
  simp [madeCells, Nat.mod_one]
theorem RSet.new (w : World) (n : Int) : RSet ((w.alloc (.cells (madeCells #[.bool false] (M.most n)) 4)).alloc (.cells #[.slice (some ⟨w.heap.size, 0, none⟩) (M.most n) (M.most n)] 42)) (w.heap.size + 1) w.heap.size (M.most n) (M.most n) (fun _ => false) := by
  refine ⟨?_, ⟨_, (Below.heap_alloc _ _ _ (by simp)).trans (heap_alloc_new w _), fun i hi => madeB _ i hi⟩, Nat.le_refl _, M.most_le n, M.Below.none _, by omega⟩
  have := Box.new (w.alloc (.cells (madeCells #[.bool false] (M.most n)) 4)) 42 #[.slice (some ⟨w.heap.size, 0, none⟩) (M.most n) (M.most n)]
  rwa [World.size_alloc] at this

theorem refNew_any (n : Int) (w : World) :
    Calls Try.prog 9 #[.int .i64 n] w fun e w' => e = .returned (.pointer (some ⟨w.heap.size + 1, 0, none⟩)) ∧ RSet w' (w.heap.size + 1) w.heap.size (M.most n) (M.most n) (fun _ => false) ∧ Below w.heap.size w w' ∧ w'.heap.size = w.heap.size + 2 := by
  have HX : Hid (RSet ((w.alloc (.cells (madeCells #[.bool false] (M.most n)) 4)).alloc (.cells #[.slice (some ⟨w.heap.size, 0, none⟩) (M.most n) (M.most n)] 42)) (w.heap.size + 1) w.heap.size (M.most n) (M.most n) (fun _ => false) ∧
      Below w.heap.size w ((w.alloc (.cells (madeCells #[.bool false] (M.most n)) 4)).alloc (.cells #[.slice (some ⟨w.heap.size, 0, none⟩) (M.most n) (M.most n)] 42)) ∧
      ((w.alloc (.cells (madeCells #[.bool false] (M.most n)) 4)).alloc (.cells #[.slice (some ⟨w.heap.size, 0, none⟩) (M.most n) (M.most n)] 42)).heap.size = w.heap.size + 2) :=
    ⟨RSet.new w n, ((Below.refl _ w).alloc (Nat.le_refl _) _).alloc (by simp) _, by simp⟩
  have hmk : ∀ W : World, (Instr.makeSlice 40 (.int .i64 (M.most n : Nat)) (.int .i64 (M.most n : Nat))).run Try.prog W = .ok (.slice (some ⟨W.heap.size, 0, none⟩) (M.most n) (M.most n)) (W.alloc (.cells (madeCells #[.bool false] (M.most n)) 4)) :=
    fun W => run_make_row' 40 4 (.bool false) 1 Try.underlying40 infoB rfl .i64 .i64 (M.most n) (by have := M.most_le n; omega) (by have := M.most_le n; omega) W
  by_cases h0 : n < 0
  · have e : M.most n = 0 := by unfold M.most; rw [if_pos h0]
    rw [e] at HX hmk ⊢
    have hmk' : ∀ W : World, (Instr.makeSlice 40 (.int .i64 0) (.int .i64 0)).run Try.prog W = .ok (.slice (some ⟨W.heap.size, 0, none⟩) 0 0) (W.alloc (.cells (madeCells #[.bool false] 0) 4)) := hmk
    clear hmk
    go_enter Try.func9, Try.ntmps9
    go_wp2_with fail
    go_ret
    exact ⟨rfl, HX.out⟩
  · by_cases h1 : 1000 < n
    · have e : M.most n = 1000 := by unfold M.most; rw [if_neg h0, if_pos h1]
      rw [e] at HX hmk ⊢
      have hmk' : ∀ W : World, (Instr.makeSlice 40 (.int .i64 1000) (.int .i64 1000)).run Try.prog W = .ok (.slice (some ⟨W.heap.size, 0, none⟩) 1000 1000) (W.alloc (.cells (madeCells #[.bool false] 1000) 4)) := hmk
      clear hmk
      have h0' : 0 ≤ n := by omega
      clear h0
      go_enter Try.func9, Try.ntmps9
      go_wp2_with fail
      go_ret
      exact ⟨rfl, HX.out⟩
    · obtain ⟨m, rfl⟩ : ∃ m : Nat, n = m := ⟨n.toNat, by omega⟩
      have e : M.most (m : Int) = m := by unfold M.most; rw [if_neg h0, if_neg h1]; rfl
      rw [e] at HX hmk ⊢
      have h0' : (0 : Int) ≤ (m : Int) := by omega
      have h1' : (m : Int) ≤ 1000 := by omega
      clear h0 h1
      go_enter Try.func9, Try.ntmps9
      go_wp2_with fail
      go_ret
      exact ⟨rfl, HX.out⟩

section
variable {b g c m : Nat} {f : Nat → Bool}
theorem refHas_any (i : Int) (w : World) (h : RSet w b g c m f) :
    Calls Try.prog 18 #[.pointer (some ⟨b, 0, none⟩), .int .i64 i] w fun e w' => e = .returned (.bool (M.hasI f i)) ∧ w' = w := by
  have h0 := h.c0
  by_cases hn : i < 0
  · have hd : decide (0 ≤ i) = false := by simp; omega
    rw [M.hasI_out h.low (Or.inl hn)]
    clear h hn
    go_enter Try.func18, Try.ntmps18
    go_wp2_with fail
    go_ret
    exact ⟨rfl, rfl⟩
  · have hd : decide (0 ≤ i) = true := by simp; omega
    by_cases hi : (m : Int) ≤ i
    · have hd2 : decide (i < (m : Int)) = false := by simp; omega
      rw [M.hasI_out h.low (Or.inr hi)]
      clear h hn hi
      go_enter Try.func18, Try.ntmps18
      go_wp2_with fail
      go_ret
      exact ⟨rfl, rfl⟩
    · obtain ⟨j, rfl⟩ : ∃ j : Nat, i = j := ⟨i.toNat, by omega⟩
      have hd2 : decide ((j : Int) < (m : Int)) = true := by simp; omega
      have hj0 : (0 : Int) ≤ (j : Int) := by omega
      have hj1 : (j : Int) < (m : Int) := by omega
      have hc := h.c1 j (by omega)
      rw [M.hasI_nat]
      clear h hn hi
      go_enter Try.func18, Try.ntmps18
      go_wp2_with fail
      go_ret
      exact ⟨rfl, rfl⟩

theorem refFree_any (w : World) (h : RSet w b g c m f) :
    Calls Try.prog 16 #[.pointer (some ⟨b, 0, none⟩)] w fun e w' => e = .returned (.tuple #[.int .i64 (M.num (M.free m f)), .bool (M.free m f).isSome]) ∧ w' = w := by
  have h0 := h.c0
  have hm := h.le
  have HC := Lib.hid h.c1
  clear h
  obtain ⟨o, ho⟩ : ∃ o, o = M.free m f := ⟨_, rfl⟩
  rw [← ho]
  have HO := Lib.hid ho
  clear ho
  go_enter Try.func16, Try.ntmps16
  go_wp2_with fail
  go_loopw [4] (fun i wr => ∃ k : Nat, k ≤ m ∧ i = .int .i64 k ∧ (∀ j, j < k → f j = true) ∧ wr = w) (fun i _ => m - (intOf i).toNat)
  case atStart => exact ⟨0, Nat.zero_le _, rfl, fun j hj => absurd hj (by omega), rfl⟩
  case round =>
    obtain ⟨k, hk, rfl, hall, rfl⟩ := hrel
    have HA := Lib.hid hall
    clear hall
    by_cases hlt : k < m
    · have hlt' : (k : Int) < (m : Int) := by omega
      have hk0 : (0 : Int) ≤ (k : Int) := by omega
      have hc := HC.out k hlt
      by_cases hf : f k = true
      · rw [hf] at hc
        have HF := Lib.hid hf
        clear hf
        go_wp2_with fail
        go_roundw
        case rel => exact ⟨k + 1, by omega, by go_num, fun j hj => by
          by_cases e : j = k
          · rw [e]; exact HF.out
          · exact HA.out j (by omega), trivial⟩
        case measure => simp [intOf]; omega
      · have hf' : f k = false := by simpa using hf
        have HE : Hid (o = some k) := HO.out.trans (M.free_some hlt hf' HA.out)
        rw [hf'] at hc
        clear hf hf'
        go_wp2_with fail
        go_ret2
        rw [HE.out]
        exact ⟨rfl, rfl⟩
    · have e : k = m := by omega
      subst e
      have HE : Hid (o = none) := HO.out.trans (M.free_none HA.out)
      go_wp2_with fail
      go_ret2
      rw [HE.out]
      exact ⟨rfl, rfl⟩

set_option maxHeartbeats 1000000 in
theorem refAll_any (w : World) (h : RSet w b g c m f) :
    Calls Try.prog 19 #[.pointer (some ⟨b, 0, none⟩)] w fun e w' => (∃ v, e = .returned v ∧ Ints w' v (M.nums m f)) ∧ Below w.heap.size w w' := by
  obtain ⟨i0, hi, hz0, hz1, hz2⟩ := info_parts infoI
  have hm := h.le
  have HR := Lib.hid (fun (x : World) (hx : Below w.heap.size w x) => h.below hx)
  clear h
  go_enter Try.func19, Try.ntmps19
  go_wp2_with fail
  go_loopw [3, 4] (fun v i wr => ∃ k : Nat, k ≤ m ∧ i = .int .i64 k ∧ wr.ownsRow w.heap.size 3 1 v (M.nums k f).length (M.vals (M.nums k f)) ∧ Below w.heap.size w wr) (fun _ i _ => m - (intOf i).toNat)
  case atStart => exact ⟨0, Nat.zero_le _, rfl, ⟨rfl, Or.inl ⟨rfl, rfl⟩⟩, Below.refl _ _⟩
  case round =>
    obtain ⟨k, hk, rfl, hown, hB⟩ := hrel
    have HO := Lib.hid hown
    have HB := Lib.hid hB
    have h0 := (HR.out wr hB).c0
    have hbs : w.heap.size ≤ wr.heap.size := hB.size
    by_cases hlt : k < m
    · have hlt' : (k : Int) < (m : Int) := by omega
      have hk0 : (0 : Int) ≤ (k : Int) := by omega
      have hc := (HR.out wr hB).c1 k hlt
      have hlen := M.nums_len k f
      clear hown hB
      by_cases hf : f k = true
      · rw [hf] at hc
        have HE : Hid (M.nums (k + 1) f = M.nums k f ++ [k]) := M.nums_in k f hf
        obtain ⟨xs, hxs⟩ : ∃ xs, xs = M.vals (M.nums k f) := ⟨_, rfl⟩
        obtain ⟨n, hn⟩ : ∃ n, n = (M.nums k f).length := ⟨_, rfl⟩
        have HV : Hid (M.vals (M.nums (k + 1) f) = xs ++ [.int .i64 (k : Nat)] ∧ (M.nums (k + 1) f).length = n + 1) := by
          rw [HE.out]; exact ⟨by rw [hxs]; simp [M.vals], by rw [hn]; simp⟩
        rw [← hxs, ← hn] at HO
        rw [← hn] at hlen
        clear hf hxs hn HE
        go_wp2_with (at_builtin; refine wpList_append_own _ rfl _ _ 35 rfl w.heap.size 3 i0 (.int .i64 0) 1 8 Try.underlying35 hi hz0 hz1 hz2 rfl (by decide) _ _ _ rfl (HO.out.alloc _) ⟨wr.heap.size, 0, none⟩ 1 1 [.int .i64 (k : Nat)] rfl rfl (cell_one_new _ _ _) (fun x hx => by simp at hx; subst hx; rfl) (by unfold maxLen; omega) (by omega) (by simp; omega) ?_; intro v' w3 hown' hgrow3 hnil3; have X := Lib.hid (And.intro hown' (Below.grown (HB.out.alloc hbs _) hgrow3 (by simp; omega) (fun j hj => (HO.out.lt _ hj).1))); clear hown' hgrow3 hnil3)
        go_roundw
        case rel => exact ⟨k + 1, by omega, by go_num, by rw [HV.out.1, HV.out.2]; exact X.out.1, X.out.2⟩
        case measure => simp [intOf]; omega
      · have hf' : f k = false := by simpa using hf
        rw [hf'] at hc
        have HE : Hid (M.nums (k + 1) f = M.nums k f) := M.nums_out k f hf'
        clear hf hf' hlen
        go_wp2_with fail
        go_roundw
        case rel => exact ⟨k + 1, by omega, by go_num, by rw [HE.out]; exact HO.out, HB.out⟩
        case measure => simp [intOf]; omega
    · have e : k = m := by omega
      subst e
      clear hown hB
      go_wp2_with fail
      go_ret
      exact ⟨⟨_, rfl, Ints.of_owned HO.out⟩, HB.out⟩
end
end Go.Proofs.Ytmgppfehgjildaa
