/-
  Walks over solderref06: New, Push, At, Drop.
-/
import Derived.Test.YtlpcjfjjfnnbcaaRBase
import Derived.Deep.AppendLies
import Derived.Laws.AppendOwnNone
import Derived.OwnWalk
namespace Go.Proofs.Ytlpcjfjjfnnbcaa
open Go.RowKit

/-- The document's ring in block b of w, its numbers in block g. -/
structure Ref (w : World) (b g most : Nat) (A : Option Addr) (cap : Nat) (L : List Int) : Prop where
  box : Box w b 39 #[.slice A L.length cap, .int .i64 most]
  row : (A = none ∧ L.length = 0 ∧ cap = 0) ∨ ∃ off, A = some ⟨g, off, none⟩ ∧ ∀ i (hi : i < L.length), w.cell? ⟨g, off + i, none⟩ = some (.int .i64 (L[i]'hi))
  cap : L.length ≤ cap
  le : L.length ≤ most
  most : most ≤ 1000
  ne : 0 < L.length → b ≠ g
section
variable {w w' : World} {b g most : Nat} {A : Option Addr} {cap : Nat} {L : List Int}
theorem Ref.drewN (h : Ref w b g most A cap L) (n : Nat) : Ref (w.drewN n) b g most A cap L := ⟨h.box, h.row, h.cap, h.le, h.most, h.ne⟩
theorem Ref.drew (h : Ref w b g most A cap L) : Ref w.drew b g most A cap L := ⟨h.box, h.row, h.cap, h.le, h.most, h.ne⟩
theorem Ref.kept {P : Nat → Prop} (h : Ref w b g most A cap L) (hk : Kept P w w') (hb : ¬ P b) (hg : 0 < L.length → ¬ P g) : Ref w' b g most A cap L :=
  ⟨hk.box h.box hb, h.row.imp id (fun ⟨off, e, hc⟩ => ⟨off, e, fun i hi => hk.cell (hc i hi) (hg (by omega))⟩), h.cap, h.le, h.most, h.ne⟩
theorem Ref.new (w : World) (m : Nat) (hm : m ≤ 1000) : Ref (w.alloc (.cells #[.slice none 0 0, .int .i64 (m : Nat)] 39)) w.heap.size w.heap.size m none 0 [] :=
  ⟨Box.new _ _ _, Or.inl ⟨rfl, rfl, rfl⟩, Nat.le_refl _, Nat.zero_le _, hm, fun h => absurd h (by simp)⟩
end

theorem refNew_any (n : Int) (w : World) :
    Calls Try.prog 8 #[.int .i64 n] w fun e w' => e = .returned (.pointer (some ⟨w.heap.size, 0, none⟩)) ∧ w' = w.alloc (.cells #[.slice none 0 0, .int .i64 (M.most n : Nat)] 39) := by
  by_cases h0 : n < 0
  · rw [M.most, if_pos h0]
    go_enter Try.func8, Try.ntmps8
    go_wp2_with fail
    go_ret
    exact ⟨rfl, rfl⟩
  · by_cases h1 : 1000 < n
    · rw [M.most, if_neg h0, if_pos h1]
      have h0' : 0 ≤ n := by omega
      clear h0
      go_enter Try.func8, Try.ntmps8
      go_wp2_with fail
      go_ret
      exact ⟨rfl, rfl⟩
    · rw [M.most, if_neg h0, if_neg h1]
      obtain ⟨m, rfl⟩ : ∃ m : Nat, n = m := ⟨n.toNat, by omega⟩
      have h0' : (0 : Int) ≤ (m : Int) := by omega
      have h1' : (m : Int) ≤ 1000 := by omega
      rw [Int.toNat_natCast]
      clear h0 h1
      go_enter Try.func8, Try.ntmps8
      go_wp2_with fail
      go_ret
      exact ⟨rfl, rfl⟩

section
variable {b g most : Nat} {A : Option Addr} {cap : Nat} {L : List Int}
theorem Ref.c0 {w : World} (h : Ref w b g most A cap L) : w.cell? ⟨b, 0, none⟩ = some (.slice A L.length cap) := by have := h.box.cell 0; simpa using this
theorem Ref.c1 {w : World} (h : Ref w b g most A cap L) : w.cell? ⟨b, 1, none⟩ = some (.int .i64 most) := by have := h.box.cell 1; simpa using this

theorem refAt_none (i : Int) (w : World) (h : Ref w b g most A cap L) (hi : i < 0 ∨ (L.length : Int) ≤ i) :
    Calls Try.prog 12 #[.pointer (some ⟨b, 0, none⟩), .int .i64 i] w fun e w' => e = .returned (.tuple #[.int .i64 0, .bool false]) ∧ w' = w := by
  have h0 := h.c0
  clear h
  obtain ⟨k, hk⟩ : ∃ k, k = L.length := ⟨_, rfl⟩
  rw [← hk] at h0 hi
  clear hk
  by_cases hn : i < 0
  · have hd : decide (i < 0) = true := by simpa using hn
    clear hn hi
    go_enter Try.func12, Try.ntmps12
    go_wp2_with fail
    go_ret2
    exact ⟨rfl, rfl⟩
  · have hd : decide (i < 0) = false := by simpa using hn
    have hd2 : decide ((k : Int) ≤ i) = true := by simpa using hi.resolve_left hn
    clear hn hi
    go_enter Try.func12, Try.ntmps12
    go_wp2_with fail
    go_ret2
    exact ⟨rfl, rfl⟩
theorem refAt_some (i : Nat) (w : World) (h : Ref w b g most A cap L) (hi : i < L.length) :
    Calls Try.prog 12 #[.pointer (some ⟨b, 0, none⟩), .int .i64 i] w fun e w' => e = .returned (.tuple #[.int .i64 (L[i]'hi), .bool true]) ∧ w' = w := by
  have h0 := h.c0
  rcases h.row with ⟨_, e, _⟩ | ⟨off, rfl, hc⟩
  · omega
  have hc := hc i hi
  clear h
  obtain ⟨x, hx⟩ : ∃ x, x = L[i]'hi := ⟨_, rfl⟩
  rw [← hx] at hc
  rw [← hx]
  clear hx
  obtain ⟨k, hk⟩ : ∃ k, k = L.length := ⟨_, rfl⟩
  rw [← hk] at h0 hi
  clear hk
  have hlt' : (i : Int) < (k : Int) := by omega
  have hi0 : (0 : Int) ≤ (i : Int) := by omega
  go_enter Try.func12, Try.ntmps12
  go_wp2_with fail
  go_ret2
  exact ⟨rfl, rfl⟩

theorem refPush_full (x : Int) (w : World) (h : Ref w b g most A cap L) (hl : most ≤ L.length) :
    Calls Try.prog 10 #[.pointer (some ⟨b, 0, none⟩), .int .i64 x] w fun e w' => e = .returned (.int .i64 6) ∧ ∃ n, w' = w.drewN n := by
  have h0 := h.c0
  have h1 := h.c1
  clear h
  obtain ⟨k, hk⟩ : ∃ k, k = L.length := ⟨_, rfl⟩
  rw [← hk] at h0 hl
  clear hk
  have hl' : (most : Int) ≤ (k : Int) := by omega
  go_enter Try.func10, Try.ntmps10
  go_wp2_with fail
  go_quiet (fail)
  go_wp2_with fail
  go_ret
  exact ⟨rfl, _, rfl⟩

theorem infoR : (Try.prog.info? 3).map (fun i => (i.zero, i.size, i.bytes)) = some (some (.int .i64 0), 1, 8) := by kernel_rfl
/-- What an owned row of numbers holds. -/
theorem owned_cells {w : World} {base h n c : Nat} {M : List Int} {vs : List Value} (hv : vs = M.map (Value.int .i64)) (hn : n = M.length) (hown : w.ownsRow base 3 1 (.slice (some ⟨h, 0, none⟩) n c) n vs) :
    base ≤ h ∧ n ≤ c ∧ h < w.heap.size ∧ ∀ i (hi : i < M.length), w.cell? ⟨h, 0 + i, none⟩ = some (.int .i64 (M[i]'hi)) := by
  rcases hown.2 with ⟨e, _⟩ | ⟨g', cap', cur, e, h1, h2, h3, h4, h5, h6⟩
  · cases e
  · injection e with e1 e2 e3
    injection e1 with e1
    injection e1 with e1
    subst e1
    subst e3
    refine ⟨h1, h3, lt_of_block h2, fun i hi => ?_⟩
    rw [cell_of_row w h (0 + i) cur _ _ h2, Nat.zero_add]
    have : (cur.toList.take (n * 1))[i]? = some (.int .i64 (M[i]'hi)) := by
      rw [h6, hv, List.getElem?_map, List.getElem?_eq_getElem hi]
      rfl
    rw [List.getElem?_take_of_lt (by omega)] at this
    simpa using this
theorem own_empty (u : World) (B : Nat) (hB : B = u.heap.size) : (u.alloc (.cells #[] 3)).ownsRow B 3 1 (.slice (some ⟨B, 0, none⟩) 0 0) 0 [] := by
  subst hB
  exact ⟨rfl, Or.inr ⟨_, 0, #[], rfl, Nat.le_refl _, heap_alloc_new u _, Nat.le_refl _, Nat.zero_le _, rfl, rfl⟩⟩
/-- The end of Push: the row that was appended to twice. -/
theorem Ref.pushed {w w3 : World} (h : Ref w b g most A cap L) (hl : L.length < most) {h3 n3 c3 : Nat} {x : Int} {vs : List Value} (hv : vs = (L ++ [x]).map (Value.int .i64)) (hn : n3 = (L ++ [x]).length)
    (hown : w3.ownsRow w.heap.size 3 1 (.slice (some ⟨h3, 0, none⟩) n3 c3) n3 vs) (hk : Kept (fun k => k = b) w w3) (hB : Box w3 b 39 #[.slice A L.length cap, .int .i64 most]) :
    (∃ g' A' cap', Ref (w3.setCell ⟨b, 0, none⟩ (.slice (some ⟨h3, 0, none⟩) n3 c3)) b g' most A' cap' (L ++ [x]) ∧ w.heap.size ≤ g') ∧ Kept (fun k => k = b) w (w3.setCell ⟨b, 0, none⟩ (.slice (some ⟨h3, 0, none⟩) n3 c3)) := by
  obtain ⟨h1, h2, hlt, hc⟩ := owned_cells hv hn hown
  have hbl := h.box.lt
  refine ⟨⟨h3, some ⟨h3, 0, none⟩, c3, ⟨?_, Or.inr ⟨0, rfl, fun i hi => ?_⟩, by rw [← hn]; exact h2, by simp; omega, h.most, fun _ => by omega⟩, h1⟩, hk.set (fun _ => rfl) 0 _⟩
  · have := hB.set 0 (.slice (some ⟨h3, 0, none⟩) n3 c3)
    rw [← hn]
    simpa using this
  · exact (World.cell?_of_block (Below.heap_setCell _ _ _ _ (by simp only; omega))).trans (hc i hi)

set_option maxHeartbeats 1000000 in
theorem refPush_some (x : Int) (w : World) {off : Nat} (h : Ref w b g most (some ⟨g, off, none⟩) cap L) (hl : L.length < most) :
    Calls Try.prog 10 #[.pointer (some ⟨b, 0, none⟩), .int .i64 x] w fun e w' => e = .returned (.int .i64 0) ∧
      (∃ g' A' cap', Ref w' b g' most A' cap' (L ++ [x]) ∧ w.heap.size ≤ g') ∧ Kept (fun k => k = b) w w' := by
  obtain ⟨i0, hi, hz0, hz1, hz2⟩ := info_parts infoR
  have h0 := h.c0
  have h1 := h.c1
  have hm := h.most
  have hbl := h.box.lt
  have HR := Lib.hid h
  have HL := Lib.hid hl
  have HC : Hid (∀ i (hi : i < L.length), w.cell? ⟨g, off + i, none⟩ = some (.int .i64 (L[i]'hi))) := by
    rcases h.row with ⟨e, _⟩ | ⟨o, e, hc⟩
    · cases e
    · injection e with e; injection e with e1 e2; subst e2; exact hc
  clear h
  obtain ⟨k, hk⟩ : ∃ k, k = L.length := ⟨_, rfl⟩
  rw [← hk] at h0 hl
  have HK := Lib.hid hk
  clear hk
  have hl' : (k : Int) < (most : Int) := by omega
  go_enter Try.func10, Try.ntmps10
  go_wp2_with fail
  go_quiet (fail)
  obtain ⟨u, hu⟩ : ∃ u, u = w.drewN nq := ⟨_, rfl⟩
  have hz : w.heap.size = u.heap.size := by rw [hu]; rfl
  have hK0 : Hid (Kept (fun _ => False) w (u.alloc (.cells #[] 3))) := by rw [hu]; exact ((Kept.refl _ w).drewN nq).alloc _
  have HO := Lib.hid (own_empty u w.heap.size hz)
  have hca : (u.alloc (.cells #[] 3)).cell? ⟨b, 0, none⟩ = some (.slice (some ⟨g, off, none⟩) k cap) := by
    rw [hu]; exact (World.cell?_of_block (Below.heap_alloc _ _ _ hbl)).trans h0
  have hne : Hid (∀ j v, (L.map (Value.int .i64))[j]? = some v → (u.alloc (.cells #[] 3)).cell? ((⟨g, off, none⟩ : Addr).add j) = some v) := by
    intro j v hj
    rw [List.getElem?_map] at hj
    have hjl : j < L.length := by
      by_cases e : j < L.length
      · exact e
      · rw [List.getElem?_eq_none (by omega)] at hj; cases hj
    rw [List.getElem?_eq_getElem hjl] at hj
    have hc := HC.out j hjl
    have ea : (⟨g, off, none⟩ : Addr).add j = ⟨g, off + j, none⟩ := by
      unfold Addr.add
      split
      · simp_all
      · rfl
    rw [ea]
    injection hj with hj
    rw [← hj]
    rw [hu]
    exact (World.cell?_of_block (Below.heap_alloc _ _ _ (World.block_lt_of_cell? w _ hc))).trans hc
  rw [← hu]
  clear hu h0 h1 HC
  have hzz : u.heap.size = w.heap.size := hz.symm
  clear hz
  go_wp2_with (first
    | (at_builtin; refine wpList_append_own_at _ rfl _ _ 37 rfl w.heap.size 3 i0 (.int .i64 0) 1 8 Try.underlying37 hi hz0 hz1 hz2 rfl (by decide) (.slice (some ⟨w.heap.size, 0, none⟩) 0 0) 0 [] rfl HO.out ⟨g, off, none⟩ k cap (L.map (Value.int .i64)) rfl (by rw [List.length_map, HK.out, Nat.mul_one]) hne.out (fun v hv => by obtain ⟨q, _, rfl⟩ := List.mem_map.1 hv; rfl) (by unfold maxLen; omega) (by omega) (by simp; omega) ?_
       intro v1 w1 hown1 hgrow1 _ _
       have HO1 := Lib.hid hown1
       have hK1 : Hid (Kept (fun _ => False) w (w1.alloc (.cells #[.int .i64 x] 3))) := (hK0.out.grown hgrow1 (fun q e hq => absurd hq (by have := (HO.out.lt q e).1; omega))).alloc _
       have hz1' : w.heap.size ≤ w1.heap.size := (hK0.out.grown hgrow1 (fun q e hq => absurd hq (by have := (HO.out.lt q e).1; omega))).size
       clear hown1 hgrow1 hK0 hne HO)
    | (at_builtin; refine wpList_append_lies _ rfl _ _ 37 rfl w.heap.size 3 i0 (.int .i64 0) 1 8 Try.underlying37 hi hz0 hz1 hz2 rfl (by decide) v1 (0 + k) _ rfl (HO1.out.alloc _) ⟨w1.heap.size, 0, none⟩ 1 1 [.int .i64 x] rfl rfl (cell_one_new _ _ _) (fun v hv => by simp at hv; subst hv; rfl) (by omega) (by unfold maxLen; omega) (by omega) (by simp; omega) _ rfl ?_
       intro h3 c3 w3 hown3 hgrow3 _ _
       have HO3 := Lib.hid hown3
       have hK3 : Hid (Kept (fun _ => False) w w3) := hK1.out.grown hgrow3 (fun q e hq => absurd hq (by have := (HO1.out.lt q e).1; omega))
       clear hown3 hgrow3 hK1
       have hB3 : Hid (Box w3 b 39 #[.slice (some ⟨g, off, none⟩) L.length cap, .int .i64 most]) := hK3.out.box HR.out.box (fun h => h)
       have c3' : w3.cell? ⟨b, 0, none⟩ = some (.slice (some ⟨g, off, none⟩) L.length cap) := by have := hB3.out.cell 0; simpa using this
       have f3' : w3.frozen? ⟨b, 0, none⟩ = false := hB3.out.frozen 0))
  go_ret
  have HO4 := HO3.out
  rw [Nat.zero_add, List.nil_append] at HO4
  exact ⟨rfl, HR.out.pushed HL.out (by simp) (by simp; have := HK.out; omega) HO4 (hK3.out.mono (fun _ _ h => h.elim)) hB3.out⟩

set_option maxHeartbeats 1000000 in
theorem refPush_nil (x : Int) (w : World) (h : Ref w b g most none cap L) (hl : L.length < most) :
    Calls Try.prog 10 #[.pointer (some ⟨b, 0, none⟩), .int .i64 x] w fun e w' => e = .returned (.int .i64 0) ∧
      (∃ g' A' cap', Ref w' b g' most A' cap' (L ++ [x]) ∧ w.heap.size ≤ g') ∧ Kept (fun k => k = b) w w' := by
  obtain ⟨i0, hi, hz0, hz1, hz2⟩ := info_parts infoR
  obtain ⟨hL0, hcap⟩ : L = [] ∧ cap = 0 := by
    rcases h.row with ⟨_, e, e2⟩ | ⟨o, e, hc⟩
    · exact ⟨List.eq_nil_of_length_eq_zero e, e2⟩
    · cases e
  subst hL0
  subst hcap
  have h0 : w.cell? ⟨b, 0, none⟩ = some (.slice none 0 0) := h.c0
  have h1 := h.c1
  have hm := h.most
  have hbl := h.box.lt
  have HR := Lib.hid h
  have HL := Lib.hid hl
  clear h
  have hl' : 0 < most := hl
  have hl'' : (0 : Int) < (most : Int) := by omega
  clear hl
  go_enter Try.func10, Try.ntmps10
  go_wp2_with fail
  go_quiet (fail)
  obtain ⟨u, hu⟩ : ∃ u, u = w.drewN nq := ⟨_, rfl⟩
  have hz : w.heap.size = u.heap.size := by rw [hu]; rfl
  have hK0 : Hid (Kept (fun _ => False) w (u.alloc (.cells #[] 3))) := by rw [hu]; exact ((Kept.refl _ w).drewN nq).alloc _
  have HO := Lib.hid (own_empty u w.heap.size hz)
  have hca : (u.alloc (.cells #[] 3)).cell? ⟨b, 0, none⟩ = some (.slice none 0 0) := by
    rw [hu]; exact (World.cell?_of_block (Below.heap_alloc _ _ _ hbl)).trans h0
  rw [← hu]
  clear hu h0 h1
  have hzz : u.heap.size = w.heap.size := hz.symm
  clear hz
  go_wp2_with (first
    | (at_builtin; refine wpList_append_own_none rfl _ _ 37 rfl w.heap.size 3 i0 1 Try.underlying37 hi (.slice (some ⟨w.heap.size, 0, none⟩) 0 0) 0 [] rfl HO.out rfl ?_)
    | (at_builtin; refine wpList_append_lies _ rfl _ _ 37 rfl w.heap.size 3 i0 (.int .i64 0) 1 8 Try.underlying37 hi hz0 hz1 hz2 rfl (by decide) (.slice (some ⟨w.heap.size, 0, none⟩) 0 0) 0 [] rfl (HO.out.alloc _) ⟨w.heap.size + 1, 0, none⟩ 1 1 [.int .i64 x] rfl rfl (by have := cell_one_new (u.alloc (.cells #[] 3)) (.int .i64 x) 3; rw [World.size_alloc, hzz] at this; exact this) (fun v hv => by simp at hv; subst hv; rfl) (by omega) (by unfold maxLen; omega) (by omega) (by simp; omega) _ rfl ?_
       intro h3 c3 w3 hown3 hgrow3 _ _
       have HO3 := Lib.hid hown3
       have hK3 : Hid (Kept (fun _ => False) w w3) := (hK0.out.alloc (.cells #[.int .i64 x] 3)).grown hgrow3 (fun q e hq => absurd hq (by have := (HO.out.lt q e).1; omega))
       clear hown3 hgrow3
       have hB3 : Hid (Box w3 b 39 #[.slice none 0 0, .int .i64 most]) := hK3.out.box HR.out.box (fun h => h)
       have c3' : w3.cell? ⟨b, 0, none⟩ = some (.slice none 0 0) := by have := hB3.out.cell 0; simpa using this
       have f3' : w3.frozen? ⟨b, 0, none⟩ = false := hB3.out.frozen 0))
  go_ret
  have HO4 := HO3.out
  rw [Nat.zero_add, List.nil_append] at HO4
  exact ⟨rfl, HR.out.pushed HL.out rfl rfl HO4 (hK3.out.mono (fun _ _ h => h.elim)) hB3.out⟩

theorem refPush_any (x : Int) (w : World) (h : Ref w b g most A cap L) (hl : L.length < most) :
    Calls Try.prog 10 #[.pointer (some ⟨b, 0, none⟩), .int .i64 x] w fun e w' => e = .returned (.int .i64 0) ∧
      (∃ g' A' cap', Ref w' b g' most A' cap' (L ++ [x]) ∧ w.heap.size ≤ g') ∧ Kept (fun k => k = b) w w' := by
  rcases h.row with ⟨rfl, _⟩ | ⟨off, rfl, _⟩
  · exact refPush_nil x w h hl
  · exact refPush_some x w h hl

/-- What is left of the numbers. -/
theorem Ref.cut {w u : World} {c n : Nat} {A' : Option Addr} {cap' : Nat} (h : Ref w b g most A cap L) (hc : c ≤ L.length) (he : u.heap = w.heap) (hn : n = L.length - c) (hcap : cap' = cap - c) (hA : (A = none ∧ A' = none) ∨ (∃ off, A = some ⟨g, off, none⟩ ∧ ((c = cap ∧ A' = A) ∨ A' = some ⟨g, off + c, none⟩))) :
    Ref (u.setCell ⟨b, 0, none⟩ (.slice A' n cap')) b g most A' cap' (L.drop c) := by
  have hb : Box u b 39 #[.slice A L.length cap, .int .i64 most] := by unfold Box; rw [he]; exact h.box
  have hcl := h.cap
  have hle := h.le
  refine ⟨?_, ?_, by rw [List.length_drop]; omega, by rw [List.length_drop]; omega, h.most, fun hp => h.ne (by rw [List.length_drop] at hp; omega)⟩
  · have := hb.set 0 (.slice A' n cap')
    rw [List.length_drop, ← hn]
    simpa using this
  · rcases hA with ⟨rfl, rfl⟩ | ⟨off, rfl, hA⟩
    · left
      rcases h.row with ⟨_, e, e2⟩ | ⟨o, e, _⟩
      · exact ⟨rfl, by rw [List.length_drop]; omega, by omega⟩
      · cases e
    · rcases h.row with ⟨e, _⟩ | ⟨o, e, hcc⟩
      · cases e
      injection e with e
      injection e with e1 e2
      subst e2
      right
      rcases hA with ⟨ec, rfl⟩ | rfl
      · exact ⟨off, rfl, fun i hi => by rw [List.length_drop] at hi; omega⟩
      · refine ⟨off + c, rfl, fun i hi => ?_⟩
        rw [List.length_drop] at hi
        have hne := h.ne (by omega)
        have h1 := hcc (c + i) (by omega)
        have h2 : (u.setCell ⟨b, 0, none⟩ (.slice (some ⟨g, off + c, none⟩) n cap')).cell? ⟨g, off + c + i, none⟩ = w.cell? ⟨g, off + c + i, none⟩ := by
          rw [World.cell?_of_block (Below.heap_setCell u ⟨b, 0, none⟩ _ g (by simp only; exact Ne.symm hne))]
          simp only [World.cell?, he]
        rw [h2, Nat.add_assoc, h1, List.getElem_drop]

set_option maxHeartbeats 1000000 in
theorem refDrop_any (n : Int) (w : World) (h : Ref w b g most A cap L) :
    Calls Try.prog 13 #[.pointer (some ⟨b, 0, none⟩), .int .i64 n] w fun e w' => e = .returned (.int .i64 (M.few n L.length : Nat)) ∧
      (∃ A' cap', Ref w' b g most A' cap' (L.drop (M.few n L.length))) ∧ Kept (fun k => k = b) w w' := by
  have h0 := h.c0
  have f0 := h.box.frozen 0
  have hm := h.most
  have hle := h.le
  have hcl := h.cap
  have hcc : ∃ c, c = M.few n L.length ∧ c ≤ L.length ∧ ((n < 0 ∧ c = 0) ∨ (n = (c : Int)) ∨ ((L.length : Int) < n ∧ c = L.length)) := by
    refine ⟨_, rfl, M.few_le _ _, ?_⟩
    unfold M.few
    by_cases h1 : n < 0
    · rw [if_pos h1]; exact Or.inl ⟨h1, rfl⟩
    · rw [if_neg h1]
      by_cases h2 : (L.length : Int) < n
      · rw [if_pos h2]; exact Or.inr (Or.inr ⟨h2, rfl⟩)
      · rw [if_neg h2]; exact Or.inr (Or.inl (by omega))
  obtain ⟨c, hc, hcL, hcn⟩ := hcc
  rw [← hc]
  clear hc
  have HD : Hid (∀ (m : Nat) (A' : Option Addr) (cap' : Nat), m = L.length - c → cap' = cap - c → ((A = none ∧ A' = none) ∨ (∃ off, A = some ⟨g, off, none⟩ ∧ ((c = cap ∧ A' = A) ∨ A' = some ⟨g, off + c, none⟩))) →
      Ref (w.setCell ⟨b, 0, none⟩ (.slice A' m cap')) b g most A' cap' (L.drop c)) := fun m A' cap' e1 e2 e3 => h.cut (u := w) hcL rfl e1 e2 e3
  have HR := Lib.hid h
  have hrow : (A = none ∧ L.length = 0 ∧ cap = 0) ∨ ∃ off, A = some ⟨g, off, none⟩ := by
    rcases h.row with e | ⟨off, e, _⟩
    · exact Or.inl e
    · exact Or.inr ⟨off, e⟩
  clear h
  obtain ⟨k, hk⟩ : ∃ k, k = L.length := ⟨_, rfl⟩
  rw [← hk] at h0 hcL hcn HD hrow hle hcl
  clear hk
  have hk0 : (0 : Int) ≤ (k : Int) := by omega
  have hcs : (0 : Int) ≤ (c : Int) := by omega
  have hck : (c : Int) ≤ (k : Int) := by omega
  rcases hrow with ⟨rfl, rfl, rfl⟩ | ⟨off, rfl⟩
  · obtain rfl : c = 0 := by omega
    have hcn' : n < 0 ∨ n = 0 ∨ 0 < n := by omega
    clear hcn
    rcases hcn' with hn | rfl | hn
    all_goals
      go_enter Try.func13, Try.ntmps13
      go_wp2_with fail
      go_ret
      exact ⟨rfl, ⟨none, 0, HD.out 0 none 0 rfl rfl (Or.inl ⟨by first | rfl | trivial, rfl⟩)⟩, Kept.set (P := fun k => k = b) (g := b) (Kept.refl _ w) (fun _ => rfl) 0 _⟩
  · have hcap : c = cap ∨ (c < cap ∧ cap ≠ c) := by omega
    have hck' : ¬ k < c := by omega
    rcases hcn with ⟨hn, rfl⟩ | rfl | ⟨hn, rfl⟩
    all_goals
      rcases hcap with rfl | ⟨hcap, hcap'⟩
    all_goals
      go_enter Try.func13, Try.ntmps13
      go_wp2_with fail
      go_ret
      refine ⟨rfl, ⟨_, _, HD.out _ _ _ ?_ ?_ (Or.inr ⟨off, by first | rfl | trivial, ?_⟩)⟩, Kept.set (P := fun k => k = b) (g := b) (Kept.refl _ w) (fun _ => rfl) 0 _⟩
      · omega
      · omega
      · first | exact Or.inl ⟨by first | trivial | omega, rfl⟩ | exact Or.inr rfl
end
end Go.Proofs.Ytlpcjfjjfnnbcaa
