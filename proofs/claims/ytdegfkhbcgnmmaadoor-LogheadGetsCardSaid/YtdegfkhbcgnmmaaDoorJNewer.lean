/-
  Walks over loghead.getOrNone, Newer, solderref10.Newer.
-/
import Derived.Test.YtdegfkhbcgnmmaaDoorJRGet
namespace Go.Proofs.YtdegfkhbcgnmmaaDoor
open Go.RowKit

/-- The package's variable reads as the program lays it. -/
def Env10 (w : World) : Prop := w.var? Tryd.prog "solder/loghead.none" = some #[.int .i64 (-1), .int .i64 0, .int .i64 0]
theorem Tryd.gNone : Tryd.prog.globalNamed "solder/loghead.none" = some 0 := by kernel_rfl
theorem Env10.below {w w' : World} (h : Env10 w) (hb : Below w.heap.size w w') : Env10 w' := by
  unfold Env10 World.var? at h ⊢
  rw [Tryd.gNone] at h ⊢
  simp only [Option.bind_some] at h ⊢
  rw [hb.block 0 (by
    cases e : w.heap[0]? with
    | none => rw [e] at h; cases h
    | some o => exact lt_of_block e)]
  exact h
theorem Env10.grown {w w' : World} {b : Nat} (h : Env10 w) (hg : w.grownBy w' (some b)) (hb : 0 < b) : Env10 w' := by
  unfold Env10 World.var? at h ⊢
  rw [Tryd.gNone] at h ⊢
  simp only [Option.bind_some] at h ⊢
  rw [hg.block 0 (by
    cases e : w.heap[0]? with
    | none => rw [e] at h; cases h
    | some o => exact lt_of_block e) (fun e => by injection e with e; omega)]
  exact h
theorem Env10.cells {w : World} (h : Env10 w) : w.cell? ⟨0, 0, none⟩ = some (.int .i64 (-1)) ∧ w.cell? ⟨0, 1, none⟩ = some (.int .i64 0) ∧ w.cell? ⟨0, 2, none⟩ = some (.int .i64 0) :=
  ⟨World.var?_cell Tryd.gNone h 0, World.var?_cell Tryd.gNone h 1, World.var?_cell Tryd.gNone h 2⟩

/-- The head that a sector says, or none. -/
def M.hor (s : ByteArray) : M.Hd := if (M.hget s).2 ≠ 0 then ⟨-1, 0, 0⟩ else (M.hget s).1

set_option maxHeartbeats 1000000 in
theorem orNone_any (s : ByteArray) (w : World) (hE : Env10 w) :
    Calls Tryd.prog 26 #[.string s] w fun e w' => e = .returned (M.hor s).v ∧ Below w.heap.size w w' := by
  have C := Lib.hid (fun x => get10_any s x)
  unfold M.hgot at C
  unfold M.hor
  obtain ⟨⟨⟨g, q, a⟩, x⟩, hr⟩ : ∃ r, r = M.hget s := ⟨_, rfl⟩
  rw [← hr] at C ⊢
  clear hr
  have HX := Lib.hid (B3.new w 28 0 0 0)
  have HB := Lib.hid (below1 w (.cells #[.int .i64 0, .int .i64 0, .int .i64 0] 28))
  have HE := Lib.hid hE
  clear hE
  have hx : (x = 0 ∧ (x != 0) = false) ∨ (¬ x = 0 ∧ (x != 0) = true) := by
    by_cases e : x = 0
    · exact Or.inl ⟨e, by simp [e]⟩
    · exact Or.inr ⟨e, by simpa using e⟩
  rcases hx with ⟨h1, h2⟩ | ⟨h1, h2⟩
  · rw [if_neg (fun e => e h1)]
    clear h1
    go_enter Tryd.func26, Tryd.ntmps26
    go_wp2_with fail
    refine (C.out _).mono ?_
    rintro e w1 ⟨rfl, hb1⟩
    have HX1 := Lib.hid (HX.out.below hb1 HX.out.lt)
    have HB1 := Lib.hid (HB.out.trans (hb1.mono HB.out.size))
    clear hb1
    have HX2 := Lib.hid (HX1.out.below (below1 w1 (.cells #[.int .i64 g, .int .i64 q, .int .i64 a] 28)) HX1.out.lt)
    have HB2 := Lib.hid (HB1.out.alloc HB1.out.size (.cells #[.int .i64 g, .int .i64 q, .int .i64 a] 28))
    obtain ⟨c0, c1, c2⟩ := HX2.out.cells
    obtain ⟨f0, f1, f2⟩ := HX2.out.frozen
    go_wp2_with fail
    exact bodyPost_ret (v := .agg #[.int .i64 g, .int .i64 q, .int .i64 a]) (by simp [results, Tryd.results26, go_sem, *]) rfl ⟨rfl, by (repeat refine Below.setCell ?_ (by simp) _); exact HB2.out⟩
  · rw [if_pos h1]
    clear h1
    go_enter Tryd.func26, Tryd.ntmps26
    go_wp2_with fail
    refine (C.out _).mono ?_
    rintro e w1 ⟨rfl, hb1⟩
    have HX1 := Lib.hid (HX.out.below hb1 HX.out.lt)
    have HB1 := Lib.hid (HB.out.trans (hb1.mono HB.out.size))
    have HX2 := Lib.hid (HX1.out.below (below1 w1 (.cells #[.int .i64 g, .int .i64 q, .int .i64 a] 28)) HX1.out.lt)
    have HB2 := Lib.hid (HB1.out.alloc HB1.out.size (.cells #[.int .i64 g, .int .i64 q, .int .i64 a] 28))
    have HE2 : Hid (Env10 (w1.alloc (.cells #[.int .i64 g, .int .i64 q, .int .i64 a] 28))) := HE.out.below (HB2.out)
    clear hb1
    obtain ⟨c0, c1, c2⟩ := HX2.out.cells
    obtain ⟨f0, f1, f2⟩ := HX2.out.frozen
    obtain ⟨d0, d1, d2⟩ := HE2.out.cells
    go_wp2_with fail
    exact bodyPost_ret (v := .agg #[.int .i64 (-1), .int .i64 0, .int .i64 0]) (by simp [results, Tryd.results26, go_sem, *]) rfl ⟨rfl, by (repeat refine Below.setCell ?_ (by simp) _); exact HB2.out⟩

theorem M.hnewer_or (a b : ByteArray) : M.hnewer a b = (if (M.hor a).g < (M.hor b).g then (M.hor b, 0) else if (M.hor a).g = -1 then (M.h0, 8) else (M.hor a, 0)) := by
  unfold M.hnewer
  by_cases xa : (M.hget a).2 = 0
  · have oa : M.hor a = (M.hget a).1 := if_neg (fun e => e xa)
    have ga := ((M.hmay_iff _).1 (M.hget_ok a xa).1).1.1
    by_cases xb : (M.hget b).2 = 0
    · have ob : M.hor b = (M.hget b).1 := if_neg (fun e => e xb)
      rw [oa, ob, if_neg (fun e => e.1 xa)]
      by_cases hl : (M.hget a).1.g < (M.hget b).1.g
      · rw [if_pos (Or.inr ⟨xb, hl⟩), if_pos hl]
      · rw [if_neg (fun e => e.elim (fun e => e xa) (fun e => hl e.2)), if_neg hl, if_neg (by omega)]
    · have ob : M.hor b = ⟨-1, 0, 0⟩ := if_pos xb
      rw [oa, ob, if_neg (fun e => e.1 xa), if_neg (fun e => e.elim (fun e => e xa) (fun e => xb e.1)), if_neg (by show ¬ (M.hget a).1.g < -1; omega), if_neg (by omega)]
  · have oa : M.hor a = ⟨-1, 0, 0⟩ := if_pos xa
    by_cases xb : (M.hget b).2 = 0
    · have gb := ((M.hmay_iff _).1 (M.hget_ok b xb).1).1.1
      have ob : M.hor b = (M.hget b).1 := if_neg (fun e => e xb)
      rw [oa, ob, if_neg (fun e => e.2 xb), if_pos (Or.inl xa), if_pos (by show -1 < (M.hget b).1.g; omega)]
    · have ob : M.hor b = ⟨-1, 0, 0⟩ := if_pos xb
      rw [oa, ob, if_pos ⟨xa, xb⟩, if_neg (by decide), if_pos rfl]

theorem M.hor_none (a : ByteArray) : -1 ≤ (M.hor a).g ∧ ((M.hor a).g = -1 → (M.hor a).q = 0 ∧ (M.hor a).a = 0) := by
  unfold M.hor
  by_cases xa : (M.hget a).2 = 0
  · have ga := ((M.hmay_iff _).1 (M.hget_ok a xa).1).1.1
    rw [if_neg (fun e => e xa)]
    exact ⟨by omega, fun e => by omega⟩
  · rw [if_pos xa]
    exact ⟨by decide, fun _ => ⟨rfl, rfl⟩⟩
set_option maxHeartbeats 1000000 in
theorem newer10_any (a b : ByteArray) (w : World) (hE : Env10 w) :
    Calls Tryd.prog 12 #[.string a, .string b] w fun e w' => e = .returned (M.hgot (M.hnewer a b)) ∧ Below w.heap.size w w' := by
  have C1 := Lib.hid (fun x hE => orNone_any a x hE)
  have C2 := Lib.hid (fun x hE => orNone_any b x hE)
  unfold M.Hd.v at C1 C2
  have HR := Lib.hid (M.hnewer_or a b)
  have HNA := Lib.hid (M.hor_none a)
  obtain ⟨⟨g, q, k⟩, ha⟩ : ∃ r, r = M.hor a := ⟨_, rfl⟩
  obtain ⟨⟨g', q', k'⟩, hb⟩ : ∃ r, r = M.hor b := ⟨_, rfl⟩
  rw [← ha] at C1 HR HNA
  rw [← hb] at C2 HR
  clear ha hb
  have HX := Lib.hid (B3.new w 28 0 0 0)
  have HB := Lib.hid (below1 w (.cells #[.int .i64 0, .int .i64 0, .int .i64 0] 28))
  have HE := Lib.hid (hE.below HB.out)
  clear hE
  have hc : (decide (g < g') = true ∧ M.hnewer a b = (⟨g', q', k'⟩, 0)) ∨ (decide (g < g') = false ∧ g = -1 ∧ M.hnewer a b = (⟨0, 0, 0⟩, 8)) ∨ (decide (g < g') = false ∧ g ≠ -1 ∧ M.hnewer a b = (⟨g, q, k⟩, 0)) := by
    have h := HR.out
    by_cases h1 : g < g'
    · rw [if_pos h1] at h
      exact Or.inl ⟨by simpa using h1, h⟩
    · rw [if_neg h1] at h
      by_cases h2 : g = -1
      · rw [if_pos h2] at h
        exact Or.inr (Or.inl ⟨by simpa using h1, h2, h⟩)
      · rw [if_neg h2] at h
        exact Or.inr (Or.inr ⟨by simpa using h1, h2, h⟩)
  clear HR
  rcases hc with ⟨d, hr⟩ | ⟨d, hg, hr⟩ | ⟨d, hg, hr⟩
  · have HR := Lib.hid hr
    have hn : (g' == -1) = false := by
      have h1 := HNA.out.1
      have h2 := of_decide_eq_true d
      rw [beq_eq_false_iff_ne]
      show g' ≠ -1
      have h1 : -1 ≤ g := h1
      omega
    clear hr
    go_enter Tryd.func12, Tryd.ntmps12
    go_wp2_with fail
    refine (C1.out _ HE.out).mono ?_
    rintro e w1 ⟨rfl, hb1⟩
    have HX1 := Lib.hid (HX.out.below hb1 HX.out.lt)
    have HE1 := Lib.hid (HE.out.below hb1)
    have HB1 := Lib.hid (HB.out.trans (hb1.mono HB.out.size))
    clear hb1 HE HX HB
    go_wp2_with fail
    refine (C2.out _ HE1.out).mono ?_
    rintro e w2 ⟨rfl, hb2⟩
    have HX2 := Lib.hid (HX1.out.below hb2 HX1.out.lt)
    have HE2 := Lib.hid (HE1.out.below hb2)
    have HB2 := Lib.hid (HB1.out.trans (hb2.mono HB1.out.size))
    clear hb2 HE1 HX1 HB1
    have HA : Hid (Below w2.heap.size w2 ((w2.alloc (.cells #[.int .i64 g', .int .i64 q', .int .i64 k'] 28)).alloc (.cells #[.int .i64 g', .int .i64 q', .int .i64 k'] 28))) := below2a _ _ _
    have HB3 := Lib.hid (HB2.out.trans (HA.out.mono HB2.out.size))
    obtain ⟨c0, c1, c2⟩ := (HX2.out.below HA.out HX2.out.lt).cells
    obtain ⟨f0, f1, f2⟩ := (HX2.out.below HA.out HX2.out.lt).frozen
    obtain ⟨d0, d1, d2⟩ := (HE2.out.below HA.out).cells
    go_wp2_with fail
    exact bodyPost_ret (v := .tuple #[.agg #[.int .i64 g', .int .i64 q', .int .i64 k'], .int .i64 0]) (by simp [results, Tryd.results12, go_sem, *]) rfl ⟨M.hgot_of HR.out, by (repeat refine Below.setCell ?_ (by simp) _); exact HB3.out⟩
  · have HR := Lib.hid hr
    obtain ⟨h1, h2⟩ := HNA.out.2 hg
    simp only at h1 h2
    subst hg h1 h2
    clear hr
    go_enter Tryd.func12, Tryd.ntmps12
    go_wp2_with fail
    refine (C1.out _ HE.out).mono ?_
    rintro e w1 ⟨rfl, hb1⟩
    have HX1 := Lib.hid (HX.out.below hb1 HX.out.lt)
    have HE1 := Lib.hid (HE.out.below hb1)
    have HB1 := Lib.hid (HB.out.trans (hb1.mono HB.out.size))
    clear hb1 HE HX HB
    go_wp2_with fail
    refine (C2.out _ HE1.out).mono ?_
    rintro e w2 ⟨rfl, hb2⟩
    have HX2 := Lib.hid (HX1.out.below hb2 HX1.out.lt)
    have HE2 := Lib.hid (HE1.out.below hb2)
    have HB2 := Lib.hid (HB1.out.trans (hb2.mono HB1.out.size))
    clear hb2 HE1 HX1 HB1
    have HA : Hid (Below w2.heap.size w2 ((w2.alloc (.cells #[.int .i64 (-1), .int .i64 0, .int .i64 0] 28)).alloc (.cells #[.int .i64 g', .int .i64 q', .int .i64 k'] 28))) := below2a _ _ _
    have HB3 := Lib.hid (HB2.out.trans (HA.out.mono HB2.out.size))
    obtain ⟨c0, c1, c2⟩ := (HX2.out.below HA.out HX2.out.lt).cells
    obtain ⟨f0, f1, f2⟩ := (HX2.out.below HA.out HX2.out.lt).frozen
    obtain ⟨d0, d1, d2⟩ := (HE2.out.below HA.out).cells
    go_wp2_with fail
    exact bodyPost_ret (v := .tuple #[.agg #[.int .i64 0, .int .i64 0, .int .i64 0], .int .i64 8]) (by simp [results, Tryd.results12, go_sem, *]) rfl ⟨M.hgot_of HR.out, by (repeat refine Below.setCell ?_ (by simp) _); exact HB3.out⟩
  · have HR := Lib.hid hr
    have hn : (g == -1) = false := by rw [beq_eq_false_iff_ne]; exact hg
    clear hr hg
    go_enter Tryd.func12, Tryd.ntmps12
    go_wp2_with fail
    refine (C1.out _ HE.out).mono ?_
    rintro e w1 ⟨rfl, hb1⟩
    have HX1 := Lib.hid (HX.out.below hb1 HX.out.lt)
    have HE1 := Lib.hid (HE.out.below hb1)
    have HB1 := Lib.hid (HB.out.trans (hb1.mono HB.out.size))
    clear hb1 HE HX HB
    go_wp2_with fail
    refine (C2.out _ HE1.out).mono ?_
    rintro e w2 ⟨rfl, hb2⟩
    have HX2 := Lib.hid (HX1.out.below hb2 HX1.out.lt)
    have HE2 := Lib.hid (HE1.out.below hb2)
    have HB2 := Lib.hid (HB1.out.trans (hb2.mono HB1.out.size))
    clear hb2 HE1 HX1 HB1
    have HA : Hid (Below w2.heap.size w2 ((w2.alloc (.cells #[.int .i64 g, .int .i64 q, .int .i64 k] 28)).alloc (.cells #[.int .i64 g', .int .i64 q', .int .i64 k'] 28))) := below2a _ _ _
    have HB3 := Lib.hid (HB2.out.trans (HA.out.mono HB2.out.size))
    obtain ⟨c0, c1, c2⟩ := (HX2.out.below HA.out HX2.out.lt).cells
    obtain ⟨f0, f1, f2⟩ := (HX2.out.below HA.out HX2.out.lt).frozen
    obtain ⟨d0, d1, d2⟩ := (HE2.out.below HA.out).cells
    go_wp2_with fail
    exact bodyPost_ret (v := .tuple #[.agg #[.int .i64 g, .int .i64 q, .int .i64 k], .int .i64 0]) (by simp [results, Tryd.results12, go_sem, *]) rfl ⟨M.hgot_of HR.out, by (repeat refine Below.setCell ?_ (by simp) _); exact HB3.out⟩

end Go.Proofs.YtdegfkhbcgnmmaaDoor
