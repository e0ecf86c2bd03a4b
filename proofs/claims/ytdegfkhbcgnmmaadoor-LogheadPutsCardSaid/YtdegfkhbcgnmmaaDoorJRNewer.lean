/-
  Walk over solderref10.Newer.
-/
import Derived.Test.YtdegfkhbcgnmmaaDoorJNewer
namespace Go.Proofs.YtdegfkhbcgnmmaaDoor
open Go.RowKit

set_option maxHeartbeats 1000000 in
theorem rnewer10_any (a b : ByteArray) (w : World) :
    Calls Tryd.prog 13 #[.string a, .string b] w fun e w' => e = .returned (M.hgot (M.hnewer a b)) ∧ Below w.heap.size w w' := by
  have C1 := Lib.hid (fun x => rget10_any a x)
  have C2 := Lib.hid (fun x => rget10_any b x)
  unfold M.hgot at C1 C2
  have hc : ((M.hget a).2 ≠ 0 ∧ (M.hget b).2 ≠ 0 ∧ M.hnewer a b = (M.h0, 8)) ∨ ((M.hget a).2 ≠ 0 ∧ (M.hget b).2 = 0 ∧ M.hnewer a b = ((M.hget b).1, 0)) ∨ ((M.hget a).2 = 0 ∧ (M.hget b).2 = 0 ∧ (M.hget a).1.g < (M.hget b).1.g ∧ M.hnewer a b = ((M.hget b).1, 0)) ∨ ((M.hget a).2 = 0 ∧ (M.hget b).2 = 0 ∧ ¬ (M.hget a).1.g < (M.hget b).1.g ∧ M.hnewer a b = ((M.hget a).1, 0)) ∨ ((M.hget a).2 = 0 ∧ (M.hget b).2 ≠ 0 ∧ M.hnewer a b = ((M.hget a).1, 0)) := by
    unfold M.hnewer
    by_cases xa : (M.hget a).2 = 0
    · by_cases xb : (M.hget b).2 = 0
      · by_cases hl : (M.hget a).1.g < (M.hget b).1.g
        · exact Or.inr (Or.inr (Or.inl ⟨xa, xb, hl, by rw [if_neg (fun e => e.1 xa), if_pos (Or.inr ⟨xb, hl⟩)]⟩))
        · exact Or.inr (Or.inr (Or.inr (Or.inl ⟨xa, xb, hl, by rw [if_neg (fun e => e.1 xa), if_neg (fun e => e.elim (fun e => e xa) (fun e => hl e.2))]⟩)))
      · exact Or.inr (Or.inr (Or.inr (Or.inr ⟨xa, xb, by rw [if_neg (fun e => e.1 xa), if_neg (fun e => e.elim (fun e => e xa) (fun e => xb e.1))]⟩)))
    · by_cases xb : (M.hget b).2 = 0
      · exact Or.inr (Or.inl ⟨xa, xb, by rw [if_neg (fun e => e.2 xb), if_pos (Or.inl xa)]⟩)
      · exact Or.inl ⟨xa, xb, by rw [if_pos ⟨xa, xb⟩]⟩
  obtain ⟨⟨⟨g, q, k⟩, x⟩, ha⟩ : ∃ r, r = M.hget a := ⟨_, rfl⟩
  obtain ⟨⟨⟨g', q', k'⟩, y⟩, hb⟩ : ∃ r, r = M.hget b := ⟨_, rfl⟩
  rw [← ha] at C1 hc
  rw [← hb] at C2 hc
  clear ha hb
  simp only at hc
  have HX := Lib.hid (B3.new w 23 0 0 0)
  have HB := Lib.hid (below1 w (.cells #[.int .i64 0, .int .i64 0, .int .i64 0] 23))
  rcases hc with ⟨h1, h2, hr⟩ | ⟨h1, h2, hr⟩ | ⟨h1, h2, h3, hr⟩ | ⟨h1, h2, h3, hr⟩ | ⟨h1, h2, hr⟩
  · skip
    have e1 : (x != 0) = true := by simpa using h1
    clear h1
    have e2 : (y != 0) = true := by simpa using h2
    have e3 : (y == 0) = false := by simpa using h2
    clear h2
    have HR := Lib.hid hr
    clear hr
    go_enter Tryd.func13, Tryd.ntmps13
    go_wp2_with fail
    refine (C1.out _).mono ?_
    rintro e w1 ⟨rfl, hb1⟩
    have HX1 := Lib.hid (HX.out.below hb1 HX.out.lt)
    have HB1 := Lib.hid (HB.out.trans (hb1.mono HB.out.size))
    have HA1 := Lib.hid (below1 w1 (.cells #[.int .i64 g, .int .i64 q, .int .i64 k] 23))
    have HX2 := Lib.hid (HX1.out.below HA1.out HX1.out.lt)
    have HB2 := Lib.hid (HB1.out.trans (HA1.out.mono HB1.out.size))
    have HG2 := Lib.hid (B3.new w1 23 g q k)
    clear hb1 HX HB HX1 HB1 HA1
    go_wp2_with fail
    refine (C2.out _).mono ?_
    rintro e w3 ⟨rfl, hb3⟩
    have HX3 := Lib.hid (HX2.out.below hb3 HX2.out.lt)
    have HG3 := Lib.hid (HG2.out.below hb3 HG2.out.lt)
    have HB3 := Lib.hid (HB2.out.trans (hb3.mono HB2.out.size))
    have HA3 := Lib.hid (below1 w3 (.cells #[.int .i64 g', .int .i64 q', .int .i64 k'] 23))
    have HB4 := Lib.hid (HB3.out.trans (HA3.out.mono HB3.out.size))
    obtain ⟨c0, c1, c2⟩ := (HX3.out.below HA3.out HX3.out.lt).cells
    obtain ⟨f0, f1, f2⟩ := (HX3.out.below HA3.out HX3.out.lt).frozen
    obtain ⟨d0, d1, d2⟩ := (HG3.out.below HA3.out HG3.out.lt).cells
    clear hb3 HX2 HG2 HB2
    go_wp2_with fail
    exact bodyPost_ret (v := .tuple #[.agg #[.int .i64 0, .int .i64 0, .int .i64 0], .int .i64 8]) (by simp [results, Tryd.results13, go_sem, *]) rfl ⟨M.hgot_of HR.out, by (repeat refine Below.setCell ?_ (by simp) _); exact HB4.out⟩
  · skip
    have e1 : (x != 0) = true := by simpa using h1
    clear h1
    subst h2
    have HR := Lib.hid hr
    clear hr
    go_enter Tryd.func13, Tryd.ntmps13
    go_wp2_with fail
    refine (C1.out _).mono ?_
    rintro e w1 ⟨rfl, hb1⟩
    have HX1 := Lib.hid (HX.out.below hb1 HX.out.lt)
    have HB1 := Lib.hid (HB.out.trans (hb1.mono HB.out.size))
    have HA1 := Lib.hid (below1 w1 (.cells #[.int .i64 g, .int .i64 q, .int .i64 k] 23))
    have HX2 := Lib.hid (HX1.out.below HA1.out HX1.out.lt)
    have HB2 := Lib.hid (HB1.out.trans (HA1.out.mono HB1.out.size))
    have HG2 := Lib.hid (B3.new w1 23 g q k)
    clear hb1 HX HB HX1 HB1 HA1
    go_wp2_with fail
    refine (C2.out _).mono ?_
    rintro e w3 ⟨rfl, hb3⟩
    have HX3 := Lib.hid (HX2.out.below hb3 HX2.out.lt)
    have HG3 := Lib.hid (HG2.out.below hb3 HG2.out.lt)
    have HB3 := Lib.hid (HB2.out.trans (hb3.mono HB2.out.size))
    have HA3 := Lib.hid (below1 w3 (.cells #[.int .i64 g', .int .i64 q', .int .i64 k'] 23))
    have HB4 := Lib.hid (HB3.out.trans (HA3.out.mono HB3.out.size))
    obtain ⟨c0, c1, c2⟩ := (HX3.out.below HA3.out HX3.out.lt).cells
    obtain ⟨f0, f1, f2⟩ := (HX3.out.below HA3.out HX3.out.lt).frozen
    obtain ⟨d0, d1, d2⟩ := (HG3.out.below HA3.out HG3.out.lt).cells
    clear hb3 HX2 HG2 HB2
    go_wp2_with fail
    exact bodyPost_ret (v := .tuple #[.agg #[.int .i64 g', .int .i64 q', .int .i64 k'], .int .i64 0]) (by simp [results, Tryd.results13, go_sem, *]) rfl ⟨M.hgot_of HR.out, by (repeat refine Below.setCell ?_ (by simp) _); exact HB4.out⟩
  · skip
    subst h1
    subst h2
    have e4 : decide (g < g') = true := by simpa using h3
    clear h3
    have HR := Lib.hid hr
    clear hr
    go_enter Tryd.func13, Tryd.ntmps13
    go_wp2_with fail
    refine (C1.out _).mono ?_
    rintro e w1 ⟨rfl, hb1⟩
    have HX1 := Lib.hid (HX.out.below hb1 HX.out.lt)
    have HB1 := Lib.hid (HB.out.trans (hb1.mono HB.out.size))
    have HA1 := Lib.hid (below1 w1 (.cells #[.int .i64 g, .int .i64 q, .int .i64 k] 23))
    have HX2 := Lib.hid (HX1.out.below HA1.out HX1.out.lt)
    have HB2 := Lib.hid (HB1.out.trans (HA1.out.mono HB1.out.size))
    have HG2 := Lib.hid (B3.new w1 23 g q k)
    clear hb1 HX HB HX1 HB1 HA1
    go_wp2_with fail
    refine (C2.out _).mono ?_
    rintro e w3 ⟨rfl, hb3⟩
    have HX3 := Lib.hid (HX2.out.below hb3 HX2.out.lt)
    have HG3 := Lib.hid (HG2.out.below hb3 HG2.out.lt)
    have HB3 := Lib.hid (HB2.out.trans (hb3.mono HB2.out.size))
    have HA3 := Lib.hid (below1 w3 (.cells #[.int .i64 g', .int .i64 q', .int .i64 k'] 23))
    have HB4 := Lib.hid (HB3.out.trans (HA3.out.mono HB3.out.size))
    obtain ⟨c0, c1, c2⟩ := (HX3.out.below HA3.out HX3.out.lt).cells
    obtain ⟨f0, f1, f2⟩ := (HX3.out.below HA3.out HX3.out.lt).frozen
    obtain ⟨d0, d1, d2⟩ := (HG3.out.below HA3.out HG3.out.lt).cells
    clear hb3 HX2 HG2 HB2
    go_wp2_with fail
    exact bodyPost_ret (v := .tuple #[.agg #[.int .i64 g', .int .i64 q', .int .i64 k'], .int .i64 0]) (by simp [results, Tryd.results13, go_sem, *]) rfl ⟨M.hgot_of HR.out, by (repeat refine Below.setCell ?_ (by simp) _); exact HB4.out⟩
  · skip
    subst h1
    subst h2
    have e4 : decide (g < g') = false := by simpa using h3
    clear h3
    have HR := Lib.hid hr
    clear hr
    go_enter Tryd.func13, Tryd.ntmps13
    go_wp2_with fail
    refine (C1.out _).mono ?_
    rintro e w1 ⟨rfl, hb1⟩
    have HX1 := Lib.hid (HX.out.below hb1 HX.out.lt)
    have HB1 := Lib.hid (HB.out.trans (hb1.mono HB.out.size))
    have HA1 := Lib.hid (below1 w1 (.cells #[.int .i64 g, .int .i64 q, .int .i64 k] 23))
    have HX2 := Lib.hid (HX1.out.below HA1.out HX1.out.lt)
    have HB2 := Lib.hid (HB1.out.trans (HA1.out.mono HB1.out.size))
    have HG2 := Lib.hid (B3.new w1 23 g q k)
    clear hb1 HX HB HX1 HB1 HA1
    go_wp2_with fail
    refine (C2.out _).mono ?_
    rintro e w3 ⟨rfl, hb3⟩
    have HX3 := Lib.hid (HX2.out.below hb3 HX2.out.lt)
    have HG3 := Lib.hid (HG2.out.below hb3 HG2.out.lt)
    have HB3 := Lib.hid (HB2.out.trans (hb3.mono HB2.out.size))
    have HA3 := Lib.hid (below1 w3 (.cells #[.int .i64 g', .int .i64 q', .int .i64 k'] 23))
    have HB4 := Lib.hid (HB3.out.trans (HA3.out.mono HB3.out.size))
    obtain ⟨c0, c1, c2⟩ := (HX3.out.below HA3.out HX3.out.lt).cells
    obtain ⟨f0, f1, f2⟩ := (HX3.out.below HA3.out HX3.out.lt).frozen
    obtain ⟨d0, d1, d2⟩ := (HG3.out.below HA3.out HG3.out.lt).cells
    clear hb3 HX2 HG2 HB2
    go_wp2_with fail
    exact bodyPost_ret (v := .tuple #[.agg #[.int .i64 g, .int .i64 q, .int .i64 k], .int .i64 0]) (by simp [results, Tryd.results13, go_sem, *]) rfl ⟨M.hgot_of HR.out, by (repeat refine Below.setCell ?_ (by simp) _); exact HB4.out⟩
  · skip
    subst h1
    have e2 : (y != 0) = true := by simpa using h2
    have e3 : (y == 0) = false := by simpa using h2
    clear h2
    have HR := Lib.hid hr
    clear hr
    go_enter Tryd.func13, Tryd.ntmps13
    go_wp2_with fail
    refine (C1.out _).mono ?_
    rintro e w1 ⟨rfl, hb1⟩
    have HX1 := Lib.hid (HX.out.below hb1 HX.out.lt)
    have HB1 := Lib.hid (HB.out.trans (hb1.mono HB.out.size))
    have HA1 := Lib.hid (below1 w1 (.cells #[.int .i64 g, .int .i64 q, .int .i64 k] 23))
    have HX2 := Lib.hid (HX1.out.below HA1.out HX1.out.lt)
    have HB2 := Lib.hid (HB1.out.trans (HA1.out.mono HB1.out.size))
    have HG2 := Lib.hid (B3.new w1 23 g q k)
    clear hb1 HX HB HX1 HB1 HA1
    go_wp2_with fail
    refine (C2.out _).mono ?_
    rintro e w3 ⟨rfl, hb3⟩
    have HX3 := Lib.hid (HX2.out.below hb3 HX2.out.lt)
    have HG3 := Lib.hid (HG2.out.below hb3 HG2.out.lt)
    have HB3 := Lib.hid (HB2.out.trans (hb3.mono HB2.out.size))
    have HA3 := Lib.hid (below1 w3 (.cells #[.int .i64 g', .int .i64 q', .int .i64 k'] 23))
    have HB4 := Lib.hid (HB3.out.trans (HA3.out.mono HB3.out.size))
    obtain ⟨c0, c1, c2⟩ := (HX3.out.below HA3.out HX3.out.lt).cells
    obtain ⟨f0, f1, f2⟩ := (HX3.out.below HA3.out HX3.out.lt).frozen
    obtain ⟨d0, d1, d2⟩ := (HG3.out.below HA3.out HG3.out.lt).cells
    clear hb3 HX2 HG2 HB2
    go_wp2_with fail
    exact bodyPost_ret (v := .tuple #[.agg #[.int .i64 g, .int .i64 q, .int .i64 k], .int .i64 0]) (by simp [results, Tryd.results13, go_sem, *]) rfl ⟨M.hgot_of HR.out, by (repeat refine Below.setCell ?_ (by simp) _); exact HB4.out⟩
end Go.Proofs.YtdegfkhbcgnmmaaDoor
