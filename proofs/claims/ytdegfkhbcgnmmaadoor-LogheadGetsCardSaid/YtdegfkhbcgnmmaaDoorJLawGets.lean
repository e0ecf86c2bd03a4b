/-
  Walk over LogheadGets.
-/
import Derived.Test.YtdegfkhbcgnmmaaDoorJWorks
namespace Go.Proofs.YtdegfkhbcgnmmaaDoor
open Go.RowKit

set_option maxHeartbeats 2000000 in
theorem gets10_in (a b : ByteArray) (ha : a.size ≤ 3000) (hb : b.size ≤ 3000) (w : World) (hE : Env10 w) :
    Calls Tryd.prog 4 #[.string a, .string b] w fun e w' => e = .returned (.bool true) ∧ Below w.heap.size w w' := by
  have hd1 : decide ((3000 : Int) < (a.size : Int)) = false := by simp; omega
  have hd2 : decide ((3000 : Int) < (b.size : Int)) = false := by simp; omega
  have C1 := Lib.hid (fun x => get10_any a x)
  have C2 := Lib.hid (fun x => rget10_any a x)
  have C3 := Lib.hid (fun x hE => newer10_any a b x hE)
  have C4 := Lib.hid (fun x => rnewer10_any a b x)
  unfold M.hgot at C1 C2 C3 C4
  obtain ⟨⟨⟨g, q, k⟩, x⟩, hr⟩ : ∃ r, r = M.hget a := ⟨_, rfl⟩
  obtain ⟨⟨⟨g', q', k'⟩, y⟩, hr'⟩ : ∃ r, r = M.hnewer a b := ⟨_, rfl⟩
  rw [← hr] at C1 C2
  rw [← hr'] at C3 C4
  have HE := Lib.hid hE
  clear ha hb hr hr' hE
  go_enter Tryd.func4, Tryd.ntmps4
  go_wp2_with fail
  refine (works_any _ HE.out).mono ?_
  rintro e w1 ⟨rfl, hb1⟩
  have HB1 := Lib.hid hb1
  have HE1 := Lib.hid (HE.out.below hb1)
  clear hb1 HE
  go_wp2_with fail
  refine (C1.out _).mono ?_
  rintro e w2 ⟨rfl, hb2⟩
  have HX2 := Lib.hid (B3.new w2 28 g q k)
  have hb2 := hb2.alloc hb2.size (.cells #[.int .i64 g, .int .i64 q, .int .i64 k] 28)
  have HB2 := Lib.hid (HB1.out.trans (hb2.mono HB1.out.size))
  have HE2 := Lib.hid (HE1.out.below hb2)
  clear hb2 HB1 HE1
  go_wp2_with fail
  refine (C2.out _).mono ?_
  rintro e w3 ⟨rfl, hb3⟩
  have HY3 := Lib.hid (B3.new w3 23 g q k)
  have hb3 := hb3.alloc hb3.size (.cells #[.int .i64 g, .int .i64 q, .int .i64 k] 23)
  have HX3 := Lib.hid (HX2.out.below hb3 HX2.out.lt)
  have HB3 := Lib.hid (HB2.out.trans (hb3.mono HB2.out.size))
  have HE3 := Lib.hid (HE2.out.below hb3)
  clear hb3 HB2 HE2 HX2
  go_wp2_with fail
  refine (C3.out _ HE3.out).mono ?_
  rintro e w4 ⟨rfl, hb4⟩
  have HU4 := Lib.hid (B3.new w4 28 g' q' k')
  have hb4 := hb4.alloc hb4.size (.cells #[.int .i64 g', .int .i64 q', .int .i64 k'] 28)
  have HX4 := Lib.hid (HX3.out.below hb4 HX3.out.lt)
  have HY4 := Lib.hid (HY3.out.below hb4 HY3.out.lt)
  have HB4 := Lib.hid (HB3.out.trans (hb4.mono HB3.out.size))
  clear hb4 HB3 HE3 HX3 HY3
  go_wp2_with fail
  refine (C4.out _).mono ?_
  rintro e w5 ⟨rfl, hb5⟩
  have HV5 := Lib.hid (B3.new w5 23 g' q' k')
  have hb5 := hb5.alloc hb5.size (.cells #[.int .i64 g', .int .i64 q', .int .i64 k'] 23)
  have HX5 := Lib.hid (HX4.out.below hb5 HX4.out.lt)
  have HY5 := Lib.hid (HY4.out.below hb5 HY4.out.lt)
  have HU5 := Lib.hid (HU4.out.below hb5 HU4.out.lt)
  have HB5 := Lib.hid (HB4.out.trans (hb5.mono HB4.out.size))
  clear hb5 HB4 HX4 HY4 HU4
  go_wp2_with fail
  obtain ⟨W, hW⟩ : ∃ W, W = w5.alloc (.cells #[.int .i64 g', .int .i64 q', .int .i64 k'] 23) := ⟨_, rfl⟩
  rw [← hW] at HV5 HX5 HY5 HU5 HB5 ⊢
  clear hW
  have HS : Hid (∀ z, Below W.heap.size W z → (z.cell? ⟨w2.heap.size, 0, none⟩ = some (.int .i64 g) ∧ z.cell? ⟨w2.heap.size, 1, none⟩ = some (.int .i64 q) ∧ z.cell? ⟨w2.heap.size, 2, none⟩ = some (.int .i64 k)) ∧ (z.cell? ⟨w3.heap.size, 0, none⟩ = some (.int .i64 g) ∧ z.cell? ⟨w3.heap.size, 1, none⟩ = some (.int .i64 q) ∧ z.cell? ⟨w3.heap.size, 2, none⟩ = some (.int .i64 k)) ∧ (z.cell? ⟨w4.heap.size, 0, none⟩ = some (.int .i64 g') ∧ z.cell? ⟨w4.heap.size, 1, none⟩ = some (.int .i64 q') ∧ z.cell? ⟨w4.heap.size, 2, none⟩ = some (.int .i64 k')) ∧ (z.cell? ⟨w5.heap.size, 0, none⟩ = some (.int .i64 g') ∧ z.cell? ⟨w5.heap.size, 1, none⟩ = some (.int .i64 q') ∧ z.cell? ⟨w5.heap.size, 2, none⟩ = some (.int .i64 k'))) :=
    fun z hb => ⟨(HX5.out.below hb HX5.out.lt).cells, (HY5.out.below hb HY5.out.lt).cells, (HU5.out.below hb HU5.out.lt).cells, (HV5.out.below hb HV5.out.lt).cells⟩
  clear HX5 HY5 HU5 HV5
  have hb0 : Below W.heap.size W W := Below.refl _ _
  have hS0 := HS.out W hb0
  go_region_held3 (fun z => (z.cell? ⟨w2.heap.size, 0, none⟩ = some (.int .i64 g) ∧ z.cell? ⟨w2.heap.size, 1, none⟩ = some (.int .i64 q) ∧ z.cell? ⟨w2.heap.size, 2, none⟩ = some (.int .i64 k)) ∧ (z.cell? ⟨w3.heap.size, 0, none⟩ = some (.int .i64 g) ∧ z.cell? ⟨w3.heap.size, 1, none⟩ = some (.int .i64 q) ∧ z.cell? ⟨w3.heap.size, 2, none⟩ = some (.int .i64 k)) ∧ (z.cell? ⟨w4.heap.size, 0, none⟩ = some (.int .i64 g') ∧ z.cell? ⟨w4.heap.size, 1, none⟩ = some (.int .i64 q') ∧ z.cell? ⟨w4.heap.size, 2, none⟩ = some (.int .i64 k')) ∧ (z.cell? ⟨w5.heap.size, 0, none⟩ = some (.int .i64 g') ∧ z.cell? ⟨w5.heap.size, 1, none⟩ = some (.int .i64 q') ∧ z.cell? ⟨w5.heap.size, 2, none⟩ = some (.int .i64 k'))) (first | assumption)
    (first | (go_at_call 8; refine (Held.call HS (by first | assumption | exact Below.drew (by assumption)) (own10_any _ _ _ _)).mono ?_; rintro e w6 ⟨rfl, hb6, hS6⟩))
  go_wp2_with fail
  go_ret
  exact ⟨rfl, HB5.out.trans (hb6.mono HB5.out.size)⟩

theorem logheadGets_walk (a b : ByteArray) (w : World) (hE : Env10 w) :
    Calls Tryd.prog 4 #[.string a, .string b] w fun e w' => e = .returned (.bool true) ∧ Below w.heap.size w w' := by
  by_cases ha : a.size ≤ 3000
  · by_cases hb : b.size ≤ 3000
    · exact gets10_in a b ha hb w hE
    · have hd1 : decide ((3000 : Int) < (a.size : Int)) = false := by simp; omega
      have hd2 : decide ((3000 : Int) < (b.size : Int)) = true := by simp; omega
      have HE := Lib.hid hE
      clear ha hb hE
      go_enter Tryd.func4, Tryd.ntmps4
      go_wp2_with fail
      refine (works_any _ HE.out).mono ?_
      rintro e w1 ⟨rfl, hb1⟩
      go_wp2_with fail
      go_ret
      exact ⟨rfl, hb1⟩
  · have hd1 : decide ((3000 : Int) < (a.size : Int)) = true := by simp; omega
    have HE := Lib.hid hE
    clear ha hE
    go_enter Tryd.func4, Tryd.ntmps4
    go_wp2_with fail
    refine (works_any _ HE.out).mono ?_
    rintro e w1 ⟨rfl, hb1⟩
    go_wp2_with fail
    go_ret
    exact ⟨rfl, hb1⟩
end Go.Proofs.YtdegfkhbcgnmmaaDoor
