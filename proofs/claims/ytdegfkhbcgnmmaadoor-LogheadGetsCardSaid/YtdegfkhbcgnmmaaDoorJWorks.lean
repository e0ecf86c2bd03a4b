/-
  Walks over works() of layer 10 and over LogheadPuts.
-/
import Derived.Test.YtdegfkhbcgnmmaaDoorJRNewer
namespace Go.Proofs.YtdegfkhbcgnmmaaDoor
open Go.RowKit

theorem M.hget_zeros : (M.hget (M.zeros 64)).2 = 4 := by
  have h : (M.zeros 64).size = 64 := M.zeros_size 64
  have h1 : (M.zeros 64).extract 0 1 ≠ ⟨#[76]⟩ := by decide
  unfold M.hget
  rw [if_neg (by simpa using h), if_pos h1]
theorem M.hmay395 : M.hmay ⟨3, 9, 5⟩ = true := by decide
theorem M.works10 : M.hnewer (M.zeros 64) (M.hwhole ⟨3, 9, 5⟩) = (⟨3, 9, 5⟩, 0) := by
  unfold M.hnewer
  rw [M.hget_whole _ M.hmay395, M.hget_zeros, if_neg (by simp), if_pos (Or.inl (by decide))]

set_option maxRecDepth 100000 in
set_option maxHeartbeats 1000000 in
theorem works_any (w : World) (hE : Env10 w) : Calls Tryd.prog 6 #[] w fun e w' => e = .returned (.bool true) ∧ Below w.heap.size w w' := by
  have C1 := Lib.hid (fun x => put10_any 3 9 5 x)
  have e1 : M.hput ⟨3, 9, 5⟩ = .tuple #[.string (M.hwhole ⟨3, 9, 5⟩), .int .i64 0] := if_pos M.hmay395
  rw [e1] at C1
  have C2 := Lib.hid (fun x hE => newer10_any (M.zeros 64) (M.hwhole ⟨3, 9, 5⟩) x hE)
  have hz := M.hwhole_size ⟨3, 9, 5⟩
  rw [M.works10] at C2
  unfold M.hgot at C2
  obtain ⟨s, hs⟩ : ∃ s, s = M.hwhole ⟨3, 9, 5⟩ := ⟨_, rfl⟩
  rw [← hs] at C1 C2 hz
  have hm : ∀ W : World, (Instr.makeSlice 40 (.int .i64 64) (.int .i64 64)).run Tryd.prog W = .ok (.slice (some ⟨W.heap.size, 0, none⟩) 64 64) (W.alloc (.cells (M.nils 64) 5)) := fun W => make_nils 64 (by decide) W
  have hcv : ∀ W : World, Sem.run Tryd.prog (convert 40 9 (.slice (some ⟨W.heap.size, 0, none⟩) 64 64)) (W.alloc (.cells (M.nils 64) 5)) = .ok (.string (M.zeros 64)) (W.alloc (.cells (M.nils 64) 5)) := fun W => conv_nils 64 _ _ (Box.new _ _ _)
  obtain ⟨N, hN⟩ : ∃ N, N = M.nils 64 := ⟨_, rfl⟩
  obtain ⟨Z, hZ⟩ : ∃ Z, Z = M.zeros 64 := ⟨_, rfl⟩
  rw [← hN] at hm hcv
  rw [← hZ] at hcv C2
  have HE := Lib.hid hE
  clear hs hN hZ e1 hE
  go_enter Tryd.func6, Tryd.ntmps6
  go_wp2_with fail
  refine (C1.out _).mono ?_
  rintro e w1 ⟨rfl, hb1⟩
  have HB2 := Lib.hid (hb1.alloc hb1.size (.cells N 5))
  have HE2 := Lib.hid (HE.out.below HB2.out)
  clear hb1
  go_wp2_with fail
  refine (C2.out _ HE2.out).mono ?_
  rintro e w3 ⟨rfl, hb3⟩
  have HB3 := Lib.hid ((HB2.out.trans (hb3.mono HB2.out.size)).alloc (HB2.out.trans (hb3.mono HB2.out.size)).size (.cells #[.int .i64 3, .int .i64 9, .int .i64 5] 28))
  clear hb3
  go_wp2_with fail
  go_ret
  exact ⟨rfl, HB3.out⟩

theorem hput_is (h : M.Hd) : ∃ (s : ByteArray) (e : Int), M.hput h = .tuple #[.string s, .int .i64 e] := by
  unfold M.hput
  split
  · exact ⟨_, _, rfl⟩
  · exact ⟨_, _, rfl⟩

set_option maxHeartbeats 1000000 in
theorem logheadPuts_walk (g q a : Int) (w : World) (hE : Env10 w) :
    Calls Tryd.prog 3 #[.agg #[.int .i64 g, .int .i64 q, .int .i64 a]] w fun e w' => e = .returned (.bool true) ∧ Below w.heap.size w w' := by
  have C1 := Lib.hid (fun x => put10_any g q a x)
  have C2 := Lib.hid (fun x => rput10_any g q a x)
  obtain ⟨s, x, hp⟩ := hput_is ⟨g, q, a⟩
  rw [hp] at C1 C2
  clear hp
  have e1 := str_eq_self s
  have HX := Lib.hid (B3.new w 23 g q a)
  have HB := Lib.hid (below1 w (.cells #[.int .i64 g, .int .i64 q, .int .i64 a] 23))
  have HE := Lib.hid (hE.below HB.out)
  clear hE
  go_enter Tryd.func3, Tryd.ntmps3
  go_wp2_with fail
  refine (works_any _ HE.out).mono ?_
  rintro e w1 ⟨rfl, hb1⟩
  have HX1 := Lib.hid (HX.out.below hb1 HX.out.lt)
  have HB1 := Lib.hid (HB.out.trans (hb1.mono HB.out.size))
  clear hb1 HX HB HE
  obtain ⟨c0, c1, c2⟩ := HX1.out.cells
  go_wp2_with fail
  refine (own10_any _ _ _ _).mono ?_
  rintro e w2 ⟨rfl, hb2⟩
  have HX2 := Lib.hid (HX1.out.below hb2 HX1.out.lt)
  have HB2 := Lib.hid (HB1.out.trans (hb2.mono HB1.out.size))
  clear hb2 HX1 HB1 c0 c1 c2
  go_wp2_with fail
  refine (C1.out _).mono ?_
  rintro e w3 ⟨rfl, hb3⟩
  have HX3 := Lib.hid (HX2.out.below hb3 HX2.out.lt)
  have HB3 := Lib.hid (HB2.out.trans (hb3.mono HB2.out.size))
  clear hb3 HX2 HB2
  obtain ⟨c0, c1, c2⟩ := HX3.out.cells
  go_wp2_with fail
  refine (C2.out _).mono ?_
  rintro e w4 ⟨rfl, hb4⟩
  have HB4 := Lib.hid (HB3.out.trans (hb4.mono HB3.out.size))
  clear hb4 HX3 HB3 c0 c1 c2
  go_wp2_with fail
  go_ret
  exact ⟨rfl, HB4.out⟩
end Go.Proofs.YtdegfkhbcgnmmaaDoor
