/-
  Walk over LogheadBack.
-/
import Derived.Test.YtdegfkhbcgnmmaaDoorJWorks
import Derived.RegionTactic
import Derived.ChangeAlike
import Derived.BigRegion
import Derived.StillTailTactics
namespace Go.Proofs.YtdegfkhbcgnmmaaDoor
open Go.RowKit Go.ChangeShapes Go.WideShapes Go.ChangeAt Go.Deep

theorem RowU.below {w w' : World} {g B : Nat} {l : List UInt8} (h : RowU w g l) (hb : Below B w w') (hg : g < B) : RowU w' g l := by
  obtain ⟨cs, z, h, h1⟩ := h
  exact ⟨cs, z, (hb.block g hg).trans h, h1⟩
theorem RowU.back {w : World} {g : Nat} {l : List UInt8} (h : RowU w g l) (n cap : Nat) (hn : l.length = n) (bs : ByteArray) (hbs : bs = ⟨l.toArray⟩) :
    Sem.run Tryd.prog (convert 40 9 (.slice (some ⟨g, 0, none⟩) n cap)) w = .ok (.string bs) w := by
  subst hn hbs
  exact run_convert_bytes_back (P := Tryd.prog) w 40 9 5 ⟨g, 0, none⟩ cap l Tryd.underlying40 Tryd.underlying5 Tryd.underlying9 (fun j hj => by
    rw [blk_add]
    exact h.cell j hj)

set_option maxHeartbeats 2000000 in
theorem back10_no (g q a g' q' a' : Int) (n : Int) (d0 d1 d2 d3 : UInt8) (w : World) (hE : Env10 w) (hm : ¬ M.hmay ⟨g, q, a⟩ = true) :
    Calls Tryd.prog 5 #[.agg #[.int .i64 g, .int .i64 q, .int .i64 a], .agg #[.int .i64 g', .int .i64 q', .int .i64 a'], .int .i64 n, .agg #[.int .u8 (d0.toNat : Int), .int .u8 (d1.toNat : Int), .int .u8 (d2.toNat : Int), .int .u8 (d3.toNat : Int)]] w fun e w' => e = .returned (.bool true) ∧ Below w.heap.size w w' := by
  have C1 := Lib.hid (fun x => put10_any g q a x)
  have C2 := Lib.hid (fun x => put10_any g' q' a' x)
  have e1 : M.hput ⟨g, q, a⟩ = .tuple #[.string ⟨#[]⟩, .int .i64 3] := if_neg hm
  rw [e1] at C1
  obtain ⟨t, f, hp⟩ := hput_is ⟨g', q', a'⟩
  rw [hp] at C2
  clear e1 hp hm
  obtain ⟨ds, hds⟩ : ∃ ds : Array Value, ds = #[.int .u8 (d0.toNat : Int), .int .u8 (d1.toNat : Int), .int .u8 (d2.toNat : Int), .int .u8 (d3.toNat : Int)] := ⟨_, rfl⟩
  have HF : Hid (∀ i, i < 4 → ∃ d : UInt8, ds[i]? = some (.int .u8 (d.toNat : Int))) := by show ∀ _, _; rw [hds]; exact four_at d0 d1 d2 d3
  have HX := Lib.hid ((((B3.new w 23 g q a).below (below1 _ (.cells #[.int .i64 g', .int .i64 q', .int .i64 a'] 23)) (B3.new w 23 g q a).lt).below (below1 _ (.cells ds 39)) (((B3.new w 23 g q a).below (below1 _ (.cells #[.int .i64 g', .int .i64 q', .int .i64 a'] 23)) (B3.new w 23 g q a).lt).lt)))
  have HY := Lib.hid ((B3.new (w.alloc (.cells #[.int .i64 g, .int .i64 q, .int .i64 a] 23)) 23 g' q' a').below (below1 _ (.cells ds 39)) (B3.new (w.alloc (.cells #[.int .i64 g, .int .i64 q, .int .i64 a] 23)) 23 g' q' a').lt)
  have HD := Lib.hid (Box.new ((w.alloc (.cells #[.int .i64 g, .int .i64 q, .int .i64 a] 23)).alloc (.cells #[.int .i64 g', .int .i64 q', .int .i64 a'] 23)) 39 ds)
  have HB := Lib.hid ((below2a w (.cells #[.int .i64 g, .int .i64 q, .int .i64 a] 23) (.cells #[.int .i64 g', .int .i64 q', .int .i64 a'] 23)).alloc (below2a w (.cells #[.int .i64 g, .int .i64 q, .int .i64 a] 23) (.cells #[.int .i64 g', .int .i64 q', .int .i64 a'] 23)).size (.cells ds 39))
  have HE := Lib.hid (hE.below HB.out)
  rw [World.size_alloc] at HY
  rw [World.size_alloc, World.size_alloc] at HD
  obtain ⟨w0, hw0⟩ : ∃ x, x = ((w.alloc (.cells #[.int .i64 g, .int .i64 q, .int .i64 a] 23)).alloc (.cells #[.int .i64 g', .int .i64 q', .int .i64 a'] 23)).alloc (.cells ds 39) := ⟨_, rfl⟩
  rw [← hw0] at HX HY HD HB HE
  rw [hds] at hw0
  have HW0 := Lib.hid hw0
  clear hw0 hE
  obtain ⟨b4, hb4⟩ : ∃ x, x = w.heap.size := ⟨_, rfl⟩
  obtain ⟨b5, hb5⟩ : ∃ x, x = w.heap.size + 1 := ⟨_, rfl⟩
  obtain ⟨b7, hb7⟩ : ∃ x, x = w.heap.size + 1 + 1 := ⟨_, rfl⟩
  rw [← hb4] at HX
  rw [← hb5] at HY
  rw [← hb7] at HD
  have HB4 := Lib.hid hb4
  have HB5 := Lib.hid hb5
  have HB7 := Lib.hid hb7
  clear hb4 hb5 hb7
  clear hds
  go_enter Tryd.func5, Tryd.ntmps5
  go_wp2_with fail
  rw [← HW0.out, ← HB7.out, ← HB5.out, ← HB4.out]
  refine (works_any w0 HE.out).mono ?_
  rintro e w1 ⟨rfl, hb1⟩
  have HX1 := Lib.hid (HX.out.below hb1 HX.out.lt)
  have HY1 := Lib.hid (HY.out.below hb1 HY.out.lt)
  have HD1 := Lib.hid (HD.out.below hb1 HD.out.lt)
  have HB1 := Lib.hid (HB.out.trans (hb1.mono HB.out.size))
  have HE1 := Lib.hid (HE.out.below hb1)
  clear hb1 HX HY HD HB HE
  obtain ⟨c0, c1, c2⟩ := HX1.out.cells
  go_wp2_with fail
  refine (own10_any _ _ _ _).mono ?_
  rintro e w2 ⟨rfl, hb2⟩
  have HX2 := Lib.hid (HX1.out.below hb2 HX1.out.lt)
  have HY2 := Lib.hid (HY1.out.below hb2 HY1.out.lt)
  have HD2 := Lib.hid (HD1.out.below hb2 HD1.out.lt)
  have HB2 := Lib.hid (HB1.out.trans (hb2.mono HB1.out.size))
  have HE2 := Lib.hid (HE1.out.below hb2)
  clear hb2 HX1 HY1 HD1 HB1 HE1 c0 c1 c2
  go_wp2_with fail
  refine (C1.out _).mono ?_
  rintro e w3 ⟨rfl, hb3⟩
  have HX3 := Lib.hid (HX2.out.below hb3 HX2.out.lt)
  have HY3 := Lib.hid (HY2.out.below hb3 HY2.out.lt)
  have HD3 := Lib.hid (HD2.out.below hb3 HD2.out.lt)
  have HB3 := Lib.hid (HB2.out.trans (hb3.mono HB2.out.size))
  have HE3 := Lib.hid (HE2.out.below hb3)
  clear hb3 HX2 HY2 HD2 HB2 HE2
  obtain ⟨c0, c1, c2⟩ := HY3.out.cells
  go_wp2_with fail
  refine (own10_any _ _ _ _).mono ?_
  rintro e w4 ⟨rfl, hb4⟩
  have HX4 := Lib.hid (HX3.out.below hb4 HX3.out.lt)
  have HY4 := Lib.hid (HY3.out.below hb4 HY3.out.lt)
  have HD4 := Lib.hid (HD3.out.below hb4 HD3.out.lt)
  have HBw4 := Lib.hid (HB3.out.trans (hb4.mono HB3.out.size))
  have HE4 := Lib.hid (HE3.out.below hb4)
  clear hb4 HX3 HY3 HD3 HB3 HE3 c0 c1 c2
  go_wp2_with fail
  refine (C2.out _).mono ?_
  rintro e w5 ⟨rfl, hb5⟩
  have HX5 := Lib.hid (HX4.out.below hb5 HX4.out.lt)
  have HY5 := Lib.hid (HY4.out.below hb5 HY4.out.lt)
  have HD5 := Lib.hid (HD4.out.below hb5 HD4.out.lt)
  have HBw5 := Lib.hid (HBw4.out.trans (hb5.mono HBw4.out.size))
  have HE5 := Lib.hid (HE4.out.below hb5)
  clear hb5 HX4 HY4 HD4 HBw4 HE4
  go_wp2_with fail
  go_ret
  exact ⟨rfl, HBw5.out⟩

set_option maxHeartbeats 2000000 in
theorem back10_not (g q a g' q' a' : Int) (n : Int) (d0 d1 d2 d3 : UInt8) (w : World) (hE : Env10 w) (hm : M.hmay ⟨g, q, a⟩ = true) (hm' : ¬ M.hmay ⟨g', q', a'⟩ = true) :
    Calls Tryd.prog 5 #[.agg #[.int .i64 g, .int .i64 q, .int .i64 a], .agg #[.int .i64 g', .int .i64 q', .int .i64 a'], .int .i64 n, .agg #[.int .u8 (d0.toNat : Int), .int .u8 (d1.toNat : Int), .int .u8 (d2.toNat : Int), .int .u8 (d3.toNat : Int)]] w fun e w' => e = .returned (.bool true) ∧ Below w.heap.size w w' := by
  have C1 := Lib.hid (fun x => put10_any g q a x)
  have C2 := Lib.hid (fun x => put10_any g' q' a' x)
  have e1 : M.hput ⟨g, q, a⟩ = .tuple #[.string (M.hwhole ⟨g, q, a⟩), .int .i64 0] := if_pos hm
  rw [e1] at C1
  have e2 : M.hput ⟨g', q', a'⟩ = .tuple #[.string ⟨#[]⟩, .int .i64 3] := if_neg hm'
  rw [e2] at C2
  obtain ⟨s, hs⟩ : ∃ x, x = M.hwhole ⟨g, q, a⟩ := ⟨_, rfl⟩
  rw [← hs] at C1
  clear e1 e2 hs hm hm'
  obtain ⟨ds, hds⟩ : ∃ ds : Array Value, ds = #[.int .u8 (d0.toNat : Int), .int .u8 (d1.toNat : Int), .int .u8 (d2.toNat : Int), .int .u8 (d3.toNat : Int)] := ⟨_, rfl⟩
  have HF : Hid (∀ i, i < 4 → ∃ d : UInt8, ds[i]? = some (.int .u8 (d.toNat : Int))) := by show ∀ _, _; rw [hds]; exact four_at d0 d1 d2 d3
  have HX := Lib.hid ((((B3.new w 23 g q a).below (below1 _ (.cells #[.int .i64 g', .int .i64 q', .int .i64 a'] 23)) (B3.new w 23 g q a).lt).below (below1 _ (.cells ds 39)) (((B3.new w 23 g q a).below (below1 _ (.cells #[.int .i64 g', .int .i64 q', .int .i64 a'] 23)) (B3.new w 23 g q a).lt).lt)))
  have HY := Lib.hid ((B3.new (w.alloc (.cells #[.int .i64 g, .int .i64 q, .int .i64 a] 23)) 23 g' q' a').below (below1 _ (.cells ds 39)) (B3.new (w.alloc (.cells #[.int .i64 g, .int .i64 q, .int .i64 a] 23)) 23 g' q' a').lt)
  have HD := Lib.hid (Box.new ((w.alloc (.cells #[.int .i64 g, .int .i64 q, .int .i64 a] 23)).alloc (.cells #[.int .i64 g', .int .i64 q', .int .i64 a'] 23)) 39 ds)
  have HB := Lib.hid ((below2a w (.cells #[.int .i64 g, .int .i64 q, .int .i64 a] 23) (.cells #[.int .i64 g', .int .i64 q', .int .i64 a'] 23)).alloc (below2a w (.cells #[.int .i64 g, .int .i64 q, .int .i64 a] 23) (.cells #[.int .i64 g', .int .i64 q', .int .i64 a'] 23)).size (.cells ds 39))
  have HE := Lib.hid (hE.below HB.out)
  rw [World.size_alloc] at HY
  rw [World.size_alloc, World.size_alloc] at HD
  obtain ⟨w0, hw0⟩ : ∃ x, x = ((w.alloc (.cells #[.int .i64 g, .int .i64 q, .int .i64 a] 23)).alloc (.cells #[.int .i64 g', .int .i64 q', .int .i64 a'] 23)).alloc (.cells ds 39) := ⟨_, rfl⟩
  rw [← hw0] at HX HY HD HB HE
  rw [hds] at hw0
  have HW0 := Lib.hid hw0
  clear hw0 hE
  obtain ⟨b4, hb4⟩ : ∃ x, x = w.heap.size := ⟨_, rfl⟩
  obtain ⟨b5, hb5⟩ : ∃ x, x = w.heap.size + 1 := ⟨_, rfl⟩
  obtain ⟨b7, hb7⟩ : ∃ x, x = w.heap.size + 1 + 1 := ⟨_, rfl⟩
  rw [← hb4] at HX
  rw [← hb5] at HY
  rw [← hb7] at HD
  have HB4 := Lib.hid hb4
  have HB5 := Lib.hid hb5
  have HB7 := Lib.hid hb7
  clear hb4 hb5 hb7
  clear hds
  go_enter Tryd.func5, Tryd.ntmps5
  go_wp2_with fail
  rw [← HW0.out, ← HB7.out, ← HB5.out, ← HB4.out]
  refine (works_any w0 HE.out).mono ?_
  rintro e w1 ⟨rfl, hb1⟩
  have HX1 := Lib.hid (HX.out.below hb1 HX.out.lt)
  have HY1 := Lib.hid (HY.out.below hb1 HY.out.lt)
  have HD1 := Lib.hid (HD.out.below hb1 HD.out.lt)
  have HB1 := Lib.hid (HB.out.trans (hb1.mono HB.out.size))
  have HE1 := Lib.hid (HE.out.below hb1)
  clear hb1 HX HY HD HB HE
  obtain ⟨c0, c1, c2⟩ := HX1.out.cells
  go_wp2_with fail
  refine (own10_any _ _ _ _).mono ?_
  rintro e w2 ⟨rfl, hb2⟩
  have HX2 := Lib.hid (HX1.out.below hb2 HX1.out.lt)
  have HY2 := Lib.hid (HY1.out.below hb2 HY1.out.lt)
  have HD2 := Lib.hid (HD1.out.below hb2 HD1.out.lt)
  have HB2 := Lib.hid (HB1.out.trans (hb2.mono HB1.out.size))
  have HE2 := Lib.hid (HE1.out.below hb2)
  clear hb2 HX1 HY1 HD1 HB1 HE1 c0 c1 c2
  go_wp2_with fail
  refine (C1.out _).mono ?_
  rintro e w3 ⟨rfl, hb3⟩
  have HX3 := Lib.hid (HX2.out.below hb3 HX2.out.lt)
  have HY3 := Lib.hid (HY2.out.below hb3 HY2.out.lt)
  have HD3 := Lib.hid (HD2.out.below hb3 HD2.out.lt)
  have HB3 := Lib.hid (HB2.out.trans (hb3.mono HB2.out.size))
  have HE3 := Lib.hid (HE2.out.below hb3)
  clear hb3 HX2 HY2 HD2 HB2 HE2
  obtain ⟨c0, c1, c2⟩ := HY3.out.cells
  go_wp2_with fail
  refine (own10_any _ _ _ _).mono ?_
  rintro e w4 ⟨rfl, hb4⟩
  have HX4 := Lib.hid (HX3.out.below hb4 HX3.out.lt)
  have HY4 := Lib.hid (HY3.out.below hb4 HY3.out.lt)
  have HD4 := Lib.hid (HD3.out.below hb4 HD3.out.lt)
  have HBw4 := Lib.hid (HB3.out.trans (hb4.mono HB3.out.size))
  have HE4 := Lib.hid (HE3.out.below hb4)
  clear hb4 HX3 HY3 HD3 HB3 HE3 c0 c1 c2
  go_wp2_with fail
  refine (C2.out _).mono ?_
  rintro e w5 ⟨rfl, hb5⟩
  have HX5 := Lib.hid (HX4.out.below hb5 HX4.out.lt)
  have HY5 := Lib.hid (HY4.out.below hb5 HY4.out.lt)
  have HD5 := Lib.hid (HD4.out.below hb5 HD4.out.lt)
  have HBw5 := Lib.hid (HBw4.out.trans (hb5.mono HBw4.out.size))
  have HE5 := Lib.hid (HE4.out.below hb5)
  clear hb5 HX4 HY4 HD4 HBw4 HE4
  go_wp2_with fail
  go_ret
  exact ⟨rfl, HBw5.out⟩

/-- What stands at the loop's head: the bytes turned so far, the four, the two heads. -/
def Tn10 (w : World) (G c b4 b5 k : Nat) (l : List UInt8) (ds : Array Value) (g q a g' q' a' : Int) (j : Value) (wr : World) : Prop :=
  ∃ (i : Nat) (b : List UInt8), i ≤ 4 ∧ j = .int .i64 i ∧ RowU wr G b ∧ Near k l b ∧ Box wr c 39 ds ∧ B3 wr b4 23 g q a ∧ B3 wr b5 23 g' q' a' ∧ Below w.heap.size w wr ∧ Env10 wr

theorem M.hnewer_no {b t : ByteArray} {h : M.Hd} (h1 : (M.hget b).2 ≠ 0) (h2 : M.hget t = (h, 0)) : M.hnewer b t = (h, 0) := by
  unfold M.hnewer
  rw [h2, if_neg (fun e => e.2 rfl), if_pos (Or.inl h1)]
theorem M.hnewer_yes {b t : ByteArray} {h h' : M.Hd} (h1 : M.hget b = (h', 0)) (h2 : M.hget t = (h, 0)) : ∃ x, M.hnewer b t = (x, 0) := by
  unfold M.hnewer
  rw [h2, h1, if_neg (fun e => e.2 rfl)]
  split
  · exact ⟨_, rfl⟩
  · exact ⟨_, rfl⟩

set_option maxRecDepth 100000 in
set_option maxHeartbeats 4000000 in
theorem back10_yes (g q a g' q' a' : Int) (n : Int) (d0 d1 d2 d3 : UInt8) (w : World) (hE : Env10 w) (hm : M.hmay ⟨g, q, a⟩ = true) (hm' : M.hmay ⟨g', q', a'⟩ = true) :
    Calls Tryd.prog 5 #[.agg #[.int .i64 g, .int .i64 q, .int .i64 a], .agg #[.int .i64 g', .int .i64 q', .int .i64 a'], .int .i64 n, .agg #[.int .u8 (d0.toNat : Int), .int .u8 (d1.toNat : Int), .int .u8 (d2.toNat : Int), .int .u8 (d3.toNat : Int)]] w fun e w' => e = .returned (.bool true) ∧ Below w.heap.size w w' := by
  have C1 := Lib.hid (fun x => put10_any g q a x)
  have C2 := Lib.hid (fun x => put10_any g' q' a' x)
  have e1 : M.hput ⟨g, q, a⟩ = .tuple #[.string (M.hwhole ⟨g, q, a⟩), .int .i64 0] := if_pos hm
  rw [e1] at C1
  have e2 : M.hput ⟨g', q', a'⟩ = .tuple #[.string (M.hwhole ⟨g', q', a'⟩), .int .i64 0] := if_pos hm'
  rw [e2] at C2
  have hsz := M.hwhole_size ⟨g, q, a⟩
  have HT : Hid (∀ j l bs, bs = ⟨l.toArray⟩ → Near j (M.hwhole ⟨g, q, a⟩).data.toList l → (M.hget bs).2 = 0 → bs = M.hwhole ⟨g, q, a⟩) := fun j l bs h1 h2 h3 => M.hturned ⟨g, q, a⟩ j l bs h1 h2 h3
  have HG : Hid (M.hget (M.hwhole ⟨g, q, a⟩) = (⟨g, q, a⟩, 0)) := M.hget_whole _ hm
  have HG' : Hid (M.hget (M.hwhole ⟨g', q', a'⟩) = (⟨g', q', a'⟩, 0)) := M.hget_whole _ hm'
  obtain ⟨s, hs⟩ : ∃ x, x = M.hwhole ⟨g, q, a⟩ := ⟨_, rfl⟩
  obtain ⟨t, ht⟩ : ∃ x, x = M.hwhole ⟨g', q', a'⟩ := ⟨_, rfl⟩
  rw [← hs] at C1 HT HG hsz
  rw [← ht] at C2 HG'
  clear e1 e2 hs ht hm hm'
  have hs0 : 0 < s.size := by omega
  have hs3 : s.size ≤ 3000 := by omega
  have hd64 : ((s.size : Int) == 64) = true := by rw [beq_iff_eq]; omega
  have hd64' : ((s.size : Int) != 64) = false := by rw [bne, hd64]; rfl
  clear hsz
  obtain ⟨k, hkm, hkk⟩ := k_of n s.size hs0 hs3
  obtain ⟨ds, hds⟩ : ∃ ds : Array Value, ds = #[.int .u8 (d0.toNat : Int), .int .u8 (d1.toNat : Int), .int .u8 (d2.toNat : Int), .int .u8 (d3.toNat : Int)] := ⟨_, rfl⟩
  have HF : Hid (∀ i, i < 4 → ∃ d : UInt8, ds[i]? = some (.int .u8 (d.toNat : Int))) := by show ∀ _, _; rw [hds]; exact four_at d0 d1 d2 d3
  have HX := Lib.hid ((((B3.new w 23 g q a).below (below1 _ (.cells #[.int .i64 g', .int .i64 q', .int .i64 a'] 23)) (B3.new w 23 g q a).lt).below (below1 _ (.cells ds 39)) (((B3.new w 23 g q a).below (below1 _ (.cells #[.int .i64 g', .int .i64 q', .int .i64 a'] 23)) (B3.new w 23 g q a).lt).lt)))
  have HY := Lib.hid ((B3.new (w.alloc (.cells #[.int .i64 g, .int .i64 q, .int .i64 a] 23)) 23 g' q' a').below (below1 _ (.cells ds 39)) (B3.new (w.alloc (.cells #[.int .i64 g, .int .i64 q, .int .i64 a] 23)) 23 g' q' a').lt)
  have HD := Lib.hid (Box.new ((w.alloc (.cells #[.int .i64 g, .int .i64 q, .int .i64 a] 23)).alloc (.cells #[.int .i64 g', .int .i64 q', .int .i64 a'] 23)) 39 ds)
  have HB := Lib.hid ((below2a w (.cells #[.int .i64 g, .int .i64 q, .int .i64 a] 23) (.cells #[.int .i64 g', .int .i64 q', .int .i64 a'] 23)).alloc (below2a w (.cells #[.int .i64 g, .int .i64 q, .int .i64 a] 23) (.cells #[.int .i64 g', .int .i64 q', .int .i64 a'] 23)).size (.cells ds 39))
  have HE := Lib.hid (hE.below HB.out)
  rw [World.size_alloc] at HY
  rw [World.size_alloc, World.size_alloc] at HD
  obtain ⟨w0, hw0⟩ : ∃ x, x = ((w.alloc (.cells #[.int .i64 g, .int .i64 q, .int .i64 a] 23)).alloc (.cells #[.int .i64 g', .int .i64 q', .int .i64 a'] 23)).alloc (.cells ds 39) := ⟨_, rfl⟩
  rw [← hw0] at HX HY HD HB HE
  rw [hds] at hw0
  have HW0 := Lib.hid hw0
  clear hw0 hE
  obtain ⟨b4, hb4⟩ : ∃ x, x = w.heap.size := ⟨_, rfl⟩
  obtain ⟨b5, hb5⟩ : ∃ x, x = w.heap.size + 1 := ⟨_, rfl⟩
  obtain ⟨b7, hb7⟩ : ∃ x, x = w.heap.size + 1 + 1 := ⟨_, rfl⟩
  rw [← hb4] at HX
  rw [← hb5] at HY
  rw [← hb7] at HD
  have HB4 := Lib.hid hb4
  have HB5 := Lib.hid hb5
  have HB7 := Lib.hid hb7
  clear hb4 hb5 hb7
  clear hds
  go_enter Tryd.func5, Tryd.ntmps5
  go_wp2_with fail
  rw [← HW0.out, ← HB7.out, ← HB5.out, ← HB4.out]
  refine (works_any w0 HE.out).mono ?_
  rintro e w1 ⟨rfl, hb1⟩
  have HX1 := Lib.hid (HX.out.below hb1 HX.out.lt)
  have HY1 := Lib.hid (HY.out.below hb1 HY.out.lt)
  have HD1 := Lib.hid (HD.out.below hb1 HD.out.lt)
  have HB1 := Lib.hid (HB.out.trans (hb1.mono HB.out.size))
  have HE1 := Lib.hid (HE.out.below hb1)
  clear hb1 HX HY HD HB HE
  obtain ⟨c0, c1, c2⟩ := HX1.out.cells
  go_wp2_with fail
  refine (own10_any _ _ _ _).mono ?_
  rintro e w2 ⟨rfl, hb2⟩
  have HX2 := Lib.hid (HX1.out.below hb2 HX1.out.lt)
  have HY2 := Lib.hid (HY1.out.below hb2 HY1.out.lt)
  have HD2 := Lib.hid (HD1.out.below hb2 HD1.out.lt)
  have HB2 := Lib.hid (HB1.out.trans (hb2.mono HB1.out.size))
  have HE2 := Lib.hid (HE1.out.below hb2)
  clear hb2 HX1 HY1 HD1 HB1 HE1 c0 c1 c2
  go_wp2_with fail
  refine (C1.out _).mono ?_
  rintro e w3 ⟨rfl, hb3⟩
  have HX3 := Lib.hid (HX2.out.below hb3 HX2.out.lt)
  have HY3 := Lib.hid (HY2.out.below hb3 HY2.out.lt)
  have HD3 := Lib.hid (HD2.out.below hb3 HD2.out.lt)
  have HB3 := Lib.hid (HB2.out.trans (hb3.mono HB2.out.size))
  have HE3 := Lib.hid (HE2.out.below hb3)
  clear hb3 HX2 HY2 HD2 HB2 HE2
  obtain ⟨c0, c1, c2⟩ := HY3.out.cells
  go_wp2_with fail
  refine (own10_any _ _ _ _).mono ?_
  rintro e w4 ⟨rfl, hb4⟩
  have HX4 := Lib.hid (HX3.out.below hb4 HX3.out.lt)
  have HY4 := Lib.hid (HY3.out.below hb4 HY3.out.lt)
  have HD4 := Lib.hid (HD3.out.below hb4 HD3.out.lt)
  have HBw4 := Lib.hid (HB3.out.trans (hb4.mono HB3.out.size))
  have HE4 := Lib.hid (HE3.out.below hb4)
  clear hb4 HX3 HY3 HD3 HB3 HE3 c0 c1 c2
  go_wp2_with fail
  refine (C2.out _).mono ?_
  rintro e w5 ⟨rfl, hb5⟩
  have HX5 := Lib.hid (HX4.out.below hb5 HX4.out.lt)
  have HY5 := Lib.hid (HY4.out.below hb5 HY4.out.lt)
  have HD5 := Lib.hid (HD4.out.below hb5 HD4.out.lt)
  have HBw5 := Lib.hid (HBw4.out.trans (hb5.mono HBw4.out.size))
  have HE5 := Lib.hid (HE4.out.below hb5)
  clear hb5 HX4 HY4 HD4 HBw4 HE4
  have hcv := run_bytes_of_string (P := Tryd.prog) w5 9 40 5 s Tryd.underlying9 Tryd.underlying40 Tryd.underlying5
  obtain ⟨cap, hcap⟩ : ∃ x, x = grownCap w5 s.size 0 5 := ⟨_, rfl⟩
  rw [← hcap] at hcv
  clear hcap
  obtain ⟨w6, hw6⟩ : ∃ x, x = w5.drew.alloc (.cells (bytesRow s cap) 5 ((bytesRow s cap).size, (bytesRow s cap).size + 1)) := ⟨_, rfl⟩
  rw [← hw6] at hcv
  have hb6 : Below w5.heap.size w5 w6 := by rw [hw6]; exact (Below.refl _ _).drew.alloc (Nat.le_refl _) _
  have HR6 : Hid (RowU w6 w5.heap.size s.data.toList) := by show RowU _ _ _; rw [hw6]; exact row_new w5 s cap
  have HX6 := Lib.hid (HX5.out.below hb6 HX5.out.lt)
  have HY6 := Lib.hid (HY5.out.below hb6 HY5.out.lt)
  have HD6 := Lib.hid (HD5.out.below hb6 HD5.out.lt)
  have HBw6 := Lib.hid (HBw5.out.trans (hb6.mono HBw5.out.size))
  have HE6 := Lib.hid (HE5.out.below hb6)
  have HZ : Hid (b4 < w5.heap.size ∧ b5 < w5.heap.size ∧ b7 < w5.heap.size ∧ w.heap.size ≤ w5.heap.size ∧ 0 < w5.heap.size) := ⟨HX5.out.lt, HY5.out.lt, HD5.out.lt, HBw5.out.size, Nat.lt_of_le_of_lt (Nat.zero_le _) HX5.out.lt⟩
  clear hw6 hb6 HX5 HY5 HD5 HBw5 HE5
  obtain ⟨G, hG⟩ : ∃ x, x = w5.heap.size := ⟨_, rfl⟩
  rw [← hG] at hcv HR6 HZ
  clear hG
  go_wp2_with fail
  rw [hkk]
  clear hkk hcv
  go_loopw [15] (fun j wr => Tn10 w G b7 b4 b5 k s.data.toList ds g q a g' q' a' j wr) (fun j _ => 4 - (intOf j).toNat)
  case atStart => exact ⟨0, s.data.toList, Nat.zero_le _, rfl, HR6.out, Near.refl _ _, HD6.out, HX6.out, HY6.out, HBw6.out, HE6.out⟩
  case round =>
    clear HR6 HX6 HY6 HD6 HBw6 HE6
    obtain ⟨i, bl, hi, rfl, hR, hN, hB, hX, hY, hL, hE⟩ := hrel
    have hbl : bl.length = s.size := hN.1
    have HX := Lib.hid hX
    have HY := Lib.hid hY
    have HE := Lib.hid hE
    clear hX hY hE
    by_cases hgo : i < 4 ∧ k + i < s.size
    · obtain ⟨h4, hki⟩ := hgo
      have hd4 : decide ((i : Int) < 4) = true := by simp; omega
      obtain ⟨m, hm⟩ : ∃ m, m = k + i := ⟨_, rfl⟩
      have hmi : (k : Int) + (i : Int) = (m : Int) := by omega
      have hc0 := hR.cell m (by omega)
      have hfz := hR.frozen m (by omega)
      obtain ⟨d, hd⟩ := HF.out i h4
      have hc1 := hB.cell i
      rw [hd] at hc1
      have HR := Lib.hid (hR.set m (bl[m]'(by omega) ^^^ d))
      obtain ⟨x, hx⟩ : ∃ x, x = bl[m]'(by omega) := ⟨_, rfl⟩
      rw [← hx] at hc0 HR
      have ht := u8_turn x d
      have HN := Lib.hid (hN.set i h4 (x ^^^ d))
      rw [← hm] at HN
      have HB := Lib.hid hB
      have HL := Lib.hid hL
      have hm1 : (m : Int) < (s.size : Int) := by omega
      have hm2 : m < s.size := by omega
      clear hx hd hR hN hB hL hm hki hbl
      have hi0 : (0 : Int) ≤ (i : Int) := by omega
      have hi4 : (i : Int) < 4 := by omega
      have hm0 : (0 : Int) ≤ (m : Int) := by omega
      have hwm : IntKind.i64.wrap (m : Int) = (m : Int) := by simp [IntKind.wrap, IntKind.bits, IntKind.signed]; omega
      go_wp2_with fail
      go_still_tail 15, (by kernel_rfl)
      change wpList _ _ _ _ _ wr.drew
      obtain ⟨v5, hv5⟩ : ∃ x, x = wr.drew := ⟨_, rfl⟩
      have hfz3 : v5.frozen? ⟨G, m, none⟩ = false := by rw [hv5]; exact hfz
      have hc3 : v5.cell? ⟨G, m, none⟩ = some (.int .u8 (x.toNat : Int)) := by rw [hv5]; exact hc0
      have hgr : v5.grownBy (v5.setCell ⟨G, m, none⟩ (.int .u8 ((x ^^^ d).toNat : Int))) (some G) := grown_set _ _ _ _
      have HR5 : Hid (RowU (v5.setCell ⟨G, m, none⟩ (.int .u8 ((x ^^^ d).toNat : Int))) G (bl.set m (x ^^^ d))) := by show RowU _ _ _; rw [hv5]; exact HR.out
      have HB5 : Hid (Box (v5.setCell ⟨G, m, none⟩ (.int .u8 ((x ^^^ d).toNat : Int))) b7 39 ds) := (show Box v5 b7 39 ds by rw [hv5]; exact HB.out).kept hgr (by have := HZ.out; omega)
      have HX5 : Hid (B3 (v5.setCell ⟨G, m, none⟩ (.int .u8 ((x ^^^ d).toNat : Int))) b4 23 g q a) := Box.kept (show B3 v5 b4 23 g q a by rw [hv5]; exact HX.out) hgr (by have := HZ.out; omega)
      have HY5 : Hid (B3 (v5.setCell ⟨G, m, none⟩ (.int .u8 ((x ^^^ d).toNat : Int))) b5 23 g' q' a') := Box.kept (show B3 v5 b5 23 g' q' a' by rw [hv5]; exact HY.out) hgr (by have := HZ.out; omega)
      have hv6 : Below w.heap.size w v5 := by rw [hv5]; exact HL.out.drew
      have HL5 : Hid (Below w.heap.size w (v5.setCell ⟨G, m, none⟩ (.int .u8 ((x ^^^ d).toNat : Int)))) := below_by hv6 hgr (by have := HZ.out; omega) hv6.size
      have HE5 : Hid (Env10 (v5.setCell ⟨G, m, none⟩ (.int .u8 ((x ^^^ d).toNat : Int)))) := (show Env10 v5 by rw [hv5]; exact HE.out).grown hgr (by have := HZ.out; omega)
      rw [← hv5]
      clear hv5 HR HB HL HX HY HE hc0 hc1 hfz hgr hv6
      go_wp2_with fail
      go_roundw
      case rel => exact ⟨i + 1, bl.set m (x ^^^ d), by omega, by go_num, HR5.out, HN.out, HB5.out, HX5.out, HY5.out, HL5.out, HE5.out⟩
      case measure => simp [intOf]; omega
    · have hex : decide ((i : Int) < 4) = false ∨ (decide ((i : Int) < 4) = true ∧ decide ((k : Int) + (i : Int) < (s.size : Int)) = false) := by
        by_cases h4 : i < 4
        · exact Or.inr ⟨by simp; omega, by simp; omega⟩
        · exact Or.inl (by simp; omega)
      clear hgo
      obtain ⟨bs, hbs⟩ : ∃ x : ByteArray, x = ⟨bl.toArray⟩ := ⟨_, rfl⟩
      have HR := Lib.hid hR
      have HB := Lib.hid hB
      have HL := Lib.hid hL
      have HBL := Lib.hid hbl
      have HBS := Lib.hid hbs
      have HSame : Hid ((bs = s ∧ (M.hget bs).2 = 0 ∧ ∃ v, M.hnewer bs t = (v, 0)) ∨ (¬ bs = s ∧ (M.hget bs).2 ≠ 0 ∧ M.hnewer bs t = (⟨g', q', a'⟩, 0))) := by
        show _ ∨ _
        by_cases e : bs = s
        · exact Or.inl ⟨e, by rw [e, HG.out], M.hnewer_yes (by rw [e]; exact HG.out) HG'.out⟩
        · have hne : (M.hget bs).2 ≠ 0 := fun h => e (HT.out k bl bs hbs hN h)
          exact Or.inr ⟨e, hne, M.hnewer_no hne HG'.out⟩
      clear hR hB hL hN hbl hbs
      have C3 := Lib.hid (fun w => get10_any s w)
      rw [HG.out] at C3
      have C4 := Lib.hid (fun w => get10_any bs w)
      have C5 := Lib.hid (fun w hE => newer10_any bs t w hE)
      unfold M.hgot at C3 C4 C5
      obtain ⟨⟨⟨u1, u2, u3⟩, m⟩, hu⟩ : ∃ x, x = M.hget bs := ⟨_, rfl⟩
      obtain ⟨⟨⟨v1, v2, v3⟩, n'⟩, hv⟩ : ∃ x, x = M.hnewer bs t := ⟨_, rfl⟩
      rw [← hu] at C4 HSame
      rw [← hv] at C5 HSame
      clear hu hv HG HG' HT
      rcases hex with hd4 | ⟨hd4, hdk⟩
      all_goals
        go_wp2_with fail
        refine (C3.out wr).mono ?_
        rintro e w7 ⟨rfl, hb7⟩
        have hb8 : Below wr.heap.size wr (w7.alloc (.cells #[.int .i64 g, .int .i64 q, .int .i64 a] 28)) := hb7.alloc hb7.size _
        have HP8 := Lib.hid (B3.new w7 28 g q a)
        have HR8 := Lib.hid (HR.out.below hb8 HR.out.lt)
        have HX8 := Lib.hid (HX.out.below hb8 HX.out.lt)
        have HY8 := Lib.hid (HY.out.below hb8 HY.out.lt)
        have HL8 := Lib.hid (HL.out.trans (hb8.mono HL.out.size))
        have HE8 := Lib.hid (HE.out.below hb8)
        have hcv8 := HR8.out.back s.size cap HBL.out bs HBS.out
        clear hb7 hb8
        go_wp2_with fail
        refine (C4.out _).mono ?_
        rintro e w9 ⟨rfl, hb9⟩
        have hb10 := hb9.alloc hb9.size (.cells #[.int .i64 u1, .int .i64 u2, .int .i64 u3] 28)
        have HP10 := Lib.hid (HP8.out.below hb10 HP8.out.lt)
        have HR10 := Lib.hid (HR8.out.below hb10 HR8.out.lt)
        have HX10 := Lib.hid (HX8.out.below hb10 HX8.out.lt)
        have HY10 := Lib.hid (HY8.out.below hb10 HY8.out.lt)
        have HL10 := Lib.hid (HL8.out.trans (hb10.mono HL8.out.size))
        have HE10 := Lib.hid (HE8.out.below hb10)
        have hcv10 := HR10.out.back s.size cap HBL.out bs HBS.out
        clear hb9 hb10 hcv8 HP8 HR8 HX8 HY8 HL8 HE8
        go_wp2_with fail
        refine (C5.out _ HE10.out).mono ?_
        rintro e w11 ⟨rfl, hb11⟩
        have hb12 := hb11.alloc hb11.size (.cells #[.int .i64 v1, .int .i64 v2, .int .i64 v3] 28)
        have HV12 := Lib.hid (B3.new w11 28 v1 v2 v3)
        have HP12 := Lib.hid (HP10.out.below hb12 HP10.out.lt)
        have HR12 := Lib.hid (HR10.out.below hb12 HR10.out.lt)
        have HX12 := Lib.hid (HX10.out.below hb12 HX10.out.lt)
        have HY12 := Lib.hid (HY10.out.below hb12 HY10.out.lt)
        have HL12 := Lib.hid (HL10.out.trans (hb12.mono HL10.out.size))
        clear hb11 hb12 hcv10 HP10 HR10 HX10 HY10 HL10 HE10
        have HEnd : Hid (n' = 0 ∧ ((bs = s ∧ m = 0) ∨ (¬ bs = s ∧ m ≠ 0 ∧ v1 = g' ∧ v2 = q' ∧ v3 = a'))) := by
          show _ ∧ _
          rcases HSame.out with ⟨h1, h2, x, h3⟩ | ⟨h1, h2, h3⟩
          · exact ⟨congrArg Prod.snd h3, Or.inl ⟨h1, h2⟩⟩
          · injection h3 with h3 h4
            injection h3 with h5 h6 h7
            exact ⟨h4, Or.inr ⟨h1, h2, h5, h6, h7⟩⟩
        obtain ⟨hn0, hend⟩ := HEnd.out
        subst hn0
        clear HSame HEnd
        rcases hend with ⟨h1, h2⟩ | ⟨h1, h2, h3, h4, h5⟩
        · subst h2
          have f1 : (bs.toList == s.toList) = true := by rw [h1]; exact str_eq_self s
          clear h1
          go_wp2_with fail
          obtain ⟨W, hW⟩ : ∃ W, W = w11.alloc (.cells #[.int .i64 v1, .int .i64 v2, .int .i64 v3] 28) := ⟨_, rfl⟩
          rw [← hW] at HV12 HP12 HR12 HX12 HY12 HL12 ⊢
          clear hW
          have HS : Hid (∀ z, Below W.heap.size W z → (z.cell? ⟨w7.heap.size, 0, none⟩ = some (.int .i64 g) ∧ z.cell? ⟨w7.heap.size, 1, none⟩ = some (.int .i64 q) ∧ z.cell? ⟨w7.heap.size, 2, none⟩ = some (.int .i64 a)) ∧ (z.cell? ⟨b4, 0, none⟩ = some (.int .i64 g) ∧ z.cell? ⟨b4, 1, none⟩ = some (.int .i64 q) ∧ z.cell? ⟨b4, 2, none⟩ = some (.int .i64 a)) ∧ Sem.run Tryd.prog (convert 40 9 (.slice (some ⟨G, 0, none⟩) s.size cap)) z = .ok (.string bs) z) := fun z hb => ⟨(HP12.out.below hb HP12.out.lt).cells, (HX12.out.below hb HX12.out.lt).cells, (HR12.out.below hb HR12.out.lt).back s.size cap HBL.out bs HBS.out⟩
          have hb0 : Below W.heap.size W W := Below.refl _ _
          have hS0 := HS.out W hb0
          have hS1 := HS.out _ hb0.drew
          go_region_held3 (fun z => (z.cell? ⟨w7.heap.size, 0, none⟩ = some (.int .i64 g) ∧ z.cell? ⟨w7.heap.size, 1, none⟩ = some (.int .i64 q) ∧ z.cell? ⟨w7.heap.size, 2, none⟩ = some (.int .i64 a)) ∧ (z.cell? ⟨b4, 0, none⟩ = some (.int .i64 g) ∧ z.cell? ⟨b4, 1, none⟩ = some (.int .i64 q) ∧ z.cell? ⟨b4, 2, none⟩ = some (.int .i64 a)) ∧ Sem.run Tryd.prog (convert 40 9 (.slice (some ⟨G, 0, none⟩) s.size cap)) z = .ok (.string bs) z) (first | assumption)
            (first | (go_at_call 8; refine (Held.call HS (by first | assumption | exact Below.drew (by assumption)) (own10_any _ _ _ _)).mono ?_; rintro e w13 ⟨rfl, hb13, hS13⟩; have hS14 := HS.out _ hb13.drew; have HB13 := Lib.hid hb13))
          go_wp2_with fail
          go_quiet (fail)
          go_wp2_with fail
          go_ret
          exact ⟨rfl, by first | exact HL12.out.trans (HB13.out.mono HL12.out.size) | exact (HL12.out.trans (HB13.out.mono HL12.out.size)).drew | exact below_drewN (HL12.out.trans (HB13.out.mono HL12.out.size)) _ | exact below_drewN (HL12.out.trans (HB13.out.mono HL12.out.size)).drew _⟩
        · have e1 : v1 = g' := h3
          have e2 : v2 = q' := h4
          have e3 : v3 = a' := h5
          subst e1 e2 e3
          have f1 : (bs.toList == s.toList) = false := ne_of_toList h1
          have f2 : (m == 0) = false := by simpa using h2
          clear h1 h2
          go_wp2_with fail
          obtain ⟨W, hW⟩ : ∃ W, W = w11.alloc (.cells #[.int .i64 v1, .int .i64 v2, .int .i64 v3] 28) := ⟨_, rfl⟩
          rw [← hW] at HV12 HP12 HR12 HX12 HY12 HL12 ⊢
          clear hW
          have HS : Hid (∀ z, Below W.heap.size W z → (z.cell? ⟨w7.heap.size, 0, none⟩ = some (.int .i64 g) ∧ z.cell? ⟨w7.heap.size, 1, none⟩ = some (.int .i64 q) ∧ z.cell? ⟨w7.heap.size, 2, none⟩ = some (.int .i64 a)) ∧ (z.cell? ⟨b4, 0, none⟩ = some (.int .i64 g) ∧ z.cell? ⟨b4, 1, none⟩ = some (.int .i64 q) ∧ z.cell? ⟨b4, 2, none⟩ = some (.int .i64 a)) ∧ Sem.run Tryd.prog (convert 40 9 (.slice (some ⟨G, 0, none⟩) s.size cap)) z = .ok (.string bs) z) := fun z hb => ⟨(HP12.out.below hb HP12.out.lt).cells, (HX12.out.below hb HX12.out.lt).cells, (HR12.out.below hb HR12.out.lt).back s.size cap HBL.out bs HBS.out⟩
          have hb0 : Below W.heap.size W W := Below.refl _ _
          have hS0 := HS.out W hb0
          have hS1 := HS.out _ hb0.drew
          go_region_held3 (fun z => (z.cell? ⟨w7.heap.size, 0, none⟩ = some (.int .i64 g) ∧ z.cell? ⟨w7.heap.size, 1, none⟩ = some (.int .i64 q) ∧ z.cell? ⟨w7.heap.size, 2, none⟩ = some (.int .i64 a)) ∧ (z.cell? ⟨b4, 0, none⟩ = some (.int .i64 g) ∧ z.cell? ⟨b4, 1, none⟩ = some (.int .i64 q) ∧ z.cell? ⟨b4, 2, none⟩ = some (.int .i64 a)) ∧ Sem.run Tryd.prog (convert 40 9 (.slice (some ⟨G, 0, none⟩) s.size cap)) z = .ok (.string bs) z) (first | assumption)
            (first | (go_at_call 8; refine (Held.call HS (by first | assumption | exact Below.drew (by assumption)) (own10_any _ _ _ _)).mono ?_; rintro e w13 ⟨rfl, hb13, hS13⟩; have hS14 := HS.out _ hb13.drew; have HB13 := Lib.hid hb13))
          have HS2 : Hid (∀ z, Below W.heap.size W z → (z.cell? ⟨w11.heap.size, 0, none⟩ = some (.int .i64 v1) ∧ z.cell? ⟨w11.heap.size, 1, none⟩ = some (.int .i64 v2) ∧ z.cell? ⟨w11.heap.size, 2, none⟩ = some (.int .i64 v3)) ∧ (z.cell? ⟨b5, 0, none⟩ = some (.int .i64 v1) ∧ z.cell? ⟨b5, 1, none⟩ = some (.int .i64 v2) ∧ z.cell? ⟨b5, 2, none⟩ = some (.int .i64 v3))) := fun z hb => ⟨(HV12.out.below hb HV12.out.lt).cells, (HY12.out.below hb HY12.out.lt).cells⟩
          have hT13 := HS2.out _ HB13.out
          have hT14 := HS2.out _ HB13.out.drew
          have hb13 := HB13.out
          clear HS hS0 hS1
          go_wp2_with fail
          go_region_held3 (fun z => (z.cell? ⟨w11.heap.size, 0, none⟩ = some (.int .i64 v1) ∧ z.cell? ⟨w11.heap.size, 1, none⟩ = some (.int .i64 v2) ∧ z.cell? ⟨w11.heap.size, 2, none⟩ = some (.int .i64 v3)) ∧ (z.cell? ⟨b5, 0, none⟩ = some (.int .i64 v1) ∧ z.cell? ⟨b5, 1, none⟩ = some (.int .i64 v2) ∧ z.cell? ⟨b5, 2, none⟩ = some (.int .i64 v3))) (first | assumption)
            (first | (go_at_call 8; refine (Held.call HS2 (by first | assumption | exact Below.drew (by assumption) | exact Below.drew (Below.drew (by assumption))) (own10_any _ _ _ _)).mono ?_; rintro e w15 ⟨rfl, hb15, hS15⟩; have HB15 := Lib.hid hb15))
          go_wp2_with fail
          go_ret
          exact ⟨rfl, by first | exact HL12.out.trans (HB15.out.mono HL12.out.size) | exact (HL12.out.trans (HB15.out.mono HL12.out.size)).drew⟩

set_option maxHeartbeats 1000000 in
theorem logheadBack_walk (g q a g' q' a' : Int) (n : Int) (v : Value) (w : World) (hE : Env10 w) (hv : FourAt w v) :
    Calls Tryd.prog 5 #[.agg #[.int .i64 g, .int .i64 q, .int .i64 a], .agg #[.int .i64 g', .int .i64 q', .int .i64 a'], .int .i64 n, v] w fun e w' => e = .returned (.bool true) ∧ Below w.heap.size w w' := by
  obtain ⟨d0, d1, d2, d3, rfl⟩ := hv
  by_cases hm : M.hmay ⟨g, q, a⟩ = true
  · by_cases hm' : M.hmay ⟨g', q', a'⟩ = true
    · exact back10_yes g q a g' q' a' n d0 d1 d2 d3 w hE hm hm'
    · exact back10_not g q a g' q' a' n d0 d1 d2 d3 w hE hm hm'
  · exact back10_no g q a g' q' a' n d0 d1 d2 d3 w hE hm
end Go.Proofs.YtdegfkhbcgnmmaaDoor
