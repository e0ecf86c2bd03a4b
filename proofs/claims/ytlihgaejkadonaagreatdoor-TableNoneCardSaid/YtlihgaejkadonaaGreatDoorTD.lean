/-
  Walks over the calls of a table that is none, and of one over a wal that is none. A walk over TableNone. An entry by value as an argument: opened and shut. The walk over TableNone's parameters as they come.
-/
import Derived.Test.YtlihgaejkadonaaGreatDoorTC
import Derived.Test.YtlihgaejkadonaaGreatDoorTB
namespace Go.Proofs.YtlihgaejkadonaaGreatDoor
open Go.RowKit Go.Maps

set_option maxHeartbeats 1000000 in
/-- Over a wal that is none. -/
theorem tread_nil (e s l k : Int) (t : Nat) (y : World) (H : TbB y t (.pointer none) e s l) : Calls Tryz.prog 29 #[.pointer (some ⟨t, 0, none⟩), .int .i64 k] y fun en z => en = .returned (.tuple #[Ev2 0 0 0 0 0 0, .int .i64 10]) ∧ Below y.heap.size y z := by
  have C1 := Lib.hid (fun x => read14_nil k x)
  have HX := Box.below H (ib1 y (Ec2 0 0 0 0 0 0)) (Box.lt H)
  obtain ⟨k0, k1, k2, k3⟩ := TbB.cells HX
  have HB := Lib.hid (ib1 y (Ec2 0 0 0 0 0 0))
  have K := Lib.hid (B6.new y 0 0 0 0 0 0)
  obtain ⟨c0, c1, c2, c3, c4, c5⟩ := B6.cells K.out
  obtain ⟨f0, f1, f2, f3, f4, f5⟩ := B6.frozen K.out
  clear H HX k1 k2 k3
  go_enter Tryz.func29, Tryz.ntmps29
  go_wp2_with fail
  refine (C1.out _).mono ?_
  rintro en z1 ⟨rfl, rfl⟩
  go_wp2_with (exact bodyPost_ret (v := .tuple #[Ev2 0 0 0 0 0 0, .int .i64 10]) (by simp [results, Tryz.results29, go_sem, *]) rfl ⟨rfl, (by (repeat refine Below.setCell ?_ (Nat.le_refl _) _); exact HB.out)⟩)
set_option maxHeartbeats 1000000 in
/-- Of a table that is none. -/
theorem tget_nil (i : Int) (y : World) : Calls Tryz.prog 11 #[.pointer none, .int .i64 i] y fun en z => en = .returned (.tuple #[Ev 0 0 0, .int .i64 10]) ∧ Below y.heap.size y z := by
  have HB := Lib.hid (ib1 y (Ec 0 0 0))
  have K := Lib.hid (B3e.new y 0 0 0)
  obtain ⟨c0, c1, c2⟩ := B3e.cells K.out
  have f0 := Box.frozen K.out 0
  have f1 := Box.frozen K.out 1
  have f2 := Box.frozen K.out 2
  go_enter Tryz.func11, Tryz.ntmps11
  go_wp2_with (exact bodyPost_ret (v := .tuple #[Ev 0 0 0, .int .i64 10]) (by simp [results, Tryz.results11, go_sem, *]) rfl ⟨rfl, (by (repeat refine Below.setCell ?_ (by simp) _); exact HB.out)⟩)
set_option maxHeartbeats 1000000 in
/-- Over a wal that is none. -/
theorem tget_none (E S L i : Nat) (h : M.lokB E S L = true) (hi : i < E) (t : Nat) (y : World) (H : TbB y t (.pointer none) E S L) :
    Calls Tryz.prog 11 #[.pointer (some ⟨t, 0, none⟩), .int .i64 (i : Nat)] y fun en z => en = .returned (.tuple #[Ev 0 0 0, .int .i64 10]) ∧ Below y.heap.size y z := by
  have C1 := Lib.hid (fun x => table15_ok E S L i h hi x)
  have C2 := Lib.hid (fun x k HT => tread_nil E S L k t x HT)
  have HX := Box.below H (ib1 y (Ec 0 0 0)) (Box.lt H)
  obtain ⟨k0, k1, k2, k3⟩ := TbB.cells HX
  have HX0 := Lib.hid HX
  have HB := Lib.hid (ib1 y (Ec 0 0 0))
  have K := Lib.hid (B3e.new y 0 0 0)
  obtain ⟨pl, hpl⟩ : ∃ x, x = 2 + i / 2 := ⟨_, rfl⟩
  obtain ⟨wh, hwh⟩ : ∃ x, x = i % 2 := ⟨_, rfl⟩
  rw [← hpl, ← hwh] at C1
  clear H HX k0 h hi hpl hwh
  go_enter Tryz.func11, Tryz.ntmps11
  go_wp2_with fail
  refine (C1.out _).mono ?_
  rintro en z1 ⟨rfl, hb⟩
  have K1 := Lib.hid (B3e.below K.out hb (B3e.lt K.out))
  have HB1 := Lib.hid (HB.out.trans (hb.mono HB.out.size))
  have HX1 := Lib.hid (Box.below HX0.out hb (Box.lt HX0.out))
  clear hb k1 k2 k3
  go_wp2_with fail
  refine (C2.out _ _ HX1.out).mono ?_
  rintro en z2 ⟨rfl, hb⟩
  have hb' := hb.trans ((ib1 z2 (Ec2 0 0 0 0 0 0)).mono hb.size)
  have K2 := Lib.hid (B3e.below K1.out hb' (B3e.lt K1.out))
  have HB2 := Lib.hid (HB1.out.trans (hb'.mono HB1.out.size))
  have HN2 : Hid ((z2.heap.size == y.heap.size) = false) := by show _ = _; rw [beq_eq_false_iff_ne]; have := K1.out.lt; have := hb.size; omega
  have hne := HN2.out
  clear hb hb'
  obtain ⟨c0, c1, c2⟩ := B3e.cells K2.out
  have f0 := Box.frozen K2.out 0
  have f1 := Box.frozen K2.out 1
  have f2 := Box.frozen K2.out 2
  go_wp2_with (exact bodyPost_ret (v := .tuple #[Ev 0 0 0, .int .i64 10]) (by simp [results, Tryz.results11, go_sem, *]) rfl ⟨rfl, (by (repeat refine Below.setCell ?_ (by simp) _); exact HB2.out)⟩)
set_option maxHeartbeats 1000000 in
/-- Of a table that is none. -/
theorem tput_nil (i a b s : Int) (y : World) : Calls Tryz.prog 12 #[.pointer none, .int .i64 i, Ev a b s] y fun en z => en = .returned (.int .i64 10) ∧ Below y.heap.size y z := by
  have HB := Lib.hid (ib1 y (Ec a b s))
  go_enter Tryz.func12, Tryz.ntmps12
  go_wp2_with fail
  go_ret
  exact ⟨rfl, HB.out⟩
set_option maxHeartbeats 1000000 in
/-- Of a table that is none. -/
theorem tfmt_nil (y : World) : Calls Tryz.prog 10 #[.pointer none] y fun en z => en = .returned (.int .i64 10) ∧ Below y.heap.size y z := by
  go_enter Tryz.func10, Tryz.ntmps10
  go_wp2_with fail
  go_ret
  exact ⟨rfl, Below.refl _ _⟩
set_option maxHeartbeats 1000000 in
/-- Of a table that is none. -/
theorem tall_nil (y : World) : Calls Tryz.prog 9 #[.pointer none] y fun en z => en = .returned (.tuple #[.slice none 0 0, .int .i64 10]) ∧ Below y.heap.size y z := by
  go_enter Tryz.func9, Tryz.ntmps9
  go_wp2_with fail
  go_returns
  exact ⟨rfl, Below.refl _ _⟩
end Go.Proofs.YtlihgaejkadonaaGreatDoor
namespace Go.Proofs.YtlihgaejkadonaaGreatDoor
open Go.RowKit Go.Maps

/-- What Get answers of a table over no wal, and what layout's Table answers: the same error, or none and ErrState. -/
theorem none18_cases (a b c i : Int) : (∃ g h : Int, ((g = 3 ∧ h = 3) ∨ (g = 10 ∧ h = 0)) ∧ ∃ p q : Int, (∀ x, Calls Tryz.prog 20 #[Cf a b c, .int .i64 i] x fun e w' => e = .returned (.tuple #[.int .i64 p, .int .i64 q, .int .i64 h]) ∧ Below x.heap.size x w') ∧
    ∀ t x, TbB x t (.pointer none) a b c → Calls Tryz.prog 11 #[.pointer (some ⟨t, 0, none⟩), .int .i64 i] x fun e z => e = .returned (.tuple #[Ev 0 0 0, .int .i64 g]) ∧ Below x.heap.size x z) := by
  cases hl : M.lokB a b c
  · have hT := fun x => table15_no a b c i hl x
    exact ⟨3, 3, Or.inl ⟨rfl, rfl⟩, 0, 0, hT, fun t x H => tget_out _ a b c i t x H hT⟩
  · have h' := (M.lok_iff a b c).1 hl
    obtain ⟨E, rfl⟩ : ∃ E : Nat, a = E := ⟨a.toNat, by omega⟩
    obtain ⟨S, rfl⟩ : ∃ E : Nat, b = E := ⟨b.toNat, by omega⟩
    obtain ⟨L, rfl⟩ : ∃ E : Nat, c = E := ⟨c.toNat, by omega⟩
    by_cases ho : i < 0 ∨ (E : Int) ≤ i
    · have hT := fun x => table15_out E S L i hl ho x
      exact ⟨3, 3, Or.inl ⟨rfl, rfl⟩, 0, 0, hT, fun t x H => tget_out _ E S L i t x H hT⟩
    · obtain ⟨j, rfl⟩ : ∃ j : Nat, i = j := ⟨i.toNat, by omega⟩
      exact ⟨10, 0, Or.inr ⟨rfl, rfl⟩, _, _, fun x => table15_ok E S L j hl (by omega) x, fun t x H => tget_none E S L j hl (by omega) t x H⟩

set_option maxHeartbeats 4000000 in
theorem tableNone_yes (a b c i p q r : Int) (w : World) (hE : Env10 w) (hET : ErrT w) : Calls Tryz.prog 4 #[Cf a b c, .int .i64 i, Ev p q r] w fun en z => en = .returned (.bool true) ∧ Below w.heap.size w z := by
  have HB0 := ib2 w (.cells #[.int .i64 a, .int .i64 b, .int .i64 c] 23) (Ec p q r)
  obtain ⟨W, hW⟩ : ∃ W, W = (w.alloc (.cells #[.int .i64 a, .int .i64 b, .int .i64 c] 23)).alloc (Ec p q r) := ⟨_, rfl⟩
  rw [← hW] at HB0
  have HC : Box W w.heap.size 23 #[.int .i64 a, .int .i64 b, .int .i64 c] := by rw [hW]; exact Box.below (Box.new _ _ _) (ib1 _ _) (by rw [World.size_alloc]; omega)
  have HX : B3e W (w.heap.size + 1) p q r := by
    have := B3e.new (w.alloc (.cells #[.int .i64 a, .int .i64 b, .int .i64 c] 23)) p q r
    rw [World.size_alloc] at this
    rw [hW]
    exact this
  have C0 := Lib.hid (works18_any W (hE.below HB0) (hET.low HB0 hET.lt))
  have C1 := Lib.hid (fun x => tget_nil i x)
  have C2 := Lib.hid (fun x => tall_nil x)
  have C3 := Lib.hid (fun x => tnew_any none a b c x)
  have C6 := Lib.hid (fun x => tput_nil i p q r x)
  have C7 := Lib.hid (fun x => tfmt_nil x)
  have FC : Hid (∀ y, Below W.heap.size W y → y.cell? ⟨w.heap.size, 0, none⟩ = some (.int .i64 a) ∧ y.cell? ⟨w.heap.size, 1, none⟩ = some (.int .i64 b) ∧ y.cell? ⟨w.heap.size, 2, none⟩ = some (.int .i64 c)) := fun y hb => ⟨(HC.below hb HC.lt).cell 0, (HC.below hb HC.lt).cell 1, (HC.below hb HC.lt).cell 2⟩
  have FX : Hid (∀ y, Below W.heap.size W y → y.cell? ⟨w.heap.size + 1, 0, none⟩ = some (.int .i64 p) ∧ y.cell? ⟨w.heap.size + 1, 1, none⟩ = some (.int .i64 q) ∧ y.cell? ⟨w.heap.size + 1, 2, none⟩ = some (.int .i64 r)) := fun y hb => B3e.cells (HX.below hb HX.lt)
  have FB : Hid (∀ y, Below W.heap.size W y → Below w.heap.size w y) := fun y hb => HB0.trans (hb.mono HB0.size)
  obtain ⟨g, hh, hgh, p1, p2, c4, c5⟩ := none18_cases a b c i
  have C4 := Lib.hid c4
  have C5 := Lib.hid c5
  clear c4 c5 hE hET HB0 HC HX
  rcases hgh with ⟨rfl, rfl⟩ | ⟨rfl, rfl⟩
  all_goals
    go_enter Tryz.func4, Tryz.ntmps4
    go_wp2_with fail
    rw [← hW]
    clear hW
    refine C0.out.mono ?_
    rintro en w1 ⟨rfl, hb1⟩
    have HB1 := Lib.hid hb1
    clear hb1 C0
    go_wp2_with fail
    refine (C1.out _).mono ?_
    rintro en w2 ⟨rfl, hb2⟩
    have hb2' := hb2.trans ((ib1 w2 (Ec 0 0 0)).mono hb2.size)
    have HB2 := Lib.hid (HB1.out.trans (hb2'.mono HB1.out.size))
    clear hb2 hb2' C1 HB1
    go_wp2_with fail
    refine (C2.out _).mono ?_
    rintro en w3 ⟨rfl, hb3⟩
    have HB3 := Lib.hid (HB2.out.trans (hb3.mono HB2.out.size))
    clear hb3 C2 HB2
    obtain ⟨k0, k1, k2⟩ := FC.out _ HB3.out
    go_wp2_with fail
    refine (C3.out _).mono ?_
    rintro en w4 ⟨u, rfl, hb4, hu, tb⟩
    have HB4 := Lib.hid (HB3.out.trans (hb4.mono HB3.out.size))
    have C5' := Lib.hid (C5.out u w4 tb)
    clear hb4 hu tb C3 C5 HB3 k0 k1 k2
    go_wp2_with fail
    refine C5'.out.mono ?_
    rintro en w5 ⟨rfl, hb5⟩
    have hb5' := hb5.trans ((ib1 w5 (Ec 0 0 0)).mono hb5.size)
    have HB5 := Lib.hid (HB4.out.trans (hb5'.mono HB4.out.size))
    clear hb5 hb5' C5' HB4
    obtain ⟨k0, k1, k2⟩ := FC.out _ HB5.out
    go_wp2_with fail
    refine (C4.out _).mono ?_
    rintro en w6 ⟨rfl, hb6⟩
    have HB6 := Lib.hid (HB5.out.trans (hb6.mono HB5.out.size))
    clear hb6 C4 HB5 k0 k1 k2
    obtain ⟨k0, k1, k2⟩ := FX.out _ HB6.out
    go_wp2_with fail
    refine (C6.out _).mono ?_
    rintro en w7 ⟨rfl, hb7⟩
    have HB7 := Lib.hid (HB6.out.trans (hb7.mono HB6.out.size))
    clear hb7 C6 HB6 k0 k1 k2
    go_wp2_with fail
    refine (C7.out _).mono ?_
    rintro en w8 ⟨rfl, hb8⟩
    have HB8 := Lib.hid (FB.out _ (HB7.out.trans (hb8.mono HB7.out.size)))
    clear hb8 C7 HB7
    go_wp2_with fail
    go_ret
    exact ⟨rfl, HB8.out⟩
end Go.Proofs.YtlihgaejkadonaaGreatDoor
namespace Go.Proofs.YtlihgaejkadonaaGreatDoor
open Go.ChangeShapes Go.WideShapes Go.ChangeAt Go.RowKit Go.Deep

set_option maxRecDepth 100000 in
theorem en_open {H : Type} {enc : TypeId × Value → H} {W : World} {r : Reach} {b0 : Nat} {v : Value} {d : DataW H} {p : List MemPlace} (hval : Value.okWide Tryz.prog W r b0 41 v)
    (h : DataW.Trod enc Tryz.prog W 0 (fun _ => true) true 41 v d p) :
    ∃ a b s : Int, v = .agg #[.int .i64 a, .int .i64 b, .int .i64 s] ∧ d = .agg [.agg [.lit (.int .i64 a), .lit (.int .i64 b)], .lit (.int .i64 s)] ∧ p = [] ∧ (Lit.int .i64 a).wf = true ∧ (Lit.int .i64 b).wf = true ∧ (Lit.int .i64 s).wf = true := by
  obtain ⟨cs, rfl, hsz, _⟩ : ∃ cs, v = .agg cs ∧ cs.size = Tryz.prog.cellsOf 41 ∧ Row.okWide Tryz.prog W r b0 41 cs := by
    simpa [Value.okWide, Tryz.underlying41] using hval
  rw [Tryz.cellsE18] at hsz
  obtain ⟨l⟩ := cs
  obtain ⟨e0, e1, e2, rfl⟩ := three_of15 l hsz
  obtain ⟨fuel, hf⟩ := h
  obtain ⟨a, b, s, rfl, rfl, rfl, hx, w0, w1, w2⟩ := entry_open18 hf
  obtain ⟨rfl, rfl⟩ := Prod.mk.inj hx
  exact ⟨a, b, s, rfl, rfl, rfl, w0, w1, w2⟩
set_option maxRecDepth 100000 in
theorem en_shut {H : Type} {enc : TypeId × Value → H} {W : World} {base : Nat} {spare : Nat → Bool} {held : Bool} {a b s : Int} (wa : (Lit.int .i64 a).wf = true) (wb : (Lit.int .i64 b).wf = true) (ws : (Lit.int .i64 s).wf = true) :
    DataW.Trod enc Tryz.prog W base spare held 41 (.agg #[.int .i64 a, .int .i64 b, .int .i64 s]) (.agg [.agg [.lit (.int .i64 a), .lit (.int .i64 b)], .lit (.int .i64 s)]) [] := by
  have hI : ∀ (n : Nat) (x : Int), (Lit.int .i64 x).wf = true → DataW.trod enc Tryz.prog W base spare held (n + 1) 3 [.int .i64 x] = some (.lit (.int .i64 x), []) := fun n x wx => trod_int_mk n Tryz.underlying3 wx
  have h2 : DataW.trod enc Tryz.prog W base spare held 2 39 [.int .i64 a, .int .i64 b] = some (.agg [.lit (.int .i64 a), .lit (.int .i64 b)], []) := by
    have := trod_struct_mk (enc := enc) (w := W) (base := base) (spare := spare) (held := held) (n := 1) (cs := [.int .i64 a, .int .i64 b])
      (xs := [(.lit (.int .i64 a), []), (.lit (.int .i64 b), [])]) Tryz.underlying39 (by rw [Tryz.cellsV18]; rfl) (by
        simp only [List.mapM_cons, List.mapM_nil, Tryz.cellsInt18, List.drop_zero, List.drop_succ_cons, List.take_succ_cons, List.take_zero, hI 0 a wa, hI 0 b wb]
        rfl)
    exact this
  refine ⟨3, ?_⟩
  have := trod_struct_mk (enc := enc) (w := W) (base := base) (spare := spare) (held := held) (n := 2) (cs := [.int .i64 a, .int .i64 b, .int .i64 s])
    (xs := [(.agg [.lit (.int .i64 a), .lit (.int .i64 b)], []), (.lit (.int .i64 s), [])]) Tryz.underlying41 (by rw [Tryz.cellsE18]; rfl) (by
      simp only [List.mapM_cons, List.mapM_nil, Tryz.cellsInt18, Tryz.cellsV18, List.drop_zero, List.drop_succ_cons, List.take_succ_cons, List.take_zero, h2, hI 1 s ws]
      rfl)
  exact this
end Go.Proofs.YtlihgaejkadonaaGreatDoor
namespace Go.Proofs.YtlihgaejkadonaaGreatDoor
open Go.ChangeShapes Go.WideShapes Go.ChangeAt Go.RowKit Go.Deep
theorem tableNone_walk (a b c i p q r : Int) (W : World) (hE : Env10 W ∧ ErrT W) :
    Calls Tryz.prog 4 #[.agg #[.int .i64 a, .int .i64 b, .int .i64 c], .int .i64 i, .agg #[.int .i64 p, .int .i64 q, .int .i64 r]] W fun en y => en = .returned (.bool true) ∧ Below W.heap.size W y :=
  tableNone_yes a b c i p q r W hE.1 hE.2
end Go.Proofs.YtlihgaejkadonaaGreatDoor
