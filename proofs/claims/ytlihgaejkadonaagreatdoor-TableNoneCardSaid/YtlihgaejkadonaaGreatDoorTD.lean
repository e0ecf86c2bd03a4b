/-
  A walk over TableNone. The walk over TableNone's parameters as they come.
-/
import Derived.Test.YtlihgaejkadonaaGreatDoorTC
import Derived.Test.YtlihgaejkadonaaGreatDoorTB
namespace Go.Proofs.YtlihgaejkadonaaGreatDoor
open Go.RowKit Go.Maps

/-- What Get answers of a table over no wal, and what layout's Table answers: the same error, or none and ErrState. -/
theorem none18_cases (a b c i : Int) : (∃ g h : Int, ((g = 3 ∧ h = 3) ∨ (g = 10 ∧ h = 0)) ∧ ∃ p q : Int, (∀ x, Calls Tryz.prog 20 #[Cf a b c, .int .i64 i] x fun e w' => e = .returned (.tuple #[.int .i64 p, .int .i64 q, .int .i64 h]) ∧ Below x.heap.size x w') ∧
    ∀ t x, TbB x t (.pointer none) a b c → Calls Tryz.prog 11 #[.pointer (some ⟨t, 0, none⟩), .int .i64 i] x fun e z => e = .returned (.tuple #[Ev 0 0 0, .int .i64 g]) ∧ Below x.heap.size x z) := by
  cases hl : M.lokB a b c
  · have hT := fun x => table15_no a b c i hl x
    exact ⟨3, 3, Or.inl ⟨rfl, rfl⟩, 0, 0, hT, fun t x H => tget_out _ a b c i t x H hT⟩
  · have h' := (M.lok_iff a b c).1 hl
    obtain ⟨E, rfl⟩ : ∃ E : Nat, a = E := ⟨a.toNat, by omega⟩
    obtain ⟨S, rfl⟩ : ∃ E : Nat, b = E := ⟨b.toNat, by omega⟩
    obtain ⟨L, rfl⟩ : ∃ E : Nat, c = E := ⟨c.toNat, by omega⟩
    by_cases ho : i < 0 ∨ (E : Int) ≤ i
    · have hT := fun x => table15_out E S L i hl ho x
      exact ⟨3, 3, Or.inl ⟨rfl, rfl⟩, 0, 0, hT, fun t x H => tget_out _ E S L i t x H hT⟩
    · obtain ⟨j, rfl⟩ : ∃ j : Nat, i = j := ⟨i.toNat, by omega⟩
      exact ⟨10, 0, Or.inr ⟨rfl, rfl⟩, _, _, fun x => table15_ok E S L j hl (by omega) x, fun t x H => tget_none E S L j hl (by omega) t x H⟩

set_option maxHeartbeats 4000000 in
theorem tableNone_yes (a b c i p q r : Int) (w : World) (hE : Env10 w) (hET : ErrT w) : Calls Tryz.prog 4 #[Cf a b c, .int .i64 i, Ev p q r] w fun en z => en = .returned (.bool true) ∧ Below w.heap.size w z := by
  have HB0 := ib2 w (.cells #[.int .i64 a, .int .i64 b, .int .i64 c] 23) (Ec p q r)
  obtain ⟨W, hW⟩ : ∃ W, W = (w.alloc (.cells #[.int .i64 a, .int .i64 b, .int .i64 c] 23)).alloc (Ec p q r) := ⟨_, rfl⟩
  rw [← hW] at HB0
  have HC : Box W w.heap.size 23 #[.int .i64 a, .int .i64 b, .int .i64 c] := by rw [hW]; exact Box.below (Box.new _ _ _) (ib1 _ _) (by rw [World.size_alloc]; omega)
  have HX : B3e W (w.heap.size + 1) p q r := by
    have := B3e.new (w.alloc (.cells #[.int .i64 a, .int .i64 b, .int .i64 c] 23)) p q r
    rw [World.size_alloc] at this
    rw [hW]
    exact this
  have C0 := Lib.hid (works18_any W (hE.below HB0) (hET.low HB0 hET.lt))
  have C1 := Lib.hid (fun x => tget_nil i x)
  have C2 := Lib.hid (fun x => tall_nil x)
  have C3 := Lib.hid (fun x => tnew_any none a b c x)
  have C6 := Lib.hid (fun x => tput_nil i p q r x)
  have C7 := Lib.hid (fun x => tfmt_nil x)
  have FC : Hid (∀ y, Below W.heap.size W y → y.cell? ⟨w.heap.size, 0, none⟩ = some (.int .i64 a) ∧ y.cell? ⟨w.heap.size, 1, none⟩ = some (.int .i64 b) ∧ y.cell? ⟨w.heap.size, 2, none⟩ = some (.int .i64 c)) := fun y hb => ⟨(HC.below hb HC.lt).cell 0, (HC.below hb HC.lt).cell 1, (HC.below hb HC.lt).cell 2⟩
  have FX : Hid (∀ y, Below W.heap.size W y → y.cell? ⟨w.heap.size + 1, 0, none⟩ = some (.int .i64 p) ∧ y.cell? ⟨w.heap.size + 1, 1, none⟩ = some (.int .i64 q) ∧ y.cell? ⟨w.heap.size + 1, 2, none⟩ = some (.int .i64 r)) := fun y hb => B3e.cells (HX.below hb HX.lt)
  have FB : Hid (∀ y, Below W.heap.size W y → Below w.heap.size w y) := fun y hb => HB0.trans (hb.mono HB0.size)
  obtain ⟨g, hh, hgh, p1, p2, c4, c5⟩ := none18_cases a b c i
  have C4 := Lib.hid c4
  have C5 := Lib.hid c5
  clear c4 c5 hE hET HB0 HC HX
  rcases hgh with ⟨rfl, rfl⟩ | ⟨rfl, rfl⟩
  all_goals
    go_enter Tryz.func4, Tryz.ntmps4
    go_wp2_with fail
    rw [← hW]
    clear hW
    refine C0.out.mono ?_
    rintro en w1 ⟨rfl, hb1⟩
    have HB1 := Lib.hid hb1
    clear hb1 C0
    go_wp2_with fail
    refine (C1.out _).mono ?_
    rintro en w2 ⟨rfl, hb2⟩
    have hb2' := hb2.trans ((ib1 w2 (Ec 0 0 0)).mono hb2.size)
    have HB2 := Lib.hid (HB1.out.trans (hb2'.mono HB1.out.size))
    clear hb2 hb2' C1 HB1
    go_wp2_with fail
    refine (C2.out _).mono ?_
    rintro en w3 ⟨rfl, hb3⟩
    have HB3 := Lib.hid (HB2.out.trans (hb3.mono HB2.out.size))
    clear hb3 C2 HB2
    obtain ⟨k0, k1, k2⟩ := FC.out _ HB3.out
    go_wp2_with fail
    refine (C3.out _).mono ?_
    rintro en w4 ⟨u, rfl, hb4, hu, tb⟩
    have HB4 := Lib.hid (HB3.out.trans (hb4.mono HB3.out.size))
    have C5' := Lib.hid (C5.out u w4 tb)
    clear hb4 hu tb C3 C5 HB3 k0 k1 k2
    go_wp2_with fail
    refine C5'.out.mono ?_
    rintro en w5 ⟨rfl, hb5⟩
    have hb5' := hb5.trans ((ib1 w5 (Ec 0 0 0)).mono hb5.size)
    have HB5 := Lib.hid (HB4.out.trans (hb5'.mono HB4.out.size))
    clear hb5 hb5' C5' HB4
    obtain ⟨k0, k1, k2⟩ := FC.out _ HB5.out
    go_wp2_with fail
    refine (C4.out _).mono ?_
    rintro en w6 ⟨rfl, hb6⟩
    have HB6 := Lib.hid (HB5.out.trans (hb6.mono HB5.out.size))
    clear hb6 C4 HB5 k0 k1 k2
    obtain ⟨k0, k1, k2⟩ := FX.out _ HB6.out
    go_wp2_with fail
    refine (C6.out _).mono ?_
    rintro en w7 ⟨rfl, hb7⟩
    have HB7 := Lib.hid (HB6.out.trans (hb7.mono HB6.out.size))
    clear hb7 C6 HB6 k0 k1 k2
    go_wp2_with fail
    refine (C7.out _).mono ?_
    rintro en w8 ⟨rfl, hb8⟩
    have HB8 := Lib.hid (FB.out _ (HB7.out.trans (hb8.mono HB7.out.size)))
    clear hb8 C7 HB7
    go_wp2_with fail
    go_ret
    exact ⟨rfl, HB8.out⟩
end Go.Proofs.YtlihgaejkadonaaGreatDoor
namespace Go.Proofs.YtlihgaejkadonaaGreatDoor
open Go.ChangeShapes Go.WideShapes Go.ChangeAt Go.RowKit Go.Deep
theorem tableNone_walk (a b c i p q r : Int) (W : World) (hE : Env10 W ∧ ErrT W) :
    Calls Tryz.prog 4 #[.agg #[.int .i64 a, .int .i64 b, .int .i64 c], .int .i64 i, .agg #[.int .i64 p, .int .i64 q, .int .i64 r]] W fun en y => en = .returned (.bool true) ∧ Below W.heap.size W y :=
  tableNone_yes a b c i p q r W hE.1 hE.2
end Go.Proofs.YtlihgaejkadonaaGreatDoor
