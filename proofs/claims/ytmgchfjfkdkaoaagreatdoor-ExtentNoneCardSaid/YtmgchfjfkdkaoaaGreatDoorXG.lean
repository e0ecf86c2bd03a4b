/-
  Walks over solderlaw20.ExtentNone. The walk over ExtentNone's parameters as they come.
-/
import Derived.Test.YtmgchfjfkdkaoaaGreatDoorXD
import Derived.Test.YtmgchfjfkdkaoaaGreatDoorTB
namespace Go.Proofs.YtmgchfjfkdkaoaaGreatDoor
open Go.RowKit Go.Maps

set_option maxRecDepth 100000 in
set_option maxHeartbeats 1000000 in
/-- An extent that is none. -/
theorem extentNone_out (a b c i : Int) (t : ByteArray) (hl : M.lokB a b c = true → i < 0 ∨ a ≤ i) (w : World) (hE : Env10 w) (hET : ErrT w) :
    Calls Tryz.prog 5 #[Cf a b c, .int .i64 i, .string t] w fun en z => en = .returned (.bool true) ∧ Below w.heap.size w z := by
  have HB := ib1 w (Ck a b c)
  have C0 := Lib.hid (works20_any (w.alloc (Ck a b c)) (hE.below HB) (hET.low HB hET.lt))
  have C1 := Lib.hid (fun x => readO20 none a b c i x hl)
  have C2 := Lib.hid (fun x => extentE20 a b c i hl x)
  have C3 := Lib.hid (fun x => stageO20 none a b c i t x hl)
  have HX : Hid (BCk (w.alloc (Ck a b c)) w.heap.size a b c) := Box.new _ _ _
  have FC : Hid (∀ x, Below (w.alloc (Ck a b c)).heap.size (w.alloc (Ck a b c)) x → x.cell? ⟨w.heap.size, 0, none⟩ = some (.int .i64 a) ∧ x.cell? ⟨w.heap.size, 1, none⟩ = some (.int .i64 b) ∧ x.cell? ⟨w.heap.size, 2, none⟩ = some (.int .i64 c)) := fun x hb => BCk.cells (Box.below HX.out hb (Box.lt HX.out))
  have FZ : Hid (∀ x, Below (w.alloc (Ck a b c)).heap.size (w.alloc (Ck a b c)) x → Below w.heap.size w x) := fun x hb => HB.trans (hb.mono HB.size)
  have FT : Hid (∀ x y, Below (w.alloc (Ck a b c)).heap.size (w.alloc (Ck a b c)) x → Below x.heap.size x y → Below (w.alloc (Ck a b c)).heap.size (w.alloc (Ck a b c)) y) := fun x y h1 h2 => h1.trans (h2.mono h1.size)
  clear hE hET HB hl HX
  go_enter Tryz.func5, Tryz.ntmps5
  go_wp2_with fail
  refine C0.out.mono ?_
  rintro en w1 ⟨rfl, hb1⟩
  have HB1 := Lib.hid hb1
  clear hb1 C0
  obtain ⟨c0, c1, c2⟩ := FC.out _ HB1.out
  go_wp2_with fail
  refine (C1.out _).mono ?_
  rintro en w2 ⟨rfl, hb2⟩
  have HB2 := Lib.hid (FT.out _ _ HB1.out hb2)
  clear hb2 C1 HB1 c0 c1 c2
  obtain ⟨c0, c1, c2⟩ := FC.out _ HB2.out
  go_wp2_with fail
  refine (C2.out _).mono ?_
  rintro en w3 ⟨rfl, hb3⟩
  have HB3 := Lib.hid (FT.out _ _ HB2.out hb3)
  clear hb3 C2 HB2 c0 c1 c2
  obtain ⟨c0, c1, c2⟩ := FC.out _ HB3.out
  go_wp2_with fail
  refine (C3.out _).mono ?_
  rintro en w4 ⟨rfl, hb4⟩
  have HB4 := Lib.hid (FZ.out _ (FT.out _ _ HB3.out hb4))
  clear hb4 C3 HB3 c0 c1 c2 FC FT FZ
  go_wp2_with fail
  go_ret
  exact ⟨rfl, HB4.out⟩
set_option maxRecDepth 100000 in
set_option maxHeartbeats 1000000 in
/-- One of the volume's. -/
theorem extentNone_in (E S L i : Nat) (t : ByteArray) (h : M.lokB E S L = true) (hi : i < E) (w : World) (hE : Env10 w) (hET : ErrT w) :
    Calls Tryz.prog 5 #[Cf E S L, .int .i64 (i : Nat), .string t] w fun en z => en = .returned (.bool true) ∧ Below w.heap.size w z := by
  have HB := ib1 w (Ck E S L)
  have C0 := Lib.hid (works20_any (w.alloc (Ck E S L)) (hE.below HB) (hET.low HB hET.lt))
  have C1 := Lib.hid (fun x => readN20 E S L i h hi x)
  have C2 := Lib.hid (fun x => extent15_ok E S L i h hi x)
  have HX : Hid (BCk (w.alloc (Ck E S L)) w.heap.size E S L) := Box.new _ _ _
  have FC : Hid (∀ x, Below (w.alloc (Ck E S L)).heap.size (w.alloc (Ck E S L)) x → x.cell? ⟨w.heap.size, 0, none⟩ = some (.int .i64 E) ∧ x.cell? ⟨w.heap.size, 1, none⟩ = some (.int .i64 S) ∧ x.cell? ⟨w.heap.size, 2, none⟩ = some (.int .i64 L)) := fun x hb => BCk.cells (Box.below HX.out hb (Box.lt HX.out))
  have FZ : Hid (∀ x, Below (w.alloc (Ck E S L)).heap.size (w.alloc (Ck E S L)) x → Below w.heap.size w x) := fun x hb => HB.trans (hb.mono HB.size)
  have FT : Hid (∀ x y, Below (w.alloc (Ck E S L)).heap.size (w.alloc (Ck E S L)) x → Below x.heap.size x y → Below (w.alloc (Ck E S L)).heap.size (w.alloc (Ck E S L)) y) := fun x y h1 h2 => h1.trans (h2.mono h1.size)
  obtain ⟨p, hp⟩ : ∃ p, p = M.lx E + 2 * i := ⟨_, rfl⟩
  rw [← hp] at C2
  obtain ⟨r, C3, hr⟩ : ∃ r : Int, Hid (∀ x, Calls Tryz.prog 11 #[.pointer none, Cf E S L, .int .i64 (i : Nat), .string t] x fun e z => e = .returned (.int .i64 r) ∧ Below x.heap.size x z) ∧ ((t.size = 128 ∧ r = 10) ∨ (t.size ≠ 128 ∧ r = 12)) := by
    by_cases ht : t.size = 128
    · exact ⟨10, fun x => stageN20 E S L i h hi t ht x, Or.inl ⟨ht, rfl⟩⟩
    · exact ⟨12, fun x => stageS20 none E S L i t x h hi ht, Or.inr ⟨ht, rfl⟩⟩
  clear hE hET HB h hi HX hp
  rcases hr with ⟨ht, rfl⟩ | ⟨ht, rfl⟩
  · have d1 : ((t.size : Int) == 128) = true := by simp; omega
    have d2 : ((t.size : Int) != 128) = false := by rw [bne, d1]; rfl
    have d3 : (t.size : Int) = 128 := by omega
    clear ht
    go_enter Tryz.func5, Tryz.ntmps5
    go_wp2_with fail
    refine C0.out.mono ?_
    rintro en w1 ⟨rfl, hb1⟩
    have HB1 := Lib.hid hb1
    clear hb1 C0
    obtain ⟨c0, c1, c2⟩ := FC.out _ HB1.out
    go_wp2_with fail
    refine (C1.out _).mono ?_
    rintro en w2 ⟨rfl, hb2⟩
    have HB2 := Lib.hid (FT.out _ _ HB1.out hb2)
    clear hb2 C1 HB1 c0 c1 c2
    obtain ⟨c0, c1, c2⟩ := FC.out _ HB2.out
    go_wp2_with fail
    refine (C2.out _).mono ?_
    rintro en w3 ⟨rfl, hb3⟩
    have HB3 := Lib.hid (FT.out _ _ HB2.out hb3)
    clear hb3 C2 HB2 c0 c1 c2
    obtain ⟨c0, c1, c2⟩ := FC.out _ HB3.out
    go_wp2_with fail
    refine (C3.out _).mono ?_
    rintro en w4 ⟨rfl, hb4⟩
    have HB4 := Lib.hid (FZ.out _ (FT.out _ _ HB3.out hb4))
    clear hb4 C3 HB3 c0 c1 c2 FC FT FZ
    go_wp2_with fail
    go_ret
    exact ⟨rfl, HB4.out⟩
  · have d1 : ((t.size : Int) == 128) = false := by rw [beq_eq_false_iff_ne]; omega
    have d2 : ((t.size : Int) != 128) = true := by rw [bne, d1]; rfl
    have d3 : ¬ (t.size : Int) = 128 := by omega
    clear ht
    go_enter Tryz.func5, Tryz.ntmps5
    go_wp2_with fail
    refine C0.out.mono ?_
    rintro en w1 ⟨rfl, hb1⟩
    have HB1 := Lib.hid hb1
    clear hb1 C0
    obtain ⟨c0, c1, c2⟩ := FC.out _ HB1.out
    go_wp2_with fail
    refine (C1.out _).mono ?_
    rintro en w2 ⟨rfl, hb2⟩
    have HB2 := Lib.hid (FT.out _ _ HB1.out hb2)
    clear hb2 C1 HB1 c0 c1 c2
    obtain ⟨c0, c1, c2⟩ := FC.out _ HB2.out
    go_wp2_with fail
    refine (C2.out _).mono ?_
    rintro en w3 ⟨rfl, hb3⟩
    have HB3 := Lib.hid (FT.out _ _ HB2.out hb3)
    clear hb3 C2 HB2 c0 c1 c2
    obtain ⟨c0, c1, c2⟩ := FC.out _ HB3.out
    go_wp2_with fail
    refine (C3.out _).mono ?_
    rintro en w4 ⟨rfl, hb4⟩
    have HB4 := Lib.hid (FZ.out _ (FT.out _ _ HB3.out hb4))
    clear hb4 C3 HB3 c0 c1 c2 FC FT FZ
    go_wp2_with fail
    go_ret
    exact ⟨rfl, HB4.out⟩
end Go.Proofs.YtmgchfjfkdkaoaaGreatDoor
namespace Go.Proofs.YtmgchfjfkdkaoaaGreatDoor
open Go.RowKit Go.Maps
theorem extentNone_walk (a b c : Int) (i : Int) (t : ByteArray) (W : World) (hE : Env10 W ∧ ErrT W) :
    Calls Tryz.prog 5 #[.agg #[.int .i64 a, .int .i64 b, .int .i64 c], .int .i64 i, .string t] W fun en y => en = .returned (.bool true) ∧ Below W.heap.size W y := by
  by_cases hl : M.lokB a b c = true → i < 0 ∨ a ≤ i
  · exact extentNone_out a b c i t hl W hE.1 hE.2
  · have h' : M.lokB a b c = true := Classical.byContradiction fun e => hl (fun e' => absurd e' e)
    have hi : ¬ (i < 0 ∨ a ≤ i) := fun e => hl (fun _ => e)
    have h9 := (M.lok_iff a b c).1 h'
    obtain ⟨E, rfl⟩ : ∃ E : Nat, a = E := ⟨a.toNat, by omega⟩
    obtain ⟨S, rfl⟩ : ∃ E : Nat, b = E := ⟨b.toNat, by omega⟩
    obtain ⟨L, rfl⟩ : ∃ E : Nat, c = E := ⟨c.toNat, by omega⟩
    obtain ⟨k, rfl⟩ : ∃ k : Nat, i = k := ⟨i.toNat, by omega⟩
    exact extentNone_in E S L k t h' (by omega) W hE.1 hE.2
end Go.Proofs.YtmgchfjfkdkaoaaGreatDoor
