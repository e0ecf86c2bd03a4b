/-
  Walks over layout.Sectors, Super, Journal, Log, Extent, Slot, Table.
-/
import Derived.Test.YtbmgfdnmjilfdaaICfg
namespace Go.Proofs.Ytbmgfdnmjilfdaa
open Go.RowKit

theorem sectors15_ok (E S L : Nat) (h : M.lokB E S L = true) (w : World) :
    Calls Try.prog 11 #[Cf E S L] w fun e w' => e = .returned (.int .i64 (M.ln E S L : Nat)) ∧ Below w.heap.size w w' := by
  have C := Lib.hid (fun x => partsOf_ok E S L h x)
  clear h
  obtain ⟨x, hx⟩ : ∃ x, x = M.lx E := ⟨_, rfl⟩
  obtain ⟨s, hs⟩ : ∃ x, x = M.ls E := ⟨_, rfl⟩
  obtain ⟨l, hl⟩ : ∃ x, x = M.ll E S := ⟨_, rfl⟩
  obtain ⟨m, hm⟩ : ∃ x, x = M.ln E S L := ⟨_, rfl⟩
  rw [← hx, ← hs, ← hl, ← hm] at C
  rw [← hm]
  clear hx hs hl hm
  have HB := Lib.hid (ib1 w (.cells #[.int .i64 E, .int .i64 S, .int .i64 L] 23))
  go_enter Try.func11, Try.ntmps11
  go_wp2_with fail
  refine (C.out _).mono ?_
  rintro e w1 ⟨rfl, hb1⟩
  have HB1 := Lib.hid ((HB.out.trans (hb1.mono HB.out.size)).trans ((ib1 w1 (.cells #[.int .i64 0, .int .i64 1, .int .i64 2, .int .i64 (x : Nat), .int .i64 (s : Nat), .int .i64 (l : Nat), .int .i64 (m : Nat)] 41)).mono (HB.out.trans (hb1.mono HB.out.size)).size))
  clear hb1
  go_wp2_with fail
  go_ret
  exact ⟨rfl, HB1.out⟩
theorem sectors15_no (a b c : Int) (h : M.lokB a b c = false) (w : World) :
    Calls Try.prog 11 #[Cf a b c] w fun e w' => e = .returned (.int .i64 0) ∧ Below w.heap.size w w' := by
  have C := Lib.hid (fun x => partsOf_no a b c h x)
  clear h
  have HB := Lib.hid (ib1 w (.cells #[.int .i64 a, .int .i64 b, .int .i64 c] 23))
  go_enter Try.func11, Try.ntmps11
  go_wp2_with fail
  refine (C.out _).mono ?_
  rintro e w1 ⟨rfl, hb1⟩
  have HB1 := Lib.hid ((HB.out.trans (hb1.mono HB.out.size)).trans ((ib1 w1 (.cells #[.int .i64 0, .int .i64 0, .int .i64 0, .int .i64 0, .int .i64 0, .int .i64 0, .int .i64 0] 41)).mono (HB.out.trans (hb1.mono HB.out.size)).size))
  clear hb1
  go_wp2_with fail
  go_ret
  exact ⟨rfl, HB1.out⟩

theorem super15_ok (E S L : Nat) (h : M.lokB E S L = true) (w : World) :
    Calls Try.prog 14 #[Cf E S L] w fun e w' => e = .returned (.int .i64 0) ∧ Below w.heap.size w w' := by
  have C := Lib.hid (fun x => partsOf_ok E S L h x)
  clear h
  obtain ⟨x, hx⟩ : ∃ x, x = M.lx E := ⟨_, rfl⟩
  obtain ⟨s, hs⟩ : ∃ x, x = M.ls E := ⟨_, rfl⟩
  obtain ⟨l, hl⟩ : ∃ x, x = M.ll E S := ⟨_, rfl⟩
  obtain ⟨m, hm⟩ : ∃ x, x = M.ln E S L := ⟨_, rfl⟩
  rw [← hx, ← hs, ← hl, ← hm] at C
  clear hx hs hl hm
  have HB := Lib.hid (ib1 w (.cells #[.int .i64 E, .int .i64 S, .int .i64 L] 23))
  go_enter Try.func14, Try.ntmps14
  go_wp2_with fail
  refine (C.out _).mono ?_
  rintro e w1 ⟨rfl, hb1⟩
  have HB1 := Lib.hid ((HB.out.trans (hb1.mono HB.out.size)).trans ((ib1 w1 (.cells #[.int .i64 0, .int .i64 1, .int .i64 2, .int .i64 (x : Nat), .int .i64 (s : Nat), .int .i64 (l : Nat), .int .i64 (m : Nat)] 41)).mono (HB.out.trans (hb1.mono HB.out.size)).size))
  clear hb1
  go_wp2_with fail
  go_ret
  exact ⟨rfl, HB1.out⟩
theorem super15_no (a b c : Int) (h : M.lokB a b c = false) (w : World) :
    Calls Try.prog 14 #[Cf a b c] w fun e w' => e = .returned (.int .i64 0) ∧ Below w.heap.size w w' := by
  have C := Lib.hid (fun x => partsOf_no a b c h x)
  clear h
  have HB := Lib.hid (ib1 w (.cells #[.int .i64 a, .int .i64 b, .int .i64 c] 23))
  go_enter Try.func14, Try.ntmps14
  go_wp2_with fail
  refine (C.out _).mono ?_
  rintro e w1 ⟨rfl, hb1⟩
  have HB1 := Lib.hid ((HB.out.trans (hb1.mono HB.out.size)).trans ((ib1 w1 (.cells #[.int .i64 0, .int .i64 0, .int .i64 0, .int .i64 0, .int .i64 0, .int .i64 0, .int .i64 0] 41)).mono (HB.out.trans (hb1.mono HB.out.size)).size))
  clear hb1
  go_wp2_with fail
  go_ret
  exact ⟨rfl, HB1.out⟩

theorem journal15_ok (E S L : Nat) (h : M.lokB E S L = true) (w : World) :
    Calls Try.prog 15 #[Cf E S L] w fun e w' => e = .returned (.int .i64 1) ∧ Below w.heap.size w w' := by
  have C := Lib.hid (fun x => partsOf_ok E S L h x)
  clear h
  obtain ⟨x, hx⟩ : ∃ x, x = M.lx E := ⟨_, rfl⟩
  obtain ⟨s, hs⟩ : ∃ x, x = M.ls E := ⟨_, rfl⟩
  obtain ⟨l, hl⟩ : ∃ x, x = M.ll E S := ⟨_, rfl⟩
  obtain ⟨m, hm⟩ : ∃ x, x = M.ln E S L := ⟨_, rfl⟩
  rw [← hx, ← hs, ← hl, ← hm] at C
  clear hx hs hl hm
  have HB := Lib.hid (ib1 w (.cells #[.int .i64 E, .int .i64 S, .int .i64 L] 23))
  go_enter Try.func15, Try.ntmps15
  go_wp2_with fail
  refine (C.out _).mono ?_
  rintro e w1 ⟨rfl, hb1⟩
  have HB1 := Lib.hid ((HB.out.trans (hb1.mono HB.out.size)).trans ((ib1 w1 (.cells #[.int .i64 0, .int .i64 1, .int .i64 2, .int .i64 (x : Nat), .int .i64 (s : Nat), .int .i64 (l : Nat), .int .i64 (m : Nat)] 41)).mono (HB.out.trans (hb1.mono HB.out.size)).size))
  clear hb1
  go_wp2_with fail
  go_ret
  exact ⟨rfl, HB1.out⟩
theorem journal15_no (a b c : Int) (h : M.lokB a b c = false) (w : World) :
    Calls Try.prog 15 #[Cf a b c] w fun e w' => e = .returned (.int .i64 0) ∧ Below w.heap.size w w' := by
  have C := Lib.hid (fun x => partsOf_no a b c h x)
  clear h
  have HB := Lib.hid (ib1 w (.cells #[.int .i64 a, .int .i64 b, .int .i64 c] 23))
  go_enter Try.func15, Try.ntmps15
  go_wp2_with fail
  refine (C.out _).mono ?_
  rintro e w1 ⟨rfl, hb1⟩
  have HB1 := Lib.hid ((HB.out.trans (hb1.mono HB.out.size)).trans ((ib1 w1 (.cells #[.int .i64 0, .int .i64 0, .int .i64 0, .int .i64 0, .int .i64 0, .int .i64 0, .int .i64 0] 41)).mono (HB.out.trans (hb1.mono HB.out.size)).size))
  clear hb1
  go_wp2_with fail
  go_ret
  exact ⟨rfl, HB1.out⟩

theorem log15_ok (E S L : Nat) (h : M.lokB E S L = true) (w : World) :
    Calls Try.prog 16 #[Cf E S L] w fun e w' => e = .returned (.int .i64 (M.ll E S : Nat)) ∧ Below w.heap.size w w' := by
  have C := Lib.hid (fun x => partsOf_ok E S L h x)
  clear h
  obtain ⟨x, hx⟩ : ∃ x, x = M.lx E := ⟨_, rfl⟩
  obtain ⟨s, hs⟩ : ∃ x, x = M.ls E := ⟨_, rfl⟩
  obtain ⟨l, hl⟩ : ∃ x, x = M.ll E S := ⟨_, rfl⟩
  obtain ⟨m, hm⟩ : ∃ x, x = M.ln E S L := ⟨_, rfl⟩
  rw [← hx, ← hs, ← hl, ← hm] at C
  rw [← hl]
  clear hx hs hl hm
  have HB := Lib.hid (ib1 w (.cells #[.int .i64 E, .int .i64 S, .int .i64 L] 23))
  go_enter Try.func16, Try.ntmps16
  go_wp2_with fail
  refine (C.out _).mono ?_
  rintro e w1 ⟨rfl, hb1⟩
  have HB1 := Lib.hid ((HB.out.trans (hb1.mono HB.out.size)).trans ((ib1 w1 (.cells #[.int .i64 0, .int .i64 1, .int .i64 2, .int .i64 (x : Nat), .int .i64 (s : Nat), .int .i64 (l : Nat), .int .i64 (m : Nat)] 41)).mono (HB.out.trans (hb1.mono HB.out.size)).size))
  clear hb1
  go_wp2_with fail
  go_ret
  exact ⟨rfl, HB1.out⟩
theorem log15_no (a b c : Int) (h : M.lokB a b c = false) (w : World) :
    Calls Try.prog 16 #[Cf a b c] w fun e w' => e = .returned (.int .i64 0) ∧ Below w.heap.size w w' := by
  have C := Lib.hid (fun x => partsOf_no a b c h x)
  clear h
  have HB := Lib.hid (ib1 w (.cells #[.int .i64 a, .int .i64 b, .int .i64 c] 23))
  go_enter Try.func16, Try.ntmps16
  go_wp2_with fail
  refine (C.out _).mono ?_
  rintro e w1 ⟨rfl, hb1⟩
  have HB1 := Lib.hid ((HB.out.trans (hb1.mono HB.out.size)).trans ((ib1 w1 (.cells #[.int .i64 0, .int .i64 0, .int .i64 0, .int .i64 0, .int .i64 0, .int .i64 0, .int .i64 0] 41)).mono (HB.out.trans (hb1.mono HB.out.size)).size))
  clear hb1
  go_wp2_with fail
  go_ret
  exact ⟨rfl, HB1.out⟩

set_option maxHeartbeats 1000000 in
theorem extent15_no (a b c n : Int) (h : M.lokB a b c = false) (w : World) :
    Calls Try.prog 6 #[Cf a b c, .int .i64 n] w fun e w' => e = .returned (.tuple #[.int .i64 0, .int .i64 3]) ∧ Below w.heap.size w w' := by
  have C := Lib.hid (fun x => partsOf_no a b c h x)
  clear h
  have HB := Lib.hid (ib1 w (.cells #[.int .i64 a, .int .i64 b, .int .i64 c] 23))
  go_enter Try.func6, Try.ntmps6
  go_wp2_with fail
  refine (C.out _).mono ?_
  rintro e w1 ⟨rfl, hb1⟩
  have HB1 := Lib.hid ((HB.out.trans (hb1.mono HB.out.size)).trans ((ib1 w1 (.cells #[.int .i64 0, .int .i64 0, .int .i64 0, .int .i64 0, .int .i64 0, .int .i64 0, .int .i64 0] 41)).mono (HB.out.trans (hb1.mono HB.out.size)).size))
  clear hb1
  go_wp2_with fail
  go_ret2
  exact ⟨rfl, HB1.out⟩
set_option maxHeartbeats 1000000 in
theorem extent15_out (E S L : Nat) (n : Int) (h : M.lokB E S L = true) (hn : n < 0 ∨ (E : Int) ≤ n) (w : World) :
    Calls Try.prog 6 #[Cf E S L, .int .i64 n] w fun e w' => e = .returned (.tuple #[.int .i64 0, .int .i64 3]) ∧ Below w.heap.size w w' := by
  have C := Lib.hid (fun x => partsOf_ok E S L h x)
  obtain ⟨x, hx⟩ : ∃ x, x = M.lx E := ⟨_, rfl⟩
  obtain ⟨s, hs⟩ : ∃ x, x = M.ls E := ⟨_, rfl⟩
  obtain ⟨l, hl⟩ : ∃ x, x = M.ll E S := ⟨_, rfl⟩
  obtain ⟨m, hm⟩ : ∃ x, x = M.ln E S L := ⟨_, rfl⟩
  rw [← hx, ← hs, ← hl, ← hm] at C
  have hv := (M.lok_iff _ _ _).1 h
  obtain ⟨f, hf⟩ : ∃ f, f = E - 1 := ⟨_, rfl⟩
  have r3 : IntKind.i64.wrap ((E : Int) - 1) = (f : Int) := by rw [IntKind.wrap_i64]; omega
  have hd : (decide ((0 : Int) ≤ n) && decide (n ≤ (f : Int))) = false := by
    rw [Bool.and_eq_false_iff]
    simp only [decide_eq_false_iff_not]
    omega
  have D := Lib.hid (fun x => within15_any n 0 f x)
  rw [hd] at D
  clear h hv hn hd hf hx hs hl hm
  have HB := Lib.hid (ib1 w (.cells #[.int .i64 E, .int .i64 S, .int .i64 L] 23))
  have HC : Hid (Box (w.alloc (.cells #[.int .i64 E, .int .i64 S, .int .i64 L] 23)) w.heap.size 23 #[.int .i64 E, .int .i64 S, .int .i64 L]) := Box.new _ _ _
  go_enter Try.func6, Try.ntmps6
  go_wp2_with fail
  refine (C.out _).mono ?_
  rintro e w1 ⟨rfl, hb1⟩
  have HB1 := Lib.hid ((HB.out.trans (hb1.mono HB.out.size)).trans ((ib1 w1 (.cells #[.int .i64 0, .int .i64 1, .int .i64 2, .int .i64 (x : Nat), .int .i64 (s : Nat), .int .i64 (l : Nat), .int .i64 (m : Nat)] 41)).mono (HB.out.trans (hb1.mono HB.out.size)).size))
  have HC1 := Lib.hid ((HC.out.below hb1 HC.out.lt).below (ib1 w1 (.cells #[.int .i64 0, .int .i64 1, .int .i64 2, .int .i64 (x : Nat), .int .i64 (s : Nat), .int .i64 (l : Nat), .int .i64 (m : Nat)] 41)) (HC.out.below hb1 HC.out.lt).lt)
  clear hb1
  have c0 := HC1.out.cell 0
  simp only [List.getElem?_toArray, List.getElem?_cons_zero] at c0
  go_wp2_with fail
  refine (D.out _).mono ?_
  rintro e w2 ⟨rfl, rfl⟩
  go_wp2_with fail
  go_ret2
  exact ⟨rfl, HB1.out⟩
set_option maxHeartbeats 1000000 in
theorem extent15_ok (E S L i : Nat) (h : M.lokB E S L = true) (hi : i < E) (w : World) :
    Calls Try.prog 6 #[Cf E S L, .int .i64 (i : Nat)] w fun e w' => e = .returned (.tuple #[.int .i64 (M.lx E + 2 * i : Nat), .int .i64 0]) ∧ Below w.heap.size w w' := by
  have C := Lib.hid (fun x => partsOf_ok E S L h x)
  obtain ⟨x, hx⟩ : ∃ x, x = M.lx E := ⟨_, rfl⟩
  obtain ⟨s, hs⟩ : ∃ x, x = M.ls E := ⟨_, rfl⟩
  obtain ⟨l, hl⟩ : ∃ x, x = M.ll E S := ⟨_, rfl⟩
  obtain ⟨m, hm⟩ : ∃ x, x = M.ln E S L := ⟨_, rfl⟩
  rw [← hx, ← hs, ← hl, ← hm] at C
  obtain ⟨j, hj⟩ : ∃ j, j = i * 2 := ⟨_, rfl⟩
  obtain ⟨y, hy⟩ : ∃ y, y = M.lx E + 2 * i := ⟨_, rfl⟩
  rw [← hy]
  rw [← hx] at hy
  unfold M.lx at hx
  have hv := (M.lok_iff _ _ _).1 h
  obtain ⟨f, hf⟩ : ∃ f, f = E - 1 := ⟨_, rfl⟩
  have r3 : IntKind.i64.wrap ((E : Int) - 1) = (f : Int) := by rw [IntKind.wrap_i64]; omega
  have r1 : IntKind.i64.wrap ((i : Int) * 2) = (j : Int) := by rw [IntKind.wrap_i64]; omega
  have r2 : IntKind.i64.wrap ((x : Int) + (j : Int)) = (y : Int) := by rw [IntKind.wrap_i64]; omega
  have hd : (decide ((0 : Int) ≤ (i : Int)) && decide ((i : Int) ≤ (f : Int))) = true := by
    rw [Bool.and_eq_true]
    simp only [decide_eq_true_eq]
    omega
  have D := Lib.hid (fun x => within15_any i 0 f x)
  rw [hd] at D
  clear h hv  hi hd hf hx hs hl hm hj hy
  have HB := Lib.hid (ib1 w (.cells #[.int .i64 E, .int .i64 S, .int .i64 L] 23))
  have HC : Hid (Box (w.alloc (.cells #[.int .i64 E, .int .i64 S, .int .i64 L] 23)) w.heap.size 23 #[.int .i64 E, .int .i64 S, .int .i64 L]) := Box.new _ _ _
  go_enter Try.func6, Try.ntmps6
  go_wp2_with fail
  refine (C.out _).mono ?_
  rintro e w1 ⟨rfl, hb1⟩
  have HB1 := Lib.hid ((HB.out.trans (hb1.mono HB.out.size)).trans ((ib1 w1 (.cells #[.int .i64 0, .int .i64 1, .int .i64 2, .int .i64 (x : Nat), .int .i64 (s : Nat), .int .i64 (l : Nat), .int .i64 (m : Nat)] 41)).mono (HB.out.trans (hb1.mono HB.out.size)).size))
  have HC1 := Lib.hid ((HC.out.below hb1 HC.out.lt).below (ib1 w1 (.cells #[.int .i64 0, .int .i64 1, .int .i64 2, .int .i64 (x : Nat), .int .i64 (s : Nat), .int .i64 (l : Nat), .int .i64 (m : Nat)] 41)) (HC.out.below hb1 HC.out.lt).lt)
  clear hb1
  have c0 := HC1.out.cell 0
  simp only [List.getElem?_toArray, List.getElem?_cons_zero] at c0
  go_wp2_with fail
  refine (D.out _).mono ?_
  rintro e w2 ⟨rfl, rfl⟩
  go_wp2_with fail
  go_ret2
  exact ⟨rfl, HB1.out⟩

set_option maxHeartbeats 1000000 in
theorem slot15_no (a b c n : Int) (h : M.lokB a b c = false) (w : World) :
    Calls Try.prog 7 #[Cf a b c, .int .i64 n] w fun e w' => e = .returned (.tuple #[.int .i64 0, .int .i64 3]) ∧ Below w.heap.size w w' := by
  have C := Lib.hid (fun x => partsOf_no a b c h x)
  clear h
  have HB := Lib.hid (ib1 w (.cells #[.int .i64 a, .int .i64 b, .int .i64 c] 23))
  go_enter Try.func7, Try.ntmps7
  go_wp2_with fail
  refine (C.out _).mono ?_
  rintro e w1 ⟨rfl, hb1⟩
  have HB1 := Lib.hid ((HB.out.trans (hb1.mono HB.out.size)).trans ((ib1 w1 (.cells #[.int .i64 0, .int .i64 0, .int .i64 0, .int .i64 0, .int .i64 0, .int .i64 0, .int .i64 0] 41)).mono (HB.out.trans (hb1.mono HB.out.size)).size))
  clear hb1
  go_wp2_with fail
  go_ret2
  exact ⟨rfl, HB1.out⟩
set_option maxHeartbeats 1000000 in
theorem slot15_out (E S L : Nat) (n : Int) (h : M.lokB E S L = true) (hn : n < 0 ∨ (S : Int) ≤ n) (w : World) :
    Calls Try.prog 7 #[Cf E S L, .int .i64 n] w fun e w' => e = .returned (.tuple #[.int .i64 0, .int .i64 3]) ∧ Below w.heap.size w w' := by
  have C := Lib.hid (fun x => partsOf_ok E S L h x)
  obtain ⟨x, hx⟩ : ∃ x, x = M.lx E := ⟨_, rfl⟩
  obtain ⟨s, hs⟩ : ∃ x, x = M.ls E := ⟨_, rfl⟩
  obtain ⟨l, hl⟩ : ∃ x, x = M.ll E S := ⟨_, rfl⟩
  obtain ⟨m, hm⟩ : ∃ x, x = M.ln E S L := ⟨_, rfl⟩
  rw [← hx, ← hs, ← hl, ← hm] at C
  have hv := (M.lok_iff _ _ _).1 h
  obtain ⟨f, hf⟩ : ∃ f, f = S - 1 := ⟨_, rfl⟩
  have r3 : IntKind.i64.wrap ((S : Int) - 1) = (f : Int) := by rw [IntKind.wrap_i64]; omega
  have hd : (decide ((0 : Int) ≤ n) && decide (n ≤ (f : Int))) = false := by
    rw [Bool.and_eq_false_iff]
    simp only [decide_eq_false_iff_not]
    omega
  have D := Lib.hid (fun x => within15_any n 0 f x)
  rw [hd] at D
  clear h hv hn hd hf hx hs hl hm
  have HB := Lib.hid (ib1 w (.cells #[.int .i64 E, .int .i64 S, .int .i64 L] 23))
  have HC : Hid (Box (w.alloc (.cells #[.int .i64 E, .int .i64 S, .int .i64 L] 23)) w.heap.size 23 #[.int .i64 E, .int .i64 S, .int .i64 L]) := Box.new _ _ _
  go_enter Try.func7, Try.ntmps7
  go_wp2_with fail
  refine (C.out _).mono ?_
  rintro e w1 ⟨rfl, hb1⟩
  have HB1 := Lib.hid ((HB.out.trans (hb1.mono HB.out.size)).trans ((ib1 w1 (.cells #[.int .i64 0, .int .i64 1, .int .i64 2, .int .i64 (x : Nat), .int .i64 (s : Nat), .int .i64 (l : Nat), .int .i64 (m : Nat)] 41)).mono (HB.out.trans (hb1.mono HB.out.size)).size))
  have HC1 := Lib.hid ((HC.out.below hb1 HC.out.lt).below (ib1 w1 (.cells #[.int .i64 0, .int .i64 1, .int .i64 2, .int .i64 (x : Nat), .int .i64 (s : Nat), .int .i64 (l : Nat), .int .i64 (m : Nat)] 41)) (HC.out.below hb1 HC.out.lt).lt)
  clear hb1
  have c0 := HC1.out.cell 1
  simp only [List.getElem?_toArray, List.getElem?_cons_zero, List.getElem?_cons_succ] at c0
  go_wp2_with fail
  refine (D.out _).mono ?_
  rintro e w2 ⟨rfl, rfl⟩
  go_wp2_with fail
  go_ret2
  exact ⟨rfl, HB1.out⟩
set_option maxHeartbeats 1000000 in
theorem slot15_ok (E S L i : Nat) (h : M.lokB E S L = true) (hi : i < S) (w : World) :
    Calls Try.prog 7 #[Cf E S L, .int .i64 (i : Nat)] w fun e w' => e = .returned (.tuple #[.int .i64 (M.ls E + 5 * i : Nat), .int .i64 0]) ∧ Below w.heap.size w w' := by
  have C := Lib.hid (fun x => partsOf_ok E S L h x)
  obtain ⟨x, hx⟩ : ∃ x, x = M.lx E := ⟨_, rfl⟩
  obtain ⟨s, hs⟩ : ∃ x, x = M.ls E := ⟨_, rfl⟩
  obtain ⟨l, hl⟩ : ∃ x, x = M.ll E S := ⟨_, rfl⟩
  obtain ⟨m, hm⟩ : ∃ x, x = M.ln E S L := ⟨_, rfl⟩
  rw [← hx, ← hs, ← hl, ← hm] at C
  obtain ⟨j, hj⟩ : ∃ j, j = i * 5 := ⟨_, rfl⟩
  obtain ⟨y, hy⟩ : ∃ y, y = M.ls E + 5 * i := ⟨_, rfl⟩
  rw [← hy]
  rw [← hs] at hy
  unfold M.ls M.lx at hs
  have hv := (M.lok_iff _ _ _).1 h
  obtain ⟨f, hf⟩ : ∃ f, f = S - 1 := ⟨_, rfl⟩
  have r3 : IntKind.i64.wrap ((S : Int) - 1) = (f : Int) := by rw [IntKind.wrap_i64]; omega
  have r1 : IntKind.i64.wrap ((i : Int) * 5) = (j : Int) := by rw [IntKind.wrap_i64]; omega
  have r2 : IntKind.i64.wrap ((s : Int) + (j : Int)) = (y : Int) := by rw [IntKind.wrap_i64]; omega
  have hd : (decide ((0 : Int) ≤ (i : Int)) && decide ((i : Int) ≤ (f : Int))) = true := by
    rw [Bool.and_eq_true]
    simp only [decide_eq_true_eq]
    omega
  have D := Lib.hid (fun x => within15_any i 0 f x)
  rw [hd] at D
  clear h hv  hi hd hf hx hs hl hm hj hy
  have HB := Lib.hid (ib1 w (.cells #[.int .i64 E, .int .i64 S, .int .i64 L] 23))
  have HC : Hid (Box (w.alloc (.cells #[.int .i64 E, .int .i64 S, .int .i64 L] 23)) w.heap.size 23 #[.int .i64 E, .int .i64 S, .int .i64 L]) := Box.new _ _ _
  go_enter Try.func7, Try.ntmps7
  go_wp2_with fail
  refine (C.out _).mono ?_
  rintro e w1 ⟨rfl, hb1⟩
  have HB1 := Lib.hid ((HB.out.trans (hb1.mono HB.out.size)).trans ((ib1 w1 (.cells #[.int .i64 0, .int .i64 1, .int .i64 2, .int .i64 (x : Nat), .int .i64 (s : Nat), .int .i64 (l : Nat), .int .i64 (m : Nat)] 41)).mono (HB.out.trans (hb1.mono HB.out.size)).size))
  have HC1 := Lib.hid ((HC.out.below hb1 HC.out.lt).below (ib1 w1 (.cells #[.int .i64 0, .int .i64 1, .int .i64 2, .int .i64 (x : Nat), .int .i64 (s : Nat), .int .i64 (l : Nat), .int .i64 (m : Nat)] 41)) (HC.out.below hb1 HC.out.lt).lt)
  clear hb1
  have c0 := HC1.out.cell 1
  simp only [List.getElem?_toArray, List.getElem?_cons_zero, List.getElem?_cons_succ] at c0
  go_wp2_with fail
  refine (D.out _).mono ?_
  rintro e w2 ⟨rfl, rfl⟩
  go_wp2_with fail
  go_ret2
  exact ⟨rfl, HB1.out⟩

set_option maxHeartbeats 1000000 in
theorem table15_no (a b c n : Int) (h : M.lokB a b c = false) (w : World) :
    Calls Try.prog 8 #[Cf a b c, .int .i64 n] w fun e w' => e = .returned (.tuple #[.int .i64 0, .int .i64 0, .int .i64 3]) ∧ Below w.heap.size w w' := by
  have C := Lib.hid (fun x => partsOf_no a b c h x)
  clear h
  have HB := Lib.hid (ib1 w (.cells #[.int .i64 a, .int .i64 b, .int .i64 c] 23))
  go_enter Try.func8, Try.ntmps8
  go_wp2_with fail
  refine (C.out _).mono ?_
  rintro e w1 ⟨rfl, hb1⟩
  have HB1 := Lib.hid ((HB.out.trans (hb1.mono HB.out.size)).trans ((ib1 w1 (.cells #[.int .i64 0, .int .i64 0, .int .i64 0, .int .i64 0, .int .i64 0, .int .i64 0, .int .i64 0] 41)).mono (HB.out.trans (hb1.mono HB.out.size)).size))
  clear hb1
  go_wp2_with fail
  go_returns
  exact ⟨rfl, HB1.out⟩
set_option maxHeartbeats 1000000 in
theorem table15_out (E S L : Nat) (n : Int) (h : M.lokB E S L = true) (hn : n < 0 ∨ (E : Int) ≤ n) (w : World) :
    Calls Try.prog 8 #[Cf E S L, .int .i64 n] w fun e w' => e = .returned (.tuple #[.int .i64 0, .int .i64 0, .int .i64 3]) ∧ Below w.heap.size w w' := by
  have C := Lib.hid (fun x => partsOf_ok E S L h x)
  obtain ⟨x, hx⟩ : ∃ x, x = M.lx E := ⟨_, rfl⟩
  obtain ⟨s, hs⟩ : ∃ x, x = M.ls E := ⟨_, rfl⟩
  obtain ⟨l, hl⟩ : ∃ x, x = M.ll E S := ⟨_, rfl⟩
  obtain ⟨m, hm⟩ : ∃ x, x = M.ln E S L := ⟨_, rfl⟩
  rw [← hx, ← hs, ← hl, ← hm] at C
  have hv := (M.lok_iff _ _ _).1 h
  obtain ⟨f, hf⟩ : ∃ f, f = E - 1 := ⟨_, rfl⟩
  have r3 : IntKind.i64.wrap ((E : Int) - 1) = (f : Int) := by rw [IntKind.wrap_i64]; omega
  have hd : (decide ((0 : Int) ≤ n) && decide (n ≤ (f : Int))) = false := by
    rw [Bool.and_eq_false_iff]
    simp only [decide_eq_false_iff_not]
    omega
  have D := Lib.hid (fun x => within15_any n 0 f x)
  rw [hd] at D
  clear h hv hn hd hf hx hs hl hm
  have HB := Lib.hid (ib1 w (.cells #[.int .i64 E, .int .i64 S, .int .i64 L] 23))
  have HC : Hid (Box (w.alloc (.cells #[.int .i64 E, .int .i64 S, .int .i64 L] 23)) w.heap.size 23 #[.int .i64 E, .int .i64 S, .int .i64 L]) := Box.new _ _ _
  go_enter Try.func8, Try.ntmps8
  go_wp2_with fail
  refine (C.out _).mono ?_
  rintro e w1 ⟨rfl, hb1⟩
  have HB1 := Lib.hid ((HB.out.trans (hb1.mono HB.out.size)).trans ((ib1 w1 (.cells #[.int .i64 0, .int .i64 1, .int .i64 2, .int .i64 (x : Nat), .int .i64 (s : Nat), .int .i64 (l : Nat), .int .i64 (m : Nat)] 41)).mono (HB.out.trans (hb1.mono HB.out.size)).size))
  have HC1 := Lib.hid ((HC.out.below hb1 HC.out.lt).below (ib1 w1 (.cells #[.int .i64 0, .int .i64 1, .int .i64 2, .int .i64 (x : Nat), .int .i64 (s : Nat), .int .i64 (l : Nat), .int .i64 (m : Nat)] 41)) (HC.out.below hb1 HC.out.lt).lt)
  clear hb1
  have c0 := HC1.out.cell 0
  simp only [List.getElem?_toArray, List.getElem?_cons_zero] at c0
  go_wp2_with fail
  refine (D.out _).mono ?_
  rintro e w2 ⟨rfl, rfl⟩
  go_wp2_with fail
  go_returns
  exact ⟨rfl, HB1.out⟩
set_option maxHeartbeats 1000000 in
theorem table15_ok (E S L i : Nat) (h : M.lokB E S L = true) (hi : i < E) (w : World) :
    Calls Try.prog 8 #[Cf E S L, .int .i64 (i : Nat)] w fun e w' => e = .returned (.tuple #[.int .i64 (2 + i / 2 : Nat), .int .i64 (i % 2 : Nat), .int .i64 0]) ∧ Below w.heap.size w w' := by
  have C := Lib.hid (fun x => partsOf_ok E S L h x)
  obtain ⟨x, hx⟩ : ∃ x, x = M.lx E := ⟨_, rfl⟩
  obtain ⟨s, hs⟩ : ∃ x, x = M.ls E := ⟨_, rfl⟩
  obtain ⟨l, hl⟩ : ∃ x, x = M.ll E S := ⟨_, rfl⟩
  obtain ⟨m, hm⟩ : ∃ x, x = M.ln E S L := ⟨_, rfl⟩
  rw [← hx, ← hs, ← hl, ← hm] at C
  obtain ⟨j, hj⟩ : ∃ j, j = i / 2 := ⟨_, rfl⟩
  obtain ⟨k, hk⟩ : ∃ k, k = i % 2 := ⟨_, rfl⟩
  obtain ⟨y, hy⟩ : ∃ y, y = 2 + j := ⟨_, rfl⟩
  rw [← hj, ← hk, ← hy]
  have hv := (M.lok_iff _ _ _).1 h
  obtain ⟨f, hf⟩ : ∃ f, f = E - 1 := ⟨_, rfl⟩
  have r3 : IntKind.i64.wrap ((E : Int) - 1) = (f : Int) := by rw [IntKind.wrap_i64]; omega
  have r1 : (i : Int).tdiv 2 = (j : Int) := by rw [Int.tdiv_eq_ediv_of_nonneg (by omega)]; omega
  have r4 : IntKind.i64.wrap (j : Int) = (j : Int) := by rw [IntKind.wrap_i64]; omega
  have r5 : (i : Int).tmod 2 = (k : Int) := by rw [Int.tmod_eq_emod_of_nonneg (by omega)]; omega
  have r6 : IntKind.i64.wrap (k : Int) = (k : Int) := by rw [IntKind.wrap_i64]; omega
  have r2 : IntKind.i64.wrap (2 + (j : Int)) = (y : Int) := by rw [IntKind.wrap_i64]; omega
  have hd : (decide ((0 : Int) ≤ (i : Int)) && decide ((i : Int) ≤ (f : Int))) = true := by
    rw [Bool.and_eq_true]
    simp only [decide_eq_true_eq]
    omega
  have D := Lib.hid (fun x => within15_any i 0 f x)
  rw [hd] at D
  clear h hv hk hi hd hf hx hs hl hm hj hy
  have HB := Lib.hid (ib1 w (.cells #[.int .i64 E, .int .i64 S, .int .i64 L] 23))
  have HC : Hid (Box (w.alloc (.cells #[.int .i64 E, .int .i64 S, .int .i64 L] 23)) w.heap.size 23 #[.int .i64 E, .int .i64 S, .int .i64 L]) := Box.new _ _ _
  go_enter Try.func8, Try.ntmps8
  go_wp2_with fail
  refine (C.out _).mono ?_
  rintro e w1 ⟨rfl, hb1⟩
  have HB1 := Lib.hid ((HB.out.trans (hb1.mono HB.out.size)).trans ((ib1 w1 (.cells #[.int .i64 0, .int .i64 1, .int .i64 2, .int .i64 (x : Nat), .int .i64 (s : Nat), .int .i64 (l : Nat), .int .i64 (m : Nat)] 41)).mono (HB.out.trans (hb1.mono HB.out.size)).size))
  have HC1 := Lib.hid ((HC.out.below hb1 HC.out.lt).below (ib1 w1 (.cells #[.int .i64 0, .int .i64 1, .int .i64 2, .int .i64 (x : Nat), .int .i64 (s : Nat), .int .i64 (l : Nat), .int .i64 (m : Nat)] 41)) (HC.out.below hb1 HC.out.lt).lt)
  clear hb1
  have c0 := HC1.out.cell 0
  simp only [List.getElem?_toArray, List.getElem?_cons_zero] at c0
  go_wp2_with fail
  refine (D.out _).mono ?_
  rintro e w2 ⟨rfl, rfl⟩
  go_wp2_with fail
  go_returns
  exact ⟨rfl, HB1.out⟩

end Go.Proofs.Ytbmgfdnmjilfdaa
