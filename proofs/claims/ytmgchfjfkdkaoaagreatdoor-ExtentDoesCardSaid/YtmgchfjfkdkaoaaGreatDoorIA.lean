/-
  Walks over layout.within, Check, partsOf, Sectors, Super, Journal, Log, and solderref15.Check. Walks over layout.Sectors, Super, Journal, Log, Extent, Slot, Table.
-/
import Derived.Test.YtmgchfjfkdkaoaaGreatDoorMA
import Derived.Deep.RegionHeld3
import Derived.Handy
namespace Go.Proofs.YtmgchfjfkdkaoaaGreatDoor
open Go.RowKit

/-- May a volume be made so? -/
def M.lokB (a b c : Int) : Bool := (decide (1 ≤ a) && decide (a ≤ 24)) && ((decide (1 ≤ b) && decide (b ≤ 8)) && (decide (24 ≤ c) && decide (c ≤ 200)))
theorem M.lok_iff (a b c : Int) : M.lokB a b c = true ↔ 1 ≤ a ∧ a ≤ 24 ∧ 1 ≤ b ∧ b ≤ 8 ∧ 24 ≤ c ∧ c ≤ 200 := by
  unfold M.lokB
  simp only [Bool.and_eq_true, decide_eq_true_eq]
  omega
def M.lerr (a b c : Int) : Int := if M.lokB a b c = true then 0 else 3
/-- Where the extents, the slots, the log and the volume's end are. -/
def M.lx (E : Nat) : Nat := 2 + (E + 1) / 2
def M.ls (E : Nat) : Nat := M.lx E + 2 * E
def M.ll (E S : Nat) : Nat := M.ls E + 5 * S
def M.ln (E S L : Nat) : Nat := M.ll E S + L
theorem ib1 (w : World) (o1 : Obj) : Below w.heap.size w (w.alloc o1) := (Below.refl w.heap.size w).alloc (Nat.le_refl _) o1
theorem ib2 (w : World) (o1 o2 : Obj) : Below w.heap.size w ((w.alloc o1).alloc o2) := (ib1 w o1).alloc (by simp) o2
/-- A volume's numbers, by value. -/
abbrev Cf (a b c : Int) : Value := .agg #[.int .i64 a, .int .i64 b, .int .i64 c]

theorem within15_any (n f t : Int) (w : World) : Calls Tryz.prog 45 #[.int .i64 n, .int .i64 f, .int .i64 t] w fun e w' => e = .returned (.bool (decide (f ≤ n) && decide (n ≤ t))) ∧ w = w' := by
  by_cases h1 : f ≤ n
  · have d1 : decide (f ≤ n) = true := by simpa using h1
    rw [d1]
    clear h1
    go_enter Tryz.func45, Tryz.ntmps45
    go_wp2_with fail
    go_ret
    exact ⟨by simp, rfl⟩
  · have d1 : decide (f ≤ n) = false := by simpa using h1
    rw [d1]
    clear h1
    go_enter Tryz.func45, Tryz.ntmps45
    go_wp2_with fail
    go_ret
    exact ⟨by simp, rfl⟩

theorem check15_any (a b c : Int) (w : World) : Calls Tryz.prog 21 #[Cf a b c] w fun e w' => e = .returned (.int .i64 (M.lerr a b c)) ∧ Below w.heap.size w w' := by
  have C1 := Lib.hid (fun x => within15_any a 1 24 x)
  have C2 := Lib.hid (fun x => within15_any b 1 8 x)
  have C3 := Lib.hid (fun x => within15_any c 24 200 x)
  have HB := Lib.hid (ib1 w (.cells #[.int .i64 a, .int .i64 b, .int .i64 c] 23))
  unfold M.lerr M.lokB
  obtain ⟨r1, h1⟩ : ∃ r, r = (decide (1 ≤ a) && decide (a ≤ 24)) := ⟨_, rfl⟩
  obtain ⟨r2, h2⟩ : ∃ r, r = (decide (1 ≤ b) && decide (b ≤ 8)) := ⟨_, rfl⟩
  obtain ⟨r3, h3⟩ : ∃ r, r = (decide (24 ≤ c) && decide (c ≤ 200)) := ⟨_, rfl⟩
  rw [← h1] at C1 ⊢
  rw [← h2] at C2 ⊢
  rw [← h3] at C3 ⊢
  clear h1 h2 h3
  cases r1
  · go_enter Tryz.func21, Tryz.ntmps21
    go_wp2_with fail
    refine (C1.out _).mono ?_
    rintro e w1 ⟨rfl, rfl⟩
    go_wp2_with fail
    go_ret
    exact ⟨rfl, HB.out⟩
  · cases r2
    · go_enter Tryz.func21, Tryz.ntmps21
      go_wp2_with fail
      refine (C1.out _).mono ?_
      rintro e w1 ⟨rfl, rfl⟩
      go_wp2_with fail
      refine (C2.out _).mono ?_
      rintro e w1 ⟨rfl, rfl⟩
      go_wp2_with fail
      go_ret
      exact ⟨rfl, HB.out⟩
    · cases r3
      all_goals
        go_enter Tryz.func21, Tryz.ntmps21
        go_wp2_with fail
        refine (C1.out _).mono ?_
        rintro e w1 ⟨rfl, rfl⟩
        go_wp2_with fail
        refine (C2.out _).mono ?_
        rintro e w1 ⟨rfl, rfl⟩
        go_wp2_with fail
        refine (C3.out _).mono ?_
        rintro e w1 ⟨rfl, rfl⟩
        go_wp2_with fail
        go_ret
        exact ⟨rfl, HB.out⟩

theorem M.lerr_no {a b c : Int} (h : M.lokB a b c = false) : M.lerr a b c = 3 := by unfold M.lerr; rw [h]; rfl
theorem M.lerr_ok {E S L : Nat} (h : M.lokB E S L = true) : M.lerr E S L = 0 := by unfold M.lerr; rw [h]; rfl

theorem M.six_cases15 (b1 b2 b3 b4 b5 b6 : Bool) : b1 = true ∨ (b1 = false ∧ b2 = true) ∨ (b1 = false ∧ b2 = false ∧ b3 = true) ∨ (b1 = false ∧ b2 = false ∧ b3 = false ∧ b4 = true) ∨ (b1 = false ∧ b2 = false ∧ b3 = false ∧ b4 = false ∧ b5 = true) ∨ (b1 = false ∧ b2 = false ∧ b3 = false ∧ b4 = false ∧ b5 = false ∧ b6 = true) ∨ (b1 = false ∧ b2 = false ∧ b3 = false ∧ b4 = false ∧ b5 = false ∧ b6 = false) := by
  cases b1 <;> cases b2 <;> cases b3 <;> cases b4 <;> cases b5 <;> cases b6 <;> simp
/-- What partsOf says of a volume that may be. -/
abbrev Pt (x s l n : Nat) : Value := .agg #[.int .i64 0, .int .i64 1, .int .i64 2, .int .i64 (x : Nat), .int .i64 (s : Nat), .int .i64 (l : Nat), .int .i64 (n : Nat)]
abbrev Pt0 : Value := .agg #[.int .i64 0, .int .i64 0, .int .i64 0, .int .i64 0, .int .i64 0, .int .i64 0, .int .i64 0]

set_option maxHeartbeats 1000000 in
theorem partsOf_no (a b c : Int) (h : M.lokB a b c = false) (w : World) : Calls Tryz.prog 40 #[Cf a b c] w fun e w' => e = .returned (.tuple #[Pt0, .int .i64 3]) ∧ Below w.heap.size w w' := by
  have C := Lib.hid (fun x => check15_any a b c x)
  rw [M.lerr_no h] at C
  clear h
  have HB := Lib.hid (ib2 w (.cells #[.int .i64 a, .int .i64 b, .int .i64 c] 23) (.cells #[.int .i64 0, .int .i64 0, .int .i64 0, .int .i64 0, .int .i64 0, .int .i64 0, .int .i64 0] 86))
  have HX : Hid (Box ((w.alloc (.cells #[.int .i64 a, .int .i64 b, .int .i64 c] 23)).alloc (.cells #[.int .i64 0, .int .i64 0, .int .i64 0, .int .i64 0, .int .i64 0, .int .i64 0, .int .i64 0] 86)) (w.heap.size + 1) 86 #[.int .i64 0, .int .i64 0, .int .i64 0, .int .i64 0, .int .i64 0, .int .i64 0, .int .i64 0]) := by
    have := Box.new (w.alloc (.cells #[.int .i64 a, .int .i64 b, .int .i64 c] 23)) 86 #[.int .i64 0, .int .i64 0, .int .i64 0, .int .i64 0, .int .i64 0, .int .i64 0, .int .i64 0]
    rw [World.size_alloc] at this
    exact this
  go_enter Tryz.func40, Tryz.ntmps40
  go_wp2_with fail
  refine (C.out _).mono ?_
  rintro e w1 ⟨rfl, hb1⟩
  have HX1 := Lib.hid (HX.out.below hb1 HX.out.lt)
  have HB1 := Lib.hid (HB.out.trans (hb1.mono HB.out.size))
  clear hb1
  have c0 := (HX1.out.cell 0).trans (rfl : _ = some (Value.int .i64 0))
  have f0 := HX1.out.frozen 0
  have f1 := HX1.out.frozen 1
  have f2 := HX1.out.frozen 2
  have f3 := HX1.out.frozen 3
  have f4 := HX1.out.frozen 4
  have f5 := HX1.out.frozen 5
  have f6 := HX1.out.frozen 6
  have c1 := (HX1.out.cell 1).trans (rfl : _ = some (Value.int .i64 0))
  have c2 := (HX1.out.cell 2).trans (rfl : _ = some (Value.int .i64 0))
  have c3 := (HX1.out.cell 3).trans (rfl : _ = some (Value.int .i64 0))
  have c4 := (HX1.out.cell 4).trans (rfl : _ = some (Value.int .i64 0))
  have c5 := (HX1.out.cell 5).trans (rfl : _ = some (Value.int .i64 0))
  have c6 := (HX1.out.cell 6).trans (rfl : _ = some (Value.int .i64 0))
  go_wp2_with fail
  exact bodyPost_ret (v := .tuple #[Pt0, .int .i64 3]) (by simp [results, Tryz.results40, go_sem, *]) rfl ⟨rfl, by (repeat refine Below.setCell ?_ (by simp) _); exact HB1.out⟩

set_option maxHeartbeats 1000000 in
theorem partsOf_ok (E S L : Nat) (h : M.lokB E S L = true) (w : World) : Calls Tryz.prog 40 #[Cf E S L] w fun e w' => e = .returned (.tuple #[Pt (M.lx E) (M.ls E) (M.ll E S) (M.ln E S L), .int .i64 0]) ∧ Below w.heap.size w w' := by
  have C := Lib.hid (fun x => check15_any E S L x)
  rw [M.lerr_ok h] at C
  rw [M.lok_iff] at h
  obtain ⟨x, hx⟩ : ∃ x, x = M.lx E := ⟨_, rfl⟩
  obtain ⟨s, hs⟩ : ∃ x, x = M.ls E := ⟨_, rfl⟩
  obtain ⟨l, hl⟩ : ∃ x, x = M.ll E S := ⟨_, rfl⟩
  obtain ⟨n, hn⟩ : ∃ x, x = M.ln E S L := ⟨_, rfl⟩
  obtain ⟨e2, he2⟩ : ∃ x, x = E + 2 := ⟨_, rfl⟩
  obtain ⟨e1, he1⟩ : ∃ x, x = E + 1 := ⟨_, rfl⟩
  obtain ⟨t, ht⟩ : ∃ x, x = (E + 1) / 2 := ⟨_, rfl⟩
  obtain ⟨m, hm⟩ : ∃ x, x = E * 2 := ⟨_, rfl⟩
  obtain ⟨q, hq⟩ : ∃ x, x = S * 5 := ⟨_, rfl⟩
  rw [← hx, ← hs, ← hl, ← hn]
  unfold M.ln at hn
  rw [← hl] at hn
  unfold M.ll at hl
  rw [← hs] at hl
  unfold M.ls at hs
  rw [← hx] at hs
  unfold M.lx at hx
  have r1 : IntKind.i64.wrap ((E : Int) + 2) = (e2 : Int) := by rw [IntKind.wrap_i64]; omega
  have r2 : IntKind.i64.wrap ((e2 : Int) - 1) = (e1 : Int) := by rw [IntKind.wrap_i64]; omega
  have r3 : (e1 : Int).tdiv 2 = (t : Int) := by rw [Int.tdiv_eq_ediv_of_nonneg (by omega)]; omega
  have r0 : IntKind.i64.wrap (t : Int) = (t : Int) := by rw [IntKind.wrap_i64]; omega
  have r4 : IntKind.i64.wrap (2 + (t : Int)) = (x : Int) := by rw [IntKind.wrap_i64]; omega
  have r5 : IntKind.i64.wrap ((E : Int) * 2) = (m : Int) := by rw [IntKind.wrap_i64]; omega
  have r6 : IntKind.i64.wrap ((x : Int) + (m : Int)) = (s : Int) := by rw [IntKind.wrap_i64]; omega
  have r7 : IntKind.i64.wrap ((S : Int) * 5) = (q : Int) := by rw [IntKind.wrap_i64]; omega
  have r8 : IntKind.i64.wrap ((s : Int) + (q : Int)) = (l : Int) := by rw [IntKind.wrap_i64]; omega
  have r9 : IntKind.i64.wrap ((l : Int) + (L : Int)) = (n : Int) := by rw [IntKind.wrap_i64]; omega
  clear h hx hs hl hn he2 he1 ht hm hq
  have HB := Lib.hid (ib2 w (.cells #[.int .i64 E, .int .i64 S, .int .i64 L] 23) (.cells #[.int .i64 0, .int .i64 0, .int .i64 0, .int .i64 0, .int .i64 0, .int .i64 0, .int .i64 0] 86))
  have HX : Hid (Box ((w.alloc (.cells #[.int .i64 E, .int .i64 S, .int .i64 L] 23)).alloc (.cells #[.int .i64 0, .int .i64 0, .int .i64 0, .int .i64 0, .int .i64 0, .int .i64 0, .int .i64 0] 86)) (w.heap.size + 1) 86 #[.int .i64 0, .int .i64 0, .int .i64 0, .int .i64 0, .int .i64 0, .int .i64 0, .int .i64 0]) := by
    have := Box.new (w.alloc (.cells #[.int .i64 E, .int .i64 S, .int .i64 L] 23)) 86 #[.int .i64 0, .int .i64 0, .int .i64 0, .int .i64 0, .int .i64 0, .int .i64 0, .int .i64 0]
    rw [World.size_alloc] at this
    exact this
  have HC : Hid (Box ((w.alloc (.cells #[.int .i64 E, .int .i64 S, .int .i64 L] 23)).alloc (.cells #[.int .i64 0, .int .i64 0, .int .i64 0, .int .i64 0, .int .i64 0, .int .i64 0, .int .i64 0] 86)) w.heap.size 23 #[.int .i64 E, .int .i64 S, .int .i64 L]) := (Box.new w _ _).below (ib1 _ _) (Box.new w _ _).lt
  go_enter Tryz.func40, Tryz.ntmps40
  go_wp2_with fail
  refine (C.out _).mono ?_
  rintro e w1 ⟨rfl, hb1⟩
  have HB1 : Hid (∀ o, Below w.heap.size w (w1.alloc o)) := fun o => (HB.out.trans (hb1.mono HB.out.size)).alloc (HB.out.trans (hb1.mono HB.out.size)).size o
  have HX1 : ∀ o, Box (w1.alloc o) (w.heap.size + 1) 86 #[.int .i64 0, .int .i64 0, .int .i64 0, .int .i64 0, .int .i64 0, .int .i64 0, .int .i64 0] := fun o => (HX.out.below hb1 HX.out.lt).below (ib1 w1 o) (HX.out.below hb1 HX.out.lt).lt
  have HC1 : ∀ o, Box (w1.alloc o) w.heap.size 23 #[.int .i64 E, .int .i64 S, .int .i64 L] := fun o => (HC.out.below hb1 HC.out.lt).below (ib1 w1 o) (HC.out.below hb1 HC.out.lt).lt
  have c0 := fun cs => ((HC1 (.cells cs 86)).cell 0).trans (rfl : _ = some (Value.int .i64 E))
  have c1 := fun cs => ((HC1 (.cells cs 86)).cell 1).trans (rfl : _ = some (Value.int .i64 S))
  have c2 := fun cs => ((HC1 (.cells cs 86)).cell 2).trans (rfl : _ = some (Value.int .i64 L))
  have x0 := fun cs => ((HX1 (.cells cs 86)).cell 0).trans (rfl : _ = some (Value.int .i64 0))
  have f0 := fun cs => (HX1 (.cells cs 86)).frozen 0
  have x1 := fun cs => ((HX1 (.cells cs 86)).cell 1).trans (rfl : _ = some (Value.int .i64 0))
  have f1 := fun cs => (HX1 (.cells cs 86)).frozen 1
  have x2 := fun cs => ((HX1 (.cells cs 86)).cell 2).trans (rfl : _ = some (Value.int .i64 0))
  have f2 := fun cs => (HX1 (.cells cs 86)).frozen 2
  have x3 := fun cs => ((HX1 (.cells cs 86)).cell 3).trans (rfl : _ = some (Value.int .i64 0))
  have f3 := fun cs => (HX1 (.cells cs 86)).frozen 3
  have x4 := fun cs => ((HX1 (.cells cs 86)).cell 4).trans (rfl : _ = some (Value.int .i64 0))
  have f4 := fun cs => (HX1 (.cells cs 86)).frozen 4
  have x5 := fun cs => ((HX1 (.cells cs 86)).cell 5).trans (rfl : _ = some (Value.int .i64 0))
  have f5 := fun cs => (HX1 (.cells cs 86)).frozen 5
  have x6 := fun cs => ((HX1 (.cells cs 86)).cell 6).trans (rfl : _ = some (Value.int .i64 0))
  have f6 := fun cs => (HX1 (.cells cs 86)).frozen 6
  clear hb1 HX1 HC1 HX HC HB C
  go_wp2_with fail
  exact bodyPost_ret (v := .tuple #[Pt x s l n, .int .i64 0]) (by simp [results, Tryz.results40, go_sem, *]) rfl ⟨rfl, by (repeat refine Below.setCell ?_ (by simp; try omega) _); exact HB1.out _⟩

/-- A number out of the parts. -/
theorem get15_ok (E S L : Nat) (h : M.lokB E S L = true) (w : World) :
    Calls Tryz.prog 23 #[Cf E S L] w fun e w' => e = .returned (.int .i64 (M.ln E S L : Nat)) ∧ Below w.heap.size w w' := by
  have C := Lib.hid (fun x => partsOf_ok E S L h x)
  clear h
  obtain ⟨x, hx⟩ : ∃ x, x = M.lx E := ⟨_, rfl⟩
  obtain ⟨s, hs⟩ : ∃ x, x = M.ls E := ⟨_, rfl⟩
  obtain ⟨l, hl⟩ : ∃ x, x = M.ll E S := ⟨_, rfl⟩
  obtain ⟨n, hn⟩ : ∃ x, x = M.ln E S L := ⟨_, rfl⟩
  rw [← hx, ← hs, ← hl, ← hn] at C
  rw [← hn]
  clear hx hs hl hn
  have HB := Lib.hid (ib1 w (.cells #[.int .i64 E, .int .i64 S, .int .i64 L] 23))
  go_enter Tryz.func23, Tryz.ntmps23
  go_wp2_with fail
  refine (C.out _).mono ?_
  rintro e w1 ⟨rfl, hb1⟩
  have HB1 := Lib.hid ((HB.out.trans (hb1.mono HB.out.size)).trans ((ib1 w1 (.cells #[.int .i64 0, .int .i64 1, .int .i64 2, .int .i64 (x : Nat), .int .i64 (s : Nat), .int .i64 (l : Nat), .int .i64 (n : Nat)] 86)).mono (HB.out.trans (hb1.mono HB.out.size)).size))
  clear hb1
  go_wp2_with fail
  go_ret
  exact ⟨rfl, HB1.out⟩
end Go.Proofs.YtmgchfjfkdkaoaaGreatDoor
namespace Go.Proofs.YtmgchfjfkdkaoaaGreatDoor
open Go.RowKit

theorem sectors15_ok (E S L : Nat) (h : M.lokB E S L = true) (w : World) :
    Calls Tryz.prog 23 #[Cf E S L] w fun e w' => e = .returned (.int .i64 (M.ln E S L : Nat)) ∧ Below w.heap.size w w' := by
  have C := Lib.hid (fun x => partsOf_ok E S L h x)
  clear h
  obtain ⟨x, hx⟩ : ∃ x, x = M.lx E := ⟨_, rfl⟩
  obtain ⟨s, hs⟩ : ∃ x, x = M.ls E := ⟨_, rfl⟩
  obtain ⟨l, hl⟩ : ∃ x, x = M.ll E S := ⟨_, rfl⟩
  obtain ⟨m, hm⟩ : ∃ x, x = M.ln E S L := ⟨_, rfl⟩
  rw [← hx, ← hs, ← hl, ← hm] at C
  rw [← hm]
  clear hx hs hl hm
  have HB := Lib.hid (ib1 w (.cells #[.int .i64 E, .int .i64 S, .int .i64 L] 23))
  go_enter Tryz.func23, Tryz.ntmps23
  go_wp2_with fail
  refine (C.out _).mono ?_
  rintro e w1 ⟨rfl, hb1⟩
  have HB1 := Lib.hid ((HB.out.trans (hb1.mono HB.out.size)).trans ((ib1 w1 (.cells #[.int .i64 0, .int .i64 1, .int .i64 2, .int .i64 (x : Nat), .int .i64 (s : Nat), .int .i64 (l : Nat), .int .i64 (m : Nat)] 86)).mono (HB.out.trans (hb1.mono HB.out.size)).size))
  clear hb1
  go_wp2_with fail
  go_ret
  exact ⟨rfl, HB1.out⟩
theorem sectors15_no (a b c : Int) (h : M.lokB a b c = false) (w : World) :
    Calls Tryz.prog 23 #[Cf a b c] w fun e w' => e = .returned (.int .i64 0) ∧ Below w.heap.size w w' := by
  have C := Lib.hid (fun x => partsOf_no a b c h x)
  clear h
  have HB := Lib.hid (ib1 w (.cells #[.int .i64 a, .int .i64 b, .int .i64 c] 23))
  go_enter Tryz.func23, Tryz.ntmps23
  go_wp2_with fail
  refine (C.out _).mono ?_
  rintro e w1 ⟨rfl, hb1⟩
  have HB1 := Lib.hid ((HB.out.trans (hb1.mono HB.out.size)).trans ((ib1 w1 (.cells #[.int .i64 0, .int .i64 0, .int .i64 0, .int .i64 0, .int .i64 0, .int .i64 0, .int .i64 0] 86)).mono (HB.out.trans (hb1.mono HB.out.size)).size))
  clear hb1
  go_wp2_with fail
  go_ret
  exact ⟨rfl, HB1.out⟩

theorem log15_ok (E S L : Nat) (h : M.lokB E S L = true) (w : World) :
    Calls Tryz.prog 17 #[Cf E S L] w fun e w' => e = .returned (.int .i64 (M.ll E S : Nat)) ∧ Below w.heap.size w w' := by
  have C := Lib.hid (fun x => partsOf_ok E S L h x)
  clear h
  obtain ⟨x, hx⟩ : ∃ x, x = M.lx E := ⟨_, rfl⟩
  obtain ⟨s, hs⟩ : ∃ x, x = M.ls E := ⟨_, rfl⟩
  obtain ⟨l, hl⟩ : ∃ x, x = M.ll E S := ⟨_, rfl⟩
  obtain ⟨m, hm⟩ : ∃ x, x = M.ln E S L := ⟨_, rfl⟩
  rw [← hx, ← hs, ← hl, ← hm] at C
  rw [← hl]
  clear hx hs hl hm
  have HB := Lib.hid (ib1 w (.cells #[.int .i64 E, .int .i64 S, .int .i64 L] 23))
  go_enter Tryz.func17, Tryz.ntmps17
  go_wp2_with fail
  refine (C.out _).mono ?_
  rintro e w1 ⟨rfl, hb1⟩
  have HB1 := Lib.hid ((HB.out.trans (hb1.mono HB.out.size)).trans ((ib1 w1 (.cells #[.int .i64 0, .int .i64 1, .int .i64 2, .int .i64 (x : Nat), .int .i64 (s : Nat), .int .i64 (l : Nat), .int .i64 (m : Nat)] 86)).mono (HB.out.trans (hb1.mono HB.out.size)).size))
  clear hb1
  go_wp2_with fail
  go_ret
  exact ⟨rfl, HB1.out⟩
theorem log15_no (a b c : Int) (h : M.lokB a b c = false) (w : World) :
    Calls Tryz.prog 17 #[Cf a b c] w fun e w' => e = .returned (.int .i64 0) ∧ Below w.heap.size w w' := by
  have C := Lib.hid (fun x => partsOf_no a b c h x)
  clear h
  have HB := Lib.hid (ib1 w (.cells #[.int .i64 a, .int .i64 b, .int .i64 c] 23))
  go_enter Tryz.func17, Tryz.ntmps17
  go_wp2_with fail
  refine (C.out _).mono ?_
  rintro e w1 ⟨rfl, hb1⟩
  have HB1 := Lib.hid ((HB.out.trans (hb1.mono HB.out.size)).trans ((ib1 w1 (.cells #[.int .i64 0, .int .i64 0, .int .i64 0, .int .i64 0, .int .i64 0, .int .i64 0, .int .i64 0] 86)).mono (HB.out.trans (hb1.mono HB.out.size)).size))
  clear hb1
  go_wp2_with fail
  go_ret
  exact ⟨rfl, HB1.out⟩

set_option maxHeartbeats 1000000 in
theorem extent15_no (a b c n : Int) (h : M.lokB a b c = false) (w : World) :
    Calls Tryz.prog 20 #[Cf a b c, .int .i64 n] w fun e w' => e = .returned (.tuple #[.int .i64 0, .int .i64 3]) ∧ Below w.heap.size w w' := by
  have C := Lib.hid (fun x => partsOf_no a b c h x)
  clear h
  have HB := Lib.hid (ib1 w (.cells #[.int .i64 a, .int .i64 b, .int .i64 c] 23))
  go_enter Tryz.func20, Tryz.ntmps20
  go_wp2_with fail
  refine (C.out _).mono ?_
  rintro e w1 ⟨rfl, hb1⟩
  have HB1 := Lib.hid ((HB.out.trans (hb1.mono HB.out.size)).trans ((ib1 w1 (.cells #[.int .i64 0, .int .i64 0, .int .i64 0, .int .i64 0, .int .i64 0, .int .i64 0, .int .i64 0] 86)).mono (HB.out.trans (hb1.mono HB.out.size)).size))
  clear hb1
  go_wp2_with fail
  go_ret2
  exact ⟨rfl, HB1.out⟩
set_option maxHeartbeats 1000000 in
theorem extent15_out (E S L : Nat) (n : Int) (h : M.lokB E S L = true) (hn : n < 0 ∨ (E : Int) ≤ n) (w : World) :
    Calls Tryz.prog 20 #[Cf E S L, .int .i64 n] w fun e w' => e = .returned (.tuple #[.int .i64 0, .int .i64 3]) ∧ Below w.heap.size w w' := by
  have C := Lib.hid (fun x => partsOf_ok E S L h x)
  obtain ⟨x, hx⟩ : ∃ x, x = M.lx E := ⟨_, rfl⟩
  obtain ⟨s, hs⟩ : ∃ x, x = M.ls E := ⟨_, rfl⟩
  obtain ⟨l, hl⟩ : ∃ x, x = M.ll E S := ⟨_, rfl⟩
  obtain ⟨m, hm⟩ : ∃ x, x = M.ln E S L := ⟨_, rfl⟩
  rw [← hx, ← hs, ← hl, ← hm] at C
  have hv := (M.lok_iff _ _ _).1 h
  obtain ⟨f, hf⟩ : ∃ f, f = E - 1 := ⟨_, rfl⟩
  have r3 : IntKind.i64.wrap ((E : Int) - 1) = (f : Int) := by rw [IntKind.wrap_i64]; omega
  have hd : (decide ((0 : Int) ≤ n) && decide (n ≤ (f : Int))) = false := by
    rw [Bool.and_eq_false_iff]
    simp only [decide_eq_false_iff_not]
    omega
  have D := Lib.hid (fun x => within15_any n 0 f x)
  rw [hd] at D
  clear h hv hn hd hf hx hs hl hm
  have HB := Lib.hid (ib1 w (.cells #[.int .i64 E, .int .i64 S, .int .i64 L] 23))
  have HC : Hid (Box (w.alloc (.cells #[.int .i64 E, .int .i64 S, .int .i64 L] 23)) w.heap.size 23 #[.int .i64 E, .int .i64 S, .int .i64 L]) := Box.new _ _ _
  go_enter Tryz.func20, Tryz.ntmps20
  go_wp2_with fail
  refine (C.out _).mono ?_
  rintro e w1 ⟨rfl, hb1⟩
  have HB1 := Lib.hid ((HB.out.trans (hb1.mono HB.out.size)).trans ((ib1 w1 (.cells #[.int .i64 0, .int .i64 1, .int .i64 2, .int .i64 (x : Nat), .int .i64 (s : Nat), .int .i64 (l : Nat), .int .i64 (m : Nat)] 86)).mono (HB.out.trans (hb1.mono HB.out.size)).size))
  have HC1 := Lib.hid ((HC.out.below hb1 HC.out.lt).below (ib1 w1 (.cells #[.int .i64 0, .int .i64 1, .int .i64 2, .int .i64 (x : Nat), .int .i64 (s : Nat), .int .i64 (l : Nat), .int .i64 (m : Nat)] 86)) (HC.out.below hb1 HC.out.lt).lt)
  clear hb1
  have c0 := HC1.out.cell 0
  simp only [List.getElem?_toArray, List.getElem?_cons_zero] at c0
  go_wp2_with fail
  refine (D.out _).mono ?_
  rintro e w2 ⟨rfl, rfl⟩
  go_wp2_with fail
  go_ret2
  exact ⟨rfl, HB1.out⟩
set_option maxHeartbeats 1000000 in
theorem extent15_ok (E S L i : Nat) (h : M.lokB E S L = true) (hi : i < E) (w : World) :
    Calls Tryz.prog 20 #[Cf E S L, .int .i64 (i : Nat)] w fun e w' => e = .returned (.tuple #[.int .i64 (M.lx E + 2 * i : Nat), .int .i64 0]) ∧ Below w.heap.size w w' := by
  have C := Lib.hid (fun x => partsOf_ok E S L h x)
  obtain ⟨x, hx⟩ : ∃ x, x = M.lx E := ⟨_, rfl⟩
  obtain ⟨s, hs⟩ : ∃ x, x = M.ls E := ⟨_, rfl⟩
  obtain ⟨l, hl⟩ : ∃ x, x = M.ll E S := ⟨_, rfl⟩
  obtain ⟨m, hm⟩ : ∃ x, x = M.ln E S L := ⟨_, rfl⟩
  rw [← hx, ← hs, ← hl, ← hm] at C
  obtain ⟨j, hj⟩ : ∃ j, j = i * 2 := ⟨_, rfl⟩
  obtain ⟨y, hy⟩ : ∃ y, y = M.lx E + 2 * i := ⟨_, rfl⟩
  rw [← hy]
  rw [← hx] at hy
  unfold M.lx at hx
  have hv := (M.lok_iff _ _ _).1 h
  obtain ⟨f, hf⟩ : ∃ f, f = E - 1 := ⟨_, rfl⟩
  have r3 : IntKind.i64.wrap ((E : Int) - 1) = (f : Int) := by rw [IntKind.wrap_i64]; omega
  have r1 : IntKind.i64.wrap ((i : Int) * 2) = (j : Int) := by rw [IntKind.wrap_i64]; omega
  have r2 : IntKind.i64.wrap ((x : Int) + (j : Int)) = (y : Int) := by rw [IntKind.wrap_i64]; omega
  have hd : (decide ((0 : Int) ≤ (i : Int)) && decide ((i : Int) ≤ (f : Int))) = true := by
    rw [Bool.and_eq_true]
    simp only [decide_eq_true_eq]
    omega
  have D := Lib.hid (fun x => within15_any i 0 f x)
  rw [hd] at D
  clear h hv  hi hd hf hx hs hl hm hj hy
  have HB := Lib.hid (ib1 w (.cells #[.int .i64 E, .int .i64 S, .int .i64 L] 23))
  have HC : Hid (Box (w.alloc (.cells #[.int .i64 E, .int .i64 S, .int .i64 L] 23)) w.heap.size 23 #[.int .i64 E, .int .i64 S, .int .i64 L]) := Box.new _ _ _
  go_enter Tryz.func20, Tryz.ntmps20
  go_wp2_with fail
  refine (C.out _).mono ?_
  rintro e w1 ⟨rfl, hb1⟩
  have HB1 := Lib.hid ((HB.out.trans (hb1.mono HB.out.size)).trans ((ib1 w1 (.cells #[.int .i64 0, .int .i64 1, .int .i64 2, .int .i64 (x : Nat), .int .i64 (s : Nat), .int .i64 (l : Nat), .int .i64 (m : Nat)] 86)).mono (HB.out.trans (hb1.mono HB.out.size)).size))
  have HC1 := Lib.hid ((HC.out.below hb1 HC.out.lt).below (ib1 w1 (.cells #[.int .i64 0, .int .i64 1, .int .i64 2, .int .i64 (x : Nat), .int .i64 (s : Nat), .int .i64 (l : Nat), .int .i64 (m : Nat)] 86)) (HC.out.below hb1 HC.out.lt).lt)
  clear hb1
  have c0 := HC1.out.cell 0
  simp only [List.getElem?_toArray, List.getElem?_cons_zero] at c0
  go_wp2_with fail
  refine (D.out _).mono ?_
  rintro e w2 ⟨rfl, rfl⟩
  go_wp2_with fail
  go_ret2
  exact ⟨rfl, HB1.out⟩

end Go.Proofs.YtmgchfjfkdkaoaaGreatDoor
