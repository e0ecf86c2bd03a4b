/-
  The calls of SuperBack, one behind the other.
-/
import Derived.Test.YtiflhbjhnonidaaGreatDoorUG
import Derived.Test.YtiflhbjhnonidaaGreatDoorME
namespace Go.Proofs.YtiflhbjhnonidaaGreatDoor
open Go.RowKit Go.Maps

/-- What is staged of the sector 0. -/
def M.st0 : Option ByteArray → List (Int × Value)
  | none => []
  | some t => [(0, Value.string t)]
theorem M.st0_len (o : Option ByteArray) : (M.st0 o).length ≤ 1 := by cases o <;> simp [M.st0]
theorem M.st0_ins (o : Option ByteArray) (t : ByteArray) : M.ins 0 (Value.string t) (M.st0 o) = M.st0 (some t) := by
  cases o
  · rfl
  · show M.ins 0 (Value.string t) [(0, _)] = _
    simp [M.ins, M.st0]
def M.st1 (x : M.Su) (o : Option ByteArray) : Option ByteArray := if M.smay x = true then some (M.swhole x) else o
def M.st2 (o : Option ByteArray) : ByteArray := o.getD (M.zeros 64)
theorem M.st0_now {s : M.Wl} {T : Nat → ByteArray} {o : Option ByteArray} (h : s.l = M.st0 o) (hT : T 0 = M.zeros 64) : M.now s T 0 = M.st2 o := by
  cases o with
  | none => rw [M.now_none (by rw [h]; rfl), hT]; rfl
  | some t => exact M.now_some (by rw [h]; rfl)
section
variable {a : M.Geo} {N b n : Nat} {w y z : World} {s s' : M.Wl} {T T' : Nat → ByteArray}
/-- Save, whatever is to be saved. -/
theorem OW.save (h : OW a N w y b s T n) (hg : M.gd a 0) (hact : s.act = true) {o : Option ByteArray} (hl : s.l = M.st0 o) (x1 x2 x3 x4 x5 x6 x7 : Int) : Calls Tryz.prog 16 #[.pointer (some ⟨b, 0, none⟩), Sv x1 x2 x3 x4 x5 x6 x7] y fun e z => e = .returned (.int .i64 (M.serr x1 x2 x3 x4 x5 x6 x7)) ∧ ∃ s', OW a N w z b s' T n ∧ s'.l = M.st0 (M.st1 ⟨x1, x2, x3, x4, x5, x6, x7⟩ o) ∧ s'.act = true ∧ s'.used = s.used ∧ s'.dk = s.dk := by
  by_cases hm : M.smay ⟨x1, x2, x3, x4, x5, x6, x7⟩ = true
  · refine (h.save_ok hg hact (by rw [hl]; exact M.st0_len o) x1 x2 x3 x4 x5 x6 x7 hm).mono ?_
    rintro e z ⟨e1, e2⟩
    rw [hl, M.st0_ins] at e2
    refine ⟨by rw [e1, M.serr_ok hm], _, e2, ?_, hact, rfl, rfl⟩
    unfold M.st1
    rw [if_pos hm]
  · refine (h.save_no x1 x2 x3 x4 x5 x6 x7 hm).mono ?_
    rintro e z ⟨e1, e2⟩
    refine ⟨by rw [e1, M.serr_no hm], s, e2, ?_, hact, rfl, rfl⟩
    unfold M.st1
    rw [if_neg hm]
    exact hl
end

set_option maxHeartbeats 2000000 in
theorem back16_parts (E S L : Nat) (h : M.lokB E S L = true) (x1 x2 x3 x4 x5 x6 x7 o1 o2 o3 o4 o5 o6 o7 : Int) (text : ByteArray) (w1 : World) (hE : Env10 w1) (hET : ErrT w1) : ∃ (B0 B1 B2 B3 B4 B5 : World → Nat → Nat → Prop) (B6 : World → Nat → Prop) (B7 B8 B9 : World → Nat → Prop) (t1 : ByteArray),
    t1 = M.st2 (M.st1 ⟨o1, o2, o3, o4, o5, o6, o7⟩ (M.st1 ⟨x1, x2, x3, x4, x5, x6, x7⟩ none)) ∧
    (Calls Tryz.prog 13 #[Cf E S L] w1 fun e z => ∃ d b, e = .returned (.tuple #[.pointer (some ⟨d, 0, none⟩), .pointer (some ⟨b, 0, none⟩)]) ∧ B0 z d b) ∧
    (∀ x d b, B0 x d b → Calls Tryz.prog 15 #[.pointer (some ⟨b, 0, none⟩)] x fun e z => e = .returned (.tuple #[Sv 0 0 0 0 0 0 0, .int .i64 32]) ∧ B1 z d b) ∧
    (∀ x z d b, B1 x d b → Below x.heap.size x z → B1 z d b) ∧ (∀ x d b, B1 x d b → Below w1.heap.size w1 x) ∧
    (∀ x d b, B1 x d b → Calls Tryz.prog 16 #[.pointer (some ⟨b, 0, none⟩), Sv x1 x2 x3 x4 x5 x6 x7] x fun e z => e = .returned (.int .i64 (M.serr x1 x2 x3 x4 x5 x6 x7)) ∧ B2 z d b) ∧
    (∀ x z d b, B2 x d b → Below x.heap.size x z → B2 z d b) ∧ (∀ x d b, B2 x d b → Below w1.heap.size w1 x) ∧
    (∀ x d b, B2 x d b → Calls Tryz.prog 16 #[.pointer (some ⟨b, 0, none⟩), Sv o1 o2 o3 o4 o5 o6 o7] x fun e z => e = .returned (.int .i64 (M.serr o1 o2 o3 o4 o5 o6 o7)) ∧ B3 z d b) ∧
    (∀ x d b, B3 x d b → Calls Tryz.prog 17 #[.pointer (some ⟨b, 0, none⟩)] x fun e z => e = .returned (.bool true) ∧ B4 z d b) ∧
    (∀ x d b, B4 x d b → Calls Tryz.prog 18 #[.pointer (some ⟨b, 0, none⟩)] x fun e z => e = .returned (.int .i64 0) ∧ B5 z d b) ∧
    (∀ x d b, B5 x d b → Calls Tryz.prog 19 #[.pointer (some ⟨d, 0, none⟩), .slice none 0 0] x fun e z => e = .returned (.tuple #[]) ∧ B6 z d) ∧
    (∀ x z d, B6 x d → Below x.heap.size x z → B6 z d) ∧ (∀ x d, B6 x d → Below w1.heap.size w1 x) ∧
    (∀ x d, B6 x d → Calls Tryz.prog 20 #[.pointer (some ⟨d, 0, none⟩), .int .i64 (M.ll E S : Nat), .int .i64 (L : Nat)] x fun e z => ∃ b, e = .returned (.tuple #[.pointer (some ⟨b, 0, none⟩), .int .i64 0]) ∧ B7 z b) ∧
    (∀ x b, B7 x b → Below w1.heap.size w1 x) ∧
    (∀ x b, B7 x b → Calls Tryz.prog 15 #[.pointer (some ⟨b, 0, none⟩)] x fun e z => e = .returned (M.sload t1) ∧ B8 z b) ∧
    (∀ x z b, B8 x b → Below x.heap.size x z → B8 z b) ∧ (∀ x b, B8 x b → Below w1.heap.size w1 x) ∧
    (∀ x b, B8 x b → Calls Tryz.prog 22 #[.pointer (some ⟨b, 0, none⟩)] x fun e z => e = .returned (.int .i64 0) ∧ B9 z b) ∧
    (text.size ≠ 64 → ∀ x b, B9 x b → Calls Tryz.prog 23 #[.pointer (some ⟨b, 0, none⟩), .int .i64 0, .string text] x fun e z => e = .returned (.int .i64 12) ∧ Below w1.heap.size w1 z) ∧
    (text.size = 64 → ∃ B10 : World → Nat → Prop, (∀ x b, B9 x b → Calls Tryz.prog 23 #[.pointer (some ⟨b, 0, none⟩), .int .i64 0, .string text] x fun e z => e = .returned (.int .i64 0) ∧ B10 z b) ∧
      ∀ x b, B10 x b → Calls Tryz.prog 15 #[.pointer (some ⟨b, 0, none⟩)] x fun e z => e = .returned (M.sload text) ∧ Below w1.heap.size w1 z) := by
  obtain ⟨a, ha⟩ : ∃ a, a = M.geo E S L h := ⟨_, rfl⟩
  have hg : M.gd a 0 := by rw [ha]; exact M.geo_gd h
  have e1 : M.ll E S = a.fr := by rw [ha]; rfl
  have e2 : L = a.mn := by rw [ha]; rfl
  have hf := a.facts
  have l1 := hE.lt
  have l2 := hET.lt
  obtain ⟨q1, hq1⟩ : ∃ q, q = M.st1 ⟨x1, x2, x3, x4, x5, x6, x7⟩ none := ⟨_, rfl⟩
  obtain ⟨q2, hq2⟩ : ∃ q, q = M.st1 ⟨o1, o2, o3, o4, o5, o6, o7⟩ q1 := ⟨_, rfl⟩
  rw [← hq1, ← hq2, e1]
  have hz : M.sload (M.zeros 64) = .tuple #[Sv 0 0 0 0 0 0 0, .int .i64 32] := (M.sgot_no (by rw [M.sget_zero]; decide)).2
  refine ⟨fun x d b => ∃ s, OW a w1.heap.size w1 x b s (fun _ => M.zeros 64) 6000 ∧ s.act = true ∧ s.l = [] ∧ s.used = 0 ∧ s.dk = d,
    fun x d b => ∃ s, OW a w1.heap.size w1 x b s (fun _ => M.zeros 64) 6001 ∧ s.act = true ∧ s.l = [] ∧ s.used = 0 ∧ s.dk = d,
    fun x d b => ∃ s, OW a w1.heap.size w1 x b s (fun _ => M.zeros 64) 6001 ∧ s.act = true ∧ s.l = M.st0 q1 ∧ s.used = 0 ∧ s.dk = d,
    fun x d b => ∃ s, OW a w1.heap.size w1 x b s (fun _ => M.zeros 64) 6001 ∧ s.act = true ∧ s.l = M.st0 q2 ∧ s.used = 0 ∧ s.dk = d,
    fun x d b => ∃ s T, OW a w1.heap.size w1 x b s T 6101 ∧ s.dk = d ∧ T 0 = M.st2 q2,
    fun x d b => ∃ s T, OW a w1.heap.size w1 x b s T 6102 ∧ s.dk = d ∧ T 0 = M.st2 q2 ∧ s.d.L = [],
    fun x d => ∃ dd T, Disk x d (fun k => w1.heap.size ≤ k ∧ k < x.heap.size) dd ∧ Below w1.heap.size w1 x ∧ M.LS a dd T 6104 ∧ dd.fails = [] ∧ T 0 = M.st2 q2,
    fun x b => ∃ s T, OW a w1.heap.size w1 x b s T 11104 ∧ s.act = false ∧ s.l = [] ∧ s.used = 0 ∧ T 0 = M.st2 q2,
    fun x b => ∃ s T, OW a w1.heap.size w1 x b s T 11105 ∧ s.act = false ∧ s.l = [],
    fun x b => ∃ s T, OW a w1.heap.size w1 x b s T 11105 ∧ s.act = true ∧ s.l = [], M.st2 q2, rfl, ?_, ?_, ?_, ?_, ?_, ?_, ?_, ?_, ?_, ?_, ?_, ?_, ?_, ?_, ?_, ?_, ?_, ?_, ?_, ?_, ?_⟩
  · refine (begun16_ok E S L h w1 hE hET).mono ?_
    rintro e z ⟨d, b, s, y1, y2, y3, y4, y5, y6⟩
    rw [← ha] at y2
    exact ⟨d, b, y1, s, y2, y3, y4, y5, y6⟩
  · rintro x d b ⟨s, y1, y2, y3, y4, y5⟩
    refine (y1.load (by omega) hg).mono ?_
    rintro e z ⟨z1, d', z2⟩
    rw [M.now_nil _ y3, hz] at z1
    exact ⟨z1, _, z2, y2, y3, y4, y5⟩
  · rintro x z d b ⟨s, y1, y2⟩ hb
    exact ⟨s, y1.beside hb, y2⟩
  · rintro x d b ⟨s, y1, y2⟩
    exact y1.below
  · rintro x d b ⟨s, y1, y2, y3, y4, y5⟩
    refine (y1.save hg y2 (o := none) y3 x1 x2 x3 x4 x5 x6 x7).mono ?_
    rintro e z ⟨z1, s', z2, z3, z4, z5, z6⟩
    rw [← hq1] at z3
    exact ⟨z1, s', z2, z4, z3, z5.trans y4, z6.trans y5⟩
  · rintro x z d b ⟨s, y1, y2⟩ hb
    exact ⟨s, y1.beside hb, y2⟩
  · rintro x d b ⟨s, y1, y2⟩
    exact y1.below
  · rintro x d b ⟨s, y1, y2, y3, y4, y5⟩
    refine (y1.save hg y2 y3 o1 o2 o3 o4 o5 o6 o7).mono ?_
    rintro e z ⟨z1, s', z2, z3, z4, z5, z6⟩
    rw [← hq2] at z3
    exact ⟨z1, s', z2, z4, z3, z5.trans y4, z6.trans y5⟩
  · rintro x d b ⟨s, y1, y2, y3, y4, y5⟩
    refine (y1.next (by omega) hET l2 y2 (by have := M.st0_len q2; rw [y3, y4]; omega)).mono ?_
    rintro e z ⟨z1, s', z2, z3, z4, z5⟩
    exact ⟨z1, s', _, z2, z5.trans y5, M.st0_now y3 rfl⟩
  · rintro x d b ⟨s, T, y1, y2, y3⟩
    refine (y1.wa.flush (by omega)).mono ?_
    rintro e z ⟨z1, z2, z3, z4⟩
    exact ⟨z1, _, T, y1.step z2 z4, y2, y3, z3⟩
  · rintro x d b ⟨s, T, y1, y2, y3, y4⟩
    have hd := y1.wa.wal.disk
    rw [y2] at hd
    have hls := y1.wa.ws.disk.restart y4 (M.odd 0 (fun _ => 0))
    have hops := y1.wa.ws.ops
    refine (restart_any none 0 0 (fun _ => 0) x hd (by omega) (fun i hi => absurd hi (by omega)) (fun h0 => absurd h0 (by omega))).mono ?_
    rintro e z ⟨z1, z2, z3⟩
    exact ⟨z1, _, T, z2.mono (fun k hk e => ⟨e, hk⟩), y1.below.trans (z3.below y1.le (fun k hk e => by omega)), hls.1, hls.2, y3⟩
  · rintro x z d ⟨dd, T, y1, y2, y3⟩ hb
    exact ⟨dd, T, (y1.kept (Kept.of_below hb (fun _ => False)) (fun _ _ => id)).mono (fun k hk e => ⟨e.1, hk⟩), y2.trans (hb.mono y2.size), y3⟩
  · rintro x d ⟨dd, T, y1, y2, y3⟩
    exact y2
  · rintro x d ⟨dd, T, y1, y2, y3, y4, y5⟩
    rw [e2]
    refine (open_calm y1 (fun k e => e.2) (hE.low y2 l1) (fun e => by omega) (hET.low y2 l2) (fun e => by omega) y3 y4 (by omega)).mono ?_
    rintro e z ⟨b, s, z1, z2, z3, z4, z5, z6, z7, z8, z9⟩
    have hs := y2.size
    exact ⟨b, z1, s, T, ⟨(z2.mono (fun j _ e => e.elim (fun e => e.1) (fun e => by omega))).more (by omega), y2.trans (z9.below y2.size (fun k hk e => by omega)), Nat.le_trans y2.size z9.size⟩, z3, z4, z6, y5⟩
  · rintro x b ⟨s, T, y1, y2⟩
    exact y1.below
  · rintro x b ⟨s, T, y1, y2, y3, y4, y5⟩
    refine (y1.load (by omega) hg).mono ?_
    rintro e z ⟨z1, d', z2⟩
    rw [M.now_nil _ y3, y5] at z1
    exact ⟨z1, _, T, z2, y2, y3⟩
  · rintro x z b ⟨s, T, y1, y2⟩ hb
    exact ⟨s, T, y1.beside hb, y2⟩
  · rintro x b ⟨s, T, y1, y2⟩
    exact y1.below
  · rintro x b ⟨s, T, y1, y2, y3⟩
    refine y1.wa.begin.mono ?_
    rintro e z ⟨z1, z2, z3⟩
    rw [y2] at z1
    exact ⟨z1, _, T, y1.step (z2.mono (fun _ _ e => Or.inl e)) z3, rfl, y3⟩
  · rintro ht x b ⟨s, T, y1, y2, y3⟩
    have hB := M.stageB y1.wa.ws hg y2 text ht
    refine (y1.wa.stage 0 text (by decide)).mono ?_
    rintro e z ⟨z1, z2, z3⟩
    rw [hB] at z1
    exact ⟨z1, (y1.step z2 z3).below⟩
  · intro ht
    refine ⟨fun x b => ∃ s T, OW a w1.heap.size w1 x b s T 11105 ∧ s.l = [(0, .string text)], ?_, ?_⟩
    · rintro x b ⟨s, T, y1, y2, y3⟩
      have hB := M.stage0 y1.wa.ws hg y2 (by rw [y3]; simp) text ht
      refine (y1.wa.stage 0 text (by decide)).mono ?_
      rintro e z ⟨z1, z2, z3⟩
      rw [hB] at z1
      unfold M.wlStage at z2
      rw [if_pos hB, y3] at z2
      exact ⟨z1, _, T, y1.step z2 z3, rfl⟩
    · rintro x b ⟨s, T, y1, y2⟩
      refine (y1.load (by omega) hg).mono ?_
      rintro e z ⟨z1, d', z2⟩
      rw [M.now_some (show M.find ((0 : Nat) : Int) s.l = some (.string text) by rw [y2]; rfl)] at z1
      exact ⟨z1, z2.below⟩
end Go.Proofs.YtiflhbjhnonidaaGreatDoor
