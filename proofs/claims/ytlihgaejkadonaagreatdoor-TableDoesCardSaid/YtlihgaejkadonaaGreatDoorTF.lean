/-
  A row of entries in memory, written entry by entry; entries that extents are given, as an argument. What TableDoes knows, call by call. Walks over solderlaw18.Small and TableDoes. A walk over TableDoes, where the volume may be, and the log is small. The walk over TableDoes's parameters as they come.
-/
import Derived.Test.YtlihgaejkadonaaGreatDoorTC
import Derived.Test.YtlihgaejkadonaaGreatDoorME
import Derived.Test.YtlihgaejkadonaaGreatDoorTB
import Derived.Deep.Slices
import Derived.Laws.MakeOwn
import Derived.StillTailTactics
import Derived.Deep.RegionHeld3
import Derived.BigQuiet
namespace Go.Proofs.YtlihgaejkadonaaGreatDoor
open Go.RowKit Go.Maps

theorem M.erow_congr {f g : Nat → M.E1} {n : Nat} (h : ∀ j, j < n → f j = g j) : M.erow f n = M.erow g n := by
  induction n with
  | zero => rfl
  | succ n ih => rw [M.erow, M.erow, ih (fun j hj => h j (by omega)), h n (by omega)]
theorem M.set1_same (f : Nat → M.E1) (i : Nat) (x : M.E1) : M.set1 f i x i = x := if_pos rfl
theorem M.set1_other (f : Nat → M.E1) {i j : Nat} (x : M.E1) (h : j ≠ i) : M.set1 f i x j = f j := if_neg h
theorem M.erow_set (f : Nat → M.E1) (i : Nat) (x : M.E1) (n : Nat) (h : i < n) : (((M.erow f n).set (i * 3) (.int .i64 x.a)).set (i * 3 + 1) (.int .i64 x.b)).set (i * 3 + 2) (.int .i64 x.s) = M.erow (M.set1 f i x) n := by
  induction n with
  | zero => omega
  | succ n ih =>
    have hl := M.erow_len f n
    rw [M.erow, M.erow]
    by_cases e : i < n
    · rw [List.set_append, if_pos (by omega), List.set_append, if_pos (by rw [List.length_set]; omega), List.set_append, if_pos (by rw [List.length_set, List.length_set]; omega), ih e, M.set1_other f x (by omega)]
    · obtain rfl : i = n := by omega
      rw [List.set_append, if_neg (by omega), List.set_append, if_neg (by omega), List.set_append, if_neg (by omega), hl, Nat.sub_self, show i * 3 + 1 - i * 3 = 1 by omega, show i * 3 + 2 - i * 3 = 2 by omega, M.set1_same,
        M.erow_congr (f := M.set1 f i x) (g := f) (fun j hj => M.set1_other f x (by omega))]
      rfl
theorem M.erow_slot (f : Nat → M.E1) (i : Nat) (v : Int) (n : Nat) (h : i < n) : (M.erow f n).set (i * 3 + 2) (.int .i64 v) = M.erow (M.set1 f i ⟨(f i).a, (f i).b, v⟩) n := by
  induction n with
  | zero => omega
  | succ n ih =>
    have hl := M.erow_len f n
    rw [M.erow, M.erow]
    by_cases e : i < n
    · rw [List.set_append, if_pos (by omega), ih e, M.set1_other f _ (show n ≠ i by omega)]
    · obtain rfl : i = n := by omega
      rw [List.set_append, if_neg (by omega), hl, show i * 3 + 2 - i * 3 = 2 by omega, M.set1_same, M.erow_congr (f := M.set1 f i _) (g := f) (fun j hj => M.set1_other f _ (by omega))]
      rfl
theorem M.erow_zero : ∀ (n : Nat) (v : Value), v ∈ M.erow (fun _ => ⟨0, 0, 0⟩) n → v = .int .i64 0
  | 0, v, h => by cases h
  | n + 1, v, h => by
    rw [M.erow] at h
    rcases List.mem_append.1 h with h | h
    · exact M.erow_zero n v h
    · simp at h
      exact h
theorem M.made_erow (n : Nat) : madeCells #[Value.int .i64 0, .int .i64 0, .int .i64 0] (n * 3) = (M.erow (fun _ => ⟨0, 0, 0⟩) n).toArray := by
  apply Array.ext
  · rw [size_madeCells]
    simp [M.erow_len]
  · intro i h1 h2
    have hr : (M.erow (fun _ => ⟨0, 0, 0⟩) n).toArray[i]'h2 = .int .i64 0 := M.erow_zero n _ (by simp)
    rw [hr]
    have hc : i % 3 = 0 ∨ i % 3 = 1 ∨ i % 3 = 2 := by omega
    rcases hc with hc | hc | hc <;> simp [madeCells, hc]
theorem make_ents18 (n : Nat) (hn : n ≤ 24) (W : World) : (Instr.makeSlice 33 (.int .i64 (n : Int)) (.int .i64 (n : Int))).run Tryz.prog W = .ok (.slice (some ⟨W.heap.size, 0, none⟩) n n) (W.alloc (.cells (M.erow (fun _ => ⟨0, 0, 0⟩) n).toArray 41)) := by
  obtain ⟨i, hi, hzz⟩ := Option.map_eq_some_iff.1 infoE18
  simp only [Prod.mk.injEq] at hzz
  obtain ⟨hz, hs, hb⟩ := hzz
  have hr := run_make (P := Tryz.prog) W 33 41 i _ Tryz.underlying33 hi hz .i64 .i64 n n (by omega) (Int.le_refl _) (by rw [hb]; omega) (by omega)
  simp only [Int.toNat_natCast, hs] at hr
  rw [← M.made_erow]
  exact hr

/-- A row of entries, whole. -/
abbrev EntB (x : World) (al E : Nat) (f : Nat → M.E1) : Prop := Box x al 41 (M.erow f E).toArray
section
variable {x z : World} {al E i : Nat} {f : Nat → M.E1}
theorem EntB.ent (h : EntB x al E f) : M.EntAt x al E f := by
  intro i hi
  obtain ⟨a1, a2, a3⟩ := M.erow_at f E i hi
  exact ⟨(Box.cell h _).trans (by simpa using a1), (Box.cell h _).trans (by simpa using a2), (Box.cell h _).trans (by simpa using a3)⟩
theorem EntB.fro (h : EntB x al E f) (j : Nat) : x.frozen? ⟨al, j, none⟩ = false := Box.frozen h j
theorem EntB.put (h : EntB x al E f) (hi : i < E) (v : M.E1) : EntB (((x.setCell ⟨al, i * 3, none⟩ (.int .i64 v.a)).setCell ⟨al, i * 3 + 1, none⟩ (.int .i64 v.b)).setCell ⟨al, i * 3 + 2, none⟩ (.int .i64 v.s)) al E (M.set1 f i v) := by
  have h1 := ((Box.set h (i * 3) (.int .i64 v.a)).set (i * 3 + 1) (.int .i64 v.b)).set (i * 3 + 2) (.int .i64 v.s)
  rw [List.setIfInBounds_toArray, List.setIfInBounds_toArray, List.setIfInBounds_toArray, M.erow_set f i v E hi] at h1
  exact h1
theorem EntB.slot (h : EntB x al E f) (hi : i < E) (v : Int) : EntB (x.setCell ⟨al, i * 3 + 2, none⟩ (.int .i64 v)) al E (M.set1 f i ⟨(f i).a, (f i).b, v⟩) := by
  have h1 := Box.set h (i * 3 + 2) (.int .i64 v)
  rw [List.setIfInBounds_toArray, M.erow_slot f i v E hi] at h1
  exact h1
theorem EntB.congr {g : Nat → M.E1} (h : EntB x al E f) (hg : ∀ j, j < E → f j = g j) : EntB x al E g := by
  unfold EntB at h ⊢
  rw [← M.erow_congr hg]
  exact h
end

theorem add_block18 (a : Addr) (n : Nat) : (a.add n).block = a.block := by unfold Addr.add; split <;> rfl
theorem add_one18 (a : Addr) (m j : Nat) (hj : j ≠ 0) : a.add (m + j) = ⟨(a.add m).block, (a.add m).off + j, none⟩ := by
  unfold Addr.add
  by_cases h : m = 0
  · subst h
    simp [hj]
  · simp [h]
    omega
/-- An entry that an extent is given, in memory. -/
def Op18 (w : World) (ad : Addr) (x a b s : Int) : Prop := w.cell? ad = some (.int .i64 x) ∧ w.cell? ⟨ad.block, ad.off + 1, none⟩ = some (.int .i64 a) ∧ w.cell? ⟨ad.block, ad.off + 2, none⟩ = some (.int .i64 b) ∧ w.cell? ⟨ad.block, ad.off + 3, none⟩ = some (.int .i64 s)
theorem Op18.below {w y : World} {ad : Addr} {x a b s : Int} (h : Op18 w ad x a b s) (hb : Below w.heap.size w y) (hl : ad.block < w.heap.size) : Op18 y ad x a b s :=
  ⟨(hb.cell hl).trans h.1, (hb.cell (p := ⟨ad.block, ad.off + 1, none⟩) hl).trans h.2.1, (hb.cell (p := ⟨ad.block, ad.off + 2, none⟩) hl).trans h.2.2.1, (hb.cell (p := ⟨ad.block, ad.off + 3, none⟩) hl).trans h.2.2.2⟩
/-- v is a slice of these, in blocks of w. -/
def OpsAt18 (w : World) (v : Value) : Prop := ∃ (A : Option Addr) (len cap : Nat), v = .slice A len cap ∧
  ∀ i, i < len → ∃ (ad : Addr) (x a b s : Int), A = some ad ∧ ad.block < w.heap.size ∧ Op18 w (ad.add (i * 4)) x a b s
open Go.ChangeShapes Go.WideShapes Go.ChangeAt Go.Deep in
set_option maxRecDepth 100000 in
theorem tableDoes_open1 {H : Type} {enc : TypeId × Value → H} {W : World} {r : Reach} {b0 : Nat} {v : Value} {d : DataW H} {p : List MemPlace} (hval : Value.okWide Tryz.prog W r b0 24 v)
    (h : DataW.Trod enc Tryz.prog W 0 (fun _ => true) true 24 v d p) : OpsAt18 W v := by
  obtain ⟨A, len, cap, rfl⟩ := okWide_slice Tryz.underlying24 hval
  obtain ⟨fuel, hf⟩ := h
  rcases open_slice Tryz.underlying24 hf with ⟨hc, _⟩ | ⟨a, l, c, m, k, D, Pl, hc, _, hl, _, hmm, _, hall⟩
  · simp [Value.cells] at hc
    obtain ⟨rfl, rfl, rfl⟩ := hc
    exact ⟨none, 0, 0, rfl, fun i hi => absurd hi (by omega)⟩
  · simp [Value.cells] at hc
    obtain ⟨rfl, rfl, rfl⟩ := hc
    simp only [if_true] at hmm
    subst hmm
    refine ⟨some a, len, m, rfl, fun i hi => ?_⟩
    obtain ⟨cs, h1, h2⟩ := hall i (by omega)
    have ce : Tryz.prog.cellsOf 46 = 4 := by kernel_rfl
    rw [ce] at h1
    obtain ⟨_, hlen, hcell⟩ := World.cells?_some h1
    obtain ⟨xs, k', hk, _, _, hxl, hfld⟩ := DataW.trod_struct Tryz.underlying46 h2
    match cs, hlen with
    | [v0, v1, v2, v3], _ =>
      have x0 : 0 < xs.length := by rw [hxl]; decide
      have x1 : 1 < xs.length := by rw [hxl]; decide
      have g0 := hfld 0 _ rfl
      rw [List.getElem?_eq_getElem x0] at g0
      change DataW.trod enc Tryz.prog W 0 (fun _ => true) true k' 3 (([v0, v1, v2, v3].drop 0).take (Tryz.prog.cellsOf 3)) = some _ at g0
      rw [Tryz.cellsInt18] at g0
      change DataW.trod enc Tryz.prog W 0 (fun _ => true) true k' 3 [v0] = some _ at g0
      have g1 := hfld 1 _ rfl
      rw [List.getElem?_eq_getElem x1] at g1
      change DataW.trod enc Tryz.prog W 0 (fun _ => true) true k' 41 (([v0, v1, v2, v3].drop 1).take (Tryz.prog.cellsOf 41)) = some _ at g1
      rw [Tryz.cellsE18] at g1
      change DataW.trod enc Tryz.prog W 0 (fun _ => true) true k' 41 [v1, v2, v3] = some _ at g1
      obtain ⟨n0, e0, _, _⟩ := DataW.trod_int Tryz.underlying3 g0
      obtain ⟨a1, b1, s1, rfl, rfl, rfl, _⟩ := entry_open18 g1
      simp only [List.cons.injEq, and_true] at e0
      have c0 := hcell 0 (by omega)
      have c1 := hcell 1 (by omega)
      have c2 := hcell 2 (by omega)
      have c3 := hcell 3 (by omega)
      rw [add_add] at c0 c1 c2 c3
      have hlt : a.block < W.heap.size := by
        have := World.block_lt_of_cell? W _ c0
        rwa [add_block18] at this
      refine ⟨a, n0, a1, b1, s1, rfl, hlt, ⟨?_, ?_, ?_, ?_⟩⟩
      · rw [Nat.add_zero] at c0; rw [c0]; simp [e0]
      · rw [← add_one18 _ _ 1 (by omega), c1]; simp
      · rw [← add_one18 _ _ 2 (by omega), c2]; simp
      · rw [← add_one18 _ _ 3 (by omega), c3]; simp
end Go.Proofs.YtlihgaejkadonaaGreatDoor
namespace Go.Proofs.YtlihgaejkadonaaGreatDoor
open Go.RowKit Go.Maps

theorem TS.wide {E S L : Nat} {h : M.lokB E S L = true} {R : Nat → Prop} {N t b d n lb lb' : Nat} {w2 x : World} {F : List Nat} {f : Nat → M.E1} {act : Bool} (H : TS E S L h R N w2 t b d F f act lb n x) (hl : lb ≤ lb') : TS E S L h R N w2 t b d F f act lb' n x := by
  obtain ⟨z0, s, T, h0, h1, h2, h3, h4, h5, h6⟩ := H
  exact ⟨z0, s, T, h0, h1, h2, h3, h4, Nat.le_trans h5 hl, h6⟩
section
variable {E S L : Nat} {h : M.lokB E S L = true} {N d b t al lb m n i : Nat} {w2 x z : World} {f g : Nat → M.E1}
/-- In a transaction: f is what the sectors have, g what the law's row has. -/
def LQ (E S L : Nat) (h : M.lokB E S L = true) (N : Nat) (w2 : World) (d b t al : Nat) (f g : Nat → M.E1) (lb m : Nat) (x : World) : Prop :=
  TS E S L h (M.Rt N t) N w2 t b d [al] f true lb m x ∧ EntB x al E g
theorem LQ.below (H : LQ E S L h N w2 d b t al f g lb m x) : Below N w2 x := TS.below H.1
theorem LQ.beside (H : LQ E S L h N w2 d b t al f g lb m x) (hb : Below x.heap.size x z) : LQ E S L h N w2 d b t al f g lb m z := ⟨H.1.beside hb, Box.below H.2 hb (Box.lt H.2)⟩
theorem LQ.make (H : TS E S L h (M.Rt N t) N w2 t b d [] f true lb m x) : LQ E S L h N w2 d b t x.heap.size f (fun _ => ⟨0, 0, 0⟩) lb m (x.alloc (.cells (M.erow (fun _ => ⟨0, 0, 0⟩) E).toArray 41)) :=
  ⟨H.own (ib1 x _) (fun j e => Or.inr (by obtain rfl : j = x.heap.size := (by simpa using e); rw [World.size_alloc]; omega)), Box.new _ _ _⟩
theorem LQ.slot (H : LQ E S L h N w2 d b t al f g lb m x) (hi : i < E) (v : Int) : LQ E S L h N w2 d b t al f (M.set1 g i ⟨(g i).a, (g i).b, v⟩) lb m (x.setCell ⟨al, i * 3 + 2, none⟩ (.int .i64 v)) :=
  ⟨H.1.turn ((Kept.refl _ x).set (fun _ => by simp) _ _) (fun _ e => Or.inl e), EntB.slot H.2 hi v⟩
theorem LQ.store (H : LQ E S L h N w2 d b t al f g lb m x) (hi : i < E) (v1 v2 v3 : Int) : LQ E S L h N w2 d b t al f (M.set1 g i ⟨v1, v2, v3⟩) lb m (((x.setCell ⟨al, i * 3, none⟩ (.int .i64 v1)).setCell ⟨al, i * 3 + 1, none⟩ (.int .i64 v2)).setCell ⟨al, i * 3 + 2, none⟩ (.int .i64 v3)) :=
  ⟨H.1.turn ((((Kept.refl _ x).set (fun _ => by simp) _ _).set (fun _ => by simp) _ _).set (fun _ => by simp) _ _) (fun _ e => Or.inl e), EntB.put H.2 hi ⟨v1, v2, v3⟩⟩
theorem LQ.more (H : LQ E S L h N w2 d b t al f g lb m x) {lb' : Nat} (hl : lb ≤ lb') (hm : m ≤ n) : LQ E S L h N w2 d b t al f g lb' n x := ⟨(H.1.wide hl).more hm, H.2⟩
theorem LQ.congr {g' : Nat → M.E1} (H : LQ E S L h N w2 d b t al f g lb m x) (hg : ∀ j, j < E → g j = g' j) : LQ E S L h N w2 d b t al f g' lb m x := ⟨H.1, EntB.congr H.2 hg⟩
theorem LQ.put (H : LQ E S L h N w2 d b t al f g lb m x) (hm : m ≤ 300000) (hlb : lb ≤ 12) (hi : i < E) (x1 x2 x3 : Int) (hx : M.emay1 x1 x2 x3 = true) : Calls Tryz.prog 12 #[.pointer (some ⟨t, 0, none⟩), .int .i64 (i : Nat), Ev x1 x2 x3] x fun e z => e = .returned (.int .i64 0) ∧ LQ E S L h N w2 d b t al (M.set1 f i ⟨x1, x2, x3⟩) g 13 (m + 1) z := by
  refine (H.1.put hm (by omega) hi x1 x2 x3 hx).mono ?_
  rintro e z ⟨e1, e2, e3⟩
  exact ⟨e1, e2.wide (by omega), e3.box H.2 (fun e => e.2 (List.mem_cons_self ..))⟩
theorem LQ.no (H : LQ E S L h N w2 d b t al f g lb m x) (hlb : lb ≤ 12) (X x1 x2 x3 : Int) (hx : X < 0 ∨ (E : Int) ≤ X ∨ ¬ M.emay1 x1 x2 x3 = true) : Calls Tryz.prog 12 #[.pointer (some ⟨t, 0, none⟩), .int .i64 X, Ev x1 x2 x3] x fun e z => e = .returned (.int .i64 3) ∧ LQ E S L h N w2 d b t al f g 13 (m + 1) z := by
  refine (H.1.refused X x1 x2 x3 hx).mono ?_
  rintro e z ⟨e1, e2, e3⟩
  exact ⟨e1, (e2.wide (by omega)).more (by omega), e3.box H.2 (fun e => e.2 (List.mem_cons_self ..))⟩
theorem LQ.next (H : LQ E S L h N w2 d b t al f g lb m x) (hm : m ≤ 300000) (hlb : lb ≤ 13) (hE : ErrT w2) (hN : 1 < N) : Calls Tryz.prog 14 #[.pointer (some ⟨b, 0, none⟩)] x fun e z => e = .returned (.bool true) ∧ LQ E S L h N w2 d b t al f g 0 (m + 1200) z := by
  have hv := (M.lok_iff E S L).1 h
  refine (H.1.next hm (by omega) hE hN).mono ?_
  rintro e z ⟨e1, e2, e3⟩
  exact ⟨e1, e2, e3.box H.2 (fun e => e.2 (List.mem_cons_self ..))⟩
theorem LQ.same (H : LQ E S L h N w2 d b t al f f lb m x) (hm : m ≤ 300000) : Calls Tryz.prog 15 #[.pointer (some ⟨t, 0, none⟩), .slice (some ⟨al, 0, none⟩) E E] x fun e z => e = .returned (.bool true) ∧ LQ E S L h N w2 d b t al f f lb (m + 60) z := by
  refine (H.1.same hm (EntB.ent H.2) (fun e => e.2 (List.mem_cons_self ..)) E).mono ?_
  rintro e z ⟨e1, e2, e3⟩
  exact ⟨e1, e2, e3.box H.2 (fun e => e.2 (List.mem_cons_self ..))⟩

/-- The disk with nothing that waits. -/
def LF (E S L : Nat) (h : M.lokB E S L = true) (N : Nat) (w2 : World) (d al : Nat) (f : Nat → M.E1) (m : Nat) (x : World) : Prop :=
  ∃ (P : Nat → Prop) (dd : M.D) (T : Nat → ByteArray), Disk x d P dd ∧ dd.L = [] ∧ dd.fails = [] ∧ M.LS (M.geo E S L h) dd T m ∧ M.TabIs E T f ∧ Below N w2 x ∧ N ≤ x.heap.size ∧ (∀ j, P j → (N ≤ j ∧ j ≠ al) ∧ j < x.heap.size) ∧ EntB x al E f
theorem LQ.flush (H : LQ E S L h N w2 d b t al f f 0 m x) (hm : m ≤ 300000) : Calls Tryz.prog 16 #[.pointer (some ⟨b, 0, none⟩)] x fun e z => e = .returned (.int .i64 0) ∧ LF E S L h N w2 d al f (m + 3) z := by
  have hB := H.below
  obtain ⟨⟨z0, s, T, h0, h1, h2, h3, h4, h5, h6, h7⟩, hE⟩ := H
  have hl : s.l = [] := List.eq_nil_of_length_eq_zero (by omega)
  have hsz := h3.kept.size
  refine (h3.ta.wa.flush (by omega)).mono ?_
  rintro e z ⟨e1, e2, e3, e4⟩
  have e5 := e2.news h3.ta.new
  have hd := e5.wal.disk
  have hs := e4.size
  rw [M.now_nil _ hl] at h7
  refine ⟨e1, fun j => (M.Rt N t j ∧ j ∉ [al]) ∧ j < z.heap.size, _, T, ?_, e3, e5.calm, e5.ws.disk, h7, hB.trans (e4.below (by omega) (fun k hk e => by have := e.1.1; omega)), by omega, fun j e => ⟨⟨e.1.1.1, by simpa using e.1.2⟩, e.2⟩, e4.box hE (fun e => e.2 (List.mem_cons_self ..))⟩
  have hd' := hd.mono (Q := fun j => (M.Rt N t j ∧ j ∉ [al]) ∧ j < z.heap.size) (fun k hk e => ⟨e, hk⟩)
  rw [← h6]
  exact hd'
theorem LF.beside (H : LF E S L h N w2 d al f m x) (hb : Below x.heap.size x z) : LF E S L h N w2 d al f m z := by
  obtain ⟨P, dd, T, h1, h2, h3, h4, h5, h6, h7, h8, h9⟩ := H
  have hs := hb.size
  exact ⟨P, dd, T, h1.kept (Kept.of_below hb (fun _ => False)) (fun _ _ => id), h2, h3, h4, h5, h6.trans (hb.mono h7), by omega, fun j e => ⟨(h8 j e).1, by have := (h8 j e).2; omega⟩, Box.below h9 hb (Box.lt h9)⟩
theorem LF.below (H : LF E S L h N w2 d al f m x) : Below N w2 x := by
  obtain ⟨P, dd, T, h1, h2, h3, h4, h5, h6, h7, h8, h9⟩ := H
  exact h6
theorem LF.restart (H : LF E S L h N w2 d al f m x) (hm : m ≤ 400000) : Calls Tryz.prog 17 #[.pointer (some ⟨d, 0, none⟩), .slice none 0 0] x fun e z => e = .returned (.tuple #[]) ∧ LF E S L h N w2 d al f m z := by
  obtain ⟨P, dd, T, h1, h2, h3, h4, h5, h6, h7, h8, h9⟩ := H
  have hls := h4.restart h2 (M.odd 0 (fun _ => 0))
  have hops := h4.ops
  refine (restart_any none 0 0 (fun _ => 0) x h1 (by omega) (fun i hi => absurd hi (by omega)) (fun h0 => absurd h0 (by omega))).mono ?_
  rintro e z ⟨z1, z2, z3⟩
  have hs := z3.size
  exact ⟨z1, P, _, T, z2, rfl, hls.2, hls.1, h5, h6.trans (z3.below h7 (fun k hk e => by have := (h8 k e).1; omega)), by omega, fun j e => ⟨(h8 j e).1, by have := (h8 j e).2; omega⟩, z3.box h9 (fun e => (h8 _ e).1.2 rfl)⟩
/-- The log is open anew. -/
def LO (E S L : Nat) (h : M.lokB E S L = true) (N : Nat) (w2 : World) (al b2 : Nat) (f : Nat → M.E1) (m : Nat) (x : World) : Prop :=
  ∃ (s : M.Wl) (T : Nat → ByteArray), WA (M.geo E S L h) x b2 (fun j => N ≤ j ∧ j ≠ al) s T m ∧ s.act = false ∧ s.l = [] ∧ M.TabIs E T f ∧ Below N w2 x ∧ N ≤ x.heap.size ∧ EntB x al E f
theorem LF.opens (H : LF E S L h N w2 d al f m x) (hm : m ≤ 400000) (hE : Env10 w2) (hET : ErrT w2) (h1' : 0 < N) (h2' : 1 < N) : Calls Tryz.prog 18 #[.pointer (some ⟨d, 0, none⟩), .int .i64 (M.ll E S : Nat), .int .i64 (L : Nat)] x fun e z => ∃ b2, e = .returned (.tuple #[.pointer (some ⟨b2, 0, none⟩), .int .i64 0]) ∧ LO E S L h N w2 al b2 f (m + 5000) z := by
  obtain ⟨P, dd, T, h1, h2, h3, h4, h5, h6, h7, h8, h9⟩ := H
  have hlt := Box.lt h9
  refine (open_calm h1 (fun k e => (h8 k e).2) (hE.low h6 h1') (fun e => by have := (h8 _ e).1; omega) (hET.low h6 h2') (fun e => by have := (h8 _ e).1; omega) h4 h3 (by omega)).mono ?_
  rintro e z ⟨b2, s, z1, z2, z3, z4, z5, z6, z7, z8, z9⟩
  have hs := z9.size
  exact ⟨b2, z1, s, T, z2.mono (fun j _ e => e.elim (fun e => (h8 j e).1) (fun e => ⟨by omega, by omega⟩)), z3, z4, h5, h6.trans (z9.below h7 (fun k hk e => by have := (h8 k e).1; omega)), by omega, z9.box h9 (fun e => (h8 _ e).1.2 rfl)⟩
theorem LO.beside (H : LO E S L h N w2 al b f m x) (hb : Below x.heap.size x z) : LO E S L h N w2 al b f m z := by
  obtain ⟨s, T, h1, h2, h3, h4, h5, h6, h7⟩ := H
  have hs := hb.size
  exact ⟨s, T, h1.kept (Kept.of_below hb (fun _ => False)) (fun _ _ => id), h2, h3, h4, h5.trans (hb.mono h6), by omega, Box.below h7 hb (Box.lt h7)⟩
theorem LO.below (H : LO E S L h N w2 al b f m x) : Below N w2 x := by
  obtain ⟨s, T, h1, h2, h3, h4, h5, h6, h7⟩ := H
  exact h5
/-- A table over it. -/
def LU (E S L : Nat) (h : M.lokB E S L = true) (N : Nat) (w2 : World) (al u : Nat) (f : Nat → M.E1) (m : Nat) (x : World) : Prop :=
  ∃ (R : Nat → Prop) (b2 d2 : Nat), TS E S L h R N w2 u b2 d2 [] f false 0 m x ∧ ¬ R al ∧ EntB x al E f
theorem LO.new (H : LO E S L h N w2 al b f m x) : Calls Tryz.prog 8 #[.pointer (some ⟨b, 0, none⟩), Cf E S L] x fun e z => ∃ u, e = .returned (.pointer (some ⟨u, 0, none⟩)) ∧ LU E S L h N w2 al u f m z := by
  obtain ⟨s, T, h1, h2, h3, h4, h5, h6, h7⟩ := H
  have hlt := Box.lt h7
  refine (tnew_any (some ⟨b, 0, none⟩) E S L x).mono ?_
  rintro e z ⟨u, e1, e2, e3, e4⟩
  have hs := e2.size
  have hu := Box.lt e4
  have hw : WA (M.geo E S L h) z b (fun j => (N ≤ j ∧ j ≠ al) ∧ j ≠ u) s T m :=
    ((h1.mono (Q := fun j => (N ≤ j ∧ j ≠ al) ∧ j < x.heap.size) (fun j hj e => ⟨e, hj⟩)).kept (Kept.of_below e2 (fun _ => False)) (fun _ _ => id)).mono (fun j _ e => ⟨e.1, by have := e.2; omega⟩)
  refine ⟨u, e1, fun j => (N ≤ j ∧ j ≠ al) ∧ j ≠ u, b, s.dk, ⟨z, s, T, fun j e => e.1.1, h5.trans (e2.mono h6), by omega, TF.start ⟨hw, fun j hj => ⟨⟨by omega, by omega⟩, by omega⟩, e4, fun e => e.2 rfl⟩, h2, by rw [h3]; simp, rfl, ?_⟩, fun e => e.1.2 rfl, Box.below h7 e2 hlt⟩
  rw [M.now_nil _ h3]
  exact h4
variable {u : Nat}
theorem LU.beside (H : LU E S L h N w2 al u f m x) (hb : Below x.heap.size x z) : LU E S L h N w2 al u f m z := by
  obtain ⟨R, b2, d2, h1, h2, h3⟩ := H
  exact ⟨R, b2, d2, h1.beside hb, h2, Box.below h3 hb (Box.lt h3)⟩
theorem LU.below (H : LU E S L h N w2 al u f m x) : Below N w2 x := by
  obtain ⟨R, b2, d2, h1, h2, h3⟩ := H
  exact h1.below
theorem LU.row (H : LU E S L h N w2 al u f m x) : EntB x al E f := by
  obtain ⟨R, b2, d2, h1, h2, h3⟩ := H
  exact h3
theorem LU.out (H : LU E S L h N w2 al u f m x) : Calls Tryz.prog 11 #[.pointer (some ⟨u, 0, none⟩), .int .i64 (E : Nat)] x fun e z => e = .returned (.tuple #[Ev 0 0 0, .int .i64 3]) ∧ LU E S L h N w2 al u f m z := by
  obtain ⟨R, b2, d2, h1, h2, h3⟩ := H
  refine (tget_out _ E S L (E : Nat) u x h1.tb (fun y => table15_out E S L (E : Nat) h (Or.inr (Int.le_refl _)) y)).mono ?_
  rintro e z ⟨e1, e2⟩
  exact ⟨e1, R, b2, d2, h1.beside e2, h2, Box.below h3 e2 (Box.lt h3)⟩
theorem LU.same (H : LU E S L h N w2 al u f m x) (hm : m ≤ 300000) : Calls Tryz.prog 15 #[.pointer (some ⟨u, 0, none⟩), .slice (some ⟨al, 0, none⟩) E E] x fun e z => e = .returned (.bool true) ∧ LU E S L h N w2 al u f (m + 60) z := by
  obtain ⟨R, b2, d2, h1, h2, h3⟩ := H
  refine (h1.same hm (EntB.ent h3) (fun e => h2 e.1) E).mono ?_
  rintro e z ⟨e1, e2, e3⟩
  exact ⟨e1, R, b2, d2, e2, h2, e3.box h3 (fun e => h2 e.1)⟩
theorem LU.off (H : LU E S L h N w2 al u f m x) (hm : m ≤ 300000) : Calls Tryz.prog 12 #[.pointer (some ⟨u, 0, none⟩), .int .i64 0, Ev (f 0).a (f 0).b (f 0).s] x fun e z => e = .returned (.int .i64 10) ∧ Below N w2 z := by
  obtain ⟨R, b2, d2, h1, h2, h3⟩ := H
  have hv := (M.lok_iff E S L).1 h
  have hm0 : (f 0).may = true := by
    obtain ⟨z0, s, T, _, _, _, _, _, _, _, q⟩ := h1
    exact q.may 0
  refine (h1.off hm (i := 0) (by omega) (f 0).a (f 0).b (f 0).s hm0).mono ?_
  rintro e z ⟨e1, e2, e3⟩
  exact ⟨e1, e2.below⟩
end
end Go.Proofs.YtlihgaejkadonaaGreatDoor
namespace Go.Proofs.YtlihgaejkadonaaGreatDoor
open Go.RowKit Go.Maps

abbrev Cc (a b c : Int) : Obj := .cells #[.int .i64 a, .int .i64 b, .int .i64 c] 23
set_option maxHeartbeats 1000000 in
theorem small18_no (a b c : Int) (hl : M.lokB a b c = false) (w : World) : Calls Tryz.prog 6 #[Cf a b c] w fun e z => e = .returned (.bool true) ∧ Below w.heap.size w z := by
  have C1 := Lib.hid (fun x => check15_any a b c x)
  rw [M.lerr_no hl] at C1
  have HB := Lib.hid (ib1 w (Cc a b c))
  clear hl
  go_enter Tryz.func6, Tryz.ntmps6
  go_wp2_with fail
  refine (C1.out _).mono ?_
  rintro e z1 ⟨rfl, hb⟩
  have HB1 := Lib.hid (HB.out.trans (hb.mono HB.out.size))
  clear hb
  go_wp2_with fail
  go_ret
  exact ⟨rfl, HB1.out⟩
set_option maxHeartbeats 1000000 in
theorem small18_ok (E S L : Nat) (h : M.lokB E S L = true) (w : World) : Calls Tryz.prog 6 #[Cf E S L] w fun e z => e = .returned (.bool (decide ((L : Int) ≤ 60))) ∧ Below w.heap.size w z := by
  have C1 := Lib.hid (fun x => check15_any E S L x)
  rw [M.lerr_ok h] at C1
  have HB := Lib.hid (ib1 w (Cc E S L))
  have HX : Hid (Box (w.alloc (Cc E S L)) w.heap.size 23 #[.int .i64 E, .int .i64 S, .int .i64 L]) := Box.new _ _ _
  clear h
  go_enter Tryz.func6, Tryz.ntmps6
  go_wp2_with fail
  refine (C1.out _).mono ?_
  rintro e z1 ⟨rfl, hb⟩
  have HB1 := Lib.hid (HB.out.trans (hb.mono HB.out.size))
  have HX1 := Lib.hid (HX.out.below hb HX.out.lt)
  clear hb
  have c2 := (HX1.out.cell 2).trans (rfl : _ = some (Value.int .i64 L))
  go_wp2_with fail
  go_ret
  exact ⟨rfl, HB1.out⟩

set_option maxRecDepth 100000 in
set_option maxHeartbeats 1000000 in
theorem tableDoes_far (a b c : Int) (A : Option Addr) (len cap : Nat) (w : World) (hE : Env10 w) (hET : ErrT w) (hlen : 60 < len) : Calls Tryz.prog 3 #[Cf a b c, .slice A len cap] w fun en z => en = .returned (.bool true) ∧ Below w.heap.size w z := by
  have HB := ib1 w (Cc a b c)
  have C0 := Lib.hid (works18_any (w.alloc (Cc a b c)) (hE.below HB) (hET.low HB hET.lt))
  have HB0 := Lib.hid HB
  have hd : decide ((60 : Int) < (len : Int)) = true := by simp; omega
  have hd' : (60 : Int) < (len : Int) := by omega
  clear hE hET hlen HB
  go_enter Tryz.func3, Tryz.ntmps3
  go_wp2_with fail
  refine C0.out.mono ?_
  rintro en w1 ⟨rfl, hb1⟩
  have HB1 := Lib.hid (HB0.out.trans (hb1.mono HB0.out.size))
  clear hb1
  go_wp2_with fail
  go_ret
  exact ⟨rfl, HB1.out⟩
set_option maxRecDepth 100000 in
set_option maxHeartbeats 1000000 in
theorem tableDoes_big (E S L : Nat) (h : M.lokB E S L = true) (hL : 60 < L) (A : Option Addr) (len cap : Nat) (w : World) (hE : Env10 w) (hET : ErrT w) (hlen : len ≤ 60) : Calls Tryz.prog 3 #[Cf E S L, .slice A len cap] w fun en z => en = .returned (.bool true) ∧ Below w.heap.size w z := by
  have HB := ib1 w (Cc E S L)
  have C0 := Lib.hid (works18_any (w.alloc (Cc E S L)) (hE.below HB) (hET.low HB hET.lt))
  have C1 := Lib.hid (fun x => small18_ok E S L h x)
  have hb0 : decide ((L : Int) ≤ 60) = false := by simp; omega
  rw [hb0] at C1
  have HX : Hid (Box (w.alloc (Cc E S L)) w.heap.size 23 #[.int .i64 E, .int .i64 S, .int .i64 L]) := Box.new _ _ _
  have HB0 := Lib.hid HB
  have hd : decide ((60 : Int) < (len : Int)) = false := by simp; omega
  have hd' : ¬ (60 : Int) < (len : Int) := by omega
  clear hE hET hlen HB h hL hb0
  go_enter Tryz.func3, Tryz.ntmps3
  go_wp2_with fail
  refine C0.out.mono ?_
  rintro en w1 ⟨rfl, hb1⟩
  have HB1 := Lib.hid (HB0.out.trans (hb1.mono HB0.out.size))
  have HX1 := Lib.hid (HX.out.below hb1 HX.out.lt)
  clear hb1
  have c0 := (HX1.out.cell 0).trans (rfl : _ = some (Value.int .i64 E))
  have c1 := (HX1.out.cell 1).trans (rfl : _ = some (Value.int .i64 S))
  have c2 := (HX1.out.cell 2).trans (rfl : _ = some (Value.int .i64 L))
  go_wp2_with fail
  refine (C1.out _).mono ?_
  rintro en w2 ⟨rfl, hb2⟩
  have HB2 := Lib.hid (HB1.out.trans (hb2.mono HB1.out.size))
  clear hb2
  go_wp2_with fail
  go_ret
  exact ⟨rfl, HB2.out⟩
set_option maxRecDepth 100000 in
set_option maxHeartbeats 2000000 in
theorem tableDoes_no (a b c : Int) (hl : M.lokB a b c = false) (A : Option Addr) (len cap : Nat) (w : World) (hE : Env10 w) (hET : ErrT w) (hlen : len ≤ 60) : Calls Tryz.prog 3 #[Cf a b c, .slice A len cap] w fun en z => en = .returned (.bool true) ∧ Below w.heap.size w z := by
  have HB := ib1 w (Cc a b c)
  have C0 := Lib.hid (works18_any (w.alloc (Cc a b c)) (hE.below HB) (hET.low HB hET.lt))
  have C1 := Lib.hid (fun x => small18_no a b c hl x)
  have C2 := Lib.hid (fun x => begun16_no a b c hl x)
  have C3 := Lib.hid (fun x => tnew_any none a b c x)
  have C4 := Lib.hid (fun t x (H : TbB x t (.pointer none) a b c) => tall_no _ a b c hl t x H)
  have C5 := Lib.hid (fun t x (H : TbB x t (.pointer none) a b c) => tfmt_no _ a b c hl t x H)
  have HX : Hid (Box (w.alloc (Cc a b c)) w.heap.size 23 #[.int .i64 a, .int .i64 b, .int .i64 c]) := Box.new _ _ _
  have HB0 := Lib.hid HB
  have hd : decide ((60 : Int) < (len : Int)) = false := by simp; omega
  have hd' : ¬ (60 : Int) < (len : Int) := by omega
  clear hE hET hlen HB hl
  go_enter Tryz.func3, Tryz.ntmps3
  go_wp2_with fail
  refine C0.out.mono ?_
  rintro en w1 ⟨rfl, hb1⟩
  have HB1 := Lib.hid (HB0.out.trans (hb1.mono HB0.out.size))
  have HX1 := Lib.hid (HX.out.below hb1 HX.out.lt)
  clear hb1 C0 HB0 HX
  have c0 := (HX1.out.cell 0).trans (rfl : _ = some (Value.int .i64 a))
  have c1 := (HX1.out.cell 1).trans (rfl : _ = some (Value.int .i64 b))
  have c2 := (HX1.out.cell 2).trans (rfl : _ = some (Value.int .i64 c))
  go_wp2_with fail
  refine (C1.out _).mono ?_
  rintro en w2 ⟨rfl, hb2⟩
  have HB2 := Lib.hid (HB1.out.trans (hb2.mono HB1.out.size))
  have HX2 := Lib.hid (HX1.out.below hb2 HX1.out.lt)
  clear hb2 C1 HB1 HX1 c0 c1 c2
  have c0 := (HX2.out.cell 0).trans (rfl : _ = some (Value.int .i64 a))
  have c1 := (HX2.out.cell 1).trans (rfl : _ = some (Value.int .i64 b))
  have c2 := (HX2.out.cell 2).trans (rfl : _ = some (Value.int .i64 c))
  go_wp2_with fail
  refine (C2.out _).mono ?_
  rintro en w3 ⟨rfl, hb3⟩
  have HB3 := Lib.hid (HB2.out.trans (hb3.mono HB2.out.size))
  have HX3 := Lib.hid (HX2.out.below hb3 HX2.out.lt)
  clear hb3 C2 HB2 HX2 c0 c1 c2
  have c0 := (HX3.out.cell 0).trans (rfl : _ = some (Value.int .i64 a))
  have c1 := (HX3.out.cell 1).trans (rfl : _ = some (Value.int .i64 b))
  have c2 := (HX3.out.cell 2).trans (rfl : _ = some (Value.int .i64 c))
  go_wp2_with fail
  refine (C3.out _).mono ?_
  rintro en w4 ⟨t, rfl, hb4, ht, tb⟩
  have HB4 := Lib.hid (HB3.out.trans (hb4.mono HB3.out.size))
  have TB := Lib.hid tb
  clear hb4 C3 HB3 HX3 c0 c1 c2 ht tb
  go_wp2_with fail
  refine (C4.out t _ TB.out).mono ?_
  rintro en w5 ⟨rfl, hb5⟩
  have HB5 := Lib.hid (HB4.out.trans (hb5.mono HB4.out.size))
  have TB5 := Lib.hid (Box.below TB.out hb5 (Box.lt TB.out))
  clear hb5 C4 HB4 TB
  go_wp2_with fail
  refine (C5.out t _ TB5.out).mono ?_
  rintro en w6 ⟨rfl, hb6⟩
  have HB6 := Lib.hid (HB5.out.trans (hb6.mono HB5.out.size))
  clear hb6 C5 HB5 TB5
  go_wp2_with fail
  go_ret
  exact ⟨rfl, HB6.out⟩
end Go.Proofs.YtlihgaejkadonaaGreatDoor
namespace Go.Proofs.YtlihgaejkadonaaGreatDoor
open Go.RowKit Go.Maps

/-- The row while its slots are set. -/
def M.half18 (k : Nat) : Nat → M.E1 := fun j => if j < k then M.no1 else ⟨0, 0, 0⟩
theorem M.half18_next (k j : Nat) : M.set1 (M.half18 k) k ⟨(M.half18 k k).a, (M.half18 k k).b, -1⟩ j = M.half18 (k + 1) j := by
  have hk : M.half18 k k = ⟨0, 0, 0⟩ := if_neg (by omega)
  by_cases e : j = k
  · subst e
    rw [M.set1_same, hk]
    show _ = if j < j + 1 then _ else _
    rw [if_pos (by omega)]
    rfl
  · rw [M.set1_other _ _ e]
    unfold M.half18
    by_cases e' : j < k
    · rw [if_pos e', if_pos (by omega)]
    · rw [if_neg e', if_neg (by omega)]
set_option maxRecDepth 100000 in
set_option maxHeartbeats 8000000 in
theorem tableDoes_ok (E S L : Nat) (h : M.lokB E S L = true) (hL : L ≤ 60) (A : Option Addr) (len cap : Nat) (w : World) (hE : Env10 w) (hET : ErrT w) (hlen : len ≤ 60)
    (hO : ∀ i, i < len → ∃ (ad : Addr) (X p q r : Int), A = some ad ∧ ad.block < w.heap.size ∧ Op18 w (ad.add (i * 4)) X p q r) :
    Calls Tryz.prog 3 #[Cf E S L, .slice A len cap] w fun en z => en = .returned (.bool true) ∧ Below w.heap.size w z := by
  have HB := ib1 w (Cc E S L)
  have C0 := Lib.hid (works18_any (w.alloc (Cc E S L)) (hE.below HB) (hET.low HB hET.lt))
  have C1 := Lib.hid (fun x => small18_ok E S L h x)
  have hb0 : decide ((L : Int) ≤ 60) = true := by simp; omega
  rw [hb0] at C1
  have HX : Hid (Box (w.alloc (Cc E S L)) w.heap.size 23 #[.int .i64 E, .int .i64 S, .int .i64 L]) := Box.new _ _ _
  have HB0 := Lib.hid HB
  have hd : decide ((60 : Int) < (len : Int)) = false := by simp; omega
  have hd' : ¬ (60 : Int) < (len : Int) := by omega
  have hv := (M.lok_iff E S L).1 h
  have hE9 : E ≤ 24 := by omega
  have hE1 : 1 ≤ E := by omega
  have HPA : Hid (∀ y, Below w.heap.size w y → Env10 y ∧ ErrT y ∧ 0 < y.heap.size ∧ 1 < y.heap.size) := fun y hb => ⟨hE.low hb hE.lt, hET.low hb hET.lt, Nat.lt_of_lt_of_le hE.lt hb.size, Nat.lt_of_lt_of_le hET.lt hb.size⟩
  have HO : Hid (∀ i, i < len → ∃ (ad : Addr) (X p q r : Int), A = some ad ∧ ad.block < w.heap.size ∧ Op18 w (ad.add (i * 4)) X p q r) := hO
  have HL := Lib.hid h
  clear hE hET HB hL hb0 hv hO
  go_enter Tryz.func3, Tryz.ntmps3
  go_wp2_with fail
  refine C0.out.mono ?_
  rintro en w1 ⟨rfl, hb1⟩
  have HB1 := Lib.hid (HB0.out.trans (hb1.mono HB0.out.size))
  have HX1 := Lib.hid (HX.out.below hb1 HX.out.lt)
  clear hb1 C0 HB0 HX
  have c0 := (HX1.out.cell 0).trans (rfl : _ = some (Value.int .i64 E))
  have c1 := (HX1.out.cell 1).trans (rfl : _ = some (Value.int .i64 S))
  have c2 := (HX1.out.cell 2).trans (rfl : _ = some (Value.int .i64 L))
  go_wp2_with fail
  refine (C1.out _).mono ?_
  rintro en w2 ⟨rfl, hb2⟩
  have HB2 := Lib.hid (HB1.out.trans (hb2.mono HB1.out.size))
  have HX2 := Lib.hid (HX1.out.below hb2 HX1.out.lt)
  clear hb2 C1 HB1 HX1 c0 c1 c2
  obtain ⟨N, hN⟩ : ∃ N, N = w2.heap.size := ⟨_, rfl⟩
  have FC : Hid (∀ y, Below N w2 y → y.cell? ⟨w.heap.size, 0, none⟩ = some (.int .i64 E) ∧ y.cell? ⟨w.heap.size, 1, none⟩ = some (.int .i64 S) ∧ y.cell? ⟨w.heap.size, 2, none⟩ = some (.int .i64 L)) := fun y hb => by
    have := HX2.out.below hb (by rw [hN]; exact HX2.out.lt)
    exact ⟨this.cell 0, this.cell 1, this.cell 2⟩
  have FO : Hid (∀ i, i < len → ∃ (ad : Addr) (X p q r : Int), A = some ad ∧ ∀ y, Below N w2 y → Op18 y (ad.add (i * 4)) X p q r) := fun i hi => by
    obtain ⟨ad, X, p, q, r, e1, e2, e3⟩ := HO.out i hi
    refine ⟨ad, X, p, q, r, e1, fun y hb => e3.below (HB2.out.trans (hb.mono (by rw [hN]; exact HB2.out.size))) (by rw [add_block18]; exact e2)⟩
  have FB : Hid (∀ y, Below N w2 y → Below w.heap.size w y) := fun y hb => HB2.out.trans (hb.mono (by rw [hN]; exact HB2.out.size))
  obtain ⟨q1, q2, q3, q4⟩ := HPA.out _ HB2.out
  rw [← hN] at q3 q4
  have HPB : Hid (Env10 w2 ∧ ErrT w2 ∧ 0 < N ∧ 1 < N) := ⟨q1, q2, q3, q4⟩
  have C2 := Lib.hid (begun16_ok E S L HL.out w2 q1 q2)
  rw [← hN] at C2
  have CN : Hid (∀ x d b s, (OW (M.geo E S L HL.out) N w2 x b s (fun _ => M.zeros 64) 6000 ∧ s.act = true ∧ s.l = [] ∧ s.used = 0 ∧ s.dk = d) → Calls Tryz.prog 8 #[.pointer (some ⟨b, 0, none⟩), Cf E S L] x fun e z => ∃ t, e = .returned (.pointer (some ⟨t, 0, none⟩)) ∧ TZ E S L HL.out (M.Rt N t) N w2 t b d [] 6000 z) := by
    rintro x d b s ⟨h1, h2, h3, h4, h5⟩
    refine (tnew_any (some ⟨b, 0, none⟩) E S L x).mono ?_
    rintro e z ⟨t, e1, e2, e3, e4⟩
    exact ⟨t, e1, TZ.start h1 h2 h3 h5 e2 e3 e4⟩
  clear q1 q2 q3 q4 HPA HO HB2 HX2 hN
  obtain ⟨c0, c1, c2⟩ := FC.out w2 (Below.refl _ _)
  go_wp2_with fail
  refine C2.out.mono ?_
  rintro en w3 ⟨d, b, s, rfl, h3⟩
  have G3 := Lib.hid h3
  clear h3 C2 c0 c1 c2
  obtain ⟨c0, c1, c2⟩ := FC.out w3 G3.out.1.below
  go_wp2_with fail
  refine (CN.out _ _ _ _ G3.out).mono ?_
  rintro en w4 ⟨t, rfl, h4⟩
  have G4 := Lib.hid h4
  clear h4 CN G3 c0 c1 c2
  go_wp2_with fail
  refine (G4.out.get0 (by omega)).mono ?_
  rintro en w5 ⟨rfl, h5⟩
  have G5 := Lib.hid (h5.beside (ib1 w5 (Ec 0 0 0)))
  clear h5 G4
  go_wp2_with fail
  refine (G5.out.put0 (by omega)).mono ?_
  rintro en w6 ⟨rfl, h6⟩
  have G6 := Lib.hid h6
  clear h6 G5
  go_wp2_with fail
  refine (G6.out.format (by omega)).mono ?_
  rintro en w7 ⟨rfl, h7, -⟩
  have G7 := Lib.hid h7
  clear h7 G6
  obtain ⟨c0, c1, c2⟩ := FC.out w7 (TS.below G7.out)
  have hmk := make_ents18 E hE9
  have hz : decide ((E : Int) < 0) = false := by simp
  have G8 := Lib.hid (LQ.make G7.out)
  go_wp2_with fail
  obtain ⟨w8, hw8⟩ : ∃ x, x = w7.alloc (.cells (M.erow (fun _ => ⟨0, 0, 0⟩) E).toArray 41) := ⟨_, rfl⟩
  rw [← hw8] at G8 ⊢
  obtain ⟨al, hal⟩ : ∃ x, x = w7.heap.size := ⟨_, rfl⟩
  rw [← hal] at G8 ⊢
  clear hw8 hal hmk hz G7 c0 c1 c2
  go_loopw [13] (fun i wr => ∃ k : Nat, k ≤ E ∧ i = .int .i64 (k : Nat) ∧ Hid (LQ E S L HL.out N w2 d b t al (fun _ => M.no1) (M.half18 k) 12 6014 wr)) (fun i _ => E - (intOf i).toNat)
  case atStart => exact ⟨0, Nat.zero_le _, rfl, G8.out.congr (fun j hj => (if_neg (by omega)).symm)⟩
  case round =>
    clear G8
    obtain ⟨k, hk, rfl, HP⟩ := hrel
    by_cases hlt : k < E
    · have hlt' : (k : Int) < (E : Int) := by omega
      have hk0 : (0 : Int) ≤ (k : Int) := by omega
      have hd9 : decide (k < E) = true := by simpa using hlt
      obtain ⟨-, -, x2⟩ := EntB.ent HP.out.2 k hlt
      have f2 := EntB.fro HP.out.2 (k * 3 + 2)
      have HP2 := Lib.hid ((HP.out.slot hlt (-1)).congr (fun j _ => M.half18_next k j))
      clear HP hlt
      go_wp2_with fail
      go_roundw
      case rel => exact ⟨k + 1, by omega, by go_num, HP2⟩
      case measure => simp [intOf]; omega
    · have e : E = k := by omega
      subst e
      have hd9 : decide (E < E) = false := by simp
      have HP2 := Lib.hid (HP.out.congr (g' := fun _ => M.no1) (fun j hj => if_pos hj))
      clear hlt hk HP
      go_wp2_with fail
      go_loopw [14] (fun i wr => ∃ (k : Nat) (f : Nat → M.E1), k ≤ len ∧ i = .int .i64 (k : Nat) ∧ Hid (LQ E S L HL.out N w2 d b t al f f 12 (6014 + 1300 * k) wr)) (fun i _ => len - (intOf i).toNat)
      case atStart => exact ⟨0, _, Nat.zero_le _, rfl, HP2⟩
      case round =>
        clear HP2
        obtain ⟨k, f, hk, rfl, HP⟩ := hrel
        by_cases hlt : k < len
        · have hlt' : (k : Int) < (len : Int) := by omega
          have hk0 : (0 : Int) ≤ (k : Int) := by omega
          have hd9 : decide (k < len) = true := by simpa using hlt
          have hk9 : k < 60 := by omega
          obtain ⟨ad, X, p, q, r, rfl, hop⟩ := FO.out k hlt
          have HC := Lib.hid hop
          have C4 := Lib.hid (fun x => recheck_any p q r x)
          clear hop hlt
          -- what a round leaves
          have HEnd : Hid (∀ g x, LQ E S L HL.out N w2 d b t al g g 0 (6014 + 1300 * k + 1 + 1200 + 60) x → LQ E S L HL.out N w2 d b t al g g 12 (6014 + 1300 * (k + 1)) x) := fun g x q => q.more (by omega) (by omega)
          have hcase : X < 0 ∨ (¬ X < 0 ∧ (E : Int) ≤ X) ∨ (∃ i : Nat, X = (i : Nat) ∧ i < E) := by
            by_cases h1 : X < 0
            · exact Or.inl h1
            · by_cases h2 : (E : Int) ≤ X
              · exact Or.inr (Or.inl ⟨h1, h2⟩)
              · exact Or.inr (Or.inr ⟨X.toNat, by omega, by omega⟩)
          rcases hcase with h1 | ⟨h1, h2⟩ | ⟨i, rfl, hi⟩
          · obtain ⟨er, her⟩ : ∃ er, er = M.eerr p q r := ⟨_, rfl⟩
            rw [← her] at C4
            have C3 := Lib.hid ((HP.out.beside (Below.refl _ _).drew).no (Nat.le_refl _) X p q r (Or.inl h1))
            obtain ⟨c0, c1, c2, c3⟩ := HC.out wr HP.out.below
            clear her
            clear HP
            go_wp2_with fail
            go_still_tail 11, (by kernel_rfl)
            change wpList _ _ _ _ _ wr.drew
            go_wp2_with fail
            refine C3.out.mono ?_
            rintro en w9 ⟨rfl, h9⟩
            have G9 := Lib.hid h9
            clear h9 C3 c0 c1 c2 c3
            obtain ⟨c0, c1, c2, c3⟩ := HC.out w9 G9.out.below
            go_wp2_with fail
            refine (C4.out _).mono ?_
            rintro en w10 ⟨rfl, hb⟩
            have G10 := Lib.hid (G9.out.beside hb)
            clear hb G9 C4 c0 c1 c2 c3
            obtain ⟨c0, c1, c2, c3⟩ := HC.out w10 G10.out.below
            obtain ⟨k0, -, -⟩ := FC.out w10 G10.out.below
            go_wp2_with fail
            go_quiet (fail)
            go_wp2_with fail
            refine ((G10.out.beside (below_drewN (Below.refl _ _) _)).next (by omega) (Nat.le_refl _) HPB.out.2.1 HPB.out.2.2.2).mono ?_
            rintro en w11 ⟨rfl, h11⟩
            have G11 := Lib.hid h11
            clear h11 G10 c0 c1 c2 c3 k0
            go_wp2_with fail
            refine (G11.out.same (by omega)).mono ?_
            rintro en w12 ⟨rfl, h12⟩
            have G13 := Lib.hid (HEnd.out _ _ h12)
            clear h12 G11 HEnd
            go_wp2_with fail
            go_roundw
            case rel => exact ⟨k + 1, _, by omega, by go_num, G13⟩
            case measure => simp [intOf]; omega
          · obtain ⟨er, her⟩ : ∃ er, er = M.eerr p q r := ⟨_, rfl⟩
            rw [← her] at C4
            have C3 := Lib.hid ((HP.out.beside (Below.refl _ _).drew).no (Nat.le_refl _) X p q r (Or.inr (Or.inl h2)))
            obtain ⟨c0, c1, c2, c3⟩ := HC.out wr HP.out.below
            clear her
            clear HP
            go_wp2_with fail
            go_still_tail 11, (by kernel_rfl)
            change wpList _ _ _ _ _ wr.drew
            go_wp2_with fail
            refine C3.out.mono ?_
            rintro en w9 ⟨rfl, h9⟩
            have G9 := Lib.hid h9
            clear h9 C3 c0 c1 c2 c3
            obtain ⟨c0, c1, c2, c3⟩ := HC.out w9 G9.out.below
            go_wp2_with fail
            refine (C4.out _).mono ?_
            rintro en w10 ⟨rfl, hb⟩
            have G10 := Lib.hid (G9.out.beside hb)
            clear hb G9 C4 c0 c1 c2 c3
            obtain ⟨c0, c1, c2, c3⟩ := HC.out w10 G10.out.below
            obtain ⟨k0, -, -⟩ := FC.out w10 G10.out.below
            go_wp2_with fail
            go_quiet (fail)
            go_wp2_with fail
            refine ((G10.out.beside (below_drewN (Below.refl _ _) _)).next (by omega) (Nat.le_refl _) HPB.out.2.1 HPB.out.2.2.2).mono ?_
            rintro en w11 ⟨rfl, h11⟩
            have G11 := Lib.hid h11
            clear h11 G10 c0 c1 c2 c3 k0
            go_wp2_with fail
            refine (G11.out.same (by omega)).mono ?_
            rintro en w12 ⟨rfl, h12⟩
            have G13 := Lib.hid (HEnd.out _ _ h12)
            clear h12 G11 HEnd
            go_wp2_with fail
            go_roundw
            case rel => exact ⟨k + 1, _, by omega, by go_num, G13⟩
            case measure => simp [intOf]; omega
          · cases hm : M.emay1 p q r
            · rw [M.eerr_no (by rw [hm]; decide)] at C4
              have C3 := Lib.hid ((HP.out.beside (Below.refl _ _).drew).no (Nat.le_refl _) (i : Nat) p q r (Or.inr (Or.inr (by rw [hm]; decide))))
              have hi0 : (0 : Int) ≤ (i : Int) := by omega
              have hi' : (i : Int) < (E : Int) := by omega
              have hie : ¬ (i : Int) < 0 := by omega
              have hie2 : ¬ (E : Int) ≤ (i : Int) := by omega
              obtain ⟨c0, c1, c2, c3⟩ := HC.out wr HP.out.below
              clear hm hi
              clear HP
              go_wp2_with fail
              go_still_tail 11, (by kernel_rfl)
              change wpList _ _ _ _ _ wr.drew
              go_wp2_with fail
              refine C3.out.mono ?_
              rintro en w9 ⟨rfl, h9⟩
              have G9 := Lib.hid h9
              clear h9 C3 c0 c1 c2 c3
              obtain ⟨c0, c1, c2, c3⟩ := HC.out w9 G9.out.below
              go_wp2_with fail
              refine (C4.out _).mono ?_
              rintro en w10 ⟨rfl, hb⟩
              have G10 := Lib.hid (G9.out.beside hb)
              clear hb G9 C4 c0 c1 c2 c3
              obtain ⟨c0, c1, c2, c3⟩ := HC.out w10 G10.out.below
              obtain ⟨k0, -, -⟩ := FC.out w10 G10.out.below
              go_wp2_with fail
              go_quiet (fail)
              go_wp2_with fail
              refine ((G10.out.beside (below_drewN (Below.refl _ _) _)).next (by omega) (Nat.le_refl _) HPB.out.2.1 HPB.out.2.2.2).mono ?_
              rintro en w11 ⟨rfl, h11⟩
              have G11 := Lib.hid h11
              clear h11 G10 c0 c1 c2 c3 k0
              go_wp2_with fail
              refine (G11.out.same (by omega)).mono ?_
              rintro en w12 ⟨rfl, h12⟩
              have G13 := Lib.hid (HEnd.out _ _ h12)
              clear h12 G11 HEnd
              go_wp2_with fail
              go_roundw
              case rel => exact ⟨k + 1, _, by omega, by go_num, G13⟩
              case measure => simp [intOf]; omega
            · rw [M.eerr_ok hm] at C4
              have C3 := Lib.hid ((HP.out.beside (Below.refl _ _).drew).put (by omega) (Nat.le_refl _) hi p q r hm)
              obtain ⟨c0, c1, c2, c3⟩ := HC.out wr HP.out.below
              have hi0 : (0 : Int) ≤ (i : Int) := by omega
              have hi' : (i : Int) < (E : Int) := by omega
              have hie : ¬ (i : Int) < 0 := by omega
              have hie2 : ¬ (E : Int) ≤ (i : Int) := by omega
              have HI : Hid (i < E) := hi
              clear hm HP hi
              go_wp2_with fail
              go_still_tail 11, (by kernel_rfl)
              change wpList _ _ _ _ _ wr.drew
              go_wp2_with fail
              refine C3.out.mono ?_
              rintro en w9 ⟨rfl, h9⟩
              have G9 := Lib.hid h9
              clear h9 C3 c0 c1 c2 c3
              obtain ⟨c0, c1, c2, c3⟩ := HC.out w9 G9.out.below
              go_wp2_with fail
              refine (C4.out _).mono ?_
              rintro en w10 ⟨rfl, hb⟩
              have G10 := Lib.hid (G9.out.beside hb)
              clear hb G9 C4 c0 c1 c2 c3
              obtain ⟨c0, c1, c2, c3⟩ := HC.out w10 G10.out.below
              obtain ⟨k0, -, -⟩ := FC.out w10 G10.out.below
              go_wp2_with fail
              go_quiet (fail)
              go_wp2_with fail
              refine ((G10.out.beside (below_drewN (Below.refl _ _) _)).next (by omega) (Nat.le_refl _) HPB.out.2.1 HPB.out.2.2.2).mono ?_
              rintro en w11 ⟨rfl, h11⟩
              have G11 := Lib.hid h11
              clear h11 G10 c0 c1 c2 c3 k0
              obtain ⟨c0, c1, c2, c3⟩ := HC.out w11 G11.out.below
              obtain ⟨x0, x1, x2⟩ := EntB.ent G11.out.2 i HI.out
              have f0 := EntB.fro G11.out.2 (i * 3)
              have f1 := EntB.fro G11.out.2 (i * 3 + 1)
              have f2 := EntB.fro G11.out.2 (i * 3 + 2)
              have G12 := Lib.hid ((G11.out.beside (Below.refl _ _).drew).store HI.out p q r)
              clear G11
              go_wp2_with fail
              go_still_tail 12, (by kernel_rfl)
              change wpList _ _ _ _ _ w11.drew
              go_wp2_with fail
              refine (G12.out.same (by omega)).mono ?_
              rintro en w12 ⟨rfl, h12⟩
              have G13 := Lib.hid (HEnd.out _ _ h12)
              clear h12 G12 c0 c1 c2 c3 x0 x1 x2 f0 f1 f2 HEnd
              go_wp2_with fail
              go_roundw
              case rel => exact ⟨k + 1, _, by omega, by go_num, G13⟩
              case measure => simp [intOf]; omega
        · have e : len = k := by omega
          subst e
          have hd9 : decide (len < len) = false := by simp
          have CL := Lib.hid (fun x => log15_ok E S L HL.out x)
          have C7 : Hid (∀ m x, m ≤ 300000 → LF E S L HL.out N w2 d al f m x → Calls Tryz.prog 18 #[.pointer (some ⟨d, 0, none⟩), .int .i64 (M.ll E S : Nat), .int .i64 (L : Nat)] x fun e z => ∃ b2, e = .returned (.tuple #[.pointer (some ⟨b2, 0, none⟩), .int .i64 0]) ∧ LO E S L HL.out N w2 al b2 f (m + 5000) z) := fun m x hm q => q.opens (by omega) HPB.out.1 HPB.out.2.1 HPB.out.2.2.1 HPB.out.2.2.2
          obtain ⟨l0, hl0⟩ : ∃ x, x = M.ll E S := ⟨_, rfl⟩
          rw [← hl0] at CL C7
          have C5 := Lib.hid (HP.out.next (by omega) (by omega) HPB.out.2.1 HPB.out.2.2.2)
          obtain ⟨m0, hm0⟩ : ∃ x, x = 6014 + 1300 * len + 1200 := ⟨_, rfl⟩
          rw [← hm0] at C5
          have hm9 : m0 ≤ 200000 := by omega
          clear hlt hk hl0 hm0 HP FO
          go_wp2_with fail
          refine C5.out.mono ?_
          rintro en w9 ⟨rfl, h9⟩
          have G9 := Lib.hid h9
          clear h9 C5
          go_wp2_with fail
          refine (G9.out.flush (by omega)).mono ?_
          rintro en w10 ⟨rfl, h10⟩
          have G10 := Lib.hid h10
          clear h10 G9
          go_wp2_with fail
          refine (G10.out.restart (by omega)).mono ?_
          rintro en w11 ⟨rfl, h11⟩
          have G11 := Lib.hid h11
          clear h11 G10
          have hS0 := FC.out w11 G11.out.below
          have hS0' : w11.drew.cell? ⟨w.heap.size, 0, none⟩ = some (.int .i64 E) ∧ w11.drew.cell? ⟨w.heap.size, 1, none⟩ = some (.int .i64 S) ∧ w11.drew.cell? ⟨w.heap.size, 2, none⟩ = some (.int .i64 L) := hS0
          have HLF : Hid (∀ x z, LF E S L HL.out N w2 d al f (m0 + 3) x → Below x.heap.size x z → LF E S L HL.out N w2 d al f (m0 + 3) z) := fun x z q hb => q.beside hb
          go_wp2_with fail
          go_region_held3 (fun y => y.cell? ⟨w.heap.size, 0, none⟩ = some (.int .i64 E) ∧ y.cell? ⟨w.heap.size, 1, none⟩ = some (.int .i64 S) ∧ y.cell? ⟨w.heap.size, 2, none⟩ = some (.int .i64 L)) (first | assumption | trivial)
            (first
              | (go_at_call 19; refine (CL.out _).mono ?_; rintro en w12 ⟨rfl, hb12⟩; have G12 := Lib.hid (HLF.out _ w12 (by first | exact G11.out | exact HLF.out _ _ G11.out (Below.refl _ _).drew) hb12); have hS12 := FC.out w12 G12.out.below; clear hb12)
              | (go_at_call 18; refine (C7.out (m0 + 3) _ (by omega) (by first | exact G12.out | exact HLF.out _ _ G12.out (Below.refl _ _).drew)).mono ?_; rintro en w13 ⟨b2, rfl, h13⟩; have G13 := Lib.hid h13; have hS13 := FC.out w13 G13.out.below; clear h13))
          clear hS0 hS0' hS12 G11 G12 CL C7 HLF
          obtain ⟨k0, k1, k2⟩ := hS13
          go_wp2_with fail
          refine (LO.new G13.out).mono ?_
          rintro en w14 ⟨u, rfl, h14⟩
          have G14 := Lib.hid h14
          clear h14 G13 k0 k1 k2
          obtain ⟨k0, -, -⟩ := FC.out w14 G14.out.below
          go_wp2_with fail
          refine G14.out.out.mono ?_
          rintro en w15 ⟨rfl, h15⟩
          have G15 := Lib.hid (h15.beside (ib1 w15 (Ec 0 0 0)))
          clear h15 G14 k0
          go_wp2_with fail
          refine (G15.out.same (by omega)).mono ?_
          rintro en w16 ⟨rfl, h16⟩
          have G16 := Lib.hid h16
          clear h16 G15
          have x0 : w16.cell? ⟨al, 0, none⟩ = some (.int .i64 (f 0).a) := (EntB.ent (LU.row G16.out) 0 (by omega)).1
          have x1 : w16.cell? ⟨al, 1, none⟩ = some (.int .i64 (f 0).b) := (EntB.ent (LU.row G16.out) 0 (by omega)).2.1
          have x2 : w16.cell? ⟨al, 2, none⟩ = some (.int .i64 (f 0).s) := (EntB.ent (LU.row G16.out) 0 (by omega)).2.2
          have hE0 : (0 : Int) < (E : Int) := by omega
          go_wp2_with fail
          refine (G16.out.off (by omega)).mono ?_
          rintro en w17 ⟨rfl, h17⟩
          have G17 := Lib.hid (FB.out _ h17)
          clear h17 G16 x0 x1 x2
          go_wp2_with fail
          go_ret
          exact ⟨rfl, G17.out⟩
end Go.Proofs.YtlihgaejkadonaaGreatDoor
namespace Go.Proofs.YtlihgaejkadonaaGreatDoor
open Go.RowKit Go.Maps
theorem tableDoes_walk (a b c : Int) (v : Value) (W : World) (hE : Env10 W ∧ ErrT W) (hv : OpsAt18 W v) :
    Calls Tryz.prog 3 #[.agg #[.int .i64 a, .int .i64 b, .int .i64 c], v] W fun en y => en = .returned (.bool true) ∧ Below W.heap.size W y := by
  obtain ⟨A, len, cap, rfl, hO⟩ := hv
  by_cases hlen : 60 < len
  · exact tableDoes_far a b c A len cap W hE.1 hE.2 hlen
  · cases hl : M.lokB a b c
    · exact tableDoes_no a b c hl A len cap W hE.1 hE.2 (by omega)
    · have h' := (M.lok_iff a b c).1 hl
      obtain ⟨E, rfl⟩ : ∃ E : Nat, a = E := ⟨a.toNat, by omega⟩
      obtain ⟨S, rfl⟩ : ∃ E : Nat, b = E := ⟨b.toNat, by omega⟩
      obtain ⟨L, rfl⟩ : ∃ E : Nat, c = E := ⟨c.toNat, by omega⟩
      by_cases hL : L ≤ 60
      · exact tableDoes_ok E S L hl hL A len cap W hE.1 hE.2 (by omega) hO
      · exact tableDoes_big E S L hl (by omega) A len cap W hE.1 hE.2 (by omega)
end Go.Proofs.YtlihgaejkadonaaGreatDoor
