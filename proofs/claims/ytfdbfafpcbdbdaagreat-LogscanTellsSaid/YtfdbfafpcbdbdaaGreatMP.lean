/-
  A walk over both() of layer 12: a log of the program's and one of the document's, side by side. The arguments of layer 12's laws, opened: a slice of slices of sectors, a slice of what is laid. What is laid, and slices of sectors, as functions of the index; a walk over great() of layer 12.
-/
import Derived.Test.YtfdbfafpcbdbdaaGreatML
import Derived.Test.YtfdbfafpcbdbdaaGreatMO
import Derived.Test.YtfdbfafpcbdbdaaGreatMB
import Derived.Test.YtfdbfafpcbdbdaaGreatMC
namespace Go.Proofs.YtfdbfafpcbdbdaaGreat
open Go.RowKit

/-- Both disks and a part of each, beside what F tells. -/
structure Bo12 (w y : World) (N a b ra rb fr mn : Nat) (d : M.D) (r : M.R) : Prop where
  two : Two w y N a b (fun k => k = ra ∨ k = rb) d r
  reg : Reg y ra a fr mn
  rreg : RReg y rb b fr mn
  low : N ≤ ra ∧ N ≤ rb
section
variable {w y y' : World} {N a b ra rb fr mn : Nat} {d : M.D} {r : M.R}
theorem Bo12.keep (h : Bo12 w y N a b ra rb fr mn d r) (hb : Below y.heap.size y y') : Bo12 w y' N a b ra rb fr mn d r := by
  have hk : Kept (fun _ => False) y y' := Kept.of_below hb _
  exact ⟨h.two.kept hk (fun _ e => e.elim) (fun _ e => e.elim), h.reg.kept hk id, h.rreg.kept hk id, h.low⟩
theorem Bo12.drewN (h : Bo12 w y N a b ra rb fr mn d r) (n : Nat) : Bo12 w (y.drewN n) N a b ra rb fr mn d r := h.keep (below_drewN (Below.refl _ _) n)
theorem Bo12.alloc (h : Bo12 w y N a b ra rb fr mn d r) (o : Obj) : Bo12 w (y.alloc o) N a b ra rb fr mn d r := h.keep ((Below.refl _ _).alloc (Nat.le_refl _) o)
theorem Bo12.below (h : Bo12 w y N a b ra rb fr mn d r) : Below N w y := h.two.below
theorem Bo12.le (h : Bo12 w y N a b ra rb fr mn d r) : N ≤ y.heap.size := h.two.le
end

/-- May there be a log of so many sectors? -/
def M.mayLog (m : Int) : Bool := decide (1 ≤ m) && decide (m ≤ 55)
set_option maxRecDepth 100000 in
set_option maxHeartbeats 1000000 in
theorem both_any (m : Int) (w y : World) (hb : Below w.heap.size w y) :
    Calls Tryz.prog 5 #[.int .i64 m] y fun e y' => (M.mayLog m = true ∧ ∃ a b ra rb, e = .returned (.tuple #[.pointer (some ⟨a, 0, none⟩), .pointer (some ⟨ra, 0, none⟩), .pointer (some ⟨b, 0, none⟩), .pointer (some ⟨rb, 0, none⟩)]) ∧ Bo12 w y' w.heap.size a b ra rb 5 m.toNat (M.new 60) (M.newR 60)) ∨
      (M.mayLog m = false ∧ e = .returned (.tuple #[.pointer none, .pointer none, .pointer none, .pointer none]) ∧ Below w.heap.size w y') := by
  have HN : Hid (∀ y, Below w.heap.size w y → _) := fun y hb => knew 60 w y hb
  have HNR : Hid (∀ y a, Dk w y w.heap.size a (fun k => w.heap.size ≤ k) (M.new 60) → Calls Tryz.prog 19 #[.int .i64 60] y fun e y' => ∃ b, e = .returned (.pointer (some ⟨b, 0, none⟩)) ∧ Two w y' w.heap.size a b (fun _ => False) (M.new 60) (M.newR 60)) := fun y a h => urnew 60 h
  rw [show M.held 60 = 60 by decide] at HN
  have hlen : ((M.new 60).S.length : Int) = 60 := by simp [M.new]
  have hlenR : ((M.newR 60).seen.length : Int) = 60 := by simp [M.newR]
  have HB := Lib.hid hb
  by_cases hw : M.within 5 m 60 = true
  · obtain ⟨w0, w1, w2⟩ := M.within_yes hw
    obtain ⟨n, rfl⟩ : ∃ n : Nat, m = n := ⟨m.toNat, by omega⟩
    have HNW : Hid (∀ y a b, Two w y w.heap.size a b (fun _ => False) (M.new 60) (M.newR 60) → Calls Tryz.prog 17 #[.pointer (some ⟨a, 0, none⟩), .int .i64 5, .int .i64 (n : Nat)] y fun e y' => e = .returned (.tuple #[.pointer (some ⟨y.heap.size, 0, none⟩), .int .i64 0]) ∧ Two w y' w.heap.size a b (fun k => False ∨ k = y.heap.size) (M.new 60) (M.newR 60) ∧ Reg y' y.heap.size a 5 n ∧ w.heap.size ≤ y.heap.size) := fun y a b h => by
      have h0 := h
      obtain ⟨P, Q, hd, _⟩ := h
      refine (new9_yes 5 (n : Nat) y hd (by omega) (by rw [hlen]; exact hw)).mono ?_
      rintro e y' ⟨he, rfl⟩
      exact ⟨he, h0.beside _, Box.new _ _ _, h0.le⟩
    have HNX : Hid (∀ y a b ra, Two w y w.heap.size a b (fun k => False ∨ k = ra) (M.new 60) (M.newR 60) → Reg y ra a 5 n → w.heap.size ≤ ra → Calls Tryz.prog 20 #[.pointer (some ⟨b, 0, none⟩), .int .i64 5, .int .i64 (n : Nat)] y fun e y' => ∃ rb, e = .returned (.tuple #[.pointer (some ⟨rb, 0, none⟩), .int .i64 0]) ∧ Bo12 w y' w.heap.size a b ra rb 5 n (M.new 60) (M.newR 60)) := fun y a b ra h hr hl => by
      have h0 := h
      obtain ⟨P, Q, _, hr2, _⟩ := h
      refine (hnew_yes 5 (n : Nat) y hr2 (by rw [hlenR]; exact hw)).mono ?_
      rintro e y' ⟨he, rfl⟩
      have h1 := h0.beside (.cells #[.pointer (some ⟨b, 0, none⟩), .int .i64 5, .int .i64 (n : Nat)] 83)
      obtain ⟨P', Q', g1, g2, g3, g4, g5, g6, g7⟩ := h1
      exact ⟨_, he, ⟨P', Q', g1, g2, fun k e => ⟨(g3 k e).1, fun e' => (g3 k e).2.1 (e'.imp Or.inr id), (g3 k e).2.2⟩, fun k e => ⟨fun e' => (g4 k e).1 (e'.imp Or.inr id), (g4 k e).2⟩, fun k e => g5 k (e.imp Or.inr id), g6, g7⟩, hr.kept ((Kept.refl (fun _ => False) y).alloc _) id, Box.new _ _ _, hl, h0.le⟩
    by_cases hn : n = 0
    · subst hn
      have hM : M.mayLog ((0 : Nat) : Int) = false := by decide
      have HM := Lib.hid hM
      clear hw w0 w1 w2 hlen hlenR hM hb
      go_enter Tryz.func5, Tryz.ntmps5
      go_wp2_with fail
      refine (HN.out _ HB.out).mono ?_
      rintro e w1 ⟨a, rfl, h1⟩
      have H1 := Lib.hid h1
      clear h1 HN
      go_wp2_with fail
      refine (HNR.out _ _ H1.out).mono ?_
      rintro e w2 ⟨b, rfl, h2⟩
      have H2 := Lib.hid h2
      clear h2 HNR H1
      go_wp2_with fail
      refine (HNW.out _ _ _ H2.out).mono ?_
      rintro e w3 ⟨rfl, h3, h4, h5⟩
      have H3 := Lib.hid h3
      have H4 := Lib.hid h4
      have H5 := Lib.hid h5
      clear h3 h4 h5 HNW H2
      go_wp2_with fail
      refine (HNX.out _ _ _ _ H3.out H4.out H5.out).mono ?_
      rintro e w4 ⟨rb, rfl, h6⟩
      have H6 := Lib.hid h6.below
      clear h6 HNX H3 H4 H5
      go_wp2_with fail
      go_returns
      exact Or.inr ⟨HM.out, rfl, H6.out⟩
    · have hM : M.mayLog (n : Int) = true := by unfold M.mayLog; simp; omega
      have HM := Lib.hid hM
      have hn0 : ((n : Int) == 0) = false := by rw [beq_eq_false_iff_ne]; omega
      have hn1 : ¬ (n : Int) = 0 := by omega
      clear hw w0 w1 w2 hlen hlenR hM hb hn
      go_enter Tryz.func5, Tryz.ntmps5
      go_wp2_with fail
      refine (HN.out _ HB.out).mono ?_
      rintro e w1 ⟨a, rfl, h1⟩
      have H1 := Lib.hid h1
      clear h1 HN
      go_wp2_with fail
      refine (HNR.out _ _ H1.out).mono ?_
      rintro e w2 ⟨b, rfl, h2⟩
      have H2 := Lib.hid h2
      clear h2 HNR H1
      go_wp2_with fail
      refine (HNW.out _ _ _ H2.out).mono ?_
      rintro e w3 ⟨rfl, h3, h4, h5⟩
      have H3 := Lib.hid h3
      have H4 := Lib.hid h4
      have H5 := Lib.hid h5
      obtain ⟨ra, hra⟩ : ∃ ra, ra = w2.heap.size := ⟨_, rfl⟩
      rw [← hra] at H3 H4 H5 ⊢
      clear h3 h4 h5 HNW H2 hra
      go_wp2_with fail
      refine (HNX.out _ _ _ _ H3.out H4.out H5.out).mono ?_
      rintro e w4 ⟨rb, rfl, h6⟩
      have H6 := Lib.hid h6
      clear h6 HNX H3 H4 H5
      go_wp2_with fail
      go_returns
      exact Or.inl ⟨HM.out, a, b, ra, rb, rfl, by rw [Int.toNat_natCast]; exact H6.out⟩
  · have hw' : M.within 5 m 60 = false := by simpa using hw
    have hM : M.mayLog m = false := by
      unfold M.within at hw'
      unfold M.mayLog
      simp at hw' ⊢
      omega
    have HM := Lib.hid hM
    have HNW : Hid (∀ y a b, Two w y w.heap.size a b (fun _ => False) (M.new 60) (M.newR 60) → Calls Tryz.prog 17 #[.pointer (some ⟨a, 0, none⟩), .int .i64 5, .int .i64 m] y fun e y' => e = .returned (.tuple #[.pointer none, .int .i64 3]) ∧ y' = y) := fun y a b h => by
      obtain ⟨P, Q, hd, _⟩ := h
      exact new9_no 5 m y hd (by omega) (by rw [hlen]; exact hw')
    have HNX : Hid (∀ y a b, Two w y w.heap.size a b (fun _ => False) (M.new 60) (M.newR 60) → Calls Tryz.prog 20 #[.pointer (some ⟨b, 0, none⟩), .int .i64 5, .int .i64 m] y fun e y' => e = .returned (.tuple #[.pointer none, .int .i64 3]) ∧ y' = y) := fun y a b h => by
      obtain ⟨P, Q, _, hr2, _⟩ := h
      exact hnew_no 5 m y hr2 (by rw [hlenR]; exact hw')
    clear hw hw' hlen hlenR hM hb
    go_enter Tryz.func5, Tryz.ntmps5
    go_wp2_with fail
    refine (HN.out _ HB.out).mono ?_
    rintro e w1 ⟨a, rfl, h1⟩
    have H1 := Lib.hid h1
    clear h1 HN
    go_wp2_with fail
    refine (HNR.out _ _ H1.out).mono ?_
    rintro e w2 ⟨b, rfl, h2⟩
    have H2 := Lib.hid h2
    have H3 := Lib.hid h2.below
    clear h2 HNR H1
    go_wp2_with fail
    refine (HNW.out _ _ _ H2.out).mono ?_
    rintro e w3 ⟨rfl, rfl⟩
    go_wp2_with fail
    refine (HNX.out _ _ _ H2.out).mono ?_
    rintro e w4 ⟨rfl, rfl⟩
    clear HNW HNX H2
    go_wp2_with fail
    go_returns
    exact Or.inr ⟨HM.out, rfl, H3.out⟩
end Go.Proofs.YtfdbfafpcbdbdaaGreat
namespace Go.Proofs.YtfdbfafpcbdbdaaGreat
open Go.RowKit Go.ChangeShapes Go.WideShapes Go.ChangeAt Go.Deep

theorem ladd_one (a : Addr) (m j : Nat) (hj : j ≠ 0) : a.add (m + j) = ⟨(a.add m).block, (a.add m).off + j, none⟩ := by
  unfold Addr.add
  by_cases h : m = 0
  · subst h
    simp [hj]
  · simp [h]
    omega

set_option maxRecDepth 100000 in
theorem secs_trod {H : Type} {enc : TypeId × Value → H} {W : World} {fuel : Nat} {v : Value} {x : DataW H × List MemPlace} (hf : DataW.trod enc Tryz.prog W 0 (fun _ => true) true fuel 31 [v] = some x) : SecsAt W v := by
  rcases open_slice Tryz.underlying31 hf with ⟨hc, _⟩ | ⟨a, l, c, m, k, D, Pl, hc, _, hl, hcc, hmm, _, hall⟩
  · simp only [List.cons.injEq, and_true] at hc
    exact ⟨none, 0, 0, hc, Nat.le_refl _, Nat.zero_le _, fun i hi => absurd hi (by omega)⟩
  · simp only [List.cons.injEq, and_true] at hc
    simp only [if_true] at hmm
    subst hmm
    refine ⟨some a, l, m, hc, hl, hcc, fun i hi => ?_⟩
    obtain ⟨cs, h1, h2⟩ := hall i (by omega)
    have ce : Tryz.prog.cellsOf 60 = 2 := by kernel_rfl
    have ci : Tryz.prog.cellsOf 3 = 1 := by kernel_rfl
    have cst : Tryz.prog.cellsOf 9 = 1 := by kernel_rfl
    rw [ce] at h1
    obtain ⟨_, hlen, hcell⟩ := World.cells?_some h1
    obtain ⟨xs, k', hk, _, _, hxl, hfld⟩ := DataW.trod_struct Tryz.underlying60 h2
    match cs, hlen with
    | [v0, v1], _ =>
      have x0 : 0 < xs.length := by rw [hxl]; decide
      have x1 : 1 < xs.length := by rw [hxl]; decide
      have g0 := hfld 0 _ rfl
      rw [List.getElem?_eq_getElem x0] at g0
      change DataW.trod enc Tryz.prog W 0 (fun _ => true) true k' 3 (([v0, v1].drop 0).take (Tryz.prog.cellsOf 3)) = some _ at g0
      rw [ci] at g0
      change DataW.trod enc Tryz.prog W 0 (fun _ => true) true k' 3 [v0] = some _ at g0
      have g1 := hfld 1 _ rfl
      rw [List.getElem?_eq_getElem x1] at g1
      change DataW.trod enc Tryz.prog W 0 (fun _ => true) true k' 9 (([v0, v1].drop 1).take (Tryz.prog.cellsOf 9)) = some _ at g1
      rw [cst] at g1
      change DataW.trod enc Tryz.prog W 0 (fun _ => true) true k' 9 [v1] = some _ at g1
      obtain ⟨n0, e0, _, w0⟩ := DataW.trod_int Tryz.underlying3 g0
      obtain ⟨s1, e1, _, _⟩ := DataW.trod_string Tryz.underlying9 g1
      simp only [List.cons.injEq, and_true] at e0 e1
      have c0 := hcell 0 (by omega)
      have c1 := hcell 1 (by omega)
      rw [add_add] at c0 c1
      have hlt : a.block < W.heap.size := by
        have := World.block_lt_of_cell? W _ c0
        rwa [add_block] at this
      refine ⟨a, n0, s1, rfl, hlt, ?_, ?_, (bounds_i64 w0).2⟩
      · rw [Nat.add_zero] at c0; rw [c0]; simp [e0]
      · rw [c1]; simp [e1]

/-- v is a slice of slices of sectors. -/
def ListsAt (w : World) (v : Value) : Prop := ∃ (A : Option Addr) (len cap : Nat), v = .slice A len cap ∧ len ≤ maxLen ∧
  ∀ i, i < len → ∃ (ad : Addr) (V : Value), A = some ad ∧ ad.block < w.heap.size ∧ w.cell? (ad.add i) = some V ∧ SecsAt w V
/-- v is a slice of what is laid: places, numbers, bytes, sectors. -/
def LaysAt (w : World) (v : Value) : Prop := ∃ (A : Option Addr) (len cap : Nat), v = .slice A len cap ∧ len ≤ maxLen ∧
  ∀ i, i < len → ∃ (ad : Addr) (at_ q : Int) (s : ByteArray) (V : Value), A = some ad ∧ ad.block < w.heap.size ∧ w.cell? (ad.add (i * 4)) = some (.int .i64 at_) ∧ w.cell? ⟨(ad.add (i * 4)).block, (ad.add (i * 4)).off + 1, none⟩ = some (.int .i64 q) ∧ w.cell? ⟨(ad.add (i * 4)).block, (ad.add (i * 4)).off + 2, none⟩ = some (.string s) ∧ w.cell? ⟨(ad.add (i * 4)).block, (ad.add (i * 4)).off + 3, none⟩ = some V ∧ SecsAt w V ∧ at_ ≤ 9223372036854775807
set_option maxRecDepth 100000 in
theorem lays_open {H : Type} {enc : TypeId × Value → H} {W : World} {r : Reach} {b0 : Nat} {v : Value} {d : DataW H} {p : List MemPlace} (hval : Value.okWide Tryz.prog W r b0 22 v)
    (h : DataW.Trod enc Tryz.prog W 0 (fun _ => true) true 22 v d p) : LaysAt W v := by
  obtain ⟨A, len, cap, rfl⟩ := okWide_slice Tryz.underlying22 hval
  obtain ⟨fuel, hf⟩ := h
  rcases open_slice Tryz.underlying22 hf with ⟨hc, _⟩ | ⟨a, l, c, m, k, D, Pl, hc, _, hl, hcc, hmm, _, hall⟩
  · simp [Value.cells] at hc
    obtain ⟨rfl, rfl, rfl⟩ := hc
    exact ⟨none, 0, 0, rfl, Nat.zero_le _, fun i hi => absurd hi (by omega)⟩
  · simp [Value.cells] at hc
    obtain ⟨rfl, rfl, rfl⟩ := hc
    simp only [if_true] at hmm
    subst hmm
    refine ⟨some a, len, m, rfl, by omega, fun i hi => ?_⟩
    obtain ⟨cs, h1, h2⟩ := hall i (by omega)
    have ce : Tryz.prog.cellsOf 33 = 4 := by kernel_rfl
    have ci : Tryz.prog.cellsOf 3 = 1 := by kernel_rfl
    have cst : Tryz.prog.cellsOf 9 = 1 := by kernel_rfl
    have csl : Tryz.prog.cellsOf 31 = 1 := by kernel_rfl
    rw [ce] at h1
    obtain ⟨_, hlen, hcell⟩ := World.cells?_some h1
    obtain ⟨xs, k', hk, _, _, hxl, hfld⟩ := DataW.trod_struct Tryz.underlying33 h2
    match cs, hlen with
    | [v0, v1, v2, v3], _ =>
      have x0 : 0 < xs.length := by rw [hxl]; decide
      have x1 : 1 < xs.length := by rw [hxl]; decide
      have x2 : 2 < xs.length := by rw [hxl]; decide
      have x3 : 3 < xs.length := by rw [hxl]; decide
      have g0 := hfld 0 _ rfl
      rw [List.getElem?_eq_getElem x0] at g0
      change DataW.trod enc Tryz.prog W 0 (fun _ => true) true k' 3 (([v0, v1, v2, v3].drop 0).take (Tryz.prog.cellsOf 3)) = some _ at g0
      rw [ci] at g0
      change DataW.trod enc Tryz.prog W 0 (fun _ => true) true k' 3 [v0] = some _ at g0
      have g1 := hfld 1 _ rfl
      rw [List.getElem?_eq_getElem x1] at g1
      change DataW.trod enc Tryz.prog W 0 (fun _ => true) true k' 3 (([v0, v1, v2, v3].drop 1).take (Tryz.prog.cellsOf 3)) = some _ at g1
      rw [ci] at g1
      change DataW.trod enc Tryz.prog W 0 (fun _ => true) true k' 3 [v1] = some _ at g1
      have g2 := hfld 2 _ rfl
      rw [List.getElem?_eq_getElem x2] at g2
      change DataW.trod enc Tryz.prog W 0 (fun _ => true) true k' 9 (([v0, v1, v2, v3].drop 2).take (Tryz.prog.cellsOf 9)) = some _ at g2
      rw [cst] at g2
      change DataW.trod enc Tryz.prog W 0 (fun _ => true) true k' 9 [v2] = some _ at g2
      have g3 := hfld 3 _ rfl
      rw [List.getElem?_eq_getElem x3] at g3
      change DataW.trod enc Tryz.prog W 0 (fun _ => true) true k' 31 (([v0, v1, v2, v3].drop 3).take (Tryz.prog.cellsOf 31)) = some _ at g3
      rw [csl] at g3
      change DataW.trod enc Tryz.prog W 0 (fun _ => true) true k' 31 [v3] = some _ at g3
      obtain ⟨n0, e0, _, w0⟩ := DataW.trod_int Tryz.underlying3 g0
      obtain ⟨n1, e1, _, _⟩ := DataW.trod_int Tryz.underlying3 g1
      obtain ⟨s2, e2, _, _⟩ := DataW.trod_string Tryz.underlying9 g2
      simp only [List.cons.injEq, and_true] at e0 e1 e2
      have c0 := hcell 0 (by omega)
      have c1 := hcell 1 (by omega)
      have c2 := hcell 2 (by omega)
      have c3 := hcell 3 (by omega)
      rw [add_add] at c0 c1 c2 c3
      have hlt : a.block < W.heap.size := by
        have := World.block_lt_of_cell? W _ c0
        rwa [add_block] at this
      refine ⟨a, n0, n1, s2, v3, rfl, hlt, ?_, ?_, ?_, ?_, secs_trod g3, (bounds_i64 w0).2⟩
      · rw [Nat.add_zero] at c0; rw [c0]; simp [e0]
      · rw [← ladd_one _ _ 1 (by omega), c1]; simp [e1]
      · rw [← ladd_one _ _ 2 (by omega), c2]; simp [e2]
      · rw [← ladd_one _ _ 3 (by omega), c3]; simp
end Go.Proofs.YtfdbfafpcbdbdaaGreat
namespace Go.Proofs.YtfdbfafpcbdbdaaGreat
open Go.RowKit Go.Deep

/-- A slice of sectors: where it lies, what stands there. -/
structure M.Sl where
  A : Option Addr
  n : Nat
  c : Nat
  a : Nat → Int
  t : Nat → ByteArray
instance : Inhabited M.Sl := ⟨⟨none, 0, 0, fun _ => 0, fun _ => ⟨#[]⟩⟩⟩
def M.Sl.val (x : M.Sl) : Value := .slice x.A x.n x.c
def SlAt (w : World) (x : M.Sl) : Prop := x.n ≤ x.c ∧ x.c ≤ maxLen ∧ SecF w x.A x.n x.a x.t
theorem SlAt.of {w : World} {V : Value} (h : SecsAt w V) : ∃ x : M.Sl, V = x.val ∧ SlAt w x := by
  obtain ⟨A, n, c, rfl, h1, h2, h3⟩ := h
  obtain ⟨a, t, hF⟩ := SecF.of h3
  exact ⟨⟨A, n, c, a, t⟩, rfl, h1, h2, hF⟩
theorem SlAt.below {w y : World} {N : Nat} {x : M.Sl} (h : SlAt w x) (hN : w.heap.size ≤ N) (hb : Below N w y) : SlAt y x := ⟨h.1, h.2.1, h.2.2.below hN hb⟩
/-- What is laid: a place, a number, bytes, sectors. -/
structure M.Lay where
  at_ : Int
  q : Int
  s : ByteArray
  l : M.Sl
instance : Inhabited M.Lay := ⟨⟨0, 0, ⟨#[]⟩, default⟩⟩
def LayF (w : World) (A : Option Addr) (len : Nat) (f : Nat → M.Lay) : Prop :=
  ∀ i, i < len → ∃ ad : Addr, A = some ad ∧ ad.block < w.heap.size ∧ (w.cell? (ad.add (i * 4)) = some (.int .i64 (f i).at_) ∧ w.cell? ⟨(ad.add (i * 4)).block, (ad.add (i * 4)).off + 1, none⟩ = some (.int .i64 (f i).q) ∧ w.cell? ⟨(ad.add (i * 4)).block, (ad.add (i * 4)).off + 2, none⟩ = some (.string (f i).s) ∧ w.cell? ⟨(ad.add (i * 4)).block, (ad.add (i * 4)).off + 3, none⟩ = some (f i).l.val) ∧ SlAt w (f i).l ∧ (f i).at_ ≤ 9223372036854775807
theorem LayF.of {w : World} {v : Value} (h : LaysAt w v) : ∃ A len cap f, v = .slice A len cap ∧ len ≤ maxLen ∧ LayF w A len f := by
  classical
  obtain ⟨A, len, cap, rfl, hl, h⟩ := h
  have h' : ∀ i, i < len → ∃ x : M.Lay, ∃ ad : Addr, A = some ad ∧ ad.block < w.heap.size ∧ (w.cell? (ad.add (i * 4)) = some (.int .i64 x.at_) ∧ w.cell? ⟨(ad.add (i * 4)).block, (ad.add (i * 4)).off + 1, none⟩ = some (.int .i64 x.q) ∧ w.cell? ⟨(ad.add (i * 4)).block, (ad.add (i * 4)).off + 2, none⟩ = some (.string x.s) ∧ w.cell? ⟨(ad.add (i * 4)).block, (ad.add (i * 4)).off + 3, none⟩ = some x.l.val) ∧ SlAt w x.l ∧ x.at_ ≤ 9223372036854775807 := fun i hi => by
    obtain ⟨ad, at_, q, s, V, h1, h2, h3, h4, h5, h6, h7, h8⟩ := h i hi
    obtain ⟨x, rfl, hx⟩ := SlAt.of h7
    exact ⟨⟨at_, q, s, x⟩, ad, h1, h2, ⟨h3, h4, h5, h6⟩, hx, h8⟩
  refine ⟨A, len, cap, fun i => if hi : i < len then Classical.choose (h' i hi) else default, rfl, hl, fun i hi => ?_⟩
  have := Classical.choose_spec (h' i hi)
  simp only [dif_pos hi]
  exact this
theorem LayF.at_ {w y : World} {N : Nat} {A : Option Addr} {len : Nat} {f : Nat → M.Lay} (h : LayF w A len f) (hN : w.heap.size ≤ N) (hb : Below N w y) {i : Nat} (hi : i < len) :
    ∃ ad : Addr, A = some ad ∧ (y.cell? (ad.add (i * 4)) = some (.int .i64 (f i).at_) ∧ y.cell? ⟨(ad.add (i * 4)).block, (ad.add (i * 4)).off + 1, none⟩ = some (.int .i64 (f i).q) ∧ y.cell? ⟨(ad.add (i * 4)).block, (ad.add (i * 4)).off + 2, none⟩ = some (.string (f i).s) ∧ y.cell? ⟨(ad.add (i * 4)).block, (ad.add (i * 4)).off + 3, none⟩ = some (f i).l.val) ∧ SlAt y (f i).l := by
  obtain ⟨ad, h1, h2, ⟨c0, c1, c2, c3⟩, h4, _⟩ := h i hi
  have hl : (ad.add (i * 4)).block < N := by rw [add_block]; omega
  exact ⟨ad, h1, ⟨(hb.cell hl).trans c0, (hb.cell (by exact hl)).trans c1, (hb.cell (by exact hl)).trans c2, (hb.cell (by exact hl)).trans c3⟩, h4.below hN hb⟩
/-- A slice of slices of sectors. -/
def ListF (w : World) (A : Option Addr) (len : Nat) (f : Nat → M.Sl) : Prop := ∀ i, i < len → ∃ ad : Addr, A = some ad ∧ ad.block < w.heap.size ∧ w.cell? (ad.add i) = some (f i).val ∧ SlAt w (f i)
theorem ListF.of {w : World} {v : Value} (h : ListsAt w v) : ∃ A len cap f, v = .slice A len cap ∧ len ≤ maxLen ∧ ListF w A len f := by
  classical
  obtain ⟨A, len, cap, rfl, hl, h⟩ := h
  have h' : ∀ i, i < len → ∃ x : M.Sl, ∃ ad : Addr, A = some ad ∧ ad.block < w.heap.size ∧ w.cell? (ad.add i) = some x.val ∧ SlAt w x := fun i hi => by
    obtain ⟨ad, V, h1, h2, h3, h4⟩ := h i hi
    obtain ⟨x, rfl, hx⟩ := SlAt.of h4
    exact ⟨x, ad, h1, h2, h3, hx⟩
  refine ⟨A, len, cap, fun i => if hi : i < len then Classical.choose (h' i hi) else default, rfl, hl, fun i hi => ?_⟩
  have := Classical.choose_spec (h' i hi)
  simp only [dif_pos hi]
  exact this
theorem ListF.at_ {w y : World} {N : Nat} {A : Option Addr} {len : Nat} {f : Nat → M.Sl} (h : ListF w A len f) (hN : w.heap.size ≤ N) (hb : Below N w y) {i : Nat} (hi : i < len) : ∃ ad : Addr, A = some ad ∧ y.cell? (ad.add i) = some (f i).val ∧ SlAt y (f i) := by
  obtain ⟨ad, h1, h2, c0, h4⟩ := h i hi
  have hl : (ad.add i).block < N := by rw [add_block]; omega
  exact ⟨ad, h1, (hb.cell hl).trans c0, h4.below hN hb⟩

set_option maxRecDepth 100000 in
set_option maxHeartbeats 1000000 in
theorem great12_any (A : Option Addr) (len cap : Nat) (f : Nat → M.Lay) (w y : World) (h : LayF w A len f) (hb : Below w.heap.size w y) (hlen : len ≤ maxLen) :
    Calls Tryz.prog 6 #[.slice A len cap] y fun e y' => (e = .returned (.bool true) ∧ y' = y) ∨ (e = .returned (.bool false) ∧ y' = y ∧ Hid (len ≤ 30 ∧ ∀ i, i < len → (f i).s.size ≤ 3000 ∧ (f i).l.n ≤ 40)) := by
  have HF := Lib.hid (fun i (hi : i < len) => h.at_ (Nat.le_refl _) hb hi)
  have hl63 : (len : Int) ≤ 9223372036854775807 := by unfold maxLen at hlen; omega
  have HG : Hid (∀ i, i < len → Calls Tryz.prog 21 #[(f i).l.val] y fun e y' => (e = .returned (.bool true) ∧ y' = y) ∨ (e = .returned (.bool false) ∧ y' = y ∧ Hid ((f i).l.n ≤ 40))) := fun i hi => by
    obtain ⟨ad, _, _, h1, h2, h3⟩ := h.at_ (Nat.le_refl _) hb hi
    refine (great11_any (f i).l.A (f i).l.n (f i).l.c (f i).l.a (f i).l.t y h3 (by omega)).mono ?_
    rintro e y' (e1 | ⟨e1, e2, e3⟩)
    · exact Or.inl e1
    · exact Or.inr ⟨e1, e2, e3.out.1⟩
  clear h hb hlen
  go_enter Tryz.func6, Tryz.ntmps6
  go_wp2_with fail
  go_loopw [3, 4] (fun v j wr => ∃ k n : Nat, k ≤ len ∧ k ≤ 30 ∧ j = .int .i64 k ∧ v = .int .i64 n ∧ n ≤ 3000 * k ∧ wr = y ∧ Hid (∀ i, i < k → (f i).s.size ≤ 3000 ∧ (f i).l.n ≤ 40)) (fun v j _ => len - (intOf j).toNat)
  case atStart => exact ⟨0, 0, Nat.zero_le _, Nat.zero_le _, rfl, rfl, Nat.le_refl _, rfl, fun i hi => absurd hi (by omega)⟩
  case round =>
    obtain ⟨k, n, hk, hk1, rfl, rfl, hn, rfl, HA⟩ := hrel
    by_cases hlt : k < len
    · have hk0 : (0 : Int) ≤ (k : Int) := by omega
      have hlt' : (k : Int) < (len : Int) := by omega
      by_cases h1 : k < 30
      · have h1' : ¬ (30 : Int) ≤ (k : Int) := by omega
        obtain ⟨ad, rfl, ⟨x0, x1, x2, x3⟩, _⟩ := HF.out k hlt
        have HGk := Lib.hid (HG.out k hlt)
        obtain ⟨t, ht⟩ : ∃ t, t = (f k).s := ⟨_, rfl⟩
        obtain ⟨LA, Ln, Lc, hL⟩ : ∃ LA Ln Lc, (f k).l.val = .slice LA Ln Lc := ⟨_, _, _, rfl⟩
        obtain ⟨ln, hln⟩ : ∃ ln, ln = (f k).l.n := ⟨_, rfl⟩
        rw [← ht] at x2
        rw [hL] at x3
        rw [hL, ← hln] at HGk
        by_cases h5 : t.size ≤ 3000
        · have h5' : ¬ (3000 : Int) < (t.size : Int) := by omega
          have hnb : (n : Int) ≤ 90000 := by omega
          have htb : (t.size : Int) ≤ 3000 := by omega
          have HN : Hid (ln ≤ 40 → ∀ i, i < k + 1 → (f i).s.size ≤ 3000 ∧ (f i).l.n ≤ 40) := fun hl i hi => by
            by_cases e : i = k
            · rw [e, ← ht, ← hln]; exact ⟨h5, hl⟩
            · exact HA.out i (by omega)
          clear x0 x1 ht hL hln
          go_wp2_with fail
          refine HGk.out.mono ?_
          rintro e w2 (⟨rfl, rfl⟩ | ⟨rfl, rfl, hl⟩)
          · go_wp2_with fail
            go_ret
            first | exact Or.inl ⟨rfl, rfl⟩ | exact Or.inl rfl
          · have HN2 := Lib.hid (HN.out hl.out)
            clear HN hl HGk
            go_wp2_with fail
            go_roundw
            case rel => exact ⟨k + 1, n + t.size, by omega, by omega, by go_num, by go_num, by omega, (by first | rfl | trivial), HN2⟩
            case measure => simp [intOf]; omega
        · have h5' : (3000 : Int) < (t.size : Int) := by omega
          clear x0 x1 ht hL hln
          go_wp2_with fail
          go_ret
          first | exact Or.inl ⟨rfl, rfl⟩ | exact Or.inl rfl
      · have h1' : (30 : Int) ≤ (k : Int) := by omega
        go_wp2_with fail
        go_ret
        first | exact Or.inl ⟨rfl, rfl⟩ | exact Or.inl rfl
    · have e : k = len := by omega
      subst e
      clear hlt
      have HE : Hid (k ≤ 30 ∧ ∀ i, i < k → (f i).s.size ≤ 3000 ∧ (f i).l.n ≤ 40) := ⟨hk1, HA.out⟩
      by_cases h2 : (20000 : Int) < (n : Int)
      · go_wp2_with fail
        go_ret
        first | exact Or.inl ⟨rfl, rfl⟩ | exact Or.inl rfl
      · go_wp2_with fail
        go_ret
        first | exact Or.inr ⟨rfl, rfl, HE⟩ | exact Or.inr ⟨rfl, rfl⟩
end Go.Proofs.YtfdbfafpcbdbdaaGreat
