/-
  Steps as an argument of solderlaw13.ShadowDoes. No function of the program in this text.
-/
import Derived.Test.YtfklbinccpdnmaaZBoth
import Derived.Deep.Slices
import Derived.ChangeSame
import Derived.OpenShut
namespace Go.Proofs.Ytfklbinccpdnmaa
open Go.RowKit Go.ChangeShapes Go.WideShapes Go.ChangeAt Go.Deep

theorem add_block (a : Addr) (n : Nat) : (a.add n).block = a.block := by unfold Addr.add; split <;> rfl
theorem add_one (a : Addr) (m j : Nat) (hj : j ≠ 0) : a.add (m + j) = ⟨(a.add m).block, (a.add m).off + j, none⟩ := by
  unfold Addr.add
  by_cases h : m = 0
  · subst h
    simp [hj]
  · simp [h]
    omega

/-- A step in memory: its kind, its place, its number. -/
def OpCells (w : World) (ad : Addr) (k x n : Int) : Prop := w.cell? ad = some (.int .i64 k) ∧ w.cell? ⟨ad.block, ad.off + 1, none⟩ = some (.int .i64 x) ∧ w.cell? ⟨ad.block, ad.off + 2, none⟩ = some (.int .i64 n)
/-- v is a slice of steps, in blocks of w. -/
def OpsAt (w : World) (v : Value) : Prop := ∃ (A : Option Addr) (len cap : Nat), v = .slice A len cap ∧
  ∀ i, i < len → ∃ (ad : Addr) (k x n : Int), A = some ad ∧ ad.block < w.heap.size ∧ OpCells w (ad.add (i * 3)) k x n ∧ (Lit.int .i64 x).wf = true

set_option maxRecDepth 100000 in
theorem shadowDoes_open0 {H : Type} {enc : TypeId × Value → H} {W : World} {r : Reach} {b0 : Nat} {v : Value} {d : DataW H} {p : List MemPlace} (hval : Value.okWide Try.prog W r b0 22 v)
    (h : DataW.Trod enc Try.prog W 0 (fun _ => true) true 22 v d p) : OpsAt W v := by
  obtain ⟨A, len, cap, rfl⟩ := okWide_slice Try.underlying22 hval
  obtain ⟨fuel, hf⟩ := h
  rcases open_slice Try.underlying22 hf with ⟨hc, _⟩ | ⟨a, l, c, m, k, D, Pl, hc, _, hl, _, hmm, _, hall⟩
  · simp [Value.cells] at hc
    obtain ⟨rfl, rfl, rfl⟩ := hc
    exact ⟨none, 0, 0, rfl, fun i hi => absurd hi (by omega)⟩
  · simp [Value.cells] at hc
    obtain ⟨rfl, rfl, rfl⟩ := hc
    simp only [if_true] at hmm
    subst hmm
    refine ⟨some a, len, m, rfl, fun i hi => ?_⟩
    obtain ⟨cs, h1, h2⟩ := hall i (by omega)
    have ce : Try.prog.cellsOf 31 = 3 := by kernel_rfl
    have ci : Try.prog.cellsOf 3 = 1 := by kernel_rfl
    rw [ce] at h1
    obtain ⟨_, hlen, hcell⟩ := World.cells?_some h1
    obtain ⟨xs, k', hk, _, _, hxl, hfld⟩ := DataW.trod_struct Try.underlying31 h2
    match cs, hlen with
    | [v0, v1, v2], _ =>
      have x0 : 0 < xs.length := by rw [hxl]; decide
      have x1 : 1 < xs.length := by rw [hxl]; decide
      have x2 : 2 < xs.length := by rw [hxl]; decide
      have g0 := hfld 0 _ rfl
      rw [List.getElem?_eq_getElem x0] at g0
      change DataW.trod enc Try.prog W 0 (fun _ => true) true k' 3 (([v0, v1, v2].drop 0).take (Try.prog.cellsOf 3)) = some _ at g0
      rw [ci] at g0
      change DataW.trod enc Try.prog W 0 (fun _ => true) true k' 3 [v0] = some _ at g0
      have g1 := hfld 1 _ rfl
      rw [List.getElem?_eq_getElem x1] at g1
      change DataW.trod enc Try.prog W 0 (fun _ => true) true k' 3 (([v0, v1, v2].drop 1).take (Try.prog.cellsOf 3)) = some _ at g1
      rw [ci] at g1
      change DataW.trod enc Try.prog W 0 (fun _ => true) true k' 3 [v1] = some _ at g1
      have g2 := hfld 2 _ rfl
      rw [List.getElem?_eq_getElem x2] at g2
      change DataW.trod enc Try.prog W 0 (fun _ => true) true k' 3 (([v0, v1, v2].drop 2).take (Try.prog.cellsOf 3)) = some _ at g2
      rw [ci] at g2
      change DataW.trod enc Try.prog W 0 (fun _ => true) true k' 3 [v2] = some _ at g2
      obtain ⟨n0, e0, _, _⟩ := DataW.trod_int Try.underlying3 g0
      obtain ⟨n1, e1, _, w1⟩ := DataW.trod_int Try.underlying3 g1
      obtain ⟨n2, e2, _, _⟩ := DataW.trod_int Try.underlying3 g2
      simp only [List.cons.injEq, and_true] at e0 e1 e2
      have c0 := hcell 0 (by omega)
      have c1 := hcell 1 (by omega)
      have c2 := hcell 2 (by omega)
      rw [add_add] at c0 c1 c2
      have hlt : a.block < W.heap.size := by
        have := World.block_lt_of_cell? W _ c0
        rwa [add_block] at this
      refine ⟨a, n0, n1, n2, rfl, hlt, ⟨?_, ?_, ?_⟩, w1⟩
      · rw [Nat.add_zero] at c0; rw [c0]; simp [e0]
      · rw [← add_one _ _ 1 (by omega), c1]; simp [e1]
      · rw [← add_one _ _ 2 (by omega), c2]; simp [e2]
theorem OpCells.below {w y : World} {ad : Addr} {k x n : Int} (h : OpCells w ad k x n) (hb : Below w.heap.size w y) (hl : ad.block < w.heap.size) : OpCells y ad k x n :=
  ⟨(hb.cell hl).trans h.1, (hb.cell (p := ⟨ad.block, ad.off + 1, none⟩) hl).trans h.2.1, (hb.cell (p := ⟨ad.block, ad.off + 2, none⟩) hl).trans h.2.2⟩
end Go.Proofs.Ytfklbinccpdnmaa
