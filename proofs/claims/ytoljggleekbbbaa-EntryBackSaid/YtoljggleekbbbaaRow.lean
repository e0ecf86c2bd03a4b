/-
  A row of bytes that is read and written; four bytes as an argument; bytes that are other ones within four in a row.
-/
import Derived.Test.YtoljggleekbbbaaBox
import Derived.Test.YtoljggleekbbbaaCMath
import Derived.Laws.IdiomArrays
import Derived.Deep.SlicePairs
import Derived.Deep.LoopGhost
import Derived.BigQuiet
import Derived.Deep.QuietTactic
import Derived.Laws.IdiomStrings
import Derived.Laws.BitsAllLaws
import Derived.Lib.UnsafeStr
import Derived.ChangeOld
import Derived.ProofKit
import Derived.OpenShut
namespace Go.Proofs.Ytoljggleekbbbaa
open Go.RowKit Go.ChangeShapes Go.WideShapes Go.ChangeAt Go.Deep

/-- v is an array of four bytes. -/
def FourAt (_ : World) (v : Value) : Prop := ∃ d0 d1 d2 d3 : UInt8, v = .agg #[.int .u8 (d0.toNat : Int), .int .u8 (d1.toNat : Int), .int .u8 (d2.toNat : Int), .int .u8 (d3.toNat : Int)]
theorem four_of {α : Type} : ∀ l : List α, l.length = 4 → ∃ a b c d, l = [a, b, c, d]
  | a :: b :: c :: d :: [], _ => ⟨a, b, c, d, rfl⟩
theorem u8_of {x : Int} (h : (Lit.int .u8 x).wf = true) : ∃ d : UInt8, x = (d.toNat : Int) := by
  have hb := bounds_u8 h
  refine ⟨UInt8.ofNat x.toNat, ?_⟩
  simp
  omega
theorem four_open {H : Type} {enc : TypeId × Value → H} {W : World} {r : Reach} {b0 : Nat} {v : Value} {d : DataW H} {p : List MemPlace} (hval : Value.okWide Try.prog W r b0 36 v)
    (h : DataW.Trod enc Try.prog W 0 (fun _ => true) true 36 v d p) : FourAt W v := by
  obtain ⟨cs, rfl, hsz, _⟩ : ∃ cs, v = .agg cs ∧ cs.size = Try.prog.cellsOf 36 ∧ Row.okWide Try.prog W r b0 36 cs := by
    simpa [Value.okWide, Try.underlying36] using hval
  have c4 : Try.prog.cellsOf 36 = 4 := by kernel_rfl
  have c1 : Try.prog.cellsOf 5 = 1 := by kernel_rfl
  rw [c4] at hsz
  obtain ⟨l⟩ := cs
  obtain ⟨e0, e1, e2, e3, rfl⟩ := four_of l hsz
  obtain ⟨fuel, hf⟩ := h
  obtain ⟨y0, y1, y2, y3, m, hx, hy0, hy1, hy2, hy3⟩ := trod_array4 Try.underlying36 c1 hf
  obtain ⟨x0, h0, _, w0⟩ := DataW.trod_int Try.underlying5 hy0
  obtain ⟨x1, h1, _, w1⟩ := DataW.trod_int Try.underlying5 hy1
  obtain ⟨x2, h2, _, w2⟩ := DataW.trod_int Try.underlying5 hy2
  obtain ⟨x3, h3, _, w3⟩ := DataW.trod_int Try.underlying5 hy3
  simp at h0 h1 h2 h3
  subst h0 h1 h2 h3
  obtain ⟨d0, rfl⟩ := u8_of w0
  obtain ⟨d1, rfl⟩ := u8_of w1
  obtain ⟨d2, rfl⟩ := u8_of w2
  obtain ⟨d3, rfl⟩ := u8_of w3
  exact ⟨d0, d1, d2, d3, rfl⟩

/-- A block of w that begins with these bytes, and may be written there. -/
def RowU (w : World) (g : Nat) (l : List UInt8) : Prop := ∃ (cs : Array Value) (z : Nat), w.heap[g]? = some (.cells cs 5 (z, z + 1)) ∧ l.length ≤ cs.size ∧ cs.size ≤ z ∧ ∀ i (hi : i < l.length), cs[i]? = some (.int .u8 ((l[i]'hi).toNat : Int))
theorem RowU.lt {w : World} {g : Nat} {l : List UInt8} (h : RowU w g l) : g < w.heap.size := by
  obtain ⟨cs, z, h, _⟩ := h
  exact lt_of_block h
theorem RowU.cell {w : World} {g : Nat} {l : List UInt8} (h : RowU w g l) (i : Nat) (hi : i < l.length) : w.cell? ⟨g, i, none⟩ = some (.int .u8 ((l[i]'hi).toNat : Int)) := by
  obtain ⟨cs, z, h, h1, h2, h3⟩ := h
  rw [cell_of_row w g i cs _ _ h]
  exact h3 i hi
theorem RowU.frozen {w : World} {g : Nat} {l : List UInt8} (h : RowU w g l) (i : Nat) (hi : i < l.length) : w.frozen? ⟨g, i, none⟩ = false := by
  obtain ⟨cs, z, h, h1, h2, h3⟩ := h
  simp [World.frozen?, h]
  omega
theorem RowU.set {w : World} {g : Nat} {l : List UInt8} (h : RowU w g l) (i : Nat) (c : UInt8) : RowU (w.setCell ⟨g, i, none⟩ (.int .u8 (c.toNat : Int))) g (l.set i c) := by
  obtain ⟨cs, z, h, h1, h2, h3⟩ := h
  refine ⟨cs.setIfInBounds i (.int .u8 (c.toNat : Int)), z, ?_, by simpa using h1, by simpa using h2, fun j hj => ?_⟩
  · simp [World.setCell, Array.getElem?_modify, h]
  · have hj' : j < l.length := by simpa using hj
    rw [Array.getElem?_setIfInBounds]
    by_cases e : i = j
    · subst e
      rw [if_pos rfl, if_pos (by omega)]
      simp
    · rw [if_neg e, h3 j hj']
      simp [e]
theorem RowU.kept {w w' : World} {g b : Nat} {l : List UInt8} (h : RowU w g l) (hg : w.grownBy w' (some b)) (hne : g ≠ b) : RowU w' g l := by
  have hl := h.lt
  obtain ⟨cs, z, h, h1⟩ := h
  exact ⟨cs, z, (hg.block g hl (fun e => hne (by injection e))).trans h, h1⟩
theorem RowU.drewN {w : World} {g : Nat} {l : List UInt8} (h : RowU w g l) (n : Nat) : RowU (w.drewN n) g l := h

/-- b is l but for four places from k on. -/
def Near (k : Nat) (l b : List UInt8) : Prop := b.length = l.length ∧ ∀ j, (j < k ∨ k + 4 ≤ j) → b[j]? = l[j]?
theorem Near.refl (k : Nat) (l : List UInt8) : Near k l l := ⟨rfl, fun _ _ => rfl⟩
theorem Near.set {k : Nat} {l b : List UInt8} (h : Near k l b) (i : Nat) (hi : i < 4) (c : UInt8) : Near k l (b.set (k + i) c) := by
  refine ⟨by simpa using h.1, fun j hj => ?_⟩
  rw [List.getElem?_set_ne (by omega)]
  exact h.2 j hj
theorem Near.of {k : Nat} {l b : List UInt8} (h : Near k l b) (e : M.of b = M.of l) : b = l := by
  have cut : ∀ x : List UInt8, x = x.take k ++ (x.drop k).take 4 ++ x.drop (k + 4) := fun x => by
    rw [List.append_assoc]
    have h1 : (x.drop k).take 4 ++ x.drop (k + 4) = x.drop k := by
      have := List.take_append_drop 4 (x.drop k)
      rwa [List.drop_drop] at this
    rw [h1, List.take_append_drop]
  have hp : b.take k = l.take k := by
    apply List.ext_getElem?
    intro j
    by_cases hj : j < k
    · rw [List.getElem?_take_of_lt hj, List.getElem?_take_of_lt hj]
      exact h.2 j (Or.inl hj)
    · rw [List.getElem?_eq_none (by rw [List.length_take]; omega), List.getElem?_eq_none (by rw [List.length_take]; omega)]
  have hq : b.drop (k + 4) = l.drop (k + 4) := by
    apply List.ext_getElem?
    intro j
    rw [List.getElem?_drop, List.getElem?_drop]
    exact h.2 _ (Or.inr (by omega))
  have hb := cut b
  have hl := cut l
  rw [hp, hq] at hb
  rw [hb, hl] at e
  have hlen : ((b.drop k).take 4).length = ((l.drop k).take 4).length := by simp [h.1]
  have := M.of_near (l.take k) ((b.drop k).take 4) ((l.drop k).take 4) (l.drop (k + 4)) hlen (by rw [List.length_take]; omega) (by
    rw [← hl] at e ⊢
    exact e)
  rw [hb, this, ← hl]
theorem four_at (d0 d1 d2 d3 : UInt8) (i : Nat) (hi : i < 4) : ∃ d : UInt8, (#[.int .u8 (d0.toNat : Int), .int .u8 (d1.toNat : Int), .int .u8 (d2.toNat : Int), .int .u8 (d3.toNat : Int)] : Array Value)[i]? = some (.int .u8 (d.toNat : Int)) := by
  have hc : i = 0 ∨ i = 1 ∨ i = 2 ∨ i = 3 := by omega
  rcases hc with rfl | rfl | rfl | rfl
  · exact ⟨d0, rfl⟩
  · exact ⟨d1, rfl⟩
  · exact ⟨d2, rfl⟩
  · exact ⟨d3, rfl⟩
theorem u8_turn (c d : UInt8) : bits .xor .u8 (c.toNat : Int) (d.toNat : Int) = ((c ^^^ d).toNat : Int) := by
  rw [UInt8.toNat_xor]
  exact u8_xor_nat _ _ c.toNat_lt d.toNat_lt
theorem row_new (w : World) (s : ByteArray) (cap : Nat) :
    RowU (w.drew.alloc (.cells (bytesRow s cap) 5 ((bytesRow s cap).size, (bytesRow s cap).size + 1))) w.heap.size s.data.toList := by
  have hz : s.data.toList.length ≤ (bytesRow s cap).size := by simp [bytesRow]
  refine ⟨bytesRow s cap, _, heap_alloc_new w.drew _, hz, Nat.le_refl _, fun i hi => ?_⟩
  have hi' : i < s.data.size := by simpa using hi
  unfold bytesRow
  rw [Array.getElem?_append_left (by simpa using hi'), Array.getElem?_map, Array.getElem?_eq_getElem hi']
  simp
theorem k_of (n : Int) (m : Nat) (h0 : 0 < m) (h : m ≤ 3000) : ∃ k : Nat, k < m ∧ wrap64 ((IntKind.u64.wrap n).tmod (m : Int)) = (k : Int) := by
  have e : IntKind.u64.wrap n = n % 18446744073709551616 := IntKind.wrap_u64 n
  have hn : 0 ≤ n % 18446744073709551616 := by omega
  rw [e, Int.tmod_eq_emod_of_nonneg hn]
  have h1 : 0 ≤ n % 18446744073709551616 % (m : Int) := Int.emod_nonneg _ (by omega)
  have h2 : n % 18446744073709551616 % (m : Int) < (m : Int) := Int.emod_lt_of_pos _ (by omega)
  refine ⟨(n % 18446744073709551616 % (m : Int)).toNat, by omega, ?_⟩
  unfold wrap64
  omega
end Go.Proofs.Ytoljggleekbbbaa
