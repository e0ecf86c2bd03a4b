/-
  Steps as an argument; lists of sectors. Walks over solderlaw09's great and Sectors.
-/
import Derived.Test.YtnjhbmpdpejpcaaHMath
import Derived.Deep.Slices
import Derived.ChangeSame
import Derived.OpenShut
import Derived.Deep.QuietTactic
namespace Go.Proofs.Ytnjhbmpdpejpcaa
open Go.RowKit Go.ChangeShapes Go.WideShapes Go.ChangeAt Go.Deep

theorem add_block (a : Addr) (n : Nat) : (a.add n).block = a.block := by unfold Addr.add; split <;> rfl
theorem add_one (a : Addr) (m j : Nat) (hj : j ≠ 0) : a.add (m + j) = ⟨(a.add m).block, (a.add m).off + j, none⟩ := by
  unfold Addr.add
  by_cases h : m = 0
  · subst h
    simp [hj]
  · simp [h]
    omega

/-- What a step is. -/
structure M.Op where
  kind : Int
  at_ : Int
  many : Int
  data : ByteArray
instance : Inhabited M.Op := ⟨⟨0, 0, 0, ⟨#[]⟩⟩⟩
/-- A step in memory. -/
def OpCells (w : World) (ad : Addr) (o : M.Op) : Prop := w.cell? ad = some (.int .i64 o.kind) ∧ w.cell? ⟨ad.block, ad.off + 1, none⟩ = some (.int .i64 o.at_) ∧ w.cell? ⟨ad.block, ad.off + 2, none⟩ = some (.int .i64 o.many) ∧ w.cell? ⟨ad.block, ad.off + 3, none⟩ = some (.string o.data)
/-- v is a slice of steps, in blocks of w. -/
def OpsAt (w : World) (v : Value) : Prop := ∃ (A : Option Addr) (len cap : Nat), v = .slice A len cap ∧
  ∀ i, i < len → ∃ (ad : Addr) (o : M.Op), A = some ad ∧ ad.block < w.heap.size ∧ OpCells w (ad.add (i * 4)) o ∧ o.at_ ≤ 9223372036854775807

set_option maxRecDepth 100000 in
theorem regionDoes_open2 {H : Type} {enc : TypeId × Value → H} {W : World} {r : Reach} {b0 : Nat} {v : Value} {d : DataW H} {p : List MemPlace} (hval : Value.okWide Try.prog W r b0 22 v)
    (h : DataW.Trod enc Try.prog W 0 (fun _ => true) true 22 v d p) : OpsAt W v := by
  obtain ⟨A, len, cap, rfl⟩ := okWide_slice Try.underlying22 hval
  obtain ⟨fuel, hf⟩ := h
  rcases open_slice Try.underlying22 hf with ⟨hc, _⟩ | ⟨a, l, c, m, k, D, Pl, hc, _, hl, _, hmm, _, hall⟩
  · simp [Value.cells] at hc
    obtain ⟨rfl, rfl, rfl⟩ := hc
    exact ⟨none, 0, 0, rfl, fun i hi => absurd hi (by omega)⟩
  · simp [Value.cells] at hc
    obtain ⟨rfl, rfl, rfl⟩ := hc
    simp only [if_true] at hmm
    subst hmm
    refine ⟨some a, len, m, rfl, fun i hi => ?_⟩
    obtain ⟨cs, h1, h2⟩ := hall i (by omega)
    have ce : Try.prog.cellsOf 37 = 4 := by kernel_rfl
    have ci : Try.prog.cellsOf 3 = 1 := by kernel_rfl
    have cst : Try.prog.cellsOf 9 = 1 := by kernel_rfl
    rw [ce] at h1
    obtain ⟨_, hlen, hcell⟩ := World.cells?_some h1
    obtain ⟨xs, k', hk, _, _, hxl, hfld⟩ := DataW.trod_struct Try.underlying37 h2
    match cs, hlen with
    | [v0, v1, v2, v3], _ =>
      have x0 : 0 < xs.length := by rw [hxl]; decide
      have x1 : 1 < xs.length := by rw [hxl]; decide
      have x2 : 2 < xs.length := by rw [hxl]; decide
      have x3 : 3 < xs.length := by rw [hxl]; decide
      have g0 := hfld 0 _ rfl
      rw [List.getElem?_eq_getElem x0] at g0
      change DataW.trod enc Try.prog W 0 (fun _ => true) true k' 3 (([v0, v1, v2, v3].drop 0).take (Try.prog.cellsOf 3)) = some _ at g0
      rw [ci] at g0
      change DataW.trod enc Try.prog W 0 (fun _ => true) true k' 3 [v0] = some _ at g0
      have g1 := hfld 1 _ rfl
      rw [List.getElem?_eq_getElem x1] at g1
      change DataW.trod enc Try.prog W 0 (fun _ => true) true k' 3 (([v0, v1, v2, v3].drop 1).take (Try.prog.cellsOf 3)) = some _ at g1
      rw [ci] at g1
      change DataW.trod enc Try.prog W 0 (fun _ => true) true k' 3 [v1] = some _ at g1
      have g2 := hfld 2 _ rfl
      rw [List.getElem?_eq_getElem x2] at g2
      change DataW.trod enc Try.prog W 0 (fun _ => true) true k' 3 (([v0, v1, v2, v3].drop 2).take (Try.prog.cellsOf 3)) = some _ at g2
      rw [ci] at g2
      change DataW.trod enc Try.prog W 0 (fun _ => true) true k' 3 [v2] = some _ at g2
      have g3 := hfld 3 _ rfl
      rw [List.getElem?_eq_getElem x3] at g3
      change DataW.trod enc Try.prog W 0 (fun _ => true) true k' 9 (([v0, v1, v2, v3].drop 3).take (Try.prog.cellsOf 9)) = some _ at g3
      rw [cst] at g3
      change DataW.trod enc Try.prog W 0 (fun _ => true) true k' 9 [v3] = some _ at g3
      obtain ⟨n0, e0, _, _⟩ := DataW.trod_int Try.underlying3 g0
      obtain ⟨n1, e1, _, w1⟩ := DataW.trod_int Try.underlying3 g1
      obtain ⟨n2, e2, _, _⟩ := DataW.trod_int Try.underlying3 g2
      obtain ⟨s3, e3, _, _⟩ := DataW.trod_string Try.underlying9 g3
      simp only [List.cons.injEq, and_true] at e0 e1 e2 e3
      have c0 := hcell 0 (by omega)
      have c1 := hcell 1 (by omega)
      have c2 := hcell 2 (by omega)
      have c3 := hcell 3 (by omega)
      rw [add_add] at c0 c1 c2 c3
      have hlt : a.block < W.heap.size := by
        have := World.block_lt_of_cell? W _ c0
        rwa [add_block] at this
      refine ⟨a, ⟨n0, n1, n2, s3⟩, rfl, hlt, ⟨?_, ?_, ?_, ?_⟩, (bounds_i64 w1).2⟩
      · rw [Nat.add_zero] at c0; rw [c0]; simp [e0]
      · rw [← add_one _ _ 1 (by omega), c1]; simp [e1]
      · rw [← add_one _ _ 2 (by omega), c2]; simp [e2]
      · rw [← add_one _ _ 3 (by omega), c3]; simp [e3]
/-- The same with a function that tells the steps. -/
def OpF (w : World) (A : Option Addr) (len : Nat) (f : Nat → M.Op) : Prop := ∀ i, i < len → ∃ ad : Addr, A = some ad ∧ ad.block < w.heap.size ∧ OpCells w (ad.add (i * 4)) (f i) ∧ (f i).at_ ≤ 9223372036854775807
theorem OpF.of {w : World} {A : Option Addr} {len : Nat} (h : ∀ i, i < len → ∃ (ad : Addr) (o : M.Op), A = some ad ∧ ad.block < w.heap.size ∧ OpCells w (ad.add (i * 4)) o ∧ o.at_ ≤ 9223372036854775807) : ∃ f, OpF w A len f := by
  classical
  refine ⟨fun i => if hi : i < len then Classical.choose (Classical.choose_spec (h i hi)) else default, fun i hi => ?_⟩
  have := Classical.choose_spec (Classical.choose_spec (h i hi))
  simp only [dif_pos hi]
  exact ⟨Classical.choose (h i hi), this⟩
theorem OpF.at_ {w y : World} {N : Nat} {A : Option Addr} {len : Nat} {f : Nat → M.Op} (h : OpF w A len f) (hN : N = w.heap.size) (hb : Below N w y) {i : Nat} (hi : i < len) : ∃ ad : Addr, A = some ad ∧ OpCells y (ad.add (i * 4)) (f i) := by
  obtain ⟨ad, h1, h2, ⟨c0, c1, c2, c3⟩, _⟩ := h i hi
  subst hN
  have hl : (ad.add (i * 4)).block < w.heap.size := by rw [add_block]; exact h2
  exact ⟨ad, h1, (hb.cell hl).trans c0, (hb.cell (by exact hl)).trans c1, (hb.cell (by exact hl)).trans c2, (hb.cell (by exact hl)).trans c3⟩

set_option maxRecDepth 100000 in
theorem great_any (A : Option Addr) (len cap : Nat) (f : Nat → M.Op) (w y : World) (h : OpF w A len f) (hb : Below w.heap.size w y) (hlen : len ≤ maxLen) :
    Calls Try.prog 7 #[.slice A len cap] y fun e y' => (e = .returned (.bool true) ∧ y' = y) ∨ (e = .returned (.bool false) ∧ y' = y ∧ Hid (len ≤ 100 ∧ ∀ i, i < len → (f i).data.size ≤ 5000)) := by
  have HF := Lib.hid (fun i (hi : i < len) => h.at_ rfl hb hi)
  have hl63 : (len : Int) ≤ 9223372036854775807 := by unfold maxLen at hlen; omega
  clear h hb hlen
  go_enter Try.func7, Try.ntmps7
  go_wp2_with fail
  go_loopw [3, 4] (fun v j wr => ∃ k n : Nat, k ≤ len ∧ k ≤ 100 ∧ j = .int .i64 k ∧ v = .int .i64 n ∧ n ≤ 5000 * k ∧ wr = y ∧ Hid (∀ i, i < k → (f i).data.size ≤ 5000)) (fun v j _ => len - (intOf j).toNat)
  case atStart => exact ⟨0, 0, Nat.zero_le _, Nat.zero_le _, rfl, rfl, Nat.le_refl _, rfl, fun i hi => absurd hi (by omega)⟩
  case round =>
    obtain ⟨k, n, hk, hk1, rfl, rfl, hn, rfl, HA⟩ := hrel
    by_cases hlt : k < len
    · have hk0 : (0 : Int) ≤ (k : Int) := by omega
      have hlt' : (k : Int) < (len : Int) := by omega
      by_cases h1 : k < 100
      · have h1' : ¬ (100 : Int) ≤ (k : Int) := by omega
        obtain ⟨ad, rfl, x0, x1, x2, x3⟩ := HF.out k hlt
        obtain ⟨t, ht⟩ : ∃ t, t = (f k).data := ⟨_, rfl⟩
        rw [← ht] at x3
        by_cases h5 : t.size ≤ 5000
        · have h5' : ¬ (5000 : Int) < (t.size : Int) := by omega
          have hnb : (n : Int) ≤ 500000 := by omega
          have htb : (t.size : Int) ≤ 5000 := by omega
          have HN : Hid (∀ i, i < k + 1 → (f i).data.size ≤ 5000) := fun i hi => by
            by_cases e : i = k
            · rw [e, ← ht]; exact h5
            · exact HA.out i (by omega)
          clear x0 x1 x2 ht
          go_wp2_with fail
          go_roundw
          case rel => exact ⟨k + 1, n + t.size, by omega, by omega, by go_num, by go_num, by omega, (by first | rfl | trivial), HN⟩
          case measure => simp [intOf]; omega
        · have h5' : (5000 : Int) < (t.size : Int) := by omega
          clear x0 x1 x2 ht
          go_wp2_with fail
          go_ret
          first | exact Or.inl ⟨rfl, rfl⟩ | exact Or.inl rfl
      · have h1' : (100 : Int) ≤ (k : Int) := by omega
        go_wp2_with fail
        go_ret
        first | exact Or.inl ⟨rfl, rfl⟩ | exact Or.inl rfl
    · have e : k = len := by omega
      subst e
      clear hlt
      have HE : Hid (k ≤ 100 ∧ ∀ i, i < k → (f i).data.size ≤ 5000) := ⟨hk1, HA.out⟩
      by_cases h2 : (20000 : Int) < (n : Int)
      · go_wp2_with fail
        go_ret
        first | exact Or.inl ⟨rfl, rfl⟩ | exact Or.inl rfl
      · go_wp2_with fail
        go_ret
        first | exact Or.inr ⟨rfl, rfl, HE⟩ | exact Or.inr ⟨rfl, rfl⟩

/-- v is a slice of just these sectors. -/
def SecsIs (y : World) (v : Value) (L : List (Nat × ByteArray)) : Prop := ∃ (A : Option Addr) (c : Nat), v = .slice A L.length c ∧
  ∀ i p, L[i]? = some p → ∃ g, A = some ⟨g, 0, none⟩ ∧ y.cell? ⟨g, i * 2, none⟩ = some (.int .i64 (p.1 : Nat)) ∧ y.cell? ⟨g, i * 2 + 1, none⟩ = some (.string p.2)
theorem SecsIs.below {y y' : World} {v : Value} {L : List (Nat × ByteArray)} (h : SecsIs y v L) (hb : Below y.heap.size y y') : SecsIs y' v L := by
  obtain ⟨A, c, hv, h⟩ := h
  refine ⟨A, c, hv, fun i p hp => ?_⟩
  obtain ⟨g, hA, h1, h2⟩ := h i p hp
  have hl := World.block_lt_of_cell? y _ h1
  exact ⟨g, hA, (hb.cell hl).trans h1, (hb.cell (by exact hl)).trans h2⟩
theorem SecsIs.nil (y : World) : SecsIs y (.slice none 0 0) [] := ⟨none, 0, rfl, fun i p hp => by simp at hp⟩
theorem SecsIs.box {y : World} {B : Nat} {L : List (Nat × ByteArray)} (h : Box y B 80 (M.cells L).toArray) (n : Nat) (hn : n = L.length) : SecsIs y (.slice (some ⟨B, 0, none⟩) n n) L :=
  ⟨_, n, by rw [hn], fun i p hp => ⟨B, rfl, by rw [h.cell, List.getElem?_toArray]; exact (M.cells_at hp).1, by rw [h.cell, List.getElem?_toArray]; exact (M.cells_at hp).2⟩⟩
theorem SecsIs.row {y : World} {B n : Nat} {v : Value} {L : List (Nat × ByteArray)} (h : y.ownsRow B 80 2 v n (M.cells L)) (hn : n = L.length) : SecsIs y v L := by
  subst hn
  rcases h.2 with ⟨e, h0⟩ | ⟨g, cap, cur, e, _⟩
  · refine ⟨none, 0, by rw [e, h0], fun i p hp => ?_⟩
    have := (List.getElem?_eq_some_iff.1 hp).1
    omega
  · refine ⟨_, cap, e, fun i p hp => ⟨g, rfl, ?_⟩⟩
    rw [e] at h
    exact owned_writes h hp

set_option maxRecDepth 100000 in
set_option maxHeartbeats 1000000 in
theorem sectors9_any (L : List (Nat × ByteArray)) (v1 v2 : Value) (w : World) (h1 : SecsIs w v1 L) (h2 : SecsIs w v2 L) (hl : L.length ≤ 1000) :
    Calls Try.prog 16 #[v1, v2] w fun e w' => e = .returned (.bool true) ∧ Below w.heap.size w w' := by
  obtain ⟨A1, c1, rfl, h1⟩ := h1
  obtain ⟨A2, c2, rfl, h2⟩ := h2
  obtain ⟨n, hn⟩ : ∃ n, n = L.length := ⟨_, rfl⟩
  have H1 := Lib.hid h1
  have H2 := Lib.hid h2
  rw [← hn] at hl ⊢
  have HN := Lib.hid hn
  have hl' : (n : Int) ≤ 1000 := by omega
  have hnn : ((n : Int) == (n : Int)) = true := by simp
  clear h1 h2 hn
  go_enter Try.func16, Try.ntmps16
  go_wp2_with fail
  go_loopw [5] (fun j wr => ∃ k : Nat, k ≤ n ∧ j = .int .i64 k ∧ Below w.heap.size w wr) (fun j _ => n - (intOf j).toNat)
  case atStart => exact ⟨0, Nat.zero_le _, rfl, Below.refl _ _⟩
  case round =>
    obtain ⟨k, hk, rfl, hb⟩ := hrel
    by_cases hlt : k < n
    · have hk0 : (0 : Int) ≤ (k : Int) := by omega
      have hlt' : (k : Int) < (n : Int) := by omega
      obtain ⟨p, hp⟩ : ∃ p, L[k]? = some p := ⟨L[k]'(by have := HN.out; omega), List.getElem?_eq_getElem _⟩
      obtain ⟨g1, rfl, a0, a1⟩ := H1.out k p hp
      obtain ⟨g2, rfl, b0, b1⟩ := H2.out k p hp
      obtain ⟨at_, t⟩ := p
      simp only at a0 a1 b0 b1
      have la := World.block_lt_of_cell? w _ a0
      have lb := World.block_lt_of_cell? w _ b0
      have x0 := (hb.cell la).trans a0
      have x1 := (hb.cell (p := ⟨g1, k * 2 + 1, none⟩) (by exact la)).trans a1
      have y0 := (hb.cell lb).trans b0
      have y1 := (hb.cell (p := ⟨g2, k * 2 + 1, none⟩) (by exact lb)).trans b1
      have e0 : ((at_ : Int) == (at_ : Int)) = true := by simp
      have e1 : (t.toList == t.toList) = true := str_eq_self t
      have HB := Lib.hid hb
      clear hp a0 a1 b0 b1 la lb hb
      go_wp2_with fail
      go_quiet (fail)
      go_wp2_with fail
      go_roundw
      case rel => exact ⟨k + 1, by omega, by go_num, below_drewN HB.out _⟩
      case measure => simp [intOf]; omega
    · have e : k = n := by omega
      subst e
      have HB := Lib.hid hb
      clear hlt hb
      go_wp2_with fail
      go_ret
      exact ⟨rfl, HB.out⟩
end Go.Proofs.Ytnjhbmpdpejpcaa
