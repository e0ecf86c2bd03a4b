/-
  The two rings of solderlaw06.RingDoes side by side: each call of one leaves the other as it was.
-/
import Derived.Test.YtlpcjfjjfnnbcaaRAll
namespace Go.Proofs.Ytlpcjfjjfnnbcaa
open Go.RowKit

/-- What Push answers, and what waits behind it. -/
def M.pushE (most : Nat) (L : List Int) : Int := if L.length < most then 0 else 6
def M.pushL (most : Nat) (L : List Int) (n : Int) : List Int := if L.length < most then L ++ [n] else L
/-- What At answers. -/
def M.atV (L : List Int) (i : Int) : Int := if i < 0 then 0 else L[i.toNat]?.getD 0
def M.atB (L : List Int) (i : Int) : Bool := decide (0 ≤ i) && decide (i < (L.length : Int))
theorem M.at_out (L : List Int) (i : Int) (h : i < 0 ∨ (L.length : Int) ≤ i) : M.atV L i = 0 ∧ M.atB L i = false := by
  unfold M.atV M.atB
  constructor
  · split
    · rfl
    · rw [List.getElem?_eq_none (by omega)]; rfl
  · simp; omega
theorem M.at_in (L : List Int) (i : Nat) (h : i < L.length) : M.atV L (i : Int) = L[i]'h ∧ M.atB L (i : Int) = true := by
  unfold M.atV M.atB
  constructor
  · rw [if_neg (by omega), Int.toNat_natCast, List.getElem?_eq_getElem h]; rfl
  · simp; omega

theorem M.drop_few (L : List Int) : L.drop (M.few 1 L.length) = L.drop 1 := by
  cases L with
  | nil => simp
  | cons v t =>
    have : M.few 1 (v :: t).length = 1 := by
      unfold M.few
      rw [if_neg (by omega), if_neg (by simp only [List.length_cons]; omega)]
      rfl
    rw [this]

/-- A ring of the program in block a with the things La; the document's in block b, led to from block B, with the things Lb; all of them are new since W. -/
def Both (W : World) (a B b most : Nat) (La Lb : List Int) (x : World) : Prop :=
  ∃ ga Aa ss f g A cap, Ring x a ga most Aa ss f La ∧ Ref x b g most A cap Lb ∧ x.cell? ⟨B, 0, none⟩ = some (.pointer (some ⟨b, 0, none⟩)) ∧ Below W.heap.size W x ∧
    W.heap.size ≤ ga ∧ ga < x.heap.size ∧ g < x.heap.size ∧ ga ≠ B ∧ ga ≠ b ∧ g ≠ a ∧ g ≠ B ∧ g ≠ ga
/-- Where they lie. -/
structure Lie (W : World) (a B b : Nat) : Prop where
  ab : a ≠ b
  aB : a ≠ B
  bB : b ≠ B
  a0 : W.heap.size ≤ a
  b0 : W.heap.size ≤ b
  B0 : W.heap.size ≤ B

section
variable {W : World} {a B b most : Nat} {La Lb : List Int} {x : World}
theorem Both.drewN (h : Both W a B b most La Lb x) (n : Nat) : Both W a B b most La Lb (x.drewN n) := by
  obtain ⟨ga, Aa, ss, f, g, A, cap, h1, h2, h3, h4, h5⟩ := h
  exact ⟨ga, Aa, ss, f, g, A, cap, h1.drewN n, h2.drewN n, h3, below_drewN h4 n, h5⟩
theorem Both.drew (h : Both W a B b most La Lb x) : Both W a B b most La Lb x.drew := h.drewN 1
theorem Both.ptr (h : Both W a B b most La Lb x) : x.cell? ⟨B, 0, none⟩ = some (.pointer (some ⟨b, 0, none⟩)) := by
  obtain ⟨ga, Aa, ss, f, g, A, cap, h1, h2, h3, h4, h5⟩ := h
  exact h3
theorem Both.low (h : Both W a B b most La Lb x) : Below W.heap.size W x := by
  obtain ⟨ga, Aa, ss, f, g, A, cap, h1, h2, h3, h4, h5⟩ := h
  exact h4
theorem Both.small (h : Both W a B b most La Lb x) : La.length ≤ most ∧ Lb.length ≤ most ∧ most ≤ 1000 := by
  obtain ⟨ga, Aa, ss, f, g, A, cap, h1, h2, h3, h4, h5⟩ := h
  exact ⟨Nat.le_trans h1.lies.le h1.le, h2.le, h1.most⟩

theorem aPush (hl : Lie W a B b) (n : Int) (h : Both W a B b most La Lb x) :
    Calls Try.prog 9 #[.pointer (some ⟨a, 0, none⟩), .int .i64 n] x fun e y => e = .returned (.int .i64 (M.pushE most La)) ∧ Both W a B b most (M.pushL most La n) Lb y := by
  obtain ⟨ga, Aa, ss, f, g, A, cap, h1, h2, h3, h4, h5, h6, h7, h8, h9, h10, h11, h12⟩ := h
  unfold M.pushE M.pushL
  by_cases hp : La.length < most
  · rw [if_pos hp, if_pos hp]
    refine (push_any n x h1 hp).mono ?_
    rintro e y ⟨rfl, ⟨g', A', ss', f', hR, hg⟩, hk⟩
    have hs : 0 < ss'.length := by have := hR.lies.le; simp at this; omega
    have hlt := (hR.full hs).2.lt
    have hB := World.block_lt_of_cell? x _ h3
    have hb := h2.box.lt
    have hz := h4.size
    exact ⟨rfl, g', A', ss', f', g, A, cap, hR, h2.kept hk (fun e => e.elim (fun e => hl.ab e.symm) (fun e => h9 e.symm)) (fun _ e => e.elim h10 h12), hk.cell h3 (fun e => e.elim (fun e => hl.aB e.symm) (fun e => h8 e.symm)),
      h4.trans (hk.below h4.size (fun k hk e => by have := hl.a0; rcases e with rfl | rfl <;> omega)), by omega, hlt, by have := hk.size; omega, by simp only at hB; omega, by omega, h10, h11, by omega⟩
  · rw [if_neg hp, if_neg hp]
    refine (push_full n x h1 (by omega)).mono ?_
    rintro e y ⟨rfl, m, rfl⟩
    exact ⟨rfl, ga, Aa, ss, f, g, A, cap, h1.drewN m, h2.drewN m, h3, below_drewN h4 m, h5, h6, h7, h8, h9, h10, h11, h12⟩
theorem bPush (hl : Lie W a B b) (n : Int) (h : Both W a B b most La Lb x) :
    Calls Try.prog 10 #[.pointer (some ⟨b, 0, none⟩), .int .i64 n] x fun e y => e = .returned (.int .i64 (M.pushE most Lb)) ∧ Both W a B b most La (M.pushL most Lb n) y := by
  obtain ⟨ga, Aa, ss, f, g, A, cap, h1, h2, h3, h4, h5, h6, h7, h8, h9, h10, h11, h12⟩ := h
  unfold M.pushE M.pushL
  by_cases hp : Lb.length < most
  · rw [if_pos hp, if_pos hp]
    refine (refPush_any n x h2 hp).mono ?_
    rintro e y ⟨rfl, ⟨g', A', cap', hR, hg⟩, hk⟩
    have hlt : g' < y.heap.size := by
      rcases hR.row with ⟨_, e, _⟩ | ⟨off, _, hc⟩
      · simp at e
      · exact World.block_lt_of_cell? y _ (hc 0 (by simp))
    have hB := World.block_lt_of_cell? x _ h3
    have ha := h1.box.lt
    exact ⟨rfl, ga, Aa, ss, f, g', A', cap', h1.kept hk (fun e => hl.ab e) (fun e => h9 e), hR, hk.cell h3 (fun e => hl.bB e.symm),
      h4.trans (hk.below h4.size (fun k hk e => by have := hl.b0; omega)), h5, by have := hk.size; omega, hlt, h8, h9, by omega, by simp only at hB; omega, by omega⟩
  · rw [if_neg hp, if_neg hp]
    refine (refPush_full n x h2 (by omega)).mono ?_
    rintro e y ⟨rfl, m, rfl⟩
    exact ⟨rfl, ga, Aa, ss, f, g, A, cap, h1.drewN m, h2.drewN m, h3, below_drewN h4 m, h5, h6, h7, h8, h9, h10, h11, h12⟩
theorem aDrop (hl : Lie W a B b) (n : Int) (h : Both W a B b most La Lb x) :
    Calls Try.prog 14 #[.pointer (some ⟨a, 0, none⟩), .int .i64 n] x fun e y => e = .returned (.int .i64 (M.few n La.length : Nat)) ∧ Both W a B b most (La.drop (M.few n La.length)) Lb y := by
  obtain ⟨ga, Aa, ss, f, g, A, cap, h1, h2, h3, h4, h5, h6, h7, h8, h9, h10, h11, h12⟩ := h
  refine (drop_any n x h1).mono ?_
  rintro e y ⟨rfl, ⟨ss', f', hR⟩, hk⟩
  have hz := hk.size
  exact ⟨rfl, ga, Aa, ss', f', g, A, cap, hR, h2.kept hk (fun e => e.elim (fun e => hl.ab e.symm) (fun e => h9 e.symm)) (fun _ e => e.elim h10 h12), hk.cell h3 (fun e => e.elim (fun e => hl.aB e.symm) (fun e => h8 e.symm)),
    h4.trans (hk.below h4.size (fun k hk e => by have := hl.a0; rcases e with rfl | rfl <;> omega)), h5, by omega, by omega, h8, h9, h10, h11, h12⟩
theorem bDrop (hl : Lie W a B b) (n : Int) (h : Both W a B b most La Lb x) :
    Calls Try.prog 13 #[.pointer (some ⟨b, 0, none⟩), .int .i64 n] x fun e y => e = .returned (.int .i64 (M.few n Lb.length : Nat)) ∧ Both W a B b most La (Lb.drop (M.few n Lb.length)) y := by
  obtain ⟨ga, Aa, ss, f, g, A, cap, h1, h2, h3, h4, h5, h6, h7, h8, h9, h10, h11, h12⟩ := h
  refine (refDrop_any n x h2).mono ?_
  rintro e y ⟨rfl, ⟨A', cap', hR⟩, hk⟩
  have hz := hk.size
  exact ⟨rfl, ga, Aa, ss, f, g, A', cap', h1.kept hk (fun e => hl.ab e) (fun e => h9 e), hR, hk.cell h3 (fun e => hl.bB e.symm),
    h4.trans (hk.below h4.size (fun k hk e => by have := hl.b0; omega)), h5, by omega, by omega, h8, h9, h10, h11, h12⟩
theorem aPop (hl : Lie W a B b) (h : Both W a B b most La Lb x) :
    Calls Try.prog 11 #[.pointer (some ⟨a, 0, none⟩)] x fun e y => e = .returned (.tuple #[.int .i64 (M.atV La 0), .bool (M.atB La 0)]) ∧ Both W a B b most (La.drop 1) Lb y := by
  obtain ⟨ga, Aa, ss, f, g, A, cap, h1, h2, h3, h4, h5, h6, h7, h8, h9, h10, h11, h12⟩ := h
  have fin : ∀ {y : World} {ss' : List Int} {f' : Nat} {L' : List Int}, Ring y a ga most Aa ss' f' L' → Kept (fun k => k = a ∨ k = ga) x y → Both W a B b most L' Lb y := fun {y ss' f' L'} hR hk => by
    have hz := hk.size
    exact ⟨ga, Aa, ss', f', g, A, cap, hR, h2.kept hk (fun e => e.elim (fun e => hl.ab e.symm) (fun e => h9 e.symm)) (fun _ e => e.elim h10 h12), hk.cell h3 (fun e => e.elim (fun e => hl.aB e.symm) (fun e => h8 e.symm)),
      h4.trans (hk.below h4.size (fun k hk e => by have := hl.a0; rcases e with rfl | rfl <;> omega)), h5, by omega, by omega, h8, h9, h10, h11, h12⟩
  cases La with
  | nil =>
    refine (pop_none x h1).mono ?_
    rintro e y ⟨rfl, ⟨ss', f', hR⟩, hk⟩
    exact ⟨rfl, fin hR hk⟩
  | cons v t =>
    refine (pop_some x h1).mono ?_
    rintro e y ⟨rfl, ⟨ss', f', hR⟩, hk⟩
    have e1 : M.atV (v :: t) 0 = v := (M.at_in (v :: t) 0 (by simp)).1
    have e2 : M.atB (v :: t) 0 = true := (M.at_in (v :: t) 0 (by simp)).2
    rw [e1, e2]
    exact ⟨rfl, fin hR hk⟩
theorem aAt (i : Int) (h : Both W a B b most La Lb x) :
    Calls Try.prog 15 #[.pointer (some ⟨a, 0, none⟩), .int .i64 i] x fun e y => e = .returned (.tuple #[.int .i64 (M.atV La i), .bool (M.atB La i)]) ∧ Both W a B b most La Lb y := by
  have h' := h
  obtain ⟨ga, Aa, ss, f, g, A, cap, h1, h2⟩ := h
  by_cases hi : i < 0 ∨ (La.length : Int) ≤ i
  · rw [(M.at_out La i hi).1, (M.at_out La i hi).2]
    refine (at_none i x h1 hi).mono ?_
    rintro e y ⟨rfl, m, rfl⟩
    exact ⟨rfl, h'.drewN m⟩
  · obtain ⟨j, rfl⟩ : ∃ j : Nat, i = j := ⟨i.toNat, by omega⟩
    have hj : j < La.length := by omega
    rw [(M.at_in La j hj).1, (M.at_in La j hj).2]
    refine (at_some j x h1 hj).mono ?_
    rintro e y ⟨rfl, m, rfl⟩
    exact ⟨rfl, h'.drewN m⟩
theorem bAt (i : Int) (h : Both W a B b most La Lb x) :
    Calls Try.prog 12 #[.pointer (some ⟨b, 0, none⟩), .int .i64 i] x fun e y => e = .returned (.tuple #[.int .i64 (M.atV Lb i), .bool (M.atB Lb i)]) ∧ y = x := by
  obtain ⟨ga, Aa, ss, f, g, A, cap, h1, h2, _⟩ := h
  by_cases hi : i < 0 ∨ (Lb.length : Int) ≤ i
  · rw [(M.at_out Lb i hi).1, (M.at_out Lb i hi).2]
    exact refAt_none i x h2 hi
  · obtain ⟨j, rfl⟩ : ∃ j : Nat, i = j := ⟨i.toNat, by omega⟩
    have hj : j < Lb.length := by omega
    rw [(M.at_in Lb j hj).1, (M.at_in Lb j hj).2]
    exact refAt_some j x h2 hj
theorem aLen (h : Both W a B b most La Lb x) :
    Calls Try.prog 16 #[.pointer (some ⟨a, 0, none⟩)] x fun e y => e = .returned (.int .i64 (La.length : Nat)) ∧ y = x := by
  obtain ⟨ga, Aa, ss, f, g, A, cap, h1, h2, _⟩ := h
  exact len_any x h1
theorem aRoom (h : Both W a B b most La Lb x) :
    Calls Try.prog 17 #[.pointer (some ⟨a, 0, none⟩)] x fun e y => e = .returned (.int .i64 ((most - La.length : Nat) : Int)) ∧ ∃ n, y = x.drewN n := by
  obtain ⟨ga, Aa, ss, f, g, A, cap, h1, h2, _⟩ := h
  exact room_any x h1
theorem Both.cells (h : Both W a B b most La Lb x) : ∃ (A : Option Addr) (cap : Nat), x.cell? ⟨b, 0, none⟩ = some (.slice A Lb.length cap) ∧ x.cell? ⟨b, 1, none⟩ = some (.int .i64 most) := by
  obtain ⟨ga, Aa, ss, f, g, A, cap, h1, h2, _⟩ := h
  exact ⟨A, cap, h2.c0, h2.c1⟩
end
end Go.Proofs.Ytlpcjfjjfnnbcaa
