/-
  Plain mathematics for layer 5 (vector): whether a vector may be, how two stand, what covers both, what comes further. No program in this text. Walks over vector.Right and solderref05.Right. Walks over vector.Put and solderref05.Put.
-/
import Derived.Test.YtlihgaejkadonaaGreatDoorMP
import Derived.Test.YtlihgaejkadonaaGreatDoorMA
import Derived.Laws.RangeAny
namespace Go.Proofs.YtlihgaejkadonaaGreatDoor.M

/-- Whether a side may have come so far. -/
def valB (n : Int) : Bool := decide (0 ≤ n ∧ n ≤ 1125899906842624)
/-- Whether a vector may be. -/
def rightB (a b : Int) : Bool := valB a && valB b
/-- Whether a covers c, b covers d. -/
def covB (a b c d : Int) : Bool := decide (c ≤ a ∧ d ≤ b)
/-- How two vectors stand. -/
def cmpI (a b c d : Int) : Int := if covB a b c d = true then (if covB c d a b = true then 0 else 1) else (if covB c d a b = true then 2 else 3)
/-- The greater one. -/
def mx (a b : Int) : Int := if a < b then b else a
def nodeB (n : Int) : Bool := decide (n = 0 ∨ n = 1)
/-- The number of a side. -/
def atI (a b n : Int) : Int := if n = 0 then a else if n = 1 then b else 0
/-- Whether a vector may come further at all. -/
def mayB (a b n t : Int) : Bool := nodeB n && rightB a b && decide (0 ≤ t ∧ t ≤ 16777216)
/-- How far it comes. -/
def nextI (a b n t : Int) : Int := mx (atI a b n) (t * 16777216) + 1
/-- What Bump answers: both numbers, and the error. -/
def bumpA (a b n t : Int) : Int := if mayB a b n t = true then (if 1125899906842624 < nextI a b n t then 0 else if n = 0 then nextI a b n t else a) else 0
def bumpB (a b n t : Int) : Int := if mayB a b n t = true then (if 1125899906842624 < nextI a b n t then 0 else if n = 0 then b else nextI a b n t) else 0
def bumpE (a b n t : Int) : Int := if mayB a b n t = true then (if 1125899906842624 < nextI a b n t then 17 else 0) else 3

theorem cov_iff {a b c d : Int} : covB a b c d = true ↔ c ≤ a ∧ d ≤ b := by simp [covB]
theorem cov_no {a b c d : Int} : covB a b c d = false ↔ ¬ (c ≤ a ∧ d ≤ b) := by
  rw [← cov_iff]; simp
theorem cov_refl (a b : Int) : covB a b a b = true := cov_iff.2 ⟨Int.le_refl _, Int.le_refl _⟩
theorem cov_trans {a b c d e f : Int} (h1 : covB a b c d = true) (h2 : covB c d e f = true) : covB a b e f = true := by
  rw [cov_iff] at *; omega
theorem cov_both (a b c d : Int) : (covB a b c d && covB c d a b) = (a == c && b == d) := by
  rw [Bool.eq_iff_iff, Bool.and_eq_true, Bool.and_eq_true, cov_iff, cov_iff, beq_iff_eq, beq_iff_eq]; omega
theorem mx_le_l (a b : Int) : a ≤ mx a b := by unfold mx; split <;> omega
theorem mx_le_r (a b : Int) : b ≤ mx a b := by unfold mx; split <;> omega
theorem mx_comm (a b : Int) : mx a b = mx b a := by unfold mx; split <;> split <;> omega
theorem mx_self (a : Int) : mx a a = a := by unfold mx; split <;> rfl
theorem mx_assoc (a b c : Int) : mx (mx a b) c = mx a (mx b c) := by unfold mx; repeat' split <;> omega
theorem mx_cases (a b : Int) : mx a b = a ∨ mx a b = b := by unfold mx; split <;> simp
theorem cov_join_l (a b c d : Int) : covB (mx a c) (mx b d) a b = true := cov_iff.2 ⟨mx_le_l _ _, mx_le_l _ _⟩
theorem cov_join_r (a b c d : Int) : covB (mx a c) (mx b d) c d = true := cov_iff.2 ⟨mx_le_r _ _, mx_le_r _ _⟩
theorem cov_least {a b c d e f : Int} (h1 : covB e f a b = true) (h2 : covB e f c d = true) : covB e f (mx a c) (mx b d) = true := by
  rw [cov_iff] at *; unfold mx; constructor <;> split <;> omega
theorem join_one (a b c d : Int) (h : ¬ cmpI a b c d = 3) : (mx a c = a ∧ mx b d = b) ∨ (mx a c = c ∧ mx b d = d) := by
  unfold cmpI at h
  by_cases h1 : covB a b c d = true
  · left
    rw [cov_iff] at h1
    unfold mx; constructor <;> split <;> omega
  · by_cases h2 : covB c d a b = true
    · right
      rw [cov_iff] at h2
      unfold mx; constructor <;> split <;> omega
    · rw [if_neg h1, if_neg h2] at h; exact absurd rfl h

theorem may_of {a b n t : Int} (h : mayB a b n t = true) : (n = 0 ∨ n = 1) ∧ 0 ≤ a ∧ a ≤ 1125899906842624 ∧ 0 ≤ b ∧ b ≤ 1125899906842624 ∧ 0 ≤ t ∧ t ≤ 16777216 := by
  unfold mayB rightB valB nodeB at h
  simp at h
  omega
theorem next_bd {a b n t : Int} (h : mayB a b n t = true) : 1 ≤ nextI a b n t ∧ nextI a b n t ≤ 1125899906842625 ∧ atI a b n < nextI a b n t ∧ t * 16777216 < nextI a b n t ∧ 0 ≤ atI a b n ∧ atI a b n ≤ 1125899906842624 := by
  have := may_of h
  have h1 := mx_le_l (atI a b n) (t * 16777216)
  have h2 := mx_le_r (atI a b n) (t * 16777216)
  have h3 := mx_cases (atI a b n) (t * 16777216)
  have h4 : 0 ≤ atI a b n ∧ atI a b n ≤ 1125899906842624 := by unfold atI; split <;> (try split) <;> omega
  unfold nextI
  omega
theorem next_ref (a b n t : Int) : mx (atI a b n + 1) (t * 16777216 + 1) = nextI a b n t := by
  unfold nextI mx; split <;> split <;> omega

theorem bump_no {a b n t : Int} (h : mayB a b n t = false) : bumpA a b n t = 0 ∧ bumpB a b n t = 0 ∧ bumpE a b n t = 3 := by
  unfold bumpA bumpB bumpE; simp [h]
theorem bump_limit {a b n t : Int} (h : mayB a b n t = true) (h1 : 1125899906842624 < nextI a b n t) : bumpA a b n t = 0 ∧ bumpB a b n t = 0 ∧ bumpE a b n t = 17 := by
  unfold bumpA bumpB bumpE; simp [h, h1]
theorem bump_a {a b n t : Int} (h : mayB a b n t = true) (h1 : ¬ 1125899906842624 < nextI a b n t) (h2 : n = 0) : bumpA a b n t = nextI a b n t ∧ bumpB a b n t = b ∧ bumpE a b n t = 0 := by
  subst h2; unfold bumpA bumpB bumpE; simp [h, h1]
theorem bump_b {a b n t : Int} (h : mayB a b n t = true) (h1 : ¬ 1125899906842624 < nextI a b n t) (h2 : ¬ n = 0) : bumpA a b n t = a ∧ bumpB a b n t = nextI a b n t ∧ bumpE a b n t = 0 := by
  unfold bumpA bumpB bumpE; simp [h, h1, h2]
/-- What was bumped is ahead of what it was, and beyond the boots ahead. -/
theorem bump_ahead {a b n t : Int} (h : bumpE a b n t = 0) : cmpI (bumpA a b n t) (bumpB a b n t) a b = 1 ∧ cmpI a b (bumpA a b n t) (bumpB a b n t) = 2 ∧ t * 16777216 < atI (bumpA a b n t) (bumpB a b n t) n ∧ 0 ≤ t ∧ t ≤ 16777216 := by
  by_cases hm : mayB a b n t = true
  · by_cases h1 : 1125899906842624 < nextI a b n t
    · have := (bump_limit hm h1).2.2; omega
    · have hb := next_bd hm
      have hn := may_of hm
      by_cases h2 : n = 0
      · obtain ⟨e1, e2, -⟩ := bump_a hm h1 h2
        rw [e1, e2]
        have e3 : atI a b n = a := by simp [atI, h2]
        have e4 : atI (nextI a b n t) b n = nextI a b n t := by simp [atI, h2]
        have c1 : covB (nextI a b n t) b a b = true := by rw [cov_iff]; omega
        have c2 : covB a b (nextI a b n t) b = false := by rw [cov_no]; omega
        rw [e4]
        refine ⟨by simp [cmpI, c1, c2], by simp [cmpI, c1, c2], by omega, by omega, by omega⟩
      · obtain ⟨e1, e2, -⟩ := bump_b hm h1 h2
        rw [e1, e2]
        have e0 : n = 1 := by omega
        have e3 : atI a b n = b := by simp [atI, e0]
        have e4 : atI a (nextI a b n t) n = nextI a b n t := by simp [atI, e0]
        have c1 : covB a (nextI a b n t) a b = true := by rw [cov_iff]; omega
        have c2 : covB a b a (nextI a b n t) = false := by rw [cov_no]; omega
        rw [e4]
        refine ⟨by simp [cmpI, c1, c2], by simp [cmpI, c1, c2], by omega, by omega, by omega⟩
  · have := (bump_no (by simpa using hm)).2.2; omega
end Go.Proofs.YtlihgaejkadonaaGreatDoor.M
namespace Go.Proofs.YtlihgaejkadonaaGreatDoor
open Go.RowKit

theorem ret_b {a b : Bool} (h : a = b) : Ending.returned (.bool a) = .returned (.bool b) := by rw [h]
theorem ret_i {k : IntKind} {a b : Int} (h : a = b) : Ending.returned (.int k a) = .returned (.int k b) := by rw [h]
theorem isValue_any (n : Int) (w : World) : Calls Tryz.prog 111 #[.int .i64 n] w fun e w' => e = .returned (.bool (M.valB n)) ∧ w = w' := by
  obtain ⟨r, hr⟩ : ∃ r, M.valB n = r := ⟨_, rfl⟩
  rw [hr]
  have h := hr
  unfold M.valB at h
  by_cases h1 : 0 ≤ n
  · by_cases h2 : n ≤ 1125899906842624
    · have e : r = true := by rw [← h]; simp; omega
      subst e
      clear h hr
      go_enter Tryz.func111, Tryz.ntmps111
      go_wp2_with fail
      go_ret
      exact ⟨rfl, rfl⟩
    · have e : r = false := by rw [← h]; simp; omega
      subst e
      have d2 : decide (n ≤ 1125899906842624) = false := by simpa using h2
      clear h hr h2
      go_enter Tryz.func111, Tryz.ntmps111
      go_wp2_with fail
      go_ret
      exact ⟨rfl, rfl⟩
  · have e : r = false := by rw [← h]; simp; omega
    subst e
    have d1 : decide (0 ≤ n) = false := by simpa using h1
    clear h hr h1
    go_enter Tryz.func111, Tryz.ntmps111
    go_wp2_with fail
    go_ret
    exact ⟨rfl, rfl⟩
theorem cell_of {W x : World} {p : Addr} {u : Value} (hb : Below W.heap.size W x) (h : W.cell? p = some u) : x.cell? p = some u :=
  (hb.cell (World.block_lt_of_cell? W _ h)).trans h
theorem right_any (a b : Int) (w : World) :
    Calls Tryz.prog 68 #[.agg #[.int .i64 a, .int .i64 b]] w fun e w' => e = .returned (.bool (M.rightB a b)) ∧ Below w.heap.size w w' := by
  have HB := Lib.hid ((Below.refl w.heap.size w).alloc (Nat.le_refl _) (.cells #[.int .i64 a, .int .i64 b] 39))
  have C1 := Lib.hid (fun x => isValue_any a x)
  have C2 := Lib.hid (fun x => isValue_any b x)
  unfold M.rightB
  obtain ⟨r, hr⟩ : ∃ r, M.valB a = r := ⟨_, rfl⟩
  obtain ⟨s, hs⟩ : ∃ r, M.valB b = r := ⟨_, rfl⟩
  rw [hr] at C1 ⊢
  rw [hs] at C2 ⊢
  clear hr hs
  cases r
  · go_enter Tryz.func68, Tryz.ntmps68
    go_wp2_with fail
    refine (C1.out _).mono ?_
    rintro e w1 ⟨rfl, rfl⟩
    go_wp2_with fail
    go_ret
    exact ⟨rfl, HB.out⟩
  · go_enter Tryz.func68, Tryz.ntmps68
    go_wp2_with fail
    refine (C1.out _).mono ?_
    rintro e w1 ⟨rfl, rfl⟩
    go_wp2_with fail
    refine (C2.out _).mono ?_
    rintro e w1 ⟨rfl, rfl⟩
    go_wp2_with fail
    go_ret
    exact ⟨rfl, HB.out⟩
set_option maxHeartbeats 400000 in
theorem rright_any (a b : Int) (w : World) :
    Calls Tryz.prog 32 #[.agg #[.int .i64 a, .int .i64 b]] w fun e w' => e = .returned (.bool (M.rightB a b)) ∧ Below w.heap.size w w' := by
  have HB := Lib.hid ((Below.refl w.heap.size w).alloc (Nat.le_refl _) (.cells #[.int .i64 a, .int .i64 b] 39))
  obtain ⟨r, hr⟩ : ∃ r, M.rightB a b = r := ⟨_, rfl⟩
  rw [hr]
  have h := hr
  unfold M.rightB M.valB at h
  by_cases h1 : 0 ≤ a
  · by_cases h2 : a ≤ 1125899906842624
    · by_cases h3 : 0 ≤ b
      · by_cases h4 : b ≤ 1125899906842624
        · have e : r = true := by rw [← h]; simp [h1, h2, h3, h4]
          subst e
          clear h hr
          go_enter Tryz.func32, Tryz.ntmps32
          go_wp2_with fail
          go_ret
          exact ⟨rfl, HB.out⟩
        · have e : r = false := by rw [← h]; simp [h1, h2, h3, h4]
          subst e
          have d4 : decide (b ≤ 1125899906842624) = false := by simpa using h4
          clear h hr h4
          go_enter Tryz.func32, Tryz.ntmps32
          go_wp2_with fail
          go_ret
          exact ⟨rfl, HB.out⟩
      · have e : r = false := by rw [← h]; simp [h1, h2, h3]
        subst e
        have d3 : decide (0 ≤ b) = false := by simpa using h3
        clear h hr h3
        go_enter Tryz.func32, Tryz.ntmps32
        go_wp2_with fail
        go_ret
        exact ⟨rfl, HB.out⟩
    · have e : r = false := by rw [← h]; simp [h1, h2]
      subst e
      have d2 : decide (a ≤ 1125899906842624) = false := by simpa using h2
      clear h hr h2
      go_enter Tryz.func32, Tryz.ntmps32
      go_wp2_with fail
      go_ret
      exact ⟨rfl, HB.out⟩
  · have e : r = false := by rw [← h]; simp [h1]
    subst e
    have d1 : decide (0 ≤ a) = false := by simpa using h1
    clear h hr h1
    go_enter Tryz.func32, Tryz.ntmps32
    go_wp2_with fail
    go_ret
    exact ⟨rfl, HB.out⟩
end Go.Proofs.YtlihgaejkadonaaGreatDoor
namespace Go.Proofs.YtlihgaejkadonaaGreatDoor
open Go.RowKit

theorem M.putS_size (s : ByteArray) (n z : Int) : (M.putS s n z).size ≤ s.size + 7 := by
  unfold M.putS
  split
  · rename_i h
    obtain ⟨a, b, rfl, rfl, h1, h7, _⟩ := M.fits_nat h
    simp only [Int.toNat_natCast, ByteArray.size_append]
    have : (⟨(M.be a b).toArray⟩ : ByteArray).size = b := by show (M.be a b).toArray.size = b; simp [M.be_len]
    omega
  · omega
/-- What Put answers. -/
def M.vput (s : ByteArray) (a b : Int) : ByteArray := M.putS (M.putS s a 7) b 7
theorem ret_s {a b : ByteArray} (h : a = b) : Ending.returned (.string a) = .returned (.string b) := by rw [h]
/-- The cells of one vector. -/
theorem one_cells (w : World) (a b : Int) (t : TypeId) : ∀ y, Below (w.alloc (.cells #[.int .i64 a, .int .i64 b] t)).heap.size (w.alloc (.cells #[.int .i64 a, .int .i64 b] t)) y →
    y.cell? ⟨w.heap.size, 0, none⟩ = some (.int .i64 a) ∧ y.cell? ⟨w.heap.size, 1, none⟩ = some (.int .i64 b) := by
  intro y hb
  refine ⟨cell_of hb ?_, cell_of hb ?_⟩ <;> simp [go_sem]
theorem vput_any (s : ByteArray) (a b : Int) (w : World) (hs : s.size ≤ 50000) (ha : a ≤ 9223372036854775807) (hb : b ≤ 9223372036854775807) :
    Calls Tryz.prog 62 #[.string s, .agg #[.int .i64 a, .int .i64 b]] w fun e w' => e = .returned (.string (M.vput s a b)) ∧ Below w.heap.size w w' := by
  have HB := Lib.hid ((Below.refl w.heap.size w).alloc (Nat.le_refl _) (.cells #[.int .i64 a, .int .i64 b] 39))
  have HS := Lib.hid (one_cells w a b 39)
  have hz := M.putS_size s a 7
  go_enter Tryz.func62, Tryz.ntmps62
  go_wp2_with fail
  obtain ⟨W, hW⟩ : ∃ W, W = w.alloc (.cells #[.int .i64 a, .int .i64 b] 39) := ⟨_, rfl⟩
  rw [← hW] at HS HB
  rw [← hW]
  clear hW
  have hb0 : Below W.heap.size W W := Below.refl _ _
  have hS0 := HS.out W hb0
  go_region_held3 (fun x => x.cell? ⟨w.heap.size, 0, none⟩ = some (.int .i64 a) ∧ x.cell? ⟨w.heap.size, 1, none⟩ = some (.int .i64 b)) (first | assumption) (first | (go_at_call 61; refine (Held.call HS (by first | assumption | exact Below.drew (by assumption)) (put_any _ _ 7 _ (by omega) (by omega) (by omega) (by omega))).mono ?_; rintro e w1 ⟨rfl, hb1, hS1⟩))
  have hB := Lib.hid (HB.out.trans (hb1.mono HB.out.size))
  go_wp2_with fail
  go_ret
  exact ⟨rfl, hB.out⟩
end Go.Proofs.YtlihgaejkadonaaGreatDoor
