/-
  A log on a disk where no call fails: mathematics.
-/
import Derived.Test.YtncbbejmibddcaaGreatDoorNE
import Derived.Test.YtncbbejmibddcaaGreatDoorMH
import Derived.Test.YtncbbejmibddcaaGreatDoorME
import Derived.Test.YtncbbejmibddcaaGreatDoorMG
namespace Go.Proofs.YtncbbejmibddcaaGreatDoor
open Go.RowKit

theorem M.nil_app14 (s : ByteArray) : (⟨#[]⟩ : ByteArray) ++ s = s := ByteArray.empty_append

theorem M.flush_still {d : M.D} {fr mn : Nat} (h : M.Still d fr mn) :
    M.beginE d = 0 ∧ M.Still (M.flushD d) fr mn ∧ (M.flushD d).S.length = d.S.length ∧ (M.flushD d).ops = d.ops + 1 ∧ (M.flushD d).L = [] ∧ ∀ k, k < d.S.length → M.seen (M.flushD d).S (M.flushD d).L k = M.seen d.S d.L k := by
  rw [h.calm.flushD]
  have hl : (M.flushC d).S.length = d.S.length := M.rounds_len _ _ _ _
  refine ⟨h.calm.E, ⟨h.calm.flush, by rw [hl]; exact h.room, h.some_⟩, hl, rfl, rfl, fun k hk => ?_⟩
  have e := M.rounds_all d.S d.L k hk d.L.length (Nat.le_refl _)
  rw [List.take_length] at e
  show (M.seen0 [] k).getD ((M.rounds (fun _ => true) d.S d.L d.L.length).getD k ByteArray.empty) = _
  rw [M.seen0_nil, List.getD_eq_getElem?_getD, e]
  rfl

theorem M.headW_wr (d : M.D) (fr mn g q k : Nat) (hm : 2 ≤ mn) : M.headW d fr mn g q k = M.wr [(fr + g % 2, M.hwhole ⟨(g : Nat), (q : Nat), (k : Nat)⟩)] d := by
  unfold M.headW
  rw [M.gwrite_one d fr mn (g % 2) _ (by omega) (M.hwhole_size _)]
  unfold M.wr
  split
  · rename_i h
    simp only at h
    rw [h]
    rfl
  · rfl

theorem M.headW_still {d : M.D} {fr mn g q k : Nat} (h : M.Still d fr mn) (hm : 2 ≤ mn) :
    (M.headW d fr mn g q k).1 = 0 ∧ M.Still (M.headW d fr mn g q k).2 fr mn ∧ (M.headW d fr mn g q k).2.S.length = d.S.length ∧ (M.headW d fr mn g q k).2.ops = d.ops + 1
    ∧ ∀ j, M.seen (M.headW d fr mn g q k).2.S (M.headW d fr mn g q k).2.L j = if j = fr + g % 2 then M.hwhole ⟨(g : Nat), (q : Nat), (k : Nat)⟩ else M.seen d.S d.L j := by
  rw [M.headW_wr d fr mn g q k hm]
  obtain ⟨h1, h2, h3, h4, h5⟩ := M.wr_still (fr := fr) (mn := mn) [(fr + g % 2, M.hwhole ⟨(g : Nat), (q : Nat), (k : Nat)⟩)] d h (by
    intro x hx
    simp only [List.mem_singleton] at hx
    subst hx
    exact ⟨by have := h.room; omega, M.hwhole_size _⟩)
  refine ⟨h1, h2, by rw [h3], h5, fun j => ?_⟩
  rw [h3, h4]
  unfold M.seen
  rw [M.seen0_snoc]
  simp only
  by_cases e : fr + g % 2 = j
  · subst e
    simp
  · rw [if_neg e, if_neg (fun e' => e e'.symm)]

/-- Sectors that may be laid down. -/
def M.Fit14 (n : Nat) (L : List (Nat × ByteArray)) : Prop := ∀ x ∈ L, x.1 < n ∧ x.2.size = 64

/-- These are the disks of the steps. -/
structure M.Mv14 (d0 d1 d2 d3 d4 d5 : M.D) (L : List (Nat × ByteArray)) (fr mn g q k : Nat) : Prop where
  e1 : d1 = M.flushD d0
  e2 : d2 = (M.wr L d1).2
  e3 : d3 = M.flushD d2
  e4 : d4 = (M.headW d3 fr mn g q k).2
  e5 : d5 = M.flushD d4
  z0 : M.beginE d0 = 0
  z1 : (M.wr L d1).1 = 0
  z2 : M.beginE d2 = 0
  z3 : (M.headW d3 fr mn g q k).1 = 0
  z4 : M.beginE d4 = 0
  o1 : d1.ops = d0.ops + 1
  o2 : d2.ops = d1.ops + L.length
  o3 : d3.ops = d2.ops + 1
  o4 : d4.ops = d3.ops + 1
  o5 : d5.ops = d4.ops + 1
  still : M.Still d5 fr mn
  len : d5.S.length = d0.S.length

theorem M.mv14 {d : M.D} {L : List (Nat × ByteArray)} {fr mn : Nat} (g q k : Nat) (h : M.Still d fr mn) (hL : M.Fit14 d.S.length L) (hm : 2 ≤ mn) : ∃ d1 d2 d3 d4 d5, M.Mv14 d d1 d2 d3 d4 d5 L fr mn g q k := by
  obtain ⟨a1, a2, a3, a4, -, -⟩ := M.flush_still h
  obtain ⟨d1, x1⟩ : ∃ x, x = M.flushD d := ⟨_, rfl⟩
  rw [← x1] at a2 a3 a4
  obtain ⟨b1, b2, b3, b4, b5⟩ := M.wr_still (fr := fr) (mn := mn) L d1 a2 (by rw [a3]; exact hL)
  obtain ⟨d2, x2⟩ : ∃ x, x = (M.wr L d1).2 := ⟨_, rfl⟩
  rw [← x2] at b2 b3 b5
  obtain ⟨c1, c2, c3, c4, -, -⟩ := M.flush_still b2
  obtain ⟨d3, x3⟩ : ∃ x, x = M.flushD d2 := ⟨_, rfl⟩
  rw [← x3] at c2 c3 c4
  obtain ⟨e1, e2, e3, e4, -⟩ := M.headW_still (g := g) (q := q) (k := k) c2 hm
  obtain ⟨d4, x4⟩ : ∃ x, x = (M.headW d3 fr mn g q k).2 := ⟨_, rfl⟩
  rw [← x4] at e2 e3 e4
  obtain ⟨f1, f2, f3, f4, -, -⟩ := M.flush_still e2
  obtain ⟨d5, x5⟩ : ∃ x, x = M.flushD d4 := ⟨_, rfl⟩
  rw [← x5] at f2 f3 f4
  exact ⟨d1, d2, d3, d4, d5, x1, x2, x3, x4, x5, a1, b1, c1, e1, f1, a4, b5, c4, e4, f4, f2, by rw [f3, e3, c3, b3, a3]⟩

theorem M.piece_zeros (n j : Nat) (hj : j < n) : M.piece (M.zeros (64 * n)) j = M.zeros 64 := by
  apply ByteArray.ext
  show ((M.zeros (64 * n)).extract (64 * j) (64 * j + 64)).data = (List.replicate 64 (0 : UInt8)).toArray
  rw [ByteArray.data_extract]
  show (List.replicate (64 * n) (0 : UInt8)).toArray.extract (64 * j) (64 * j + 64) = _
  rw [List.toArray_replicate, List.toArray_replicate, Array.extract_replicate]
  congr 1
  omega

/-- These are the disks of Format's steps. -/
structure M.Fm14 (d0 d1 d2 d3 d4 : M.D) (fr mn : Nat) : Prop where
  e1 : d1 = (M.gwrite d0 fr mn 0 (M.zeros (64 * mn))).2
  e2 : d2 = M.flushD d1
  e3 : d3 = (M.headW d2 fr mn 1 1 0).2
  e4 : d4 = M.flushD d3
  z0 : (M.gwrite d0 fr mn 0 (M.zeros (64 * mn))).1 = 0
  z1 : M.beginE d1 = 0
  z2 : (M.headW d2 fr mn 1 1 0).1 = 0
  z3 : M.beginE d3 = 0
  o1 : d1.ops = d0.ops + mn
  o2 : d2.ops = d1.ops + 1
  o3 : d3.ops = d2.ops + 1
  o4 : d4.ops = d3.ops + 1
  still : M.Still d4 fr mn
  len : d4.S.length = d0.S.length
  seen : ∀ j, j < mn → M.seen d4.S d4.L (fr + j) = if j = 1 then M.hwhole ⟨1, 1, 0⟩ else M.zeros 64

theorem M.fm14 {d : M.D} {fr mn : Nat} (h : M.Still d fr mn) (hL : d.L = []) (hm : 2 ≤ mn) : ∃ d1 d2 d3 d4, M.Fm14 d d1 d2 d3 d4 fr mn := by
  have hg : M.gwrite d fr mn 0 (M.zeros (64 * mn)) = M.wr (M.cut mn fr (M.zeros (64 * mn))) d := by
    have e1 : (M.zeros (64 * mn)).size = 64 * mn := M.zeros_size _
    have e2 : 64 * mn / 64 = mn := by omega
    have hs : M.gsplit fr mn 0 (M.zeros (64 * mn)) = (M.cut mn fr (M.zeros (64 * mn)), 0) := by
      unfold M.gsplit
      rw [e1, if_pos (by omega), e2, if_pos (by simp [M.within])]
      rfl
    unfold M.gwrite
    rw [hs]
    rfl
  obtain ⟨a1, a2, a3, a4, a5⟩ := M.wr_still (fr := fr) (mn := mn) (M.cut mn fr (M.zeros (64 * mn))) d h (by
    intro x hx
    obtain ⟨j, hj, rfl⟩ := M.cut_mem hx
    exact ⟨by have := h.room; omega, by rw [M.piece_zeros mn j hj, M.zeros_size]⟩)
  rw [← hg] at a1 a2 a3 a4 a5
  obtain ⟨d1, x1⟩ : ∃ x, x = (M.gwrite d fr mn 0 (M.zeros (64 * mn))).2 := ⟨_, rfl⟩
  rw [← x1] at a2 a3 a4 a5
  rw [M.cut_len] at a5
  obtain ⟨b1, b2, b3, b4, -, b6⟩ := M.flush_still a2
  obtain ⟨d2, x2⟩ : ∃ x, x = M.flushD d1 := ⟨_, rfl⟩
  rw [← x2] at b2 b3 b4 b6
  obtain ⟨c1, c2, c3, c4, c5⟩ := M.headW_still (g := 1) (q := 1) (k := 0) b2 hm
  obtain ⟨d3, x3⟩ : ∃ x, x = (M.headW d2 fr mn 1 1 0).2 := ⟨_, rfl⟩
  rw [← x3] at c2 c3 c4 c5
  obtain ⟨f1, f2, f3, f4, -, f6⟩ := M.flush_still c2
  obtain ⟨d4, x4⟩ : ∃ x, x = M.flushD d3 := ⟨_, rfl⟩
  rw [← x4] at f2 f3 f4 f6
  refine ⟨d1, d2, d3, d4, x1, x2, x3, x4, a1, b1, c1, f1, a5, b4, c4, f4, f2, by rw [f3, c3, b3, a3], fun j hj => ?_⟩
  have hr := h.room
  rw [f6 _ (by rw [c3, b3, a3]; omega), c5]
  by_cases e : j = 1
  · subst e
    rw [if_pos rfl, if_pos rfl]
    rfl
  · rw [if_neg (by omega), if_neg e, b6 _ (by rw [a3]; omega), a3, a4, hL, List.nil_append]
    unfold M.seen
    rw [M.seen_cut, if_pos (by omega)]
    simp only [Option.getD_some]
    rw [show fr + j - fr = j by omega]
    exact M.piece_zeros mn j hj

/-- The two first sectors are read. -/
theorem M.heads14 {d : M.D} {fr mn : Nat} (h : M.Still d fr mn) (hm : 2 ≤ mn) :
    ∃ d', M.gread d fr mn 0 2 = (M.seen d.S d.L fr ++ M.seen d.S d.L (fr + 1), 0, d') ∧ M.Still d' fr mn ∧ d'.S = d.S ∧ d'.L = d.L ∧ d'.ops = d.ops + 2 := by
  have hr := h.room
  have hw : M.within 0 2 (mn : Nat) = true := by simp [M.within]; omega
  obtain ⟨e1, e2⟩ := h.calm.readE (k := fr) (by omega)
  have e3 : M.beginD d = { d with ops := d.ops + 1 } := h.calm.D
  have h2 := h.begin
  obtain ⟨e4, e5⟩ := h2.calm.readE (k := fr + 1) (by rw [e3]; show fr + 1 < d.S.length; omega)
  have e6 : M.beginD (M.beginD d) = { M.beginD d with ops := (M.beginD d).ops + 1 } := h2.calm.D
  refine ⟨M.beginD (M.beginD d), ?_, h2.begin, by rw [e6, e3], by rw [e6, e3], by rw [e6, e3]⟩
  unfold M.gread
  rw [if_pos hw]
  show M.rd 2 d (fr + 0) ⟨#[]⟩ = _
  have e7 : M.readS (M.beginD d) ((fr + 1 : Nat) : Int) = M.seen d.S d.L (fr + 1) := by rw [e5, e3]
  rw [M.rd, if_pos (by exact e1), M.rd, if_pos (by exact e4), M.rd]
  show ((⟨#[]⟩ : ByteArray) ++ M.readS d ((fr : Nat) : Int) ++ M.readS (M.beginD d) ((fr + 1 : Nat) : Int), (0 : Int), M.beginD (M.beginD d)) = _
  rw [e2, e7, M.nil_app14]
end Go.Proofs.YtncbbejmibddcaaGreatDoor
