/-
  Plain mathematics for LogscanTells: both disks behind what was laid, and what the three scans of one log tell. No function of the program is walked in this text.
-/
import Derived.Test.YtfdbfafpcbdbdaaGreatMS
import Derived.Test.YtfdbfafpcbdbdaaGreatMT
import Derived.Test.YtfdbfafpcbdbdaaGreatMJ
namespace Go.Proofs.YtfdbfafpcbdbdaaGreat
open Go.RowKit

section
variable {σ : Type} {X : M.Rdr σ} {fr mn p0 : Nat} {q0 : Int}
/-- How many records are told, of how many sectors; which numbers they have. -/
theorem M.scan_nums (most k : Nat) (d : σ) (u : Nat) (l : List M.Rec) (hl : 2 * l.length ≤ u) (hu : u ≤ mn) (hq : l.length = 0 ∨ (0 ≤ q0 ∧ q0 < 281474976710656)) :
    2 * (M.scan X fr mn p0 q0 most k d u l).2.2.2.length ≤ (M.scan X fr mn p0 q0 most k d u l).2.2.1 ∧ (M.scan X fr mn p0 q0 most k d u l).2.2.1 ≤ mn ∧ ((M.scan X fr mn p0 q0 most k d u l).2.2.2.length = 0 ∨ (0 ≤ q0 ∧ q0 < 281474976710656)) := by
  induction k generalizing d u l with
  | zero => exact ⟨hl, hu, hq⟩
  | succ k ih =>
    have hn := M.next_n (X := X) (fr := fr) (mn := mn) (d := d) (p := (p0 + u) % mn) (q := q0 + (l.length : Nat)) (left := mn - u)
    rw [M.scan]
    unfold M.scanE
    by_cases h : (M.next X fr mn d ((p0 + u) % mn) (q0 + (l.length : Nat)) (mn - u)).1 ≠ 0 ∨ (M.next X fr mn d ((p0 + u) % mn) (q0 + (l.length : Nat)) (mn - u)).2.1 = 0
    · rw [if_pos h]
      exact ⟨hl, hu, hq⟩
    · obtain ⟨_, n2, n3, _, _, n4, n5⟩ := hn (fun e => h (Or.inr e))
      rw [if_neg h]
      have hq' : 0 ≤ q0 ∧ q0 < 281474976710656 := by
        rcases hq with e | e
        · rw [e] at n4 n5; omega
        · exact e
      split
      · exact ih _ _ _ (by simp; omega) (by omega) (Or.inr hq')
      · exact ⟨by simp; omega, by show u + _ ≤ mn; omega, Or.inr hq'⟩
end
section
variable {σ β : Type} {X : M.Rdr σ} {fr mn p0 : Nat} {q0 : Int} (g : σ → β) (hg : ∀ s, g (X.B s) = g s)
include hg
/-- What a reading keeps, a scan keeps. -/
theorem M.rdr_g (n : Nat) (d : σ) (p : Nat) (acc : ByteArray) : g (M.rdr X fr mn n d p acc).2.2 = g d := by
  induction n generalizing d p acc with
  | zero => rfl
  | succ n ih =>
    rw [M.rdr]
    split
    · rw [ih, hg]
    · exact hg d
theorem M.next_g (d : σ) (p : Nat) (q : Int) (left : Nat) : g (M.next X fr mn d p q left).2.2.2 = g d := by
  unfold M.next
  split
  · rfl
  · have h1 := M.rdr_g (fr := fr) (mn := mn) g hg 1 d p ⟨#[]⟩
    unfold M.next2
    split
    · exact h1
    · split
      · exact h1
      · have h2 := M.rdr_g (fr := fr) (mn := mn) g hg ((M.szN (M.rdr X fr mn 1 d p ⟨#[]⟩).1 q).toNat - 1) (M.rdr X fr mn 1 d p ⟨#[]⟩).2.2 (p + 1) ⟨#[]⟩
        unfold M.next3
        split
        · exact h2.trans h1
        · split
          · exact h2.trans h1
          · exact h2.trans h1
theorem M.scan_g (most k : Nat) (d : σ) (u : Nat) (l : List M.Rec) : g (M.scan X fr mn p0 q0 most k d u l).2.1 = g d := by
  induction k generalizing d u l with
  | zero => rfl
  | succ k ih =>
    have hn := M.next_g (fr := fr) (mn := mn) g hg d ((p0 + u) % mn) (q0 + (l.length : Nat)) (mn - u)
    rw [M.scan]
    unfold M.scanE
    split
    · exact hn
    · split
      · exact (ih _ _ _).trans hn
      · exact hn
end
section
variable {fr mn p0 : Nat} {q0 : Int}
theorem M.scan_fails (most k : Nat) (d : M.D) (u : Nat) (l : List M.Rec) (h : d.fails = []) : (M.scan M.dR fr mn p0 q0 most k d u l).2.1.fails = [] := by
  induction k generalizing d u l with
  | zero => exact h
  | succ k ih =>
    have hn := M.next_fails (fr := fr) (mn := mn) ((p0 + u) % mn) (q0 + (l.length : Nat)) (mn - u) h
    rw [M.scan]
    unfold M.scanE
    split
    · exact hn
    · split
      · exact ih _ _ _ hn
      · exact hn
theorem M.scan_ops (most k : Nat) (d : M.D) (u : Nat) (l : List M.Rec) : (M.scan M.dR fr mn p0 q0 most k d u l).2.1.ops ≤ d.ops + 17 * k := by
  induction k generalizing d u l with
  | zero => exact Nat.le_refl _
  | succ k ih =>
    have hn := (M.next_keeps fr mn d ((p0 + u) % mn) (q0 + (l.length : Nat)) (mn - u)).2.2.1
    rw [M.scan]
    unfold M.scanE
    split
    · exact Nat.le_trans hn (by omega)
    · split
      · exact Nat.le_trans (ih _ _ _) (by omega)
      · exact Nat.le_trans hn (by omega)
end

theorem M.lput_calm {d : M.D} {fr mn : Nat} (p : Int) (s : ByteArray) (h : M.Still d fr mn) : M.Still (M.lput d fr mn p s).2 fr mn ∧ (M.lput d fr mn p s).2.ops ≤ d.ops + mn := by
  unfold M.lput
  split
  · exact ⟨h, Nat.le_add_right _ _⟩
  · split
    · exact ⟨h, Nat.le_add_right _ _⟩
    · rename_i h1 h2
      obtain ⟨_, p2, _, p4, _⟩ := M.put_still (p := p.toNat) (n := s.size / 64) (s := s) h (by omega) (by omega)
      exact ⟨p2, by rw [p4]; omega⟩
theorem M.rwr_none : ∀ (L : List (Nat × ByteArray)) (r : M.R), (M.rwr L r).2.fails = r.fails := by
  intro L
  induction L with
  | nil => intro r; rfl
  | cons p L ih =>
    intro r
    have e : (M.rwriteR r (p.1 : Int) p.2).fails = r.fails := by unfold M.rwriteR; split <;> rfl
    rw [M.rwr]
    by_cases hE : M.rwriteE r (p.1 : Int) p.2 = 0
    · rw [if_pos hE, ih, e]
    · rw [if_neg hE]
      exact e
theorem M.rlput_none (r : M.R) (fr mn : Nat) (p : Int) (s : ByteArray) : (M.rlput r fr mn p s).2.fails = r.fails := by
  unfold M.rlput
  split
  · rfl
  · split
    · rfl
    · exact M.rwr_none _ _
theorem M.Same.sizes {d : M.D} {r : M.R} (h : M.Same d r) (hi : M.Inv d) : ∀ s ∈ r.seen, s.size = 64 := by
  intro s hs
  obtain ⟨j, hj, e⟩ := List.getElem_of_mem hs
  have hj' : j < d.S.length := by rw [← h.slen]; exact hj
  have := h.seen j hj'
  rw [List.getElem?_eq_getElem hj, e] at this
  injection this with this
  rw [this]
  exact hi.seen hj'

/-- Both disks, as long as no call was told to fail. -/
structure M.Cal (d : M.D) (r : M.R) (mn k : Nat) : Prop where
  still : M.Still d 5 mn
  same : M.Same d r
  none_ : r.fails = []
  ops : d.ops ≤ 55 * k
theorem M.cal_new {mn : Nat} (h1 : 1 ≤ mn) (h2 : mn ≤ 55) : M.Cal (M.new 60) (M.newR 60) mn 0 := ⟨⟨M.calm_new 60, by simp [M.new]; omega, by omega⟩, M.same_new 60, rfl, Nat.zero_le _⟩
section
variable {d : M.D} {r : M.R} {mn k : Nat}
theorem M.Cal.put (h : M.Cal d r mn k) (hm : mn ≤ 55) (p : Int) (s : ByteArray) : (M.rlput r 5 mn p s).1 = (M.lput d 5 mn p s).1 ∧ M.Cal (M.lput d 5 mn p s).2 (M.rlput r 5 mn p s).2 mn (k + 1) := by
  obtain ⟨e1, e2⟩ := M.lput_sim 5 mn p s h.same
  obtain ⟨e3, e4⟩ := M.lput_calm p s h.still
  exact ⟨e1, e3, e2, by rw [M.rlput_none]; exact h.none_, by have := h.ops; omega⟩
/-- Both disks, where a call may fail if f. -/
structure M.Fal (d : M.D) (r : M.R) (mn : Nat) (f : Prop) (n : Nat) : Prop where
  up : M.Up d d.S d.L
  room : 5 + mn ≤ d.S.length
  same : M.Same d r
  fails : d.fails ≠ [] → f
  ops : d.ops ≤ n
theorem M.Cal.fal (h : M.Cal d r mn k) (hk : k ≤ 30) (f : Prop) : M.Fal d r mn f 1650 :=
  ⟨⟨h.still.calm.dn, h.still.calm.da, rfl, rfl⟩, h.still.room, h.same, fun e => absurd h.still.calm.fails e, by have := h.ops; omega⟩
theorem M.Cal.fail (h : M.Cal d r mn k) (hk : k ≤ 30) (x : Int) : M.Fal (M.failD d ((d.ops : Nat) + x)) (M.rfailR r ((d.ops : Nat) + x)) mn (1 ≤ x) 1650 := by
  have hf := h.still.calm.fails
  have e := h.same.fail ((d.ops : Nat) + x) (by rw [hf]; decide) (by rw [h.none_]; decide)
  have h9 := h.ops
  have hup := h.still.calm
  have hroom := h.still.room
  have hfa : (M.failD d ((d.ops : Nat) + x)).fails ≠ [] → 1 ≤ x := by
    intro hh
    unfold M.failD at hh
    split at hh
    · rename_i hc
      have := hc.1
      omega
    · exact absurd hf hh
  have hx : M.failD d ((d.ops : Nat) + x) = { d with fails := (M.failD d ((d.ops : Nat) + x)).fails } := by
    unfold M.failD
    split <;> rfl
  refine ⟨?_, ?_, e, hfa, ?_⟩
  · rw [hx]; exact ⟨hup.dn, hup.da, rfl, rfl⟩
  · rw [hx]; exact hroom
  · rw [hx]; show d.ops ≤ _; omega
/-- Both scans tell the same. -/
theorem M.Fal.scan {f : Prop} {n : Nat} (h : M.Fal d r mn f n) (h1 : 1 ≤ mn) (h2 : mn ≤ 55) (p0 : Nat) (q0 : Int) (most : Nat) :
    (M.scan M.rR 5 mn p0 q0 most (mn + 1) r 0 []).1 = (M.scan M.dR 5 mn p0 q0 most (mn + 1) d 0 []).1 ∧ (M.scan M.rR 5 mn p0 q0 most (mn + 1) r 0 []).2.2 = (M.scan M.dR 5 mn p0 q0 most (mn + 1) d 0 []).2.2
    ∧ M.Fal (M.scan M.dR 5 mn p0 q0 most (mn + 1) d 0 []).2.1 (M.scan M.rR 5 mn p0 q0 most (mn + 1) r 0 []).2.1 mn f (n + 1000) := by
  obtain ⟨s1, s2, s3⟩ := M.scan_sim M.sim_dR (fr := 5) (mn := mn) p0 q0 most (mn + 1) d r 0 [] h.same
  obtain ⟨u1, _⟩ := h.up.scan (p0 := p0) (q0 := q0) (by omega) h.room most (mn + 1) d 0 []
  have ho := M.scan_ops (fr := 5) (mn := mn) (p0 := p0) (q0 := q0) most (mn + 1) d 0 []
  refine ⟨s1, s2, ⟨u1.dn, u1.da, rfl, rfl⟩, by rw [u1.S]; exact h.room, s3, fun e => ?_, by have := h.ops; omega⟩
  exact h.fails (fun e' => e (M.scan_fails _ _ _ _ _ e'))
end
/-- What the three scans of LogscanTells tell of one another. -/
theorem M.tells {d : M.D} {r : M.R} {mn n : Nat} {f : Prop} (h : M.Fal d r mn f n) (h1 : 1 ≤ mn) (h2 : mn ≤ 55) (p0 : Nat) (q0 : Int) {s1 s2 s3 : Int × M.D × Nat × List M.Rec}
    (e1 : s1 = M.scan M.dR 5 mn p0 q0 1000 (mn + 1) d 0 []) (e2 : s2 = M.scan M.dR 5 mn p0 q0 1000 (mn + 1) s1.2.1 0 []) (e3 : s3 = M.scan M.dR 5 mn p0 q0 2 (mn + 1) s2.2.1 0 []) :
    (s2.1 = 0 → s1.2.2.1 ≤ s2.2.2.1) ∧ (s2.1 = 0 → ∃ t, s2.2.2.2 = s3.2.2.2 ++ t) ∧ (s2.1 = 0 → s3.1 = 0 → s3.2.2.2.length = min 2 s2.2.2.2.length) ∧ (s3.1 = 0 ∨ (s3.1 = 30 ∧ f)) := by
  obtain ⟨a1, a2⟩ := h.up.scan (p0 := p0) (q0 := q0) (by omega) h.room 1000 (mn + 1) d 0 []
  rw [← e1] at a1 a2
  obtain ⟨b1, b2⟩ := M.Up.scan (p0 := p0) (q0 := q0) (fr := 5) (mn := mn) (by omega) h.room 1000 (mn + 1) s1.2.1 0 [] a1
  rw [← e2] at b1 b2
  obtain ⟨c1, c2⟩ := M.Up.scan (p0 := p0) (q0 := q0) (fr := 5) (mn := mn) (by omega) h.room 2 (mn + 1) s2.2.1 0 [] b1
  rw [← e3] at c1 c2
  have ht := M.scan_take (X := M.cR d.S d.L) (fr := 5) (mn := mn) (p0 := p0) (q0 := q0) (show 2 ≤ 1000 by omega) (mn + 1) () 0 [] (by decide)
  have hf1 : d.fails = [] → s1.2.1.fails = [] := fun e => by rw [e1]; exact M.scan_fails _ _ _ _ _ e
  have hf2 : s1.2.1.fails = [] → s2.2.1.fails = [] := fun e => by rw [e2]; exact M.scan_fails _ _ _ _ _ e
  obtain ⟨C, hC⟩ : ∃ C, C = M.scan (M.cR d.S d.L) 5 mn p0 q0 1000 (mn + 1) () 0 [] := ⟨_, rfl⟩
  obtain ⟨C2, hC2⟩ : ∃ C, C = M.scan (M.cR d.S d.L) 5 mn p0 q0 2 (mn + 1) () 0 [] := ⟨_, rfl⟩
  rw [← hC] at a2 b2 ht
  rw [← hC2] at c2 ht
  clear hC hC2 e1 e2 e3
  have hs2 : s2.1 = 0 → s2.2.2 = C.2.2 := fun e => by
    rcases b2 with ⟨_, j⟩ | ⟨j, _⟩
    · exact j
    · rw [e] at j; exact absurd j (by decide)
  refine ⟨fun e => ?_, fun e => ?_, fun e e' => ?_, ?_⟩
  · rw [hs2 e]
    rcases a2 with ⟨_, j⟩ | ⟨_, _, j, _⟩
    · rw [j]; exact Nat.le_refl _
    · exact j
  · rw [hs2 e]
    rcases c2 with ⟨_, j⟩ | ⟨_, _, _, t, j⟩
    · rw [j, ht]
      exact ⟨_, (List.take_append_drop 2 C.2.2.2).symm⟩
    · rw [ht] at j
      exact ⟨t ++ C.2.2.2.drop 2, by rw [← List.append_assoc, ← j, List.take_append_drop]⟩
  · rw [hs2 e]
    rcases c2 with ⟨_, j⟩ | ⟨j, _⟩
    · rw [j, ht, List.length_take]
    · rw [e'] at j; exact absurd j (by decide)
  · rcases c2 with ⟨j, _⟩ | ⟨j, j2, _⟩
    · exact Or.inl j
    · exact Or.inr ⟨j, h.fails (fun e => j2 (hf2 (hf1 e)))⟩
end Go.Proofs.YtfdbfafpcbdbdaaGreat
