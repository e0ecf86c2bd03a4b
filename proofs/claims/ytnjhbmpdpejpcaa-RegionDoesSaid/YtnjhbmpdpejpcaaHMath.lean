/-
  The parts of both disks do the same: the mathematics of layer 9. No function of the program is walked in this text.
-/
import Derived.Test.YtnjhbmpdpejpcaaHWrite
namespace Go.Proofs.Ytnjhbmpdpejpcaa
open Go.RowKit

theorem M.same_rd (n : Nat) : ∀ (d : M.D) (r : M.R) (at_ : Nat) (acc : ByteArray), M.Same d r → (M.rrd n r at_ acc).1 = (M.rd n d at_ acc).1 ∧ (M.rrd n r at_ acc).2.1 = (M.rd n d at_ acc).2.1 ∧ M.Same (M.rd n d at_ acc).2.2 (M.rrd n r at_ acc).2.2 := by
  induction n with
  | zero => intro d r at_ acc h; exact ⟨rfl, rfl, h⟩
  | succ n ih =>
    intro d r at_ acc h
    rw [M.rd, M.rrd, h.readE, h.readS]
    by_cases hE : M.readE d at_ = 0
    · rw [if_pos hE, if_pos hE]
      exact ih _ _ _ _ h.begin
    · rw [if_neg hE, if_neg hE]
      exact ⟨rfl, rfl, h.begin⟩
theorem M.same_wr : ∀ (L : List (Nat × ByteArray)) (d : M.D) (r : M.R), M.Same d r → (M.rwr L r).1 = (M.wr L d).1 ∧ M.Same (M.wr L d).2 (M.rwr L r).2 := by
  intro L
  induction L with
  | nil => intro d r h; exact ⟨rfl, h⟩
  | cons p L ih =>
    intro d r h
    rw [M.wr, M.rwr, h.writeE]
    by_cases hE : M.writeE d (p.1 : Int) p.2 = 0
    · rw [if_pos hE, if_pos hE]
      exact ih _ _ (h.write _ _)
    · rw [if_neg hE, if_neg hE]
      exact ⟨rfl, h.write _ _⟩
theorem M.rd_small (n : Nat) : ∀ (d : M.D) (at_ : Nat) (acc : ByteArray), (M.rd n d at_ acc).2.2.ops ≤ d.ops + n ∧ (M.rd n d at_ acc).2.2.fails.length ≤ d.fails.length := by
  induction n with
  | zero => intro d at_ acc; exact ⟨Nat.le_refl _, Nat.le_refl _⟩
  | succ n ih =>
    intro d at_ acc
    have hb : (M.beginD d).ops = d.ops + 1 := rfl
    have hf := M.beginD_len d
    rw [M.rd]
    by_cases hE : M.readE d at_ = 0
    · rw [if_pos hE]
      obtain ⟨h1, h2⟩ := ih (M.beginD d) (at_ + 1) (acc ++ M.readS d at_)
      exact ⟨by omega, by omega⟩
    · rw [if_neg hE]
      exact ⟨by show (M.beginD d).ops ≤ _; omega, hf⟩
theorem M.rrd_small (n : Nat) : ∀ (r : M.R) (at_ : Nat) (acc : ByteArray), (M.rrd n r at_ acc).2.2.fails = r.fails := by
  induction n with
  | zero => intro r at_ acc; rfl
  | succ n ih =>
    intro r at_ acc
    rw [M.rrd]
    by_cases hE : M.rreadE r at_ = 0
    · rw [if_pos hE]
      exact ih _ _ _
    · rw [if_neg hE]
      rfl
theorem M.writeD_len (d : M.D) (i : Int) (s : ByteArray) : (M.writeD d i s).fails.length ≤ d.fails.length := by
  have hf := M.beginD_len d
  unfold M.writeD
  split
  · exact hf
  · exact hf
theorem M.rwriteR_fails (r : M.R) (i : Int) (s : ByteArray) : (M.rwriteR r i s).fails = r.fails := by
  unfold M.rwriteR
  split <;> rfl
theorem M.wr_small : ∀ (L : List (Nat × ByteArray)) (d : M.D), (M.wr L d).2.ops ≤ d.ops + L.length ∧ (M.wr L d).2.fails.length ≤ d.fails.length := by
  intro L
  induction L with
  | nil => intro d; exact ⟨Nat.le_refl _, Nat.le_refl _⟩
  | cons p L ih =>
    intro d
    have hb := M.writeD_ops d (p.1 : Int) p.2
    have hf := M.writeD_len d (p.1 : Int) p.2
    have hl : (p :: L).length = L.length + 1 := rfl
    rw [M.wr]
    by_cases hE : M.writeE d (p.1 : Int) p.2 = 0
    · rw [if_pos hE]
      obtain ⟨h1, h2⟩ := ih (M.writeD d (p.1 : Int) p.2)
      exact ⟨by omega, by omega⟩
    · rw [if_neg hE]
      exact ⟨by show (M.writeD d (p.1 : Int) p.2).ops ≤ _; omega, hf⟩
theorem M.rwr_small : ∀ (L : List (Nat × ByteArray)) (r : M.R), (M.rwr L r).2.fails = r.fails := by
  intro L
  induction L with
  | nil => intro r; rfl
  | cons p L ih =>
    intro r
    rw [M.rwr]
    by_cases hE : M.rwriteE r (p.1 : Int) p.2 = 0
    · rw [if_pos hE, ih, M.rwriteR_fails]
    · rw [if_neg hE]
      exact M.rwriteR_fails _ _ _

/-- Both disks behind i steps. -/
structure M.Run (d : M.D) (r : M.R) (i : Nat) : Prop where
  same : M.Same d r
  fd : d.fails.length ≤ i
  fr : r.fails.length ≤ i
  ops : d.ops ≤ 1000 * i
theorem M.run_new : M.Run (M.new 12) (M.newR 12) 0 := ⟨M.same_new 12, Nat.le_refl _, Nat.le_refl _, Nat.le_refl _⟩
section
variable {d : M.D} {r : M.R} {i : Nat}
theorem M.Run.rops (h : M.Run d r i) : r.ops ≤ 1000 * i := by rw [h.same.ops]; exact h.ops
theorem M.Run.skip (h : M.Run d r i) : M.Run d r (i + 1) := ⟨h.same, by have := h.fd; omega, by have := h.fr; omega, by have := h.ops; omega⟩
theorem M.Run.sizes (h : M.Run d r i) (hi : M.Inv d) : ∀ s ∈ r.seen, s.size = 64 := by
  intro s hs
  obtain ⟨j, hj, e⟩ := List.getElem_of_mem hs
  have hj' : j < d.S.length := by rw [← h.same.slen]; exact hj
  have := h.same.seen j hj'
  rw [List.getElem?_eq_getElem hj, e] at this
  injection this with this
  rw [this]
  exact hi.seen hj'
theorem M.Run.read (h : M.Run d r i) (fr mn : Nat) (hmn : mn ≤ 1000) (at_ m : Int) : (M.hread r fr mn at_ m).1 = (M.gread d fr mn at_ m).1 ∧ (M.hread r fr mn at_ m).2.1 = (M.gread d fr mn at_ m).2.1 ∧ M.Run (M.gread d fr mn at_ m).2.2 (M.hread r fr mn at_ m).2.2 (i + 1) := by
  unfold M.hread M.gread
  by_cases hw : M.within at_ m (mn : Nat) = true
  · rw [if_pos hw, if_pos hw]
    obtain ⟨h0, h1, h2⟩ := M.within_yes hw
    obtain ⟨s1, s2, s3⟩ := M.same_rd m.toNat d r (fr + at_.toNat) ⟨#[]⟩ h.same
    obtain ⟨q1, q2⟩ := M.rd_small m.toNat d (fr + at_.toNat) ⟨#[]⟩
    have q3 := M.rrd_small m.toNat r (fr + at_.toNat) ⟨#[]⟩
    exact ⟨s1, s2, s3, by have := h.fd; omega, by rw [q3]; have := h.fr; omega, by have := h.ops; omega⟩
  · rw [if_neg hw, if_neg hw]
    exact ⟨rfl, rfl, h.skip⟩
theorem M.Run.write (h : M.Run d r i) (fr mn : Nat) (hmn : mn ≤ 1000) (at_ : Int) (s : ByteArray) : (M.hwrite r fr mn at_ s).1 = (M.gwrite d fr mn at_ s).1 ∧ M.Run (M.gwrite d fr mn at_ s).2 (M.hwrite r fr mn at_ s).2 (i + 1) := by
  unfold M.hwrite M.gwrite
  by_cases hE : (M.gsplit fr mn at_ s).2 = 0
  · rw [if_pos hE, if_pos hE]
    have hl : (M.gsplit fr mn at_ s).1.length ≤ 1000 := by
      unfold M.gsplit
      split
      · split
        · rename_i hw
          obtain ⟨h0, h1, h2⟩ := M.within_yes hw
          show (M.cut _ _ _).length ≤ 1000
          rw [M.cut_len]
          omega
        · exact Nat.zero_le _
      · exact Nat.zero_le _
    obtain ⟨s1, s2⟩ := M.same_wr (M.gsplit fr mn at_ s).1 d r h.same
    obtain ⟨q1, q2⟩ := M.wr_small (M.gsplit fr mn at_ s).1 d
    have q3 := M.rwr_small (M.gsplit fr mn at_ s).1 r
    exact ⟨s1, s2, by have := h.fd; omega, by rw [q3]; have := h.fr; omega, by have := h.ops; omega⟩
  · rw [if_neg hE, if_neg hE]
    exact ⟨rfl, h.skip⟩
theorem M.Run.flush (h : M.Run d r i) : M.callE r = M.beginE d ∧ M.Run (M.flushD d) (M.rflushR r) (i + 1) := by
  have hb := M.beginD_len d
  have hf := h.fd
  have hr := h.fr
  have ho := h.ops
  refine ⟨h.same.callE, h.same.flush, ?_, ?_, ?_⟩
  · unfold M.flushD
    split
    · show (M.beginD d).fails.length ≤ _; omega
    · omega
  · unfold M.rflushR
    split
    · show r.fails.length ≤ _; omega
    · show r.fails.length ≤ _; omega
  · unfold M.flushD
    split
    · show d.ops + 1 ≤ _; omega
    · show d.ops + 1 ≤ _; omega
theorem M.Run.fail (h : M.Run d r i) (hi : i < 100) (x : Int) : M.Run (M.failD d x) (M.rfailR r x) (i + 1) := by
  have h1 := M.failD_len d x
  have h2 := M.rfailR_len r x
  have hf := h.fd
  have hr := h.fr
  have ho := h.ops
  refine ⟨h.same.fail x (by omega) (by omega), by omega, by omega, ?_⟩
  unfold M.failD
  split
  · show d.ops ≤ _; omega
  · omega
theorem M.Run.restart (h : M.Run d r i) (z : Nat → Int) : M.Run (M.restartD d (M.odd 0 z)) (M.restartR r) (i + 1) :=
  ⟨h.same.restart z, Nat.zero_le _, Nat.zero_le _, by show d.ops ≤ _; have := h.ops; omega⟩
end
end Go.Proofs.Ytnjhbmpdpejpcaa
