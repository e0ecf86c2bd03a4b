/-
  The disk and the document's disk do the same: the mathematics. No function of the program is walked in this text.
-/
import Derived.Test.YtnjhbmpdpejpcaaENew
import Derived.Test.YtnjhbmpdpejpcaaEFail
import Derived.Test.YtnjhbmpdpejpcaaDFail
namespace Go.Proofs.Ytnjhbmpdpejpcaa
open Go.RowKit

/-- The two are the same; of the numbers that fail those whose calls have not come. -/
structure M.Same (d : M.D) (r : M.R) : Prop where
  sure : r.sure = d.S
  slen : r.seen.length = d.S.length
  seen : ∀ j, j < d.S.length → r.seen[j]? = some (M.seen d.S d.L j)
  wait : r.wait = d.L
  ops : r.ops = d.ops
  at_ : r.at_ = d.da
  off : r.off = d.dn
  fails : ∀ x : Int, (d.ops : Int) < x → (x ∈ d.fails ↔ x ∈ r.fails)
  once : d.fails.Nodup

theorem M.same_new (c : Nat) : M.Same (M.new c) (M.newR c) :=
  ⟨rfl, rfl, fun j hj => by
    have hj' : j < c := by simpa [M.new] using hj
    simp [M.newR, M.new, M.seen, M.seen0, hj'], rfl, rfl, rfl, rfl, fun _ _ => Iff.rfl, List.nodup_nil⟩
section
variable {d : M.D} {r : M.R}
theorem M.Same.callE (h : M.Same d r) : M.callE r = M.beginE d := by
  unfold M.callE M.beginE
  rw [h.off, h.at_, h.ops]
  have := h.fails ((d.ops + 1 : Nat) : Int) (by omega)
  by_cases hm : ((d.ops + 1 : Nat) : Int) ∈ d.fails
  · rw [if_pos (this.1 hm), if_pos hm]
  · rw [if_neg (fun e => hm (this.2 e)), if_neg hm]
theorem M.Same.callL (h : M.Same d r) : M.callL r = ((M.beginD d).dn && !d.dn) := by
  unfold M.callL M.beginD
  rw [h.off, h.at_, h.ops]
  cases d.dn <;> simp
theorem M.Same.begin (h : M.Same d r) : M.Same (M.beginD d) (M.callR r) := by
  refine ⟨h.sure, h.slen, h.seen, h.wait, by show r.ops + 1 = d.ops + 1; rw [h.ops], h.at_, by show (r.off || decide (r.at_ = _)) = (d.dn || decide (d.da = _)); rw [h.off, h.at_, h.ops], fun x hx => ?_, h.once.erase _⟩
  have hx' : ((d.ops + 1 : Nat) : Int) < x := hx
  show x ∈ d.fails.erase ((d.ops + 1 : Nat) : Int) ↔ x ∈ r.fails
  rw [List.mem_erase_of_ne (by omega)]
  exact h.fails x (by omega)
theorem M.Same.readE (h : M.Same d r) (i : Int) : M.rreadE r i = M.readE d i := by
  unfold M.rreadE M.readE
  rw [h.callE, h.slen]
theorem M.Same.readS (h : M.Same d r) (i : Int) : M.rreadS r i = M.readS d i := by
  unfold M.rreadS M.readS
  rw [h.callE, h.slen]
  by_cases hE : M.beginE d = 0
  · rw [if_pos hE, if_pos hE]
    by_cases hb : M.hasB d.S.length i = true
    · rw [if_pos hb, if_pos hb]
      unfold M.hasB at hb
      simp at hb
      have := h.seen i.toNat (by omega)
      rw [List.getD_eq_getElem?_getD, this]
      rfl
    · rw [if_neg hb, if_neg hb]
  · rw [if_neg hE, if_neg hE]
theorem M.Same.writeE (h : M.Same d r) (i : Int) (s : ByteArray) : M.rwriteE r i s = M.writeE d i s := by
  unfold M.rwriteE M.writeE
  rw [h.callE, h.slen]
theorem M.Same.lays (h : M.Same d r) (i : Int) (s : ByteArray) : M.rlays r i s = M.lays d i s := by
  unfold M.rlays M.lays
  rw [h.callE, h.callL, h.slen]
theorem M.Same.write (h : M.Same d r) (i : Int) (s : ByteArray) : M.Same (M.writeD d i s) (M.rwriteR r i s) := by
  have hb := h.begin
  unfold M.writeD M.rwriteR
  rw [h.lays]
  by_cases hl : M.lays d i s = true
  · rw [if_pos hl, if_pos hl]
    refine ⟨hb.sure, by show (r.seen.set i.toNat s).length = _; rw [List.length_set]; exact hb.slen, fun j hj => ?_, by show r.wait ++ [(i.toNat, s)] = d.L ++ [(i.toNat, s)]; rw [h.wait], hb.ops, hb.at_, hb.off, hb.fails, hb.once⟩
    have hj' : j < d.S.length := hj
    show (r.seen.set i.toNat s)[j]? = some (M.seen d.S (d.L ++ [(i.toNat, s)]) j)
    unfold M.seen
    rw [M.seen0_snoc]
    by_cases e : i.toNat = j
    · rw [if_pos e, e, List.getElem?_set_self (by rw [h.slen]; exact hj')]
      rfl
    · rw [if_neg e, List.getElem?_set_ne e]
      exact h.seen j hj'
  · rw [if_neg hl, if_neg hl]
    exact hb
theorem M.Same.flush (h : M.Same d r) : M.Same (M.flushD d) (M.rflushR r) := by
  have hb := h.begin
  unfold M.flushD M.rflushR
  rw [h.callE]
  by_cases hE : M.beginE d = 0
  · rw [if_pos hE, if_pos hE]
    have hS : r.seen = M.rounds (fun _ => true) d.S d.L d.L.length := by
      apply List.ext_getElem?
      intro j
      by_cases hj : j < d.S.length
      · rw [h.seen j hj, M.rounds_all d.S d.L j hj d.L.length (Nat.le_refl _), List.take_length]
      · rw [List.getElem?_eq_none (by rw [h.slen]; omega), List.getElem?_eq_none (by rw [M.rounds_len]; omega)]
    refine ⟨hS, by show r.seen.length = (M.rounds (fun _ => true) d.S d.L d.L.length).length; rw [hS], fun j hj => ?_, rfl, hb.ops, hb.at_, hb.off, hb.fails, hb.once⟩
    have hj' : j < (M.rounds (fun _ => true) d.S d.L d.L.length).length := hj
    show r.seen[j]? = some ((M.seen0 [] j).getD ((M.rounds (fun _ => true) d.S d.L d.L.length).getD j ByteArray.empty))
    rw [hS, M.seen0_nil, Option.getD_none, List.getD_eq_getElem?_getD, List.getElem?_eq_getElem hj']
    rfl
  · rw [if_neg hE, if_neg hE]
    exact hb
theorem M.rounds_none (f : Nat → Bool) (hf : ∀ i, f i = false) (S : List ByteArray) (L : List (Nat × ByteArray)) (i : Nat) : M.rounds f S L i = S := by
  induction i with
  | zero => rfl
  | succ i ih =>
    unfold M.rounds
    split
    · rw [hf, if_neg (by simp)]
      exact ih
    · exact ih
theorem M.Same.restart (h : M.Same d r) (z : Nat → Int) : M.Same (M.restartD d (M.odd 0 z)) (M.restartR r) := by
  have hS : M.rounds (M.odd 0 z) d.S d.L d.L.length = d.S := M.rounds_none _ (fun i => by simp [M.odd]) _ _ _
  unfold M.restartD M.restartR
  rw [hS]
  refine ⟨h.sure, by show r.sure.length = d.S.length; rw [h.sure], fun j hj => ?_, rfl, h.ops, rfl, rfl, fun _ _ => Iff.rfl, List.nodup_nil⟩
  have hj' : j < d.S.length := hj
  show r.sure[j]? = some ((M.seen0 [] j).getD (d.S.getD j ByteArray.empty))
  rw [h.sure, M.seen0_nil, Option.getD_none, List.getD_eq_getElem?_getD, List.getElem?_eq_getElem hj']
  rfl
theorem M.Same.fail (h : M.Same d r) (x : Int) (h1 : d.fails.length < 100) (h2 : r.fails.length < 100) : M.Same (M.failD d x) (M.rfailR r x) := by
  unfold M.failD M.rfailR
  rw [h.ops]
  by_cases hx : (d.ops : Int) < x
  · by_cases hm : x ∈ d.fails
    · rw [if_neg (fun e => e.2.2 hm), if_neg (fun e => e.2.1 ((h.fails x hx).1 hm))]
      exact h
    · have hm' : x ∉ r.fails := fun e => hm ((h.fails x hx).2 e)
      rw [if_pos ⟨hx, h1, hm⟩, if_pos ⟨hx, hm', h2⟩]
      refine ⟨h.sure, h.slen, h.seen, h.wait, rfl, h.at_, h.off, fun y hy => ?_, ?_⟩
      · show y ∈ d.fails ++ [x] ↔ y ∈ r.fails ++ [x]
        rw [List.mem_append, List.mem_append, h.fails y hy]
      · show (d.fails ++ [x]).Nodup
        rw [List.nodup_append]
        exact ⟨h.once, by simp, fun a ha b hb e => by rw [List.mem_singleton.1 hb] at e; exact hm (e ▸ ha)⟩
  · rw [if_neg (fun e => hx e.1), if_neg (fun e => hx e.1)]
    exact h
theorem M.Same.down (h : M.Same d r) (x : Int) : M.Same { d with da := x } { r with at_ := x } := ⟨h.sure, h.slen, h.seen, h.wait, h.ops, rfl, h.off, h.fails, h.once⟩
end
/-- How many numbers are kept at most. -/
theorem M.failD_len (d : M.D) (x : Int) : (M.failD d x).fails.length ≤ d.fails.length + 1 := by
  unfold M.failD
  split <;> simp
theorem M.rfailR_len (r : M.R) (x : Int) : (M.rfailR r x).fails.length ≤ r.fails.length + 1 := by
  unfold M.rfailR
  split <;> simp
theorem M.beginD_len (d : M.D) : (M.beginD d).fails.length ≤ d.fails.length := List.length_erase_le ..
end Go.Proofs.Ytnjhbmpdpejpcaa
