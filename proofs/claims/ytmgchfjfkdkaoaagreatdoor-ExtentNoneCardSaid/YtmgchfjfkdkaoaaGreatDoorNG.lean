/-
  A log on a disk where no call fails: mathematics.
-/
import Derived.Test.YtmgchfjfkdkaoaaGreatDoorNB
import Derived.Test.YtmgchfjfkdkaoaaGreatDoorMH
import Derived.Test.YtmgchfjfkdkaoaaGreatDoorME
import Derived.Test.YtmgchfjfkdkaoaaGreatDoorMG
namespace Go.Proofs.YtmgchfjfkdkaoaaGreatDoor
open Go.RowKit

theorem M.nil_app14 (s : ByteArray) : (⟨#[]⟩ : ByteArray) ++ s = s := ByteArray.empty_append

theorem M.flush_still {d : M.D} {fr mn : Nat} (h : M.Still d fr mn) :
    M.beginE d = 0 ∧ M.Still (M.flushD d) fr mn ∧ (M.flushD d).S.length = d.S.length ∧ (M.flushD d).ops = d.ops + 1 ∧ (M.flushD d).L = [] ∧ ∀ k, k < d.S.length → M.seen (M.flushD d).S (M.flushD d).L k = M.seen d.S d.L k := by
  rw [h.calm.flushD]
  have hl : (M.flushC d).S.length = d.S.length := M.rounds_len _ _ _ _
  refine ⟨h.calm.E, ⟨h.calm.flush, by rw [hl]; exact h.room, h.some_⟩, hl, rfl, rfl, fun k hk => ?_⟩
  have e := M.rounds_all d.S d.L k hk d.L.length (Nat.le_refl _)
  rw [List.take_length] at e
  show (M.seen0 [] k).getD ((M.rounds (fun _ => true) d.S d.L d.L.length).getD k ByteArray.empty) = _
  rw [M.seen0_nil, List.getD_eq_getElem?_getD, e]
  rfl

theorem M.headW_wr (d : M.D) (fr mn g q k : Nat) (hm : 2 ≤ mn) : M.headW d fr mn g q k = M.wr [(fr + g % 2, M.hwhole ⟨(g : Nat), (q : Nat), (k : Nat)⟩)] d := by
  unfold M.headW
  rw [M.gwrite_one d fr mn (g % 2) _ (by omega) (M.hwhole_size _)]
  unfold M.wr
  split
  · rename_i h
    simp only at h
    rw [h]
    rfl
  · rfl

theorem M.headW_still {d : M.D} {fr mn g q k : Nat} (h : M.Still d fr mn) (hm : 2 ≤ mn) :
    (M.headW d fr mn g q k).1 = 0 ∧ M.Still (M.headW d fr mn g q k).2 fr mn ∧ (M.headW d fr mn g q k).2.S.length = d.S.length ∧ (M.headW d fr mn g q k).2.ops = d.ops + 1
    ∧ ∀ j, M.seen (M.headW d fr mn g q k).2.S (M.headW d fr mn g q k).2.L j = if j = fr + g % 2 then M.hwhole ⟨(g : Nat), (q : Nat), (k : Nat)⟩ else M.seen d.S d.L j := by
  rw [M.headW_wr d fr mn g q k hm]
  obtain ⟨h1, h2, h3, h4, h5⟩ := M.wr_still (fr := fr) (mn := mn) [(fr + g % 2, M.hwhole ⟨(g : Nat), (q : Nat), (k : Nat)⟩)] d h (by
    intro x hx
    simp only [List.mem_singleton] at hx
    subst hx
    exact ⟨by have := h.room; omega, M.hwhole_size _⟩)
  refine ⟨h1, h2, by rw [h3], h5, fun j => ?_⟩
  rw [h3, h4]
  unfold M.seen
  rw [M.seen0_snoc]
  simp only
  by_cases e : fr + g % 2 = j
  · subst e
    simp
  · rw [if_neg e, if_neg (fun e' => e e'.symm)]

theorem M.piece_zeros (n j : Nat) (hj : j < n) : M.piece (M.zeros (64 * n)) j = M.zeros 64 := by
  apply ByteArray.ext
  show ((M.zeros (64 * n)).extract (64 * j) (64 * j + 64)).data = (List.replicate 64 (0 : UInt8)).toArray
  rw [ByteArray.data_extract]
  show (List.replicate (64 * n) (0 : UInt8)).toArray.extract (64 * j) (64 * j + 64) = _
  rw [List.toArray_replicate, List.toArray_replicate, Array.extract_replicate]
  congr 1
  omega

/-- The two first sectors are read. -/
theorem M.heads14 {d : M.D} {fr mn : Nat} (h : M.Still d fr mn) (hm : 2 ≤ mn) :
    ∃ d', M.gread d fr mn 0 2 = (M.seen d.S d.L fr ++ M.seen d.S d.L (fr + 1), 0, d') ∧ M.Still d' fr mn ∧ d'.S = d.S ∧ d'.L = d.L ∧ d'.ops = d.ops + 2 := by
  have hr := h.room
  have hw : M.within 0 2 (mn : Nat) = true := by simp [M.within]; omega
  obtain ⟨e1, e2⟩ := h.calm.readE (k := fr) (by omega)
  have e3 : M.beginD d = { d with ops := d.ops + 1 } := h.calm.D
  have h2 := h.begin
  obtain ⟨e4, e5⟩ := h2.calm.readE (k := fr + 1) (by rw [e3]; show fr + 1 < d.S.length; omega)
  have e6 : M.beginD (M.beginD d) = { M.beginD d with ops := (M.beginD d).ops + 1 } := h2.calm.D
  refine ⟨M.beginD (M.beginD d), ?_, h2.begin, by rw [e6, e3], by rw [e6, e3], by rw [e6, e3]⟩
  unfold M.gread
  rw [if_pos hw]
  show M.rd 2 d (fr + 0) ⟨#[]⟩ = _
  have e7 : M.readS (M.beginD d) ((fr + 1 : Nat) : Int) = M.seen d.S d.L (fr + 1) := by rw [e5, e3]
  rw [M.rd, if_pos (by exact e1), M.rd, if_pos (by exact e4), M.rd]
  show ((⟨#[]⟩ : ByteArray) ++ M.readS d ((fr : Nat) : Int) ++ M.readS (M.beginD d) ((fr + 1 : Nat) : Int), (0 : Int), M.beginD (M.beginD d)) = _
  rw [e2, e7, M.nil_app14]
end Go.Proofs.YtmgchfjfkdkaoaaGreatDoor
