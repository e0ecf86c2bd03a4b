/-
  Plain mathematics for layer 14: a log at whose place noughts stand has no records. No function of the program is walked in this text.
-/
import Derived.Test.YtmgchfjfkdkaoaaGreatDoorMH
namespace Go.Proofs.YtmgchfjfkdkaoaaGreatDoor
open Go.RowKit

theorem M.szE_zero (q : Int) : M.szE (M.zeros 64) q = 8 ∧ M.szN (M.zeros 64) q = 0 := by
  have h1 : (M.zeros 64).extract 0 1 ≠ ⟨#[82]⟩ := by decide
  have hE : M.szE (M.zeros 64) q = 8 := by unfold M.szE; rw [if_neg (by simp [M.zeros_size]), if_neg (fun x => h1 x.1.1)]
  exact ⟨hE, by rw [M.szN, if_neg (by rw [hE]; decide)]⟩
/-- Where no record stands, there is no next one. -/
theorem M.next_no {fr mn : Nat} {d : M.D} {p : Nat} {q : Int} {left : Nat} (h : M.Still d fr mn) (hz : M.szE (M.seen d.S d.L (fr + p % mn)) q ≠ 0) : ∃ d', M.next M.dR fr mn d p q left = (0, 0, ⟨#[]⟩, d') ∧ M.Still d' fr mn := by
  unfold M.next
  split
  · exact ⟨d, rfl, h⟩
  · obtain ⟨h1, h2⟩ := M.rdr_still 1 d p ⟨#[]⟩ h
    have hk : fr + p % mn < d.S.length := by have := h.room; have : p % mn < mn := Nat.mod_lt _ h.some_; omega
    have he : M.dR.E d ((fr + p % mn : Nat) : Int) = 0 := (h.calm.readE hk).1
    have hv : M.dR.S d ((fr + p % mn : Nat) : Int) = M.seen d.S d.L (fr + p % mn) := (h.calm.readE hk).2
    have f1 : (M.rdr M.dR fr mn 1 d p ⟨#[]⟩).1 = M.seen d.S d.L (fr + p % mn) := by
      rw [M.rdr, if_pos he, M.rdr, hv, M.nil_app]
    refine ⟨_, ?_, h2⟩
    unfold M.next2
    rw [if_neg (fun e => e h1), f1, if_pos (Or.inl hz)]
theorem M.scan_no {fr mn p0 : Nat} {q0 : Int} {most k : Nat} {d : M.D} (h : M.Still d fr mn) (hz : M.szE (M.seen d.S d.L (fr + p0 % mn)) q0 ≠ 0) : ∃ d', M.scan M.dR fr mn p0 q0 most k d 0 [] = (0, d', 0, []) ∧ M.Still d' fr mn := by
  cases k with
  | zero => exact ⟨d, rfl, h⟩
  | succ k =>
    obtain ⟨d', e, h'⟩ := M.next_no (p := (p0 + 0) % mn) (q := q0 + ((([] : List M.Rec).length : Nat) : Int)) (left := mn - 0) h (by simpa using hz)
    refine ⟨d', ?_, h'⟩
    rw [M.scan, e]
    rfl
end Go.Proofs.YtmgchfjfkdkaoaaGreatDoor
