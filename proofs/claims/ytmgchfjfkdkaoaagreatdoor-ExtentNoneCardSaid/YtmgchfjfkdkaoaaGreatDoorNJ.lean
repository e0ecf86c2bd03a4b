/-
  Steps over a disk, one by one, up to the first that fails: mathematics. A step of an opening: the place of the next log's first record is looked at. No function of the program is walked in this text.
-/
import Derived.Test.YtmgchfjfkdkaoaaGreatDoorNG
import Derived.Test.YtmgchfjfkdkaoaaGreatDoorNI
namespace Go.Proofs.YtmgchfjfkdkaoaaGreatDoor
open Go.RowKit

/-- Steps over a disk, one by one, up to the first that fails. -/
def M.steps14 : List (M.D → Int × M.D) → M.D → Int × M.D
  | [], d => (0, d)
  | f :: fs, d => if (f d).1 = 0 then M.steps14 fs (f d).2 else f d
theorem M.steps14_ok : ∀ (fs : List (M.D → Int × M.D)) (E : Nat → Int) (dk : Nat → M.D), (∀ k f, fs[k]? = some f → f (dk k) = (E k, dk (k + 1))) → (∀ k, k < fs.length → E k = 0) → M.steps14 fs (dk 0) = (0, dk fs.length)
  | [], _, _, _, _ => rfl
  | f :: fs, E, dk, h, hz => by
    have h0 := h 0 f rfl
    have e0 := hz 0 (by simp)
    show (if (f (dk 0)).1 = 0 then M.steps14 fs (f (dk 0)).2 else f (dk 0)) = _
    rw [h0, if_pos e0]
    exact M.steps14_ok fs (fun k => E (k + 1)) (fun k => dk (k + 1)) (fun k g hk => h (k + 1) g hk) (fun k hk => hz (k + 1) (by simpa using hk))
theorem M.steps14_no : ∀ (m : Nat) (fs : List (M.D → Int × M.D)) (E : Nat → Int) (dk : Nat → M.D), (∀ k f, fs[k]? = some f → f (dk k) = (E k, dk (k + 1))) → m < fs.length → (∀ k, k < m → E k = 0) → E m ≠ 0 → M.steps14 fs (dk 0) = (E m, dk (m + 1))
  | _, [], _, _, _, hm, _, _ => absurd hm (by simp)
  | 0, f :: fs, E, dk, h, _, _, hE => by
    have h0 := h 0 f rfl
    show (if (f (dk 0)).1 = 0 then M.steps14 fs (f (dk 0)).2 else f (dk 0)) = _
    rw [h0, if_neg hE]
  | m + 1, f :: fs, E, dk, h, hm, hz, hE => by
    have h0 := h 0 f rfl
    have e0 := hz 0 (by omega)
    show (if (f (dk 0)).1 = 0 then M.steps14 fs (f (dk 0)).2 else f (dk 0)) = _
    rw [h0, if_pos e0]
    exact M.steps14_no m fs (fun k => E (k + 1)) (fun k => dk (k + 1)) (fun k g hk => h (k + 1) g hk) (by simpa using hm) (fun k hk => hz (k + 1) (by omega)) hE
theorem first_err14 (E : Nat → Int) : ∀ n : Nat, (∀ k, k < n → E k = 0) ∨ ∃ m, m < n ∧ E m ≠ 0 ∧ ∀ k, k < m → E k = 0
  | 0 => Or.inl fun k hk => absurd hk (by omega)
  | n + 1 => by
    rcases first_err14 E n with h | ⟨m, h1, h2, h3⟩
    · by_cases e : E n = 0
      · exact Or.inl fun k hk => (Nat.lt_or_eq_of_le (Nat.le_of_lt_succ hk)).elim (h k) (fun ek => by rw [ek]; exact e)
      · exact Or.inr ⟨n, by omega, e, h⟩
    · exact Or.inr ⟨m, by omega, h2, h3⟩

theorem M.flushD_ops14 (d : M.D) : (M.flushD d).ops = d.ops + 1 := by unfold M.flushD; split <;> rfl
theorem M.wr_ops14 : ∀ (L : List (Nat × ByteArray)) (d : M.D), (M.wr L d).2.ops ≤ d.ops + L.length
  | [], d => Nat.le_refl _
  | p :: L, d => by
    unfold M.wr
    split
    · have := M.wr_ops14 L (M.writeD d p.1 p.2)
      rw [M.writeD_ops] at this
      simp only [List.length_cons]
      omega
    · show (M.writeD d p.1 p.2).ops ≤ _
      rw [M.writeD_ops]
      simp only [List.length_cons]
      omega
theorem M.headW_ops14 (d : M.D) (fr mn g q k : Nat) (hm : 2 ≤ mn) : (M.headW d fr mn g q k).2.ops ≤ d.ops + 1 := by
  rw [M.headW_wr d fr mn g q k hm]
  exact M.wr_ops14 _ d
/-- A flush as a step. -/
def M.fl14 (d : M.D) : Int × M.D := (M.beginE d, M.flushD d)
theorem M.steps14_ops (c : Nat) : ∀ (fs : List (M.D → Int × M.D)) (d : M.D), (∀ f ∈ fs, ∀ dk, (f dk).2.ops ≤ dk.ops + c) → (M.steps14 fs d).2.ops ≤ d.ops + c * fs.length
  | [], d, _ => Nat.le_add_right _ _
  | f :: fs, d, h => by
    have h1 := h f (List.mem_cons_self ..) d
    have h2 := M.steps14_ops c fs (f d).2 (fun g hg => h g (List.mem_cons_of_mem _ hg))
    have e : c * (f :: fs).length = c * fs.length + c := by rw [List.length_cons, Nat.mul_add, Nat.mul_one]
    show (if (f d).1 = 0 then M.steps14 fs (f d).2 else f d).2.ops ≤ _
    rw [e]
    split
    · omega
    · omega
end Go.Proofs.YtmgchfjfkdkaoaaGreatDoor
namespace Go.Proofs.YtmgchfjfkdkaoaaGreatDoor
open Go.RowKit

/-- The place of the next log's first record is looked at, and made noughts if it is like one. -/
def M.readyF (fr m2 k a q : Nat) (d : M.D) : Int × M.D :=
  if (M.gread d fr m2 (a : Nat) 1).2.1 ≠ 0 then ((M.gread d fr m2 (a : Nat) 1).2.1, (M.gread d fr m2 (a : Nat) 1).2.2)
  else if M.szE (M.gread d fr m2 (a : Nat) 1).1 (q : Nat) ≠ 0 then (0, (M.gread d fr m2 (a : Nat) 1).2.2)
  else M.steps14 [fun d => M.gwrite d fr m2 (k : Nat) (M.zeros 64), M.fl14, fun d => M.gwrite d fr m2 (a : Nat) (M.zeros 64), M.fl14] (M.gread d fr m2 (a : Nat) 1).2.2
end Go.Proofs.YtmgchfjfkdkaoaaGreatDoor
