/-
  What DiskSure does with a disk: the mathematics, and one contract a call over the disk and the array beside it.
-/
import Derived.Test.YtjmkpjapagfdlaaDWorks
import Derived.Deep.SlicePairs
import Derived.ChangeOld
import Derived.ProofKit
import Derived.OpenShut
namespace Go.Proofs.Ytjmkpjapagfdlaa
open Go.RowKit Go.Maps

section
variable (d0 : M.D) (a : Nat → Int) (t : Nat → ByteArray)
/-- The disk behind so many writes. -/
def M.fold : Nat → M.D
  | 0 => d0
  | k + 1 => M.writeC (M.fold k) (a k) (t k)
theorem M.fold_ops (k : Nat) : (M.fold d0 a t k).ops = d0.ops + k := by
  induction k with
  | zero => rfl
  | succ k ih => rw [M.fold, M.writeC_ops, ih]; omega
theorem M.fold_S (k : Nat) : (M.fold d0 a t k).S = d0.S := by
  induction k with
  | zero => rfl
  | succ k ih => rw [M.fold, M.writeC_S, ih]
theorem M.fold_calm (h : M.Calm d0) (k : Nat) : M.Calm (M.fold d0 a t k) := by
  induction k with
  | zero => exact h
  | succ k ih => exact ih.write _ _
theorem M.fold_mem (k : Nat) (p : Nat × ByteArray) (hp : p ∈ (M.fold d0 a t k).L) : p ∈ d0.L ∨ ∃ i, i < k ∧ M.wrong d0.S.length (a i) (t i) = 0 ∧ p = ((a i).toNat, t i) := by
  induction k with
  | zero => exact Or.inl hp
  | succ k ih =>
    rw [M.fold, M.writeC, M.fold_S] at hp
    split at hp
    · rename_i h
      rcases List.mem_append.1 hp with hp | hp
      · exact (ih hp).imp id (fun ⟨i, h1, h2⟩ => ⟨i, by omega, h2⟩)
      · exact Or.inr ⟨k, by omega, h, List.mem_singleton.1 hp⟩
    · exact (ih hp).imp id (fun ⟨i, h1, h2⟩ => ⟨i, by omega, h2⟩)
/-- What the array has behind so many writes. -/
def M.sure (T0 : List ByteArray) : Nat → List ByteArray
  | 0 => T0
  | k + 1 => if M.wrong 8 (a k) (t k) = 0 then (M.sure T0 k).set (a k).toNat (t k) else M.sure T0 k
theorem M.sure_len (T0 : List ByteArray) (k : Nat) : (M.sure a t T0 k).length = T0.length := by
  induction k with
  | zero => rfl
  | succ k ih =>
    unfold M.sure
    split
    · rw [List.length_set, ih]
    · exact ih
theorem M.seen_snoc (S : List ByteArray) (L : List (Nat × ByteArray)) (p : Nat × ByteArray) (j : Nat) : M.seen S (L ++ [p]) j = if p.1 = j then p.2 else M.seen S L j := by
  unfold M.seen
  rw [M.seen0_snoc]
  split <;> rfl
theorem M.sure_seen (T0 : List ByteArray) (hd : d0.S.length = 8) (hT : T0.length = 8) (h0 : ∀ j, j < 8 → T0[j]? = some (M.seen d0.S d0.L j)) (k j : Nat) (hj : j < 8) : (M.sure a t T0 k)[j]? = some (M.seen (M.fold d0 a t k).S (M.fold d0 a t k).L j) := by
  induction k with
  | zero => exact h0 j hj
  | succ k ih =>
    unfold M.sure M.fold M.writeC
    rw [M.fold_S, hd]
    rw [M.fold_S] at ih
    by_cases hw : M.wrong 8 (a k) (t k) = 0
    · rw [if_pos hw, if_pos hw]
      simp only
      rw [M.seen_snoc]
      by_cases e : (a k).toNat = j
      · rw [if_pos e, e, List.getElem?_set_self (by rw [M.sure_len, hT]; exact hj)]
      · rw [if_neg e, List.getElem?_set_ne e]
        exact ih
    · rw [if_neg hw, if_neg hw]
      exact ih
end
/-- Behind the flush all of it is sure. -/
theorem M.sure_flush (d : M.D) (T : List ByteArray) (hd : d.S.length = 8) (hT : T.length = 8) (h : ∀ j, j < 8 → T[j]? = some (M.seen d.S d.L j)) : (M.flushC d).S = T := by
  apply List.ext_getElem?
  intro j
  by_cases hj : j < 8
  · rw [h j hj]
    show (M.rounds (fun _ => true) d.S d.L d.L.length)[j]? = _
    rw [M.rounds_all d.S d.L j (by omega) d.L.length (Nat.le_refl _), List.take_length]
  · rw [List.getElem?_eq_none (by show (M.rounds _ _ _ _).length ≤ j; rw [M.rounds_len]; omega), List.getElem?_eq_none (by omega)]

/-- The disk, and the array of eight texts in block g beside it. -/
structure Sur (w y : World) (N b g : Nat) (d : M.D) (T : List ByteArray) : Prop where
  dk : Dk w y N b (fun k => N ≤ k ∧ k ≠ g) d
  box : Box y g 40 (T.map Value.string).toArray
  low : N ≤ g
section
variable {w y y' : World} {N b g : Nat} {d : M.D} {T : List ByteArray}
theorem Sur.start {o : Obj} (h : Dk w y N b (fun k => N ≤ k) d) (hB : Box (y.alloc o) y.heap.size 40 (T.map Value.string).toArray) : Sur w (y.alloc o) N b y.heap.size d T :=
  ⟨⟨(h.disk.mono (fun k hk e => ⟨e, by omega⟩)).kept ((Kept.refl (fun _ => False) y).alloc _) (fun _ _ => id), fun k e => e.1, fun k hk => by rw [World.size_alloc] at hk; have := h.le; exact ⟨by omega, by omega⟩, h.below.alloc h.le _, by rw [World.size_alloc]; exact Nat.le_trans h.le (Nat.le_succ _)⟩, hB, h.le⟩
theorem Sur.alloc (h : Sur w y N b g d T) (o : Obj) : Sur w (y.alloc o) N b g d T := ⟨h.dk.alloc o, (Below.heap_alloc _ _ _ h.box.lt).trans h.box, h.low⟩
theorem Sur.drew (h : Sur w y N b g d T) : Sur w y.drew N b g d T := ⟨h.dk.drew, h.box, h.low⟩
theorem Sur.drewN (h : Sur w y N b g d T) (n : Nat) : Sur w (y.drewN n) N b g d T := ⟨h.dk.drewN n, h.box, h.low⟩
theorem Sur.set (h : Sur w y N b g d T) (j : Nat) (s : ByteArray) : Sur w (y.setCell ⟨g, j, none⟩ (.string s)) N b g d (T.set j s) := by
  have hk : Kept (fun k => k = g) y (y.setCell ⟨g, j, none⟩ (.string s)) := Kept.set' (P := fun k => k = g) rfl j _
  refine ⟨⟨h.dk.disk.kept hk (fun k e => e.2), h.dk.low, fun k e => h.dk.up k (Nat.le_trans hk.size e), h.dk.below.trans (hk.below h.dk.le (fun k hk e => by have := h.low; omega)), Nat.le_trans h.dk.le hk.size⟩, ?_, h.low⟩
  have := h.box.set j (.string s)
  rwa [List.setIfInBounds_toArray, ← List.map_set] at this
theorem Sur.cell (h : Sur w y N b g d T) {j : Nat} {s : ByteArray} (hj : T[j]? = some s) : y.cell? ⟨g, j, none⟩ = some (.string s) := by
  rw [h.box.cell j]
  simp [hj]
theorem swrite (h : Sur w y N b g d T) (hc : M.Calm d) (ho : d.ops ≤ 1000000) (i : Int) (s : ByteArray) :
    Calls Try.prog 17 #[.pointer (some ⟨b, 0, none⟩), .int .i64 i, .string s] y fun e y' => e = .returned (.int .i64 (M.wrong d.S.length i s)) ∧ Sur w y' N b g (M.writeC d i s) T :=
  (kwrite h.dk hc ho i s).mono fun _ _ ⟨h1, h2, h3⟩ => ⟨h1, h2, h3.box h.box (fun e => e.2 rfl), h.low⟩
theorem sflush (h : Sur w y N b g d T) (hc : M.Calm d) (ho : d.ops ≤ 1000000) :
    Calls Try.prog 18 #[.pointer (some ⟨b, 0, none⟩)] y fun e y' => e = .returned (.int .i64 0) ∧ Sur w y' N b g (M.flushC d) T :=
  (kflush h.dk hc ho).mono fun _ _ ⟨h1, h2, h3⟩ => ⟨h1, h2, h3.box h.box (fun e => e.2 rfl), h.low⟩
theorem srestart (h : Sur w y N b g d T) (ho : d.ops ≤ 1000000) (A : Option Addr) (len cap : Nat) (z : Nat → Int) (hz : ChoAt y A len z) (hA : 0 < len → ∀ ad, A = some ad → ad.block < N) :
    Calls Try.prog 15 #[.pointer (some ⟨b, 0, none⟩), .slice A len cap] y fun e y' => e = .returned (.tuple #[]) ∧ Sur w y' N b g (M.restartD d (M.odd len z)) T :=
  (krestart h.dk ho A len cap z hz (fun h0 ad e hp => by have := hA h0 ad e; have := hp.1; omega)).mono fun _ _ ⟨h1, h2, h3⟩ => ⟨h1, h2, h3.box h.box (fun e => e.2 rfl), h.low⟩
theorem sread (h : Sur w y N b g d T) (hc : M.Calm d) (ho : d.ops ≤ 1000000) (k : Nat) (hk : k < d.S.length) :
    Calls Try.prog 19 #[.pointer (some ⟨b, 0, none⟩), .int .i64 (k : Nat)] y fun e y' => e = .returned (.tuple #[.string (M.seen d.S d.L k), .int .i64 0]) ∧ Sur w y' N b g (M.readC d) T :=
  (kread h.dk hc ho k hk).mono fun _ _ ⟨h1, h2, h3⟩ => ⟨h1, h2, h3.box h.box (fun e => e.2 rfl), h.low⟩
end
end Go.Proofs.Ytjmkpjapagfdlaa
