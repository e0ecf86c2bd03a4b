/-
  Parts of a disk in memory. Walks over region.within, New, Many, Place and Flush; what the calls do of a part that is none.
-/
import Derived.Test.YtnjhbmpdpejpcaaDCalm
namespace Go.Proofs.Ytnjhbmpdpejpcaa
open Go.RowKit

/-- A disk in y, which came of y0; F lies apart from it. -/
def One (y0 y : World) (a : Nat) (P F : Nat → Prop) (d : M.D) : Prop :=
  ∃ Q : Nat → Prop, Disk y a Q d ∧ (∀ k, Q k → ¬ F k ∧ k < y.heap.size ∧ (k < y0.heap.size → P k)) ∧ (∀ k, F k → k < y.heap.size) ∧ Kept P y0 y
section
variable {y0 y y' : World} {a : Nat} {P F : Nat → Prop} {d d' : M.D}
theorem One.start (h : Disk y a P d) : One y y a P (fun k => k < y.heap.size ∧ ¬ P k) d :=
  ⟨fun k => P k ∧ k < y.heap.size, h.mono (fun _ hk e => ⟨e, hk⟩), fun _ e => ⟨fun e' => e'.2 e.1, e.2, fun _ => e.1⟩, fun _ e => e.1, Kept.refl _ _⟩
theorem One.out (h : One y0 y a P F d) : Disk y a (M.plus P y0.heap.size) d ∧ Kept P y0 y := by
  obtain ⟨Q, hd, hQ, _, hk⟩ := h
  refine ⟨hd.mono (fun k _ e => ?_), hk⟩
  by_cases hlt : k < y0.heap.size
  · exact Or.inl ((hQ k e).2.2 hlt)
  · exact Or.inr (by omega)
theorem One.inv (h : One y0 y a P F d) : M.Inv d := let ⟨_, h, _⟩ := h; h.inv
theorem One.size (h : One y0 y a P F d) : y0.heap.size ≤ y.heap.size := let ⟨_, _, _, _, h⟩ := h; h.size
theorem One.step {Q : Nat → Prop} (hQ : ∀ k, Q k → ¬ F k ∧ k < y.heap.size ∧ (k < y0.heap.size → P k)) (hF : ∀ k, F k → k < y.heap.size) (hk : Kept P y0 y) (hd : Disk y' a (M.plus Q y.heap.size) d') (hk' : Kept Q y y') : One y0 y' a P F d' ∧ Kept (fun k => ¬ F k) y y' := by
  have hz := hk.size
  have hz' := hk'.size
  refine ⟨⟨fun k => (Q k ∨ y.heap.size ≤ k) ∧ k < y'.heap.size, hd.mono (fun _ hk e => ⟨e, hk⟩), fun k e => ?_, fun k e => by have := hF k e; omega, hk.next hk' (fun k hk e => (hQ k e).2.2 hk)⟩, hk'.mono (fun k _ e => (hQ k e).1)⟩
  rcases e.1 with e1 | e1
  · exact ⟨(hQ k e1).1, e.2, (hQ k e1).2.2⟩
  · exact ⟨fun e' => by have := hF k e'; omega, e.2, fun h => by omega⟩
theorem One.kept (h : One y0 y a P F d) {G : Nat → Prop} (hk : Kept G y y') (hG : ∀ k, G k → F k ∧ (k < y0.heap.size → P k)) : One y0 y' a P F d := by
  obtain ⟨Q, hd, hQ, hF, hk0⟩ := h
  have hz := hk.size
  exact ⟨Q, hd.kept hk (fun k e e' => (hQ k e).1 (hG k e').1), fun k e => ⟨(hQ k e).1, by have := (hQ k e).2.1; omega, (hQ k e).2.2⟩, fun k e => by have := hF k e; omega, hk0.next hk (fun k hk e => (hG k e).2 hk)⟩
theorem One.alloc (h : One y0 y a P F d) (o : Obj) : One y0 (y.alloc o) a P F d := h.kept ((Kept.refl (fun _ => False) y).alloc o) (fun _ e => e.elim)
theorem One.drew (h : One y0 y a P F d) : One y0 y.drew a P F d := h.kept ((Kept.refl (fun _ => False) y).drewN 1) (fun _ e => e.elim)
/-- All that is new in y' stands apart. -/
theorem One.beside (h : One y0 y a P F d) (hk : Kept (fun _ => False) y y') : One y0 y' a P (fun k => F k ∨ (y.heap.size ≤ k ∧ k < y'.heap.size)) d := by
  obtain ⟨Q, hd, hQ, hF, hk0⟩ := h
  have hz := hk.size
  exact ⟨Q, hd.kept hk (fun _ _ => id), fun k e => ⟨fun e' => e'.elim (hQ k e).1 (fun e' => by have := (hQ k e).2.1; omega), by have := (hQ k e).2.1; omega, (hQ k e).2.2⟩, fun k e => e.elim (fun e => by have := hF k e; omega) (fun e => e.2), hk0.next hk (fun _ _ e => e.elim)⟩
theorem One.less {F' : Nat → Prop} (h : One y0 y a P F d) (hF : ∀ k, F' k → F k) : One y0 y a P F' d := by
  obtain ⟨Q, hd, hQ, hF0, hk0⟩ := h
  exact ⟨Q, hd, fun k e => ⟨fun e' => (hQ k e).1 (hF k e'), (hQ k e).2⟩, fun k e => hF0 k (hF k e), hk0⟩
theorem oread (h : One y0 y a P F d) (ho : d.ops ≤ 1099511627776) (i : Int) : Calls Try.prog 31 #[.pointer (some ⟨a, 0, none⟩), .int .i64 i] y fun e y' => e = .returned (.tuple #[.string (M.readS d i), .int .i64 (M.readE d i)]) ∧ One y0 y' a P F (M.beginD d) ∧ Kept (fun k => ¬ F k) y y' := by
  obtain ⟨Q, hd, hQ, hF, hk⟩ := h
  exact (read_any i y hd ho).mono fun _ _ ⟨h1, h2, h3⟩ => ⟨h1, One.step hQ hF hk (h2.mono (fun _ _ e => Or.inl e)) h3⟩
theorem owrite (h : One y0 y a P F d) (ho : d.ops ≤ 1099511627776) (i : Int) (s : ByteArray) : Calls Try.prog 39 #[.pointer (some ⟨a, 0, none⟩), .int .i64 i, .string s] y fun e y' => e = .returned (.int .i64 (M.writeE d i s)) ∧ One y0 y' a P F (M.writeD d i s) ∧ Kept (fun k => ¬ F k) y y' := by
  obtain ⟨Q, hd, hQ, hF, hk⟩ := h
  exact (write_any i s y hd ho).mono fun _ _ ⟨h1, h2, h3⟩ => ⟨h1, One.step hQ hF hk h2 h3⟩
end

/-- A part of the disk in block a: mn sectors from fr on. -/
def Reg (y : World) (rb a fr mn : Nat) : Prop := Box y rb 70 #[.pointer (some ⟨a, 0, none⟩), .int .i64 (fr : Nat), .int .i64 (mn : Nat)]
section
variable {y y' : World} {rb a fr mn : Nat}
theorem Reg.c0 (h : Reg y rb a fr mn) : y.cell? ⟨rb, 0, none⟩ = some (.pointer (some ⟨a, 0, none⟩)) := by simpa using Box.cell h 0
theorem Reg.c1 (h : Reg y rb a fr mn) : y.cell? ⟨rb, 1, none⟩ = some (.int .i64 (fr : Nat)) := by simpa using Box.cell h 1
theorem Reg.c2 (h : Reg y rb a fr mn) : y.cell? ⟨rb, 2, none⟩ = some (.int .i64 (mn : Nat)) := by simpa using Box.cell h 2
theorem Reg.lt (h : Reg y rb a fr mn) : rb < y.heap.size := Box.lt h
theorem Reg.kept {P : Nat → Prop} (h : Reg y rb a fr mn) (hk : Kept P y y') (hp : ¬ P rb) : Reg y' rb a fr mn := hk.box h hp
end

/-- Are there so many from one on, of all? -/
def M.within (i m all : Int) : Bool := decide (0 ≤ i) && decide (0 ≤ m) && decide (m ≤ all - i)
theorem M.within_yes {i m all : Int} (h : M.within i m all = true) : 0 ≤ i ∧ 0 ≤ m ∧ m ≤ all - i := by
  unfold M.within at h
  simp at h
  omega
theorem within_any (i m all : Int) (w : World) (hi : i ≤ 9223372036854775807) (ha0 : 0 ≤ all) (ha : all ≤ 1099511627776) : Calls Try.prog 34 #[.int .i64 i, .int .i64 m, .int .i64 all] w fun e w' => e = .returned (.bool (M.within i m all)) ∧ w' = w := by
  unfold M.within
  by_cases h0 : 0 ≤ i
  · have hd : decide (0 ≤ i) = true := by simpa using h0
    rw [hd, Bool.true_and]
    by_cases h1 : 0 ≤ m
    · have hd1 : decide (0 ≤ m) = true := by simpa using h1
      rw [hd1, Bool.true_and]
      go_enter Try.func34, Try.ntmps34
      go_wp2_with fail
      go_ret
      exact ⟨rfl, rfl⟩
    · have hd1 : decide (0 ≤ m) = false := by simpa using h1
      rw [hd1, Bool.false_and]
      clear h1
      go_enter Try.func34, Try.ntmps34
      go_wp2_with fail
      go_ret
      exact ⟨rfl, rfl⟩
  · have hd : decide (0 ≤ i) = false := by simpa using h0
    rw [hd, Bool.false_and, Bool.false_and]
    clear h0
    go_enter Try.func34, Try.ntmps34
    go_wp2_with fail
    go_ret
    exact ⟨rfl, rfl⟩

theorem new9_yes (fr m : Int) (w : World) {a : Nat} {P : Nat → Prop} {d : M.D} (h : Disk w a P d) (hf : fr ≤ 9223372036854775807) (hy : M.within fr m (d.S.length : Nat) = true) :
    Calls Try.prog 10 #[.pointer (some ⟨a, 0, none⟩), .int .i64 fr, .int .i64 m] w fun e w' => e = .returned (.tuple #[.pointer (some ⟨w.heap.size, 0, none⟩), .int .i64 0]) ∧
      w' = w.alloc (.cells #[.pointer (some ⟨a, 0, none⟩), .int .i64 fr, .int .i64 m] 70) := by
  have HS := Lib.hid (sectors_any w h)
  have HI := Lib.hid (within_any fr m (d.S.length : Nat) w hf (by omega) (by have := h.inv.many; omega))
  rw [hy] at HI
  clear h hy hf
  go_enter Try.func10, Try.ntmps10
  go_wp2_with fail
  refine HS.out.mono ?_
  rintro e w1 ⟨rfl, rfl⟩
  go_wp2_with fail
  refine HI.out.mono ?_
  rintro e w2 ⟨rfl, rfl⟩
  go_wp2_with fail
  go_ret2
  exact ⟨rfl, rfl⟩
theorem new9_no (fr m : Int) (w : World) {a : Nat} {P : Nat → Prop} {d : M.D} (h : Disk w a P d) (hf : fr ≤ 9223372036854775807) (hy : M.within fr m (d.S.length : Nat) = false) :
    Calls Try.prog 10 #[.pointer (some ⟨a, 0, none⟩), .int .i64 fr, .int .i64 m] w fun e w' => e = .returned (.tuple #[.pointer none, .int .i64 3]) ∧ w' = w := by
  have HS := Lib.hid (sectors_any w h)
  have HI := Lib.hid (within_any fr m (d.S.length : Nat) w hf (by omega) (by have := h.inv.many; omega))
  rw [hy] at HI
  clear h hy hf
  go_enter Try.func10, Try.ntmps10
  go_wp2_with fail
  refine HS.out.mono ?_
  rintro e w1 ⟨rfl, rfl⟩
  go_wp2_with fail
  refine HI.out.mono ?_
  rintro e w2 ⟨rfl, rfl⟩
  go_wp2_with fail
  go_ret2
  exact ⟨rfl, rfl⟩
theorem new9_nil (w : World) : Calls Try.prog 10 #[.pointer none, .int .i64 0, .int .i64 1] w fun e w' => e = .returned (.tuple #[.pointer none, .int .i64 3]) ∧ w' = w := by
  have HI := Lib.hid (within_any 0 1 0 w (by omega) (by omega) (by omega))
  rw [show M.within 0 1 0 = false by decide] at HI
  go_enter Try.func10, Try.ntmps10
  go_wp2_with fail
  refine (sectors_nil w).mono ?_
  rintro e w1 ⟨rfl, rfl⟩
  go_wp2_with fail
  refine HI.out.mono ?_
  rintro e w2 ⟨rfl, rfl⟩
  go_wp2_with fail
  go_ret2
  exact ⟨rfl, rfl⟩

theorem many_nil (w : World) : Calls Try.prog 27 #[.pointer none] w fun e w' => e = .returned (.int .i64 0) ∧ w' = w := by
  go_enter Try.func27, Try.ntmps27
  go_wp2_with fail
  go_ret
  exact ⟨rfl, rfl⟩
theorem many_any (w : World) {rb a fr mn : Nat} (h : Reg w rb a fr mn) : Calls Try.prog 27 #[.pointer (some ⟨rb, 0, none⟩)] w fun e w' => e = .returned (.int .i64 (mn : Nat)) ∧ w' = w := by
  have c2 := h.c2
  clear h
  go_enter Try.func27, Try.ntmps27
  go_wp2_with fail
  go_ret
  exact ⟨rfl, rfl⟩

theorem place_nil (i : Int) (w : World) : Calls Try.prog 26 #[.pointer none, .int .i64 i] w fun e w' => e = .returned (.tuple #[.int .i64 0, .int .i64 10]) ∧ w' = w := by
  go_enter Try.func26, Try.ntmps26
  go_wp2_with fail
  go_ret2
  exact ⟨rfl, rfl⟩
theorem place_no (i : Int) (w : World) {rb a fr mn : Nat} (h : Reg w rb a fr mn) (hi : i ≤ 9223372036854775807) (hm : mn ≤ 1000) (hy : M.within i 1 (mn : Nat) = false) : Calls Try.prog 26 #[.pointer (some ⟨rb, 0, none⟩), .int .i64 i] w fun e w' => e = .returned (.tuple #[.int .i64 0, .int .i64 3]) ∧ w' = w := by
  have c2 := h.c2
  have HI := Lib.hid (within_any i 1 (mn : Nat) w hi (by omega) (by omega))
  rw [hy] at HI
  clear h hy hi
  go_enter Try.func26, Try.ntmps26
  go_wp2_with fail
  refine HI.out.mono ?_
  rintro e w2 ⟨rfl, rfl⟩
  go_wp2_with fail
  go_ret2
  exact ⟨rfl, rfl⟩
theorem place_yes (k : Nat) (w : World) {rb a fr mn : Nat} (h : Reg w rb a fr mn) (hf : fr ≤ 1000) (hm : mn ≤ 1000) (hk : k < mn) : Calls Try.prog 26 #[.pointer (some ⟨rb, 0, none⟩), .int .i64 (k : Nat)] w fun e w' => e = .returned (.tuple #[.int .i64 ((fr + k : Nat) : Int), .int .i64 0]) ∧ w' = w := by
  have c1 := h.c1
  have c2 := h.c2
  have HI := Lib.hid (within_any (k : Nat) 1 (mn : Nat) w (by omega) (by omega) (by omega))
  rw [show M.within (k : Nat) 1 (mn : Nat) = true by unfold M.within; simp; omega] at HI
  have hf' : (fr : Int) ≤ 1000 := by omega
  have hk' : (k : Int) ≤ 1000 := by omega
  clear h
  go_enter Try.func26, Try.ntmps26
  go_wp2_with fail
  refine HI.out.mono ?_
  rintro e w2 ⟨rfl, rfl⟩
  go_wp2_with fail
  go_ret2
  exact ⟨rfl, rfl⟩

theorem gflush_nil (w : World) : Calls Try.prog 19 #[.pointer none] w fun e w' => e = .returned (.int .i64 10) ∧ w' = w := by
  go_enter Try.func19, Try.ntmps19
  go_wp2_with fail
  go_ret
  exact ⟨rfl, rfl⟩
theorem gflush_any (w : World) {rb a fr mn : Nat} {P : Nat → Prop} {d : M.D} (h : Disk w a P d) (hr : Reg w rb a fr mn) (ho : d.ops ≤ 1099511627776) : Calls Try.prog 19 #[.pointer (some ⟨rb, 0, none⟩)] w fun e w' => e = .returned (.int .i64 (M.beginE d)) ∧ Disk w' a P (M.flushD d) ∧ Kept P w w' := by
  have c0 := hr.c0
  have HF := Lib.hid (flush_any w h ho)
  clear hr h ho
  go_enter Try.func19, Try.ntmps19
  go_wp2_with fail
  refine HF.out.mono ?_
  rintro e w2 ⟨rfl, h2, h3⟩
  have HX := Lib.hid (And.intro h2 h3)
  clear h2 h3
  go_wp2_with fail
  go_ret
  exact ⟨rfl, HX.out⟩

theorem gread_nil (i m : Int) (w : World) : Calls Try.prog 12 #[.pointer none, .int .i64 i, .int .i64 m] w fun e w' => e = .returned (.tuple #[.string ⟨#[]⟩, .int .i64 10]) ∧ w' = w := by
  go_enter Try.func12, Try.ntmps12
  go_wp2_with fail
  go_ret2
  exact ⟨rfl, rfl⟩
theorem gsplit_nil (i : Int) (s : ByteArray) (w : World) : Calls Try.prog 14 #[.pointer none, .int .i64 i, .string s] w fun e w' => e = .returned (.tuple #[.slice none 0 0, .int .i64 10]) ∧ w' = w := by
  go_enter Try.func14, Try.ntmps14
  go_wp2_with fail
  go_ret2
  exact ⟨rfl, rfl⟩
theorem gwrite_nil (i : Int) (s : ByteArray) (w : World) : Calls Try.prog 17 #[.pointer none, .int .i64 i, .string s] w fun e w' => e = .returned (.int .i64 10) ∧ w' = w := by
  go_enter Try.func17, Try.ntmps17
  go_wp2_with fail
  refine (gsplit_nil i s w).mono ?_
  rintro e w2 ⟨rfl, rfl⟩
  go_wp2_with fail
  go_ret
  exact ⟨rfl, rfl⟩
end Go.Proofs.Ytnjhbmpdpejpcaa
