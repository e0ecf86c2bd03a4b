/-
  Walks over region.Split.
-/
import Derived.Test.YtnjhbmpdpejpcaaGRead
import Derived.Deep.MidRow
import Derived.StillTailTactics
namespace Go.Proofs.Ytnjhbmpdpejpcaa
open Go.RowKit

/-- The j-th sector of bytes. -/
def M.piece (s : ByteArray) (j : Nat) : ByteArray := s.extract (64 * j) (64 * j + 64)
/-- Sectors from one on, of which the first k are laid. -/
def M.partL (n at_ : Nat) (s : ByteArray) (k : Nat) : List (Nat × ByteArray) := (List.range n).map (fun j => if j < k then (at_ + j, M.piece s j) else (0, ⟨#[]⟩))
/-- Bytes as sectors from one on. -/
def M.cut (n at_ : Nat) (s : ByteArray) : List (Nat × ByteArray) := (List.range n).map (fun j => (at_ + j, M.piece s j))
theorem M.partL_len (n at_ : Nat) (s : ByteArray) (k : Nat) : (M.partL n at_ s k).length = n := by simp [M.partL]
theorem M.cut_len (n at_ : Nat) (s : ByteArray) : (M.cut n at_ s).length = n := by simp [M.cut]
theorem M.cut_at {n at_ : Nat} {s : ByteArray} {j : Nat} (hj : j < n) : (M.cut n at_ s)[j]? = some (at_ + j, M.piece s j) := by simp [M.cut, hj]
theorem M.partL_all (n at_ : Nat) (s : ByteArray) : M.partL n at_ s n = M.cut n at_ s := by
  unfold M.partL M.cut
  refine List.map_congr_left (fun j hj => ?_)
  rw [if_pos (List.mem_range.1 hj)]
theorem M.partL_set (n at_ : Nat) (s : ByteArray) (k : Nat) : (M.partL n at_ s k).set k (at_ + k, M.piece s k) = M.partL n at_ s (k + 1) := by
  refine List.ext_getElem? (fun j => ?_)
  rw [List.getElem?_set]
  by_cases e : k = j
  · subst e
    rw [if_pos rfl, M.partL_len]
    by_cases hj : k < n
    · rw [if_pos hj]
      simp [M.partL, hj]
    · rw [if_neg hj]
      simp [M.partL, hj]
  · rw [if_neg e]
    by_cases hj : j < n
    · simp only [M.partL, List.getElem?_map, List.getElem?_range hj, Option.map_some]
      by_cases h1 : j < k
      · rw [if_pos h1, if_pos (by omega)]
      · rw [if_neg h1, if_neg (by omega)]
    · simp [M.partL, hj]
theorem M.cells_set (L : List (Nat × ByteArray)) (k : Nat) (p : Nat × ByteArray) : M.cells (L.set k p) = ((M.cells L).set (k * 2) (.int .i64 (p.1 : Nat))).set (k * 2 + 1) (.string p.2) := by
  induction L generalizing k with
  | nil => simp [M.cells]
  | cons q L ih =>
    cases k with
    | zero => rfl
    | succ k =>
      rw [show (k + 1) * 2 = k * 2 + 2 by omega, show k * 2 + 2 + 1 = (k * 2 + 1) + 2 by omega]
      simpa [M.cells] using ih k
theorem M.made_secs (n at_ : Nat) (s : ByteArray) : madeCells #[.int .i64 0, .string ⟨#[]⟩] (n * 2) = (M.cells (M.partL n at_ s 0)).toArray := by
  have hp : M.partL n at_ s 0 = List.replicate n (0, ⟨#[]⟩) := by
    refine List.ext_getElem? (fun j => ?_)
    by_cases hj : j < n
    · simp [M.partL, hj]
    · simp [M.partL, hj]
  have hc : ∀ n j, (M.cells (List.replicate n (0, ⟨#[]⟩)))[j]? = if j < n * 2 then some (if j % 2 = 0 then Value.int .i64 0 else .string ⟨#[]⟩) else none := by
    intro n
    induction n with
    | zero => intro j; simp [M.cells]
    | succ n ih =>
      intro j
      rw [List.replicate_succ]
      match j with
      | 0 => simp [M.cells]
      | 1 =>
        rw [if_pos (by omega)]
        simp [M.cells]
      | j + 2 =>
        simp only [M.cells, List.getElem?_cons_succ]
        have e1 : (j + 2) % 2 = j % 2 := by omega
        have e2 : (j + 2 < (n + 1) * 2) = (j < n * 2) := propext ⟨fun h => by omega, fun h => by omega⟩
        have e3 := ih j
        rw [e1]
        simp only [e2]
        exact e3
  rw [hp]
  apply Array.ext
  · rw [size_madeCells, List.size_toArray, M.cells_len, List.length_replicate]
  · intro i h1 h2
    rw [size_madeCells] at h1
    have := hc n i
    rw [if_pos h1] at this
    have e2 : (M.cells (List.replicate n (0, ⟨#[]⟩))).toArray[i]'h2 = if i % 2 = 0 then Value.int .i64 0 else .string ⟨#[]⟩ := by
      rw [List.getElem_toArray]
      exact (List.getElem?_eq_some_iff.1 this).2
    rw [e2]
    simp only [madeCells, Array.getElem_map, Array.getElem_range]
    rcases Nat.mod_two_eq_zero_or_one i with h | h
    · simp [h]
    · simp [h]

theorem make_secs (n : Nat) (hn : n ≤ 1000) (w : World) : (Instr.makeSlice 40 (.int .i64 (n : Int)) (.int .i64 (n : Int))).run Try.prog w = .ok (.slice (some ⟨w.heap.size, 0, none⟩) n n) (w.alloc (.cells (madeCells #[.int .i64 0, .string ⟨#[]⟩] (n * 2)) 80)) := by
  obtain ⟨i0, hi, hz0, hz1, hz2⟩ := info_parts infoSec
  have h := run_make (P := Try.prog) w 40 80 i0 _ Try.underlying40 hi hz0 .i64 .i64 n n (by omega) (Int.le_refl _) (by rw [hz2]; omega) (by omega)
  rw [hz1, Int.toNat_natCast] at h
  exact h

theorem sizeSec : (Try.prog.info? 80).map (·.size) = some 2 := by kernel_rfl
/-- One sector more is laid. -/
theorem sec_set {w1 w3 : World} {B n fr i k q p st en : Nat} {s : ByteArray} (h : Box w3 B 80 (M.cells (M.partL n (fr + i) s k)).toArray) (hb : Below B w1 w3) (hk : k < n) (hq : q = fr + i) (hp : p = q + k) (hst : st = 64 * k) (hen : en = 64 * k + 64) :
    w3.there B (k * 2) 2 ∧ Box (w3.setCells B (k * 2) [.int .i64 (p : Nat), .string (s.extract st en)]) B 80 (M.cells (M.partL n (fr + i) s (k + 1))).toArray ∧ Below B w1 (w3.setCells B (k * 2) [.int .i64 (p : Nat), .string (s.extract st en)]) := by
  have hlen : (M.cells (M.partL n (fr + i) s k)).length = n * 2 := by rw [M.cells_len, M.partL_len]
  refine ⟨fun j hj => ⟨?_, h.frozen _⟩, ?_, ?_⟩
  · rw [h.cell, List.getElem?_toArray, List.getElem?_eq_getElem (by rw [hlen]; omega)]
    rfl
  · have h1 := (h.set (k * 2) (.int .i64 (p : Nat))).set (k * 2 + 1) (.string (s.extract st en))
    rw [List.setIfInBounds_toArray, List.setIfInBounds_toArray] at h1
    rw [← M.partL_set, M.cells_set]
    rw [hp, hq, hst, hen] at h1 ⊢
    exact h1
  · exact (hb.setCell (p := ⟨B, k * 2, none⟩) (Nat.le_refl _) _).setCell (p := ⟨B, k * 2 + 1, none⟩) (Nat.le_refl _) _

set_option maxRecDepth 100000 in
set_option maxHeartbeats 1000000 in
theorem gsplit_yes (i n : Nat) (s : ByteArray) (w : World) {rb a fr mn : Nat} (hr : Reg w rb a fr mn) (hs : s.size = 64 * n) (hin : i + n ≤ mn) (hf : fr ≤ 1000) (hmn : mn ≤ 1000) :
    Calls Try.prog 14 #[.pointer (some ⟨rb, 0, none⟩), .int .i64 (i : Nat), .string s] w fun e w' =>
      e = .returned (.tuple #[.slice (some ⟨w.heap.size, 0, none⟩) n n, .int .i64 0]) ∧ Box w' w.heap.size 80 (M.cells (M.cut n (fr + i) s)).toArray ∧ Below w.heap.size w w' := by
  have c2 := hr.c2
  have HI := Lib.hid (within_any (i : Nat) (n : Nat) (mn : Nat) w (by omega) (by omega) (by omega))
  rw [show M.within (i : Nat) (n : Nat) (mn : Nat) = true by unfold M.within; simp; omega] at HI
  obtain ⟨R, hR⟩ : ∃ R, R = madeCells #[.int .i64 0, .string ⟨#[]⟩] (n * 2) := ⟨_, rfl⟩
  have hmk : ∀ W : World, (Instr.makeSlice 40 (.int .i64 (n : Int)) (.int .i64 (n : Int))).run Try.prog W = .ok (.slice (some ⟨W.heap.size, 0, none⟩) n n) (W.alloc (.cells R 80)) := fun W => by rw [hR]; exact make_secs n (by omega) W
  have hlt := hr.lt
  have HC : Hid (∀ y, Below w.heap.size w y → y.cell? ⟨rb, 1, none⟩ = some (.int .i64 (fr : Nat))) := fun y hk => (World.cell?_of_block (hk.block rb hlt)).trans hr.c1
  have h1 : (s.size : Int).tmod 64 = 0 := by rw [Int.tmod_eq_emod_of_nonneg (by omega)]; omega
  have h2 : (s.size : Int).tdiv 64 = (n : Int) := by rw [Int.tdiv_eq_ediv_of_nonneg (by omega)]; omega
  have HBX : Hid (Box (w.alloc (.cells R 80)) w.heap.size 80 (M.cells (M.partL n (fr + i) s 0)).toArray ∧ Below w.heap.size w (w.alloc (.cells R 80))) := by
    refine ⟨?_, (Below.refl _ w).alloc (Nat.le_refl _) _⟩
    rw [← M.made_secs, ← hR]
    exact Box.new _ _ _
  have hn1 : (n : Int) ≤ 1000 := by omega
  have HB := Lib.hid (And.intro hs (And.intro hin (And.intro hf hmn)))
  clear hr hin hf hmn hlt hR hs
  go_enter Try.func14, Try.ntmps14
  go_wp2_with fail
  refine HI.out.mono ?_
  rintro e w1 ⟨rfl, rfl⟩
  clear HI
  go_wp2_with fail
  obtain ⟨y0, hy0⟩ : ∃ y, y = w1.alloc (.cells R 80) := ⟨_, rfl⟩
  obtain ⟨B, hB⟩ : ∃ B, B = w1.heap.size := ⟨_, rfl⟩
  rw [← hy0, ← hB] at HBX
  rw [← hB] at HC
  rw [← hy0, ← hB]
  have HBB := Lib.hid hB
  clear hy0 hB c2 hmk
  go_loopw [33] (fun j wr => ∃ k : Nat, k ≤ n ∧ j = .int .i64 k ∧ Box wr B 80 (M.cells (M.partL n (fr + i) s k)).toArray ∧ Below B w1 wr) (fun j _ => n - (intOf j).toNat)
  case atStart => exact ⟨0, Nat.zero_le _, rfl, HBX.out⟩
  case round =>
    clear HBX
    obtain ⟨k, hk, rfl, hX, hb⟩ := hrel
    by_cases hlt : k < n
    · have hk0 : (0 : Int) ≤ (k : Int) := by omega
      have hlt' : (k : Int) < (n : Int) := by omega
      have c1 := HC.out wr hb
      obtain ⟨hs, hin, hf, hmn⟩ := HB.out
      obtain ⟨q, hq⟩ : ∃ q, q = fr + i := ⟨_, rfl⟩
      obtain ⟨p, hp⟩ : ∃ p, p = q + k := ⟨_, rfl⟩
      obtain ⟨st, hst⟩ : ∃ st, st = 64 * k := ⟨_, rfl⟩
      obtain ⟨en, hen⟩ : ∃ en, en = 64 * k + 64 := ⟨_, rfl⟩
      have e1 : IntKind.i64.wrap ((fr : Int) + (i : Int)) = (q : Int) := by rw [IntKind.wrap_i64]; omega
      have e2 : IntKind.i64.wrap ((q : Int) + (k : Int)) = (p : Int) := by rw [IntKind.wrap_i64]; omega
      have e3 : (k : Int) * 64 = (st : Int) := by omega
      have e4 : IntKind.i64.wrap ((st : Int) + 64) = (en : Int) := by rw [IntKind.wrap_i64]; omega
      have b1 : (0 : Int) ≤ (st : Int) := by omega
      have b2 : (st : Int) ≤ (en : Int) := by omega
      have b3 : (en : Int) ≤ (s.size : Int) := by omega
      have b4 : (0 : Int) ≤ (en : Int) := by omega
      have HE := Lib.hid (And.intro hq (And.intro hp (And.intro hst hen)))
      have HL : Hid (k < n) := hlt
      clear hs hin hf hmn hq hp hst hen hlt hk
      go_wp2_with fail
      go_still_tail 17, (by kernel_rfl)
      change wpList _ _ _ _ _ wr.drew
      obtain ⟨w3, hw3⟩ : ∃ v, v = wr.drew := ⟨_, rfl⟩
      have hX3 : Box w3 B 80 (M.cells (M.partL n (fr + i) s k)).toArray := by rw [hw3]; exact hX
      have hb3 : Below B w1 w3 := by rw [hw3]; exact hb.drew
      rw [← hw3]
      clear hw3 hX hb
      have HS := Lib.hid (sec_set hX3 hb3 HL.out HE.out.1 HE.out.2.1 HE.out.2.2.1 HE.out.2.2.2)
      refine wpList_store_mid rfl _ _ _ rfl B (k * 2) #[.int .i64 (p : Nat), .string (s.extract st en)] rfl rfl HS.out.1 sizeSec (all_oneCell_toArray (cs := [.int .i64 (p : Nat), .string (s.extract st en)]) (fun v hv => by simp at hv; rcases hv with rfl | rfl <;> rfl)) ?_
      clear hX3 hb3
      go_wp2_with fail
      go_roundw
      case rel => exact ⟨k + 1, HL.out, by go_num, HS.out.2⟩
      case measure => have := HL.out; simp [intOf]; omega
    · have e : k = n := by omega
      subst e
      rw [M.partL_all] at hX
      have HX := Lib.hid (And.intro hX hb)
      clear hX hb
      go_wp2_with fail
      go_ret2
      rw [← HBB.out]
      exact ⟨rfl, HX.out⟩
end Go.Proofs.Ytnjhbmpdpejpcaa
