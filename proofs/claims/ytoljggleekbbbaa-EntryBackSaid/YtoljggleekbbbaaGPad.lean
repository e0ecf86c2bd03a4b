/-
  Walks over region.Pad and solderref09.Pad.
-/
import Derived.Test.YtoljggleekbbbaaShelf
import Derived.Test.YtoljggleekbbbaaDNils
import Derived.Handy
import Derived.Deep.LoopGhost
namespace Go.Proofs.Ytoljggleekbbbaa
open Go.RowKit

/-- How many bytes lack of whole sectors. -/
def M.lack (n : Nat) : Nat := (64 - n % 64) % 64
/-- Bytes with noughts behind, up to whole sectors. -/
def M.pad (s : ByteArray) : ByteArray := s ++ M.zeros (M.lack s.size)
theorem M.zeros_size (n : Nat) : (M.zeros n).size = n := by
  show (List.replicate n (0 : UInt8)).toArray.size = n
  simp
theorem M.pad_size (s : ByteArray) : (M.pad s).size = s.size + M.lack s.size := by rw [M.pad, ByteArray.size_append, M.zeros_size]
theorem M.lack_whole (n : Nat) : (n + M.lack n) % 64 = 0 := by unfold M.lack; omega
theorem M.lack_least (n k : Nat) (h : k < M.lack n) : (n + k) % 64 ≠ 0 := by unfold M.lack at h; omega
theorem M.lack_le (n : Nat) : M.lack n ≤ 63 := by unfold M.lack; omega
theorem M.repeat_zero (c : Nat) : (⟨(Lib.repeatL (⟨#[0]⟩ : ByteArray).data.toList c).toArray⟩ : ByteArray) = M.zeros c := by
  have : ∀ c, Lib.repeatL [0] c = List.replicate c (0 : UInt8) := by
    intro c
    induction c with
    | zero => rfl
    | succ c ih => rw [Lib.repeatL, ih, List.replicate_succ]; rfl
  show (⟨(Lib.repeatL [0] c).toArray⟩ : ByteArray) = _
  rw [this]
  rfl
theorem M.zeros_snoc (s : ByteArray) (k : Nat) : (s ++ M.zeros k) ++ (⟨#[0]⟩ : ByteArray) = s ++ M.zeros (k + 1) := by
  rw [ByteArray.append_assoc]
  congr 1
  apply ByteArray.ext
  rw [ByteArray.data_append]
  show (List.replicate k (0 : UInt8)).toArray ++ [0].toArray = (List.replicate (k + 1) (0 : UInt8)).toArray
  rw [List.replicate_succ', List.append_toArray]
theorem zerosN_any (c : Nat) (hc : c ≤ 1000) (w : World) : Calls Try.prog 29 #[.string ⟨#[0]⟩, .int .i64 (c : Nat)] w fun e w' => e = .returned (.string (M.zeros c)) ∧ Below w.heap.size w w' := by
  have h := Try.strings_Repeat ⟨#[0]⟩ c w (by omega) (by show 1 * c ≤ _; omega)
  rw [M.repeat_zero] at h
  exact h

set_option maxRecDepth 100000 in
theorem pad_any (s : ByteArray) (hs : s.size ≤ 1000000) (w : World) : Calls Try.prog 15 #[.string s] w fun e w' => e = .returned (.string (M.pad s)) ∧ Below w.heap.size w w' := by
  unfold M.pad
  obtain ⟨r, hr⟩ : ∃ r, r = s.size % 64 := ⟨_, rfl⟩
  obtain ⟨c, hc⟩ : ∃ c, c = M.lack s.size := ⟨_, rfl⟩
  have hcl : c ≤ 63 := by rw [hc]; exact M.lack_le _
  have e1 : (s.size : Int) % 64 = (r : Int) := by omega
  have e2 : (64 - (r : Int)) % 64 = (c : Int) := by rw [hc]; unfold M.lack; omega
  have b1 : (r : Int) ≤ 63 := by omega
  have b0 : (0 : Int) ≤ 64 - (r : Int) := by omega
  rw [← hc]
  have HZ := Lib.hid (zerosN_any c (by omega) w)
  obtain ⟨t, ht⟩ : ∃ t, t = M.zeros c := ⟨_, rfl⟩
  have hts : t.size = c := by rw [ht, M.zeros_size]
  have b3 : t.size ≤ 63 := by omega
  rw [← ht] at HZ ⊢
  clear hc hr ht hts
  go_enter Try.func15, Try.ntmps15
  go_wp2_with fail
  refine HZ.out.mono ?_
  rintro e w1 ⟨rfl, h1⟩
  have H1 := Lib.hid h1
  clear h1 HZ
  go_wp2_with fail
  go_ret
  exact ⟨rfl, H1.out⟩

set_option maxRecDepth 100000 in
theorem rpad_any (s : ByteArray) (hs : s.size ≤ 1000000) (w : World) : Calls Try.prog 19 #[.string s] w fun e w' => e = .returned (.string (M.pad s)) ∧ w' = w := by
  unfold M.pad
  obtain ⟨c, hc⟩ : ∃ c, c = M.lack s.size := ⟨_, rfl⟩
  have HC := Lib.hid hc
  rw [← hc]
  have h0 : s = s ++ M.zeros 0 := (ByteArray.append_empty (b := s)).symm
  have H0 := Lib.hid h0
  clear h0 hc
  go_enter Try.func19, Try.ntmps19
  go_wp2_with fail
  go_loopg [0] c (fun g v wr => ∃ (k : Nat) (t : ByteArray), k + g = c ∧ v = .string t ∧ Hid (t = s ++ M.zeros k) ∧ wr = w)
  case atStart => exact ⟨0, s, by omega, rfl, H0, rfl⟩
  case round =>
    obtain ⟨k, t, hkg, rfl, HT, rfl⟩ := hrel
    have hsz : t.size = s.size + k := by rw [HT.out, ByteArray.size_append, M.zeros_size]
    have hc63 : c ≤ 63 := by rw [HC.out]; exact M.lack_le _
    cases gk with
    | zero =>
      have e : k = c := by omega
      subst e
      have h1 : (t.size : Int) % 64 = 0 := by
        have := M.lack_whole s.size
        rw [← HC.out] at this
        omega
      clear hsz hkg
      go_wp2_with fail
      go_ret
      exact ⟨by rw [HT.out]; rfl, rfl⟩
    | succ g =>
      have h1 : (((t.size : Int) % 64) == 0) = false := by
        have := M.lack_least s.size k (by rw [← HC.out]; omega)
        rw [beq_eq_false_iff_ne]
        omega
      have h2 : (((t.size : Int) % 64) != 0) = true := by rw [bne, h1]; rfl
      have b1 : t.size ≤ 1000063 := by omega
      have HK := Lib.hid hkg
      clear hsz hkg
      go_wp2_with fail
      go_roundg g
      case measure => omega
      case rel => exact ⟨k + 1, _, by have := HK.out; omega, rfl, (by show t ++ (⟨#[0]⟩ : ByteArray) = s ++ M.zeros (k + 1); rw [HT.out, M.zeros_snoc]), rfl⟩
end Go.Proofs.Ytoljggleekbbbaa
