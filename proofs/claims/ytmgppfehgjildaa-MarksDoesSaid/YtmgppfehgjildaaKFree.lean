/-
  Walks over marks.Bytes and Free, and over solderlaw07's works.
-/
import Derived.Test.YtmgppfehgjildaaKAdd
import Derived.Test.YtmgppfehgjildaaKWalk
import Derived.Laws.IdiomStrings
import Derived.WalkMore
namespace Go.Proofs.Ytmgppfehgjildaa
open Go.RowKit

theorem bytes_any (w : World) {b m : Nat} {f : Nat → Bool} (h : Set w b m f) :
    Calls Try.prog 24 #[.pointer (some ⟨b, 0, none⟩)] w fun e w' => e = .returned (.string ⟨(M.bytes m f).toArray⟩) ∧ ∃ n, w' = w.drewN n := by
  have HW := Lib.hid (fun n => width_n (w.drewN n) (h.drewN n).n)
  have hm := h.le
  have hw1 : M.wide m ≤ 125 := by unfold M.wide; omega
  have hcv : ∀ n : Nat, Sem.run Try.prog (convert 58 9 (.slice (some ⟨b, 1, none⟩) (M.wide m) 125)) (w.drewN n) = .ok (.string ⟨(M.bytes m f).toArray⟩) (w.drewN n) := fun n => by
    have := run_convert_bytes_back (P := Try.prog) (w.drewN n) 58 9 5 ⟨b, 1, none⟩ 125 (M.bytes m f) Try.underlying58 Try.underlying5 Try.underlying9 (fun j hj => by
      have e : (⟨b, 1, none⟩ : Addr).add j = ⟨b, 1 + j, none⟩ := by
        unfold Addr.add
        split
        · simp_all
        · rfl
      rw [e, M.bytes_at m f j hj]
      rw [M.bytes_len] at hj
      exact (h.drewN n).c1 j (by omega))
    rw [M.bytes_len] at this
    exact this
  obtain ⟨q, hq⟩ : ∃ q, q = M.wide m := ⟨_, rfl⟩
  rw [← hq] at HW hw1 hcv
  obtain ⟨s, hs⟩ : ∃ s : ByteArray, s = ⟨(M.bytes m f).toArray⟩ := ⟨_, rfl⟩
  rw [← hs]
  simp only [← hs] at hcv
  clear hq hs h
  have hq0 : (0 : Int) ≤ (q : Int) := by omega
  have hq1 : (q : Int) ≤ 125 := by omega
  go_enter Try.func24, Try.ntmps24
  go_wp2_with fail
  go_quiet (first | (go_at_call 31; exact quiet_same (HW.out _)))
  go_wp2_with fail
  go_ret
  exact ⟨rfl, _, rfl⟩

set_option maxRecDepth 100000 in
set_option maxHeartbeats 1000000 in
theorem free_n (w : World) {p : Option Addr} {m : Nat} {f : Nat → Bool} (h : SetN w p m f) :
    Calls Try.prog 15 #[.pointer p] w fun e w' => e = .returned (.tuple #[.int .i64 (M.num (M.free m f)), .bool (M.free m f).isSome]) ∧ ∃ n, w' = w.drewN n := by
  have HW := Lib.hid (width_n w h)
  have hm := h.le
  have HS := Lib.hid (fun n => h.drewN n)
  have hwd : M.wide m ≤ 125 ∧ m ≤ 8 * M.wide m := by unfold M.wide; omega
  obtain ⟨o, ho⟩ : ∃ o, o = M.free m f := ⟨_, rfl⟩
  rw [← ho]
  have HO := Lib.hid ho
  obtain ⟨q, hq⟩ : ∃ q, q = M.wide m := ⟨_, rfl⟩
  rw [← hq] at HW hwd
  clear ho hq h
  go_enter Try.func15, Try.ntmps15
  go_wp2_with fail
  go_step3
  go_wp2_with fail
  go_step3
  go_wp2_with fail
  refine HW.out.mono ?_
  rintro e w1 ⟨rfl, hw1⟩
  rw [hw1]
  clear hw1 HW
  go_wp2_with fail
  go_loopw [9] (fun i wr => ∃ A : Nat, A ≤ q ∧ i = .int .i64 A ∧ (∀ k, k < 8 * A → k < m → f k = true) ∧ ∃ n, wr = w.drewN n) (fun i _ => q - (intOf i).toNat)
  case atStart => exact ⟨0, Nat.zero_le _, rfl, fun k hk => absurd hk (by omega), 0, rfl⟩
  case round =>
    obtain ⟨A, hA, rfl, hall, n, rfl⟩ := hrel
    have HA := Lib.hid hall
    clear hall
    by_cases hlt : A < q
    · have hlt' : (A : Int) < (q : Int) := by omega
      go_wp2_with fail
      go_loopw [12] (fun i wr => ∃ t : Nat, t ≤ 8 ∧ i = .int .i64 t ∧ (∀ k, k < 8 * A + t → k < m → f k = true) ∧ ∃ n, wr = w.drewN n) (fun i _ => 8 - (intOf i).toNat)
      case atStart => exact ⟨0, Nat.zero_le _, rfl, HA.out, n, rfl⟩
      case round =>
        obtain ⟨t, ht, rfl, hall, n2, rfl⟩ := hrel
        have HT := Lib.hid hall
        clear hall HA
        by_cases ht8 : t < 8
        · have ht8' : (t : Int) < 8 := by omega
          obtain ⟨i, hi⟩ : ∃ i : Nat, i = 8 * A + t := ⟨_, rfl⟩
          have hi' : (8 : Int) * (A : Int) + (t : Int) = (i : Int) := by omega
          rw [← hi] at HT
          have HI := Lib.hid hi
          have HMay := Lib.hid (may_n (i : Nat) (w.drewN n2) (HS.out n2))
          by_cases him : i < m
          · have e1 : (decide ((0 : Int) ≤ (i : Int)) && decide ((i : Int) < (m : Int))) = true := by simp; omega
            rw [e1] at HMay
            have HH := Lib.hid (has_n (i : Nat) (w.drewN n2) (HS.out n2))
            rw [M.hasI_nat] at HH
            by_cases hf : f i = true
            · rw [hf] at HH
              have HF := Lib.hid hf
              clear e1 hf hi
              go_wp2_with fail
              refine HMay.out.mono ?_
              rintro e w3 ⟨rfl, rfl⟩
              go_wp2_with fail
              refine HH.out.mono ?_
              rintro e w4 ⟨rfl, n4, hw4⟩
              have HN4 : Hid (∃ n, w4 = w.drewN n) := ⟨n2 + n4, by rw [hw4]; simp [World.drewN, Nat.add_assoc]⟩
              clear hw4
              go_wp2_with fail
              go_roundw
              case rel => exact ⟨t + 1, by omega, by go_num, fun k hk hkm => by
                by_cases e : k = i
                · rw [e]; exact HF.out
                · exact HT.out k (by have := HI.out; omega) hkm, HN4.out⟩
              case measure => simp [intOf]; omega
            · have hf' : f i = false := by simpa using hf
              have HE : Hid (o = some i) := HO.out.trans (M.free_some him hf' (fun k hk => HT.out k hk (by omega)))
              rw [hf'] at HH
              clear e1 hf hf' hi
              go_wp2_with fail
              refine HMay.out.mono ?_
              rintro e w3 ⟨rfl, rfl⟩
              go_wp2_with fail
              refine HH.out.mono ?_
              rintro e w4 ⟨rfl, n4, hw4⟩
              have HN4 : Hid (∃ n, w4 = w.drewN n) := ⟨n2 + n4, by rw [hw4]; simp [World.drewN, Nat.add_assoc]⟩
              clear hw4
              go_wp2_with fail
              try rw [Exit.noGoto_ret]
              go_ret2
              rw [HE.out]
              exact ⟨rfl, HN4.out⟩
          · have e1 : (decide ((0 : Int) ≤ (i : Int)) && decide ((i : Int) < (m : Int))) = false := by simp; omega
            rw [e1] at HMay
            clear e1 hi
            go_wp2_with fail
            refine HMay.out.mono ?_
            rintro e w3 ⟨rfl, rfl⟩
            go_wp2_with fail
            go_roundw
            case rel => exact ⟨A + 1, by omega, by go_num, fun k hk hkm => HT.out k (by omega) hkm, n2, rfl⟩
            case measure => simp [intOf]; omega
        · have e : t = 8 := by omega
          subst e
          go_wp2_with fail
          go_roundw
          case rel => exact ⟨A + 1, by omega, by go_num, fun k hk hkm => HT.out k (by omega) hkm, n2, rfl⟩
          case measure => simp [intOf]; omega
    · have e : A = q := by omega
      subst e
      have HE : Hid (o = none) := HO.out.trans (M.free_none (fun k hk => HA.out k (by omega) hk))
      go_wp2_with fail
      try rw [Exit.noGoto_ret]
      go_ret2
      rw [HE.out]
      exact ⟨rfl, n, rfl⟩
end Go.Proofs.Ytmgppfehgjildaa
