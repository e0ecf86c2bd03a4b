/-
  Walks over solderref01.Hex, value and Unhex.
-/
import Derived.Test.YtanaggahdadejaaDoorUnhex
namespace Go.Proofs.YtanaggahdadejaaDoor
open Go.RowKit

set_option maxHeartbeats 2000000 in
theorem refHex_any (s : ByteArray) (w : World) (hs : s.size ≤ 100000) :
    Calls Tryd.prog 16 #[.string s] w fun e w' => e = .returned (.string ⟨(M.hexL s.data.toList).toArray⟩) ∧ Below w.heap.size w w' := by
  go_enter Tryd.func16, Tryd.ntmps16
  go_wp2_with fail
  go_loopw [3, 4] (fun t j wr => ∃ (i : Nat) (b : ByteArray), i ≤ s.size ∧ j = .int .i64 i ∧ t = .string b ∧ Below w.heap.size w wr ∧ Hid (b.data.toList = M.hexL (s.data.toList.take i)) ∧ b.size ≤ 2 * i) (fun _ j _ => s.size - (intOf j).toNat)
  case atStart => exact ⟨0, ⟨#[]⟩, by omega, rfl, rfl, Below.refl _ _, rfl, by decide⟩
  case round =>
    obtain ⟨i, b, his, rfl, rfl, hbw, HB, hbs⟩ := hrel
    by_cases hlt : i < s.size
    · have hlt2 : (i : Int) < (s.size : Int) := by omega
      have hi0 : (0 : Int) ≤ (i : Int) := by omega
      obtain ⟨c, hc⟩ : ∃ c, c = (s[i]'hlt) := ⟨_, rfl⟩
      have hc8 : c.toNat < 256 := c.toNat_lt
      have HT : Hid (M.hexL (s.data.toList.take (i + 1)) = M.hexL (s.data.toList.take i) ++ [M.hexd (c.toNat / 16), M.hexd (c.toNat % 16)]) := by
        rw [hc]; exact M.hexL_take s.data.toList i hlt
      have hix : ∀ h : i < s.size, s[i]'h = c := fun _ => hc.symm
      clear hc
      have hq : (0 : Int) ≤ (c.toNat : Int) / 16 ∧ (c.toNat : Int) / 16 < 16 := by omega
      have hr : (0 : Int) ≤ (c.toNat : Int) % 16 ∧ (c.toNat : Int) % 16 < 16 := by omega
      go_wp2_with fail
      go_quiet (fail)
      have R : Hid ((b ++ (⟨#[48, 49, 50, 51, 52, 53, 54, 55, 56, 57, 97, 98, 99, 100, 101, 102]⟩ : ByteArray).extract (c.toNat / 16) (c.toNat / 16 + 1) ++ (⟨#[48, 49, 50, 51, 52, 53, 54, 55, 56, 57, 97, 98, 99, 100, 101, 102]⟩ : ByteArray).extract (c.toNat % 16) (c.toNat % 16 + 1)).data.toList = M.hexL (s.data.toList.take (i + 1))) := by
        have e1 := M.digs_piece (c.toNat / 16) (by omega)
        have e2 := M.digs_piece (c.toNat % 16) (by omega)
        show ((b ++ M.digs.extract (c.toNat / 16) (c.toNat / 16 + 1)) ++ M.digs.extract (c.toNat % 16) (c.toNat % 16 + 1)).data.toList = _
        rw [ByteArray.data_append, ByteArray.data_append, Array.toList_append, Array.toList_append, e1, e2, HB.out, HT.out, List.append_assoc]
        rfl
      have hsz : (b ++ (⟨#[48, 49, 50, 51, 52, 53, 54, 55, 56, 57, 97, 98, 99, 100, 101, 102]⟩ : ByteArray).extract (c.toNat / 16) (c.toNat / 16 + 1) ++ (⟨#[48, 49, 50, 51, 52, 53, 54, 55, 56, 57, 97, 98, 99, 100, 101, 102]⟩ : ByteArray).extract (c.toNat % 16) (c.toNat % 16 + 1)).size ≤ 2 * (i + 1) := by
        rw [← M.size_list, R.out, M.hexL_len, List.length_take]
        omega
      have Y := Lib.hid (And.intro R.out hsz)
      clear R hsz HT HB hix
      go_wp2_with fail
      go_roundw
      case rel => exact ⟨i + 1, _, by omega, by go_num, rfl, below_drewN hbw _, Y.out.1, Y.out.2⟩
      case measure => simp [intOf]; omega
    · have hb : b = ⟨(M.hexL s.data.toList).toArray⟩ := by
        have h := HB.out
        rw [List.take_of_length_le (by rw [M.size_list]; omega)] at h
        rw [← h]
      have HBE := Lib.hid hb
      clear hb HB
      go_wp2_with fail
      go_ret
      exact ⟨by rw [← HBE.out]; rfl, hbw⟩

def valI (c : Nat) : Int := if M.hexv c < 16 then (M.hexv c : Int) else -1
theorem valI_at (c i : Nat) (hi : i < 16) (h : (M.hexd i).toNat = c) : (i : Int) = valI c := by
  have := M.hexd_val i hi
  rw [h] at this
  rw [valI, this, if_pos hi]
theorem valI_none (c : Nat) (hc : c < 256) (h : ∀ k, k < 16 → ¬ (M.hexd k).toNat = c) : (-1 : Int) = valI c := by
  rw [valI, if_neg]
  intro hv
  have e : (UInt8.ofNat c).toNat = c := by rw [UInt8.toNat_ofNat']; omega
  have hb := M.hexv_back (UInt8.ofNat c) (by rw [e]; exact hv)
  rw [e] at hb
  exact h _ hv (by rw [hb, e])

set_option maxHeartbeats 1000000 in
theorem value_any (c : Nat) (hc : c < 256) (w : World) :
    Calls Tryd.prog 25 #[.int .u8 (c : Int)] w fun e w' => e = .returned (.int .i64 (valI c)) ∧ w = w' := by
  go_enter Tryd.func25, Tryd.ntmps25
  go_wp2_with fail
  go_loop [3] (fun j => ∃ i : Nat, i ≤ 16 ∧ j = .int .i64 i ∧ Hid (∀ k, k < i → ¬ (M.hexd k).toNat = c)) (fun j => 16 - (intOf j).toNat)
  case atStart => exact ⟨0, by omega, rfl, fun k h => by omega⟩
  case round =>
    obtain ⟨i, hi, rfl, HN⟩ := hrel
    by_cases hlt : i < 16
    · have hD : ∀ h : i < (⟨#[48, 49, 50, 51, 52, 53, 54, 55, 56, 57, 97, 98, 99, 100, 101, 102]⟩ : ByteArray).size, ((⟨#[48, 49, 50, 51, 52, 53, 54, 55, 56, 57, 97, 98, 99, 100, 101, 102]⟩ : ByteArray)[i]'h) = M.hexd i := fun h => M.digs_at i hlt h
      by_cases he : (M.hexd i).toNat = c
      · have hb : (((M.hexd i).toNat : Int) == (c : Int)) = true := by simp [he]
        have HV := Lib.hid (valI_at c i hlt he)
        clear he
        go_wp2_with fail
        go_ret
        exact ⟨ret_int HV.out, rfl⟩
      · have hb : (((M.hexd i).toNat : Int) == (c : Int)) = false := by rw [beq_eq_false_iff_ne]; omega
        have HN2 : Hid (∀ k, k < i + 1 → ¬ (M.hexd k).toNat = c) := by
          intro k hk
          by_cases hki : k = i
          · rw [hki]; exact he
          · exact HN.out k (by omega)
        clear he HN
        go_wp2_with fail
        go_round
        case rel => exact ⟨i + 1, by omega, by go_num, HN2⟩
        case measure => simp [intOf]; omega
    · have HV := Lib.hid (valI_none c hc (fun k hk => HN.out k (by omega)))
      go_wp2_with fail
      go_ret
      exact ⟨ret_int HV.out, rfl⟩

theorem value_yes (c v : Nat) (hv : M.hexv c = v) (h : v < 16) (hc : c < 256) (w : World) :
    Calls Tryd.prog 25 #[.int .u8 (c : Int)] w fun e w' => e = .returned (.int .i64 (v : Int)) ∧ w' = w := by
  refine (value_any c hc w).mono ?_
  rintro e w' ⟨rfl, rfl⟩
  exact ⟨ret_int (by rw [valI, hv, if_pos h]), rfl⟩
theorem value_no (c : Nat) (h : ¬ M.hexv c < 16) (hc : c < 256) (w : World) :
    Calls Tryd.prog 25 #[.int .u8 (c : Int)] w fun e w' => e = .returned (.int .i64 (-1)) ∧ w' = w := by
  refine (value_any c hc w).mono ?_
  rintro e w' ⟨rfl, rfl⟩
  exact ⟨ret_int (by rw [valI, if_neg h]), rfl⟩

theorem value_q (c : Nat) (hc : c < 256) (w : World) :
    Calls Tryd.prog 25 #[.int .u8 (c : Int)] w fun e w' => e = .returned (.int .i64 (valI c)) ∧ w' = w :=
  (value_any c hc w).mono fun _ _ ⟨a, b⟩ => ⟨a, b.symm⟩

theorem run_one_byte (w : World) (b : UInt8) : (convert 41 9 (.slice (some ⟨w.heap.size, 0, none⟩) 1 1)).run Tryd.prog (w.alloc (.cells #[.int .u8 (b.toNat : Int)] 5)) = .ok (.string ⟨#[b]⟩) (w.alloc (.cells #[.int .u8 (b.toNat : Int)] 5)) :=
  run_convert_bytes_back (P := Tryd.prog) (w.alloc (.cells #[.int .u8 (b.toNat : Int)] 5)) 41 9 5 ⟨w.heap.size, 0, none⟩ 1 [b] Tryd.underlying41 Tryd.underlying5 Tryd.underlying9 (fun j hj => cell_one_new _ _ _ j _ (by
    have : j = 0 := by simpa using hj
    subst this; rfl))

set_option maxHeartbeats 2000000 in
theorem refUnhex_any (s : ByteArray) (w : World) (hs : s.size ≤ 100000) :
    Calls Tryd.prog 14 #[.string s] w fun e w' => e = .returned (unhexT s.data.toList) ∧ Below w.heap.size w w' := by
  have HSL := Lib.hid (M.size_list s)
  rcases Nat.mod_two_eq_zero_or_one s.size with hev | hod
  · have hmod : ((s.size : Int) % 2 != 0) = false := by simp; omega
    have HEV := Lib.hid hev
    go_enter Tryd.func14, Tryd.ntmps14
    go_wp2_with fail
    go_loopw [4, 5] (fun t j wr => ∃ (m : Nat) (b : ByteArray), m ≤ s.size ∧ m % 2 = 0 ∧ j = .int .i64 (m : Int) ∧ t = .string b ∧ b.size ≤ m ∧ Below w.heap.size w wr ∧ M.UR s.data.toList m b.data.toList 0) (fun _ j _ => s.size - (intOf j).toNat)
    case atStart => exact ⟨0, ⟨#[]⟩, by omega, by omega, rfl, rfl, by decide, Below.refl _ _, M.UR.start _⟩
    case round =>
      obtain ⟨m, b, hms, hm2, rfl, rfl, hbs, hbw, HU⟩ := hrel
      by_cases hlt : m + 1 < s.size
      · have hm0 : m < s.size := by omega
        have hI0 : (m : Int) < (s.size : Int) := by omega
        have hI1 : (m : Int) + 1 < (s.size : Int) := by omega
        have hI2 : (0 : Int) ≤ (m : Int) := by omega
        have hI3 : (0 : Int) ≤ (m : Int) + 1 := by omega
        have hW : IntKind.i64.wrap ((m : Int) + 1) = (m : Int) + 1 := IntWalk.i64_in _ (by omega)
        have hTN : ((m : Int) + 1).toNat = m + 1 := by omega
        obtain ⟨c1, hc1⟩ : ∃ c, c = (s[m]'hm0).toNat := ⟨_, rfl⟩
        obtain ⟨c2, hc2⟩ : ∃ c, c = (s[m + 1]'hlt).toNat := ⟨_, rfl⟩
        have l1 : c1 < 256 := by rw [hc1]; exact (s[m]'hm0).toNat_lt
        have l2 : c2 < 256 := by rw [hc2]; exact (s[m + 1]'hlt).toNat_lt
        have hx1 : ∀ h : m < s.size, (s[m]'h).toNat = c1 := fun _ => hc1.symm
        have hx2 : ∀ h : m + 1 < s.size, (s[m + 1]'h).toNat = c2 := fun _ => hc2.symm
        clear hc1 hc2
        have hl1 : s.data.toList[m]'hm0 = s[m]'hm0 := rfl
        have hl2 : s.data.toList[m + 1]'hlt = s[m + 1]'hlt := rfl
        by_cases g1 : M.hexv c1 < 16
        · obtain ⟨v1, hv1⟩ : ∃ v, v = M.hexv c1 := ⟨_, rfl⟩
          rw [← hv1] at g1
          have U1 := HU.first hm2 hm0 (by rw [hl1, hx1 hm0, ← hv1]; exact g1)
          rw [hl1, hx1 hm0, ← hv1] at U1
          have H1 : Hid (M.hexv c1 = v1) := hv1.symm
          clear hv1
          by_cases g2 : M.hexv c2 < 16
          · obtain ⟨v2, hv2⟩ : ∃ v, v = M.hexv c2 := ⟨_, rfl⟩
            rw [← hv2] at g2
            have U2 := (U1.second (by omega) hlt (by rw [hl2, hx2 hlt, ← hv2]; exact g2)).1
            rw [hl2, hx2 hlt, ← hv2] at U2
            have H2 : Hid (M.hexv c2 = v2) := hv2.symm
            clear hv2 U1 HU hl1 hl2
            go_wp2_with fail
            go_quiet ((go_at_call 25; exact Calls.quiet_of_same (value_q _ (by omega) _)))
            have hv1 : valI c1 = (v1 : Int) := by rw [valI, H1.out, if_pos g1]
            have hv2 : valI c2 = (v2 : Int) := by rw [valI, H2.out, if_pos g2]
            clear hx1 hx2 hW hTN
            have hbw2 := below_drewN hbw nq
            clear hbw
            generalize wr.drewN nq = W2 at hbw2 ⊢
            obtain ⟨x, hx⟩ : ∃ x, x = UInt8.ofNat (16 * v1 + v2) := ⟨_, rfl⟩
            have hxi : (x.toNat : Int) = 16 * (v1 : Int) + (v2 : Int) := by
              rw [hx, UInt8.toNat_ofNat']; omega
            rw [← hx] at U2
            clear hx
            have hcv := run_one_byte W2 x
            rw [hxi] at hcv
            have HX := Lib.hid hxi
            clear hxi
            have hb3 : Below w.heap.size w (W2.alloc (.cells #[.int .u8 (16 * (v1 : Int) + (v2 : Int))] 5)) := hbw2.alloc hbw2.size _
            have HB3 := Lib.hid hb3
            clear hb3
            have R : Hid (M.UR s.data.toList (m + 2) (b ++ (⟨#[x]⟩ : ByteArray)).data.toList 0) := by
              have e : (b ++ (⟨#[x]⟩ : ByteArray)).data.toList = b.data.toList ++ [x] := by rw [ByteArray.data_append, Array.toList_append]
              show M.UR _ _ _ _
              rw [e]
              exact U2.any (by omega) 0
            have hbz : (b ++ (⟨#[x]⟩ : ByteArray)).size ≤ m + 2 := by rw [ByteArray.size_append]; show b.size + 1 ≤ _; omega
            have HZ := Lib.hid hbz
            clear U2 hbz
            go_wp2_with fail
            go_roundw
            case rel => exact ⟨m + 2, b ++ ⟨#[x]⟩, by omega, by omega, by go_num, rfl, HZ.out, HB3.out, R.out⟩
            case measure => simp [intOf]; omega
          · have HN := Lib.hid (U1.bad (by rw [HSL.out]; exact HEV.out) hlt (by rw [hl2, hx2 hlt]; exact g2))
            clear U1 HU hl1 hl2
            go_wp2_with fail
            go_quiet ((go_at_call 25; exact Calls.quiet_of_same (value_q _ (by omega) _)))
            have hv1 : valI c1 = (v1 : Int) := by rw [valI, H1.out, if_pos g1]
            have hv2 : valI c2 = -1 := by rw [valI, if_neg g2]
            have hd1 : decide ((v1 : Int) < 0) = false := by simp
            clear hx1 hx2 hW hTN g2
            go_wp2_with fail
            go_ret2
            exact ⟨unhexT_none HN.out, below_drewN hbw nq⟩
        · have HN := Lib.hid (HU.bad (by rw [HSL.out]; exact HEV.out) hm0 (by rw [hl1, hx1 hm0]; exact g1))
          clear HU hl1 hl2
          go_wp2_with fail
          go_quiet ((go_at_call 25; exact Calls.quiet_of_same (value_q _ (by omega) _)))
          have hv1 : valI c1 = -1 := by rw [valI, if_neg g1]
          clear hx1 hx2 hW hTN g1
          go_wp2_with fail
          go_ret2
          exact ⟨unhexT_none HN.out, below_drewN hbw nq⟩
      · have HN := Lib.hid (HU.done (by rw [HSL.out]; exact HEV.out) (by rw [HSL.out]; omega))
        clear HU
        go_wp2_with fail
        go_ret2
        exact ⟨unhexT_some HN.out, hbw⟩
  · have hmod : ((s.size : Int) % 2 != 0) = true := by simp; omega
    have HN := Lib.hid (M.unhex_odd s.data.toList (by rw [M.size_list]; exact hod))
    clear hod
    go_enter Tryd.func14, Tryd.ntmps14
    go_wp2_with fail
    go_ret2
    exact ⟨unhexT_none HN.out, Below.refl _ _⟩
end Go.Proofs.YtanaggahdadejaaDoor
