/-
  Walks over count.Hex and solderref01.Hex.
-/
import Derived.Test.YtanaggahdadejaaDoorWords
import Derived.Deep.AppendLies
import Derived.Deep.RegionLaw
import Derived.BigRegion
import Derived.Test.YtanaggahdadejaaDoorHexMath
import Derived.Lib.UnsafeStr
import Derived.Lib.Slices
import Derived.Laws.IdiomStrings
namespace Go.Proofs.YtanaggahdadejaaDoor
open Go.RowKit

theorem Tryd.info5 : (Tryd.prog.info? 5).map (fun i => (i.zero, i.size, i.bytes)) = some (some (.int .u8 0), 1, 1) := by kernel_rfl

theorem bits_and15 : ∀ c : Fin 256, bits BinOp.and IntKind.u8 ((c.val : Nat) : Int) 15 = ((c.val % 16 : Nat) : Int) := by decide +kernel

theorem dig_hi (c : UInt8) (h' : ((c.toNat : Int) / 16).toNat < (⟨#[48, 49, 50, 51, 52, 53, 54, 55, 56, 57, 97, 98, 99, 100, 101, 102]⟩ : ByteArray).size) :
    ((⟨#[48, 49, 50, 51, 52, 53, 54, 55, 56, 57, 97, 98, 99, 100, 101, 102]⟩ : ByteArray)[((c.toNat : Int) / 16).toNat]'h') = M.hexd (c.toNat / 16) := by
  have hc := c.toNat_lt
  have e : ((c.toNat : Int) / 16).toNat = c.toNat / 16 := by omega
  rw [← M.digs_at (c.toNat / 16) (by omega) (show c.toNat / 16 < 16 by omega)]
  show M.digs[_]'_ = M.digs[_]'_
  congr 1
theorem dig_lo (c : UInt8) (h' : ((c.toNat : Int) % 16).toNat < (⟨#[48, 49, 50, 51, 52, 53, 54, 55, 56, 57, 97, 98, 99, 100, 101, 102]⟩ : ByteArray).size) :
    ((⟨#[48, 49, 50, 51, 52, 53, 54, 55, 56, 57, 97, 98, 99, 100, 101, 102]⟩ : ByteArray)[((c.toNat : Int) % 16).toNat]'h') = M.hexd (c.toNat % 16) := by
  have hc := c.toNat_lt
  have e : ((c.toNat : Int) % 16).toNat = c.toNat % 16 := by omega
  rw [← M.digs_at (c.toNat % 16) (by omega) (show c.toNat % 16 < 16 by omega)]
  show M.digs[_]'_ = M.digs[_]'_
  congr 1

set_option maxHeartbeats 2000000 in
theorem hex_any (s : ByteArray) (w : World) (hs : s.size ≤ 100000) :
    Calls Tryd.prog 15 #[.string s] w fun e w' => e = .returned (.string ⟨(M.hexL s.data.toList).toArray⟩) ∧ Below w.heap.size w w' := by
  obtain ⟨i0, hi, hz0, hz1, hz2⟩ := info_parts Tryd.info5
  go_enter Tryd.func15, Tryd.ntmps15
  go_wp2_with (at_make; refine wpList_make_own _ rfl _ _ 41 rfl w.heap.size 5 i0 (.int .u8 0) 1 Tryd.underlying41 hi hz0 hz1 _ _ _ (2 * s.size) rfl rfl (by omega) (by rw [hz2]; omega) (by unfold maxLen; omega) (Nat.le_refl _) ?_; intro w1 hown1 hgrow1)
  go_loopw [3, 11] (fun v j wr => ∃ (i g cap : Nat), i ≤ s.size ∧ j = .int .i64 i ∧ v = .slice (some ⟨g, 0, none⟩) (2 * i) cap ∧ wr.ownsRow w.heap.size 5 1 v (2 * i) (Lib.byteCells (M.hexL (s.data.toList.take i))) ∧ Below w.heap.size w wr) (fun _ j _ => s.size - (intOf j).toNat)
  case atStart => exact ⟨0, _, _, by omega, rfl, rfl, hown1, Below.grown (Below.refl _ _) hgrow1 (Nat.le_refl _) (fun k h => by cases h)⟩
  case round =>
    clear hown1 hgrow1
    obtain ⟨i, g0, cap0, his, rfl, rfl, hown, hbw⟩ := hrel
    have hBs := hbw.size
    by_cases hlt : i < s.size
    · have hlt2 : (i : Int) < (s.size : Int) := by omega
      obtain ⟨c, hc⟩ : ∃ c, c = (s[i]'hlt) := ⟨_, rfl⟩
      have hc8 := c.toNat_lt
      have HT : Hid (M.hexL (s.data.toList.take (i + 1)) = M.hexL (s.data.toList.take i) ++ [M.hexd (c.toNat / 16), M.hexd (c.toNat % 16)]) := by
        rw [hc]; exact M.hexL_take s.data.toList i hlt
      have hix : ∀ h : i < s.size, s[i]'h = c := fun _ => hc.symm
      clear hc
      have hand := bits_and15 ⟨c.toNat, c.toNat_lt⟩
      simp only [] at hand
      have hq : (0 : Int) ≤ (c.toNat : Int) / 16 ∧ (c.toNat : Int) / 16 < 16 := by omega
      have hr : (0 : Int) ≤ (c.toNat : Int) % 16 ∧ (c.toNat : Int) % 16 < 16 := by omega
      go_wp2_with fail
      go_region_law (refine step_append_lies _ rfl _ _ 41 rfl w.heap.size 5 i0 (.int .u8 0) 1 1 Tryd.underlying41 hi hz0 hz1 hz2 rfl (by decide) _ _ _ rfl (by exact hown.alloc _) ⟨wr.heap.size, 0, none⟩ 2 2 [_, _] rfl rfl (by exact cell_two_new _ _ _ _) (fun x hx => by simp at hx; rcases hx with rfl | rfl <;> rfl) (by omega) (by unfold maxLen; omega) (by omega) (by simp; omega) _ rfl ?_; intro g cap w3 hown3 hgrow3 hat3 hlt3; have X := Lib.hid (And.intro hown3 hgrow3); clear hown3 hgrow3 hat3 hlt3)
      all_goals (
        have h4 : w3.ownsRow w.heap.size 5 1 (.slice (some ⟨g, 0, none⟩) (2 * i + 2) cap) (2 * (i + 1)) (Lib.byteCells (M.hexL (s.data.toList.take (i + 1)))) := by
          have h := X.out.1
          rw [dig_hi, dig_lo] at h
          rw [HT.out, Lib.byteCells_append]
          exact h
        have hb4 : Below w.heap.size w w3 := by
          first
            | exact Below.grown (hbw.alloc hBs _) X.out.2 (by simp; omega) (fun j hj => (hown.lt _ hj).1)
            | exact Below.grown (hbw.alloc hBs _).drew X.out.2 (by simp; omega) (fun j hj => (hown.lt _ hj).1)
        have Y := Lib.hid (And.intro h4 hb4)
        clear X h4 hb4 hown hbw hand hix
        go_wp2_with fail
        go_roundw
        case rel => exact ⟨i + 1, g, cap, by omega, by go_num, rfl, Y.out.1, Y.out.2⟩
        case measure => simp [intOf]; omega)
    · have hii : i = s.size := by omega
      rw [hii, List.take_of_length_le (by rw [M.size_list]; omega)] at hown
      rw [hii]
      have HL := M.hexL_len s.data.toList
      obtain ⟨l, hl⟩ : ∃ l, l = M.hexL s.data.toList := ⟨_, rfl⟩
      rw [← hl] at hown HL
      rw [M.size_list] at HL
      have HL2 := Lib.hid hl
      clear hl hii
      have hcv := run_convert_bytes_back (P := Tryd.prog) wr 41 9 5 ⟨g0, 0, none⟩ cap0 l Tryd.underlying41 Tryd.underlying5 Tryd.underlying9 (fun j hj => hown.cells (g := g0) rfl j _ (by simp [Lib.byteCells, hj]))
      rw [HL] at hcv
      clear HL hown
      go_wp2_with fail
      go_ret
      have hl := HL2.out
      subst hl
      exact ⟨rfl, hbw⟩
end Go.Proofs.YtanaggahdadejaaDoor
