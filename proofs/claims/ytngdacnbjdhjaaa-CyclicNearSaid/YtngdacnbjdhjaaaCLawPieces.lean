/-
  Walk over solderlaw03.CyclicPieces.
-/
import Derived.Test.YtngdacnbjdhjaaaCPieces
namespace Go.Proofs.Ytngdacnbjdhjaaa
open Go.RowKit

theorem grown_set (w : World) (b i : Nat) (u : Value) : w.grownBy (w.setCell ⟨b, i, none⟩ u) (some b) :=
  ⟨rfl, rfl, rfl, by simp [World.setCell], fun k _ hne => Below.heap_setCell w _ u k (fun e => hne (by rw [e]))⟩
theorem below_by {B b : Nat} {w w1 w2 : World} (h : Below B w w1) (hg : w1.grownBy w2 (some b)) (hB : B ≤ b) (hs : B ≤ w1.heap.size) : Below B w w2 :=
  h.grown hg hs (fun k e => by injection e with e; omega)
theorem cell_kept {w w' : World} {b : Nat} {p : Addr} {u : Value} (h : w.cell? p = some u) (hg : w.grownBy w' (some b)) (hne : p.block ≠ b) : w'.cell? p = some u :=
  (World.cell?_of_block (hg.block p.block (World.block_lt_of_cell? w _ h) (fun e => hne (by injection e)))).trans h

/-- A cyclic.State in block b of w that has had these bytes. -/
def Had (w : World) (b : Nat) (a : ByteArray) : Prop := Box w b 40 #[.int .u32 (M.of a.data.toList)]
theorem addH (b : Nat) (a s : ByteArray) (w : World) (hs : s.size ≤ 9223372036854775807) (hB : Had w b a) :
    Calls Try.prog 13 #[.pointer (some ⟨b, 0, none⟩), .string s] w fun e w' => e = .returned (.tuple #[]) ∧ Had w' b (a ++ s) ∧ w.grownBy w' (some b) := by
  refine (add_any b _ s w (M.of_lt _) hs hB).mono ?_
  rintro e w' ⟨rfl, rfl⟩
  refine ⟨rfl, ?_, grown_set _ _ _ _⟩
  have h := hB.set 0 (.int .u32 ((M.run (M.of a.data.toList ^^^ 4294967295) s.data.toList ^^^ 4294967295 : Nat) : Int))
  rw [ext_of] at h
  rw [ext_of]
  unfold Had
  rw [ByteArray.data_append, Array.toList_append]
  exact h
theorem sumH (b : Nat) (a : ByteArray) (w : World) (hB : Had w b a) :
    Calls Try.prog 14 #[.pointer (some ⟨b, 0, none⟩)] w fun e w' => e = .returned (.int .i64 (M.of a.data.toList)) ∧ w = w' :=
  sum_any b _ w (M.of_lt _) hB

/-- What stands at the loop's head. -/
def PcHead (w : World) (b len : Nat) (u j : Value) (wr : World) : Prop :=
  ∃ (k : Nat) (a : ByteArray), k ≤ len ∧ j = .int .i64 k ∧ u = .string a ∧ a.size ≤ 3000 ∧ Had wr b a ∧ Below w.heap.size w wr

set_option maxHeartbeats 1000000 in
theorem cyclicPieces_walk (v : Value) (w : World) (hO : StrsAt w v) :
    Calls Try.prog 4 #[v] w fun e w' => e = .returned (.bool true) ∧ Below w.heap.size w w' := by
  obtain ⟨A, len, cap, rfl, hO⟩ := hO
  have HO := Lib.hid hO
  clear hO
  have HN := Lib.hid (new_any w)
  go_enter Try.func4, Try.ntmps4
  go_wp2_with fail
  refine (works_any w).mono ?_
  rintro e w1 ⟨rfl, rfl⟩
  go_wp2_with fail
  refine HN.out.mono ?_
  rintro e w1 ⟨rfl, hw1⟩
  have HB1 : Hid (Had w1 w.heap.size ⟨#[]⟩) := by
    show Had _ _ _
    unfold Had
    have e : M.of (⟨#[]⟩ : ByteArray).data.toList = 0 := by decide +kernel
    rw [e, hw1]
    exact Box.new _ _ _
  have hb1 : Below w.heap.size w w1 := by rw [hw1]; exact (Below.refl _ _).alloc (Nat.le_refl _) _
  clear hw1 HN
  obtain ⟨b, hb⟩ : ∃ b, b = w.heap.size := ⟨_, rfl⟩
  have HBW : Hid (w.heap.size ≤ b) := by show _ ≤ _; omega
  rw [← hb] at HB1
  rw [show (⟨w.heap.size, 0, none⟩ : Addr) = ⟨b, 0, none⟩ by rw [hb]]
  clear hb
  go_wp2_with fail
  go_loopw [5, 6] (fun u j wr => PcHead w b len u j wr) (fun _ j _ => len - (intOf j).toNat)
  case atStart => exact ⟨0, ⟨#[]⟩, Nat.zero_le _, rfl, rfl, by show 0 ≤ _; omega, HB1.out, hb1⟩
  case round =>
    obtain ⟨k, a, hk, rfl, rfl, ha, hH, hbw⟩ := hrel
    have HH := Lib.hid hH
    clear hH HB1 hb1
    by_cases hlt : k < len
    · by_cases h100 : 100 ≤ k
      · have hd : decide ((100 : Int) ≤ (k : Int)) = true := by simp; omega
        go_wp2_with fail
        go_ret
        exact ⟨rfl, hbw⟩
      · have hd : decide ((100 : Int) ≤ (k : Int)) = false := by simp; omega
        obtain ⟨ad, s, rfl, hbl, hc0⟩ := HO.out k hlt
        have hk0 : (0 : Int) ≤ (k : Int) := by omega
        have hk1 : (k : Int) < (len : Int) := by omega
        have hc0 : wr.cell? (ad.add k) = some (.string s) := (hbw.cell (by rw [add_block]; exact hbl)).trans hc0
        by_cases hz : (3000 : Int) - a.size < s.size
        · have hd2 : decide ((3000 : Int) - (a.size : Int) < (s.size : Int)) = true := by simpa using hz
          go_wp2_with fail
          go_ret
          exact ⟨rfl, hbw⟩
        · have hd2 : decide ((3000 : Int) - (a.size : Int) < (s.size : Int)) = false := by simpa using hz
          have hne : Hid ((ad.add k).block ≠ b) := by show _ ≠ _; rw [add_block]; have := HBW.out; omega
          have hsz : (a ++ s).size ≤ 3000 := by rw [ByteArray.size_append]; omega
          go_wp2_with fail
          refine (addH b a s wr (by omega) HH.out).mono ?_
          rintro e w2 ⟨rfl, hH2, hg2⟩
          have hc2 := cell_kept hc0 hg2 hne.out
          have HH2 := Lib.hid hH2
          have hb2 := below_by hbw hg2 HBW.out hbw.size
          clear hH2 hg2 HH hbw hc0
          go_wp2_with fail
          refine (add_nil s w2).mono ?_
          rintro e w3 ⟨rfl, rfl⟩
          go_wp2_with fail
          refine (sumH b (a ++ s) w2 HH2.out).mono ?_
          rintro e w3 ⟨rfl, rfl⟩
          go_wp2_with fail
          refine (of_any (a ++ s) w2 (by omega)).mono ?_
          rintro e w3 ⟨rfl, rfl⟩
          go_wp2_with fail
          go_roundw
          case rel => exact ⟨k + 1, a ++ s, by omega, by go_num, rfl, hsz, HH2.out, hb2⟩
          case measure => simp [intOf]; omega
    · go_wp2_with fail
      refine (sumH b a wr HH.out).mono ?_
      rintro e w3 ⟨rfl, rfl⟩
      go_wp2_with fail
      refine (of_any a wr (by omega)).mono ?_
      rintro e w3 ⟨rfl, rfl⟩
      go_wp2_with fail
      refine (sum_nil wr).mono ?_
      rintro e w3 ⟨rfl, rfl⟩
      go_wp2_with fail
      go_ret
      exact ⟨rfl, hbw⟩
end Go.Proofs.Ytngdacnbjdhjaaa
