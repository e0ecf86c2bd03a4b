/-
  Walk over solderlaw03.CyclicNear.
-/
import Derived.Test.YtngdacnbjdhjaaaCNear
import Derived.RegionTactic
import Derived.ChangeAlike
import Derived.BigRegion
import Derived.StillTailTactics
namespace Go.Proofs.Ytngdacnbjdhjaaa
open Go.RowKit

theorem four_at (d0 d1 d2 d3 : UInt8) (i : Nat) (hi : i < 4) : ∃ d : UInt8, (#[.int .u8 (d0.toNat : Int), .int .u8 (d1.toNat : Int), .int .u8 (d2.toNat : Int), .int .u8 (d3.toNat : Int)] : Array Value)[i]? = some (.int .u8 (d.toNat : Int)) := by
  have hc : i = 0 ∨ i = 1 ∨ i = 2 ∨ i = 3 := by omega
  rcases hc with rfl | rfl | rfl | rfl
  · exact ⟨d0, rfl⟩
  · exact ⟨d1, rfl⟩
  · exact ⟨d2, rfl⟩
  · exact ⟨d3, rfl⟩
theorem u8_turn (c d : UInt8) : bits .xor .u8 (c.toNat : Int) (d.toNat : Int) = ((c ^^^ d).toNat : Int) := by
  rw [UInt8.toNat_xor]
  exact u8_xor_nat _ _ c.toNat_lt d.toNat_lt
theorem row_new (w : World) (s : ByteArray) (cap : Nat) :
    RowU (w.drew.alloc (.cells (bytesRow s cap) 5 ((bytesRow s cap).size, (bytesRow s cap).size + 1))) w.heap.size s.data.toList := by
  have hz : s.data.toList.length ≤ (bytesRow s cap).size := by simp [bytesRow]
  refine ⟨bytesRow s cap, _, heap_alloc_new w.drew _, hz, Nat.le_refl _, fun i hi => ?_⟩
  have hi' : i < s.data.size := by simpa using hi
  unfold bytesRow
  rw [Array.getElem?_append_left (by simpa using hi'), Array.getElem?_map, Array.getElem?_eq_getElem hi']
  simp
theorem k_of (n : Int) (m : Nat) (h0 : 0 < m) (h : m ≤ 3000) : ∃ k : Nat, k < m ∧ wrap64 ((IntKind.u64.wrap n).tmod (m : Int)) = (k : Int) := by
  have e : IntKind.u64.wrap n = n % 18446744073709551616 := IntKind.wrap_u64 n
  have hn : 0 ≤ n % 18446744073709551616 := by omega
  rw [e, Int.tmod_eq_emod_of_nonneg hn]
  have h1 : 0 ≤ n % 18446744073709551616 % (m : Int) := Int.emod_nonneg _ (by omega)
  have h2 : n % 18446744073709551616 % (m : Int) < (m : Int) := Int.emod_lt_of_pos _ (by omega)
  refine ⟨(n % 18446744073709551616 % (m : Int)).toNat, by omega, ?_⟩
  unfold wrap64
  omega

theorem below_drewN {B : Nat} {a w : World} (h : Below B a w) (n : Nat) : Below B a (w.drewN n) := by
  induction n with
  | zero => exact h
  | succ n ih => exact ih.drew
theorem of_q (s : ByteArray) (w : World) (hs : s.size ≤ 9223372036854775807) :
    Calls Try.prog 8 #[.string s] w fun e w' => e = .returned (.int .i64 (M.of s.data.toList)) ∧ w' = w :=
  (of_any s w hs).mono fun _ _ h => ⟨h.1, h.2.symm⟩
/-- What stands at the loop's head: the bytes turned so far, the four, what is old. -/
def NrHead (w : World) (g c k : Nat) (l : List UInt8) (ds : Array Value) (j : Value) (wr : World) : Prop :=
  ∃ (i : Nat) (b : List UInt8), i ≤ 4 ∧ j = .int .i64 i ∧ RowU wr g b ∧ Near k l b ∧ Box wr c 32 ds ∧ Below w.heap.size w wr

set_option maxHeartbeats 1000000 in
theorem near_some (s : ByteArray) (n : Int) (d0 d1 d2 d3 : UInt8) (w : World) (hs0 : 0 < s.size) (hs : s.size ≤ 3000) :
    Calls Try.prog 6 #[.string s, .int .i64 n, .agg #[.int .u8 (d0.toNat : Int), .int .u8 (d1.toNat : Int), .int .u8 (d2.toNat : Int), .int .u8 (d3.toNat : Int)]] w fun e w' => e = .returned (.bool true) ∧ Below w.heap.size w w' := by
  have hd : decide ((3000 : Int) < (s.size : Int)) = false := by simp; omega
  have hne : s.toList.isEmpty = false := by
    rw [ByteArray.toList_eq]
    have hl : 0 < s.data.toList.length := hs0
    cases e : s.data.toList with
    | nil => rw [e] at hl; simp at hl
    | cons _ _ => rfl
  obtain ⟨k, hkm, hk⟩ := k_of n s.size hs0 hs
  obtain ⟨ds, hds⟩ : ∃ ds : Array Value, ds = #[.int .u8 (d0.toNat : Int), .int .u8 (d1.toNat : Int), .int .u8 (d2.toNat : Int), .int .u8 (d3.toNat : Int)] := ⟨_, rfl⟩
  have HF : Hid (∀ i, i < 4 → ∃ d : UInt8, ds[i]? = some (.int .u8 (d.toNat : Int))) := by show ∀ _, _; rw [hds]; exact four_at d0 d1 d2 d3
  obtain ⟨w0, hw0⟩ : ∃ x, x = w.alloc (.cells ds 32) := ⟨_, rfl⟩
  have HB0 : Hid (Box w0 w.heap.size 32 ds) := by show Box _ _ _ _; rw [hw0]; exact Box.new _ _ _
  have HL0 : Hid (Below w.heap.size w w0) := by show Below _ _ _; rw [hw0]; exact (Below.refl _ _).alloc (Nat.le_refl _) _
  have HZ0 : Hid (w0.heap.size = w.heap.size + 1) := by show _ = _; rw [hw0]; show (w.heap.push _).size = _; simp
  rw [hds] at hw0
  have HW0 := Lib.hid hw0
  have HDS := Lib.hid hds
  clear hw0 hds
  have hcv := run_bytes_of_string (P := Try.prog) w0 9 33 5 s Try.underlying9 Try.underlying33 Try.underlying5
  obtain ⟨cap, hcap⟩ : ∃ x, x = grownCap w0 s.size 0 5 := ⟨_, rfl⟩
  rw [← hcap] at hcv
  clear hcap
  obtain ⟨w2, hw2⟩ : ∃ x, x = w0.drew.alloc (.cells (bytesRow s cap) 5 ((bytesRow s cap).size, (bytesRow s cap).size + 1)) := ⟨_, rfl⟩
  rw [← hw2] at hcv
  have HR2 : Hid (RowU w2 w0.heap.size s.data.toList) := by show RowU _ _ _; rw [hw2]; exact row_new w0 s cap
  have HB2 : Hid (Box w2 w.heap.size 32 ds) := by
    show Box _ _ _ _
    rw [hw2]
    have h1 : (w0.drew.alloc (.cells (bytesRow s cap) 5 ((bytesRow s cap).size, (bytesRow s cap).size + 1))).heap[w.heap.size]? = w0.heap[w.heap.size]? := by
      show (w0.heap.push _)[w.heap.size]? = _
      rw [Array.getElem?_push_lt (by have := HZ0.out; omega), Array.getElem?_eq_getElem (by have := HZ0.out; omega)]
    exact h1.trans HB0.out
  have HL2 : Hid (Below w.heap.size w w2) := by show Below _ _ _; rw [hw2]; exact (HL0.out.drew).alloc (by have := HZ0.out; show _ ≤ w0.heap.size; omega) _
  clear hw2 HB0 HL0
  obtain ⟨g, hg⟩ : ∃ x, x = w0.heap.size := ⟨_, rfl⟩
  rw [← hg] at hcv HR2 HZ0
  obtain ⟨c, hc⟩ : ∃ x, x = w.heap.size := ⟨_, rfl⟩
  rw [← hc] at HB2 HZ0
  have HC : Hid (c = w.heap.size) := hc
  clear hg hc
  go_enter Try.func6, Try.ntmps6
  go_wp2_with fail
  rw [← HW0.out, ← HC.out]
  refine (works_any w0).mono ?_
  rintro e w1 ⟨rfl, rfl⟩
  go_wp2_with fail
  rw [hk]
  go_loopw [9] (fun j wr => NrHead w g c k s.data.toList ds j wr) (fun j _ => 4 - (intOf j).toNat)
  case atStart => exact ⟨0, s.data.toList, Nat.zero_le _, rfl, HR2.out, Near.refl _ _, HB2.out, HL2.out⟩
  case round =>
    clear HR2 HB2 HL2 hcv hk
    obtain ⟨i, b, hi, rfl, hR, hN, hB, hL⟩ := hrel
    have hbl : b.length = s.size := hN.1
    by_cases h4 : i < 4
    · by_cases hki : k + i < s.size
      · have hd4 : decide ((i : Int) < 4) = true := by simp; omega
        obtain ⟨m, hm⟩ : ∃ m, m = k + i := ⟨_, rfl⟩
        have hmi : (k : Int) + (i : Int) = (m : Int) := by omega
        have hc0 := hR.cell m (by omega)
        have hfz := hR.frozen m (by omega)
        obtain ⟨d, hd⟩ := HF.out i h4
        have hc1 := hB.cell i
        rw [hd] at hc1
        have HR := Lib.hid (hR.set m (b[m]'(by omega) ^^^ d))
        obtain ⟨x, hx⟩ : ∃ x, x = b[m]'(by omega) := ⟨_, rfl⟩
        rw [← hx] at hc0 HR
        have ht := u8_turn x d
        have HN := Lib.hid (hN.set i h4 (x ^^^ d))
        rw [← hm] at HN
        have HB := Lib.hid hB
        have HL := Lib.hid hL
        have hm1 : (m : Int) < (s.size : Int) := by omega
        have hm2 : m < s.size := by omega
        clear hx hd hR hN hB hL hm hki hbl
        have hi0 : (0 : Int) ≤ (i : Int) := by omega
        have hi4 : (i : Int) < 4 := by omega
        have hm0 : (0 : Int) ≤ (m : Int) := by omega
        have hwm : IntKind.i64.wrap (m : Int) = (m : Int) := by simp [IntKind.wrap, IntKind.bits, IntKind.signed]; omega
        go_wp2_with fail
        go_still_tail 15, (by kernel_rfl)
        change wpList _ _ _ _ _ wr.drew
        obtain ⟨w3, hw3⟩ : ∃ x, x = wr.drew := ⟨_, rfl⟩
        have hfz3 : w3.frozen? ⟨g, m, none⟩ = false := by rw [hw3]; exact hfz
        have hc3 : w3.cell? ⟨g, m, none⟩ = some (.int .u8 (x.toNat : Int)) := by rw [hw3]; exact hc0
        have HR3 : Hid (RowU (w3.setCell ⟨g, m, none⟩ (.int .u8 ((x ^^^ d).toNat : Int))) g (b.set m (x ^^^ d))) := by show RowU _ _ _; rw [hw3]; exact HR.out
        have HB3 : Hid (Box (w3.setCell ⟨g, m, none⟩ (.int .u8 ((x ^^^ d).toNat : Int))) c 32 ds) := by
          show Box _ _ _ _
          have hB3 : Box w3 c 32 ds := by rw [hw3]; exact HB.out
          exact hB3.kept (grown_set _ _ _ _) (by have := HZ0.out; omega)
        have HL3 : Hid (Below w.heap.size w (w3.setCell ⟨g, m, none⟩ (.int .u8 ((x ^^^ d).toNat : Int)))) := by
          show Below _ _ _
          have hL3 : Below w.heap.size w w3 := by rw [hw3]; exact HL.out.drew
          exact below_by hL3 (grown_set _ _ _ _) (by have := HZ0.out; have := HC.out; omega) hL3.size
        rw [← hw3]
        clear hw3 HR HB HL hc0 hc1 hfz
        go_wp2_with fail
        go_roundw
        case rel => exact ⟨i + 1, b.set m (x ^^^ d), by omega, by go_num, HR3.out, HN.out, HB3.out, HL3.out⟩
        case measure => simp [intOf]; omega
      · have hd4 : decide ((i : Int) < 4) = true := by simp; omega
        have hdk : decide ((k : Int) + (i : Int) < (s.size : Int)) = false := by simp; omega
        have HL := Lib.hid hL
        obtain ⟨bs, hbs⟩ : ∃ x : ByteArray, x = ⟨b.toArray⟩ := ⟨_, rfl⟩
        have hcb : ∀ w9 : World, w9.heap = wr.heap → Sem.run Try.prog (convert 33 9 (.slice (some ⟨g, 0, none⟩) s.size cap)) w9 = .ok (.string bs) w9 := fun w9 h9 => by
          rw [hbs, ← hbl]
          exact run_convert_bytes_back (P := Try.prog) w9 33 9 5 ⟨g, 0, none⟩ cap b Try.underlying33 Try.underlying5 Try.underlying9 (fun j hj => by
            rw [blk_add, show w9.cell? ⟨g, j, none⟩ = wr.cell? ⟨g, j, none⟩ by simp only [World.cell?, h9]]
            exact hR.cell j hj)
        have hcq : ∀ n9 : Nat, Sem.run Try.prog (convert 33 9 (.slice (some ⟨g, 0, none⟩) s.size cap)) (wr.drewN n9) = .ok (.string bs) (wr.drewN n9) := fun n9 => hcb _ rfl
        have hbz : bs.size ≤ 9223372036854775807 := by rw [hbs]; show b.length ≤ _; omega
        have hsz : s.size ≤ 9223372036854775807 := by omega
        by_cases hb : b = s.data.toList
        · have e : bs = s := by rw [hbs, hb]
          subst e
          clear hb hbs hR hB hL hN hcb hbl
          go_wp2_with fail
          go_quiet ((go_at_call 8; exact Calls.quiet_of_same (of_q _ _ hbz)))
          go_wp2_with fail
          go_ret
          exact ⟨rfl, below_drewN HL.out _⟩
        · have e1 : (bs.toList == s.toList) = false := by
            rw [beq_eq_false_iff_ne]
            intro e
            apply hb
            rw [ByteArray.toList_eq, ByteArray.toList_eq] at e
            rw [← e, hbs]
          have e2 : (((M.of bs.data.toList : Nat) : Int) == ((M.of s.data.toList : Nat) : Int)) = false := by
            rw [beq_eq_false_iff_ne]
            intro e
            apply hb
            rw [hbs] at e
            exact hN.of (Int.ofNat.inj e)
          clear hb hbs hR hB hL hN hcb hbl
          go_wp2_with fail
          go_quiet ((go_at_call 8; exact Calls.quiet_of_same (of_q _ _ (by assumption))))
          go_wp2_with fail
          go_ret
          exact ⟨rfl, below_drewN HL.out _⟩
    · have hd4 : decide ((i : Int) < 4) = false := by simp; omega
      have HL := Lib.hid hL
      obtain ⟨bs, hbs⟩ : ∃ x : ByteArray, x = ⟨b.toArray⟩ := ⟨_, rfl⟩
      have hcb : ∀ w9 : World, w9.heap = wr.heap → Sem.run Try.prog (convert 33 9 (.slice (some ⟨g, 0, none⟩) s.size cap)) w9 = .ok (.string bs) w9 := fun w9 h9 => by
        rw [hbs, ← hbl]
        exact run_convert_bytes_back (P := Try.prog) w9 33 9 5 ⟨g, 0, none⟩ cap b Try.underlying33 Try.underlying5 Try.underlying9 (fun j hj => by
          rw [blk_add, show w9.cell? ⟨g, j, none⟩ = wr.cell? ⟨g, j, none⟩ by simp only [World.cell?, h9]]
          exact hR.cell j hj)
      have hcq : ∀ n9 : Nat, Sem.run Try.prog (convert 33 9 (.slice (some ⟨g, 0, none⟩) s.size cap)) (wr.drewN n9) = .ok (.string bs) (wr.drewN n9) := fun n9 => hcb _ rfl
      have hbz : bs.size ≤ 9223372036854775807 := by rw [hbs]; show b.length ≤ _; omega
      have hsz : s.size ≤ 9223372036854775807 := by omega
      by_cases hb : b = s.data.toList
      · have e : bs = s := by rw [hbs, hb]
        subst e
        clear hb hbs hR hB hL hN hcb hbl
        go_wp2_with fail
        go_quiet ((go_at_call 8; exact Calls.quiet_of_same (of_q _ _ hbz)))
        go_wp2_with fail
        go_ret
        exact ⟨rfl, below_drewN HL.out _⟩
      · have e1 : (bs.toList == s.toList) = false := by
          rw [beq_eq_false_iff_ne]
          intro e
          apply hb
          rw [ByteArray.toList_eq, ByteArray.toList_eq] at e
          rw [← e, hbs]
        have e2 : (((M.of bs.data.toList : Nat) : Int) == ((M.of s.data.toList : Nat) : Int)) = false := by
          rw [beq_eq_false_iff_ne]
          intro e
          apply hb
          rw [hbs] at e
          exact hN.of (Int.ofNat.inj e)
        clear hb hbs hR hB hL hN hcb hbl
        go_wp2_with fail
        go_quiet ((go_at_call 8; exact Calls.quiet_of_same (of_q _ _ (by assumption))))
        go_wp2_with fail
        go_ret
        exact ⟨rfl, below_drewN HL.out _⟩

theorem cyclicNear_walk (s : ByteArray) (n : Int) (_n0 : -9223372036854775808 ≤ n) (_n9 : n ≤ 9223372036854775807) (v : Value) (w : World) (hv : FourAt w v) :
    Calls Try.prog 6 #[.string s, .int .i64 n, v] w fun e w' => e = .returned (.bool true) ∧ Below w.heap.size w w' := by
  obtain ⟨d0, d1, d2, d3, rfl⟩ := hv
  by_cases hs : s.size ≤ 3000
  · by_cases hs0 : 0 < s.size
    · exact near_some s n d0 d1 d2 d3 w hs0 hs
    · have e : s = ⟨#[]⟩ := by
        apply ByteArray.ext
        apply Array.eq_empty_of_size_eq_zero
        show s.size = 0
        omega
      subst e
      clear hs hs0
      have HL := Lib.hid ((Below.refl w.heap.size w).alloc (Nat.le_refl _) (.cells #[.int .u8 (d0.toNat : Int), .int .u8 (d1.toNat : Int), .int .u8 (d2.toNat : Int), .int .u8 (d3.toNat : Int)] 32))
      go_enter Try.func6, Try.ntmps6
      go_wp2_with fail
      refine (works_any _).mono ?_
      rintro e w1 ⟨rfl, rfl⟩
      go_wp2_with fail
      go_ret
      exact ⟨rfl, HL.out⟩
  · have hd : decide ((3000 : Int) < (s.size : Int)) = true := by simp; omega
    have HL := Lib.hid ((Below.refl w.heap.size w).alloc (Nat.le_refl _) (.cells #[.int .u8 (d0.toNat : Int), .int .u8 (d1.toNat : Int), .int .u8 (d2.toNat : Int), .int .u8 (d3.toNat : Int)] 32))
    go_enter Try.func6, Try.ntmps6
    go_wp2_with fail
    refine (works_any _).mono ?_
    rintro e w1 ⟨rfl, rfl⟩
    go_wp2_with fail
    go_ret
    exact ⟨rfl, HL.out⟩
end Go.Proofs.Ytngdacnbjdhjaaa
