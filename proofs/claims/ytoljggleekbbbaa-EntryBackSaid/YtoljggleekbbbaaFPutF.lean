/-
  Walks over field.Put.
-/
import Derived.Test.YtoljggleekbbbaaFPut
namespace Go.Proofs.Ytoljggleekbbbaa
open Go.RowKit

theorem put_no (s : ByteArray) (n z : Int) (w : World) (h0 : -9223372036854775808 ≤ z) (h9 : z ≤ 9223372036854775807) (hf : M.fitsB n z = false) :
    Calls Try.prog 13 #[.string s, .int .i64 n, .int .i64 z] w fun e w' => e = .returned (.string s) ∧ w = w' := by
  have HI := Lib.hid (fits_any n z w h0 h9)
  rw [hf] at HI
  clear hf
  go_enter Try.func13, Try.ntmps13
  go_wp2_with fail
  refine HI.out.mono ?_
  rintro e w1 ⟨rfl, rfl⟩
  go_wp2_with fail
  go_ret
  exact ⟨rfl, rfl⟩

set_option maxHeartbeats 400000 in
theorem put_yes (s : ByteArray) (n z : Nat) (w : World) (hs : s.size ≤ 100000) (h1 : 1 ≤ z) (h7 : z ≤ 7) (hn : n ≤ 9223372036854775807) (hf : M.fitsB n z = true) :
    Calls Try.prog 13 #[.string s, .int .i64 n, .int .i64 z] w fun e w' => e = .returned (.string (s ++ ⟨(M.be n z).toArray⟩)) ∧ Below w.heap.size w w' := by
  have HI := Lib.hid (fits_any n z w (by omega) (by omega))
  rw [hf] at HI
  clear hf
  go_enter Try.func13, Try.ntmps13
  go_wp2_with fail
  refine HI.out.mono ?_
  rintro e w1 ⟨rfl, rfl⟩
  go_wp2_with fail
  go_loopw [8, 1] (fun j v wr => ∃ (r q : Nat) (t : List UInt8) (cs : Array Value), r ≤ z ∧ j = .int .i64 ((r : Int) - 1) ∧ v = .int .i64 q ∧ q ≤ 9223372036854775807 ∧ Hid (M.be n z = M.be q r ++ t) ∧ Box wr w.heap.size 51 cs ∧ cs.size = 7 ∧ Hid (∀ k c, t[k]? = some c → cs[r + k]? = some (.int .u8 (c.toNat : Int))) ∧ Below w.heap.size w wr) (fun j _ _ => (intOf j + 1).toNat)
  case atStart => exact ⟨z, n, [], #[.int .u8 0, .int .u8 0, .int .u8 0, .int .u8 0, .int .u8 0, .int .u8 0, .int .u8 0], Nat.le_refl _, rfl, rfl, hn, by show _ = _; simp, Box.new _ _ _, rfl, by intro k c h; simp at h, (Below.refl _ _).alloc (Nat.le_refl _) _⟩
  case round =>
    obtain ⟨r, q, t, cs, hr, rfl, rfl, hq, HB, hX, hcs, HT, hbw⟩ := hrel
    have HX := Lib.hid hX
    have HC := Lib.hid hcs
    clear hX hcs
    cases r with
    | zero =>
      have hz7 : (z : Int) ≤ 7 := by omega
      have hz0 : (0 : Int) ≤ z := by omega
      have ht : t = M.be n z := by rw [HB.out]; rfl
      have hl : t.length = z := by rw [ht, M.be_len]
      have hcv := run_convert_bytes_back (P := Try.prog) wr 37 9 5 ⟨w.heap.size, 0, none⟩ 7 t Try.underlying37 Try.underlying5 Try.underlying9 (fun j hj => by
        have h := HT.out j _ (List.getElem?_eq_getElem hj)
        rw [Nat.zero_add, ← HX.out.cell j] at h
        rw [← h]
        congr 1
        simp [Addr.add]
        omega)
      rw [hl] at hcv
      have hts : (⟨t.toArray⟩ : ByteArray).size ≤ 7 := by show t.toArray.size ≤ 7; simp; omega
      have H1 := Lib.hid ht
      clear ht hl
      go_wp2_with fail
      go_ret
      refine ⟨?_, hbw⟩
      rw [← H1.out]
      rfl
    | succ m =>
      have e : ((m + 1 : Nat) : Int) - 1 = m := by omega
      rw [e]
      clear e
      have hm7 : (m : Int) < 7 := by omega
      have hcell : ∃ v, wr.cell? ⟨w.heap.size, m, none⟩ = some v := by
        rw [HX.out.cell m]
        have : m < cs.size := by rw [HC.out]; omega
        exact ⟨_, Array.getElem?_eq_getElem this⟩
      obtain ⟨v0, hcell⟩ := hcell
      have hfr := HX.out.frozen m
      obtain ⟨c, hc⟩ : ∃ c, c = UInt8.ofNat (q % 256) := ⟨_, rfl⟩
      have hcn : Hid ((c.toNat : Int) = (q : Int) % 256) := by show _ = _; rw [hc]; simp
      have HS : Hid (M.be q (m + 1) ++ t = M.be (q / 256) m ++ (c :: t)) := by
        show _ = _
        rw [M.be_step, ← hc]
      clear hc
      have hcsz : m < cs.size := by rw [HC.out]; omega
      go_wp2_with fail
      go_roundw
      case rel =>
        refine ⟨m, q / 256, c :: t, cs.setIfInBounds m (.int .u8 ((q : Int) % 256)), by omega, rfl, by go_num, by omega, by show _ = _; rw [HB.out]; exact HS.out, HX.out.set m _, by rw [Array.size_setIfInBounds]; exact HC.out, ?_, hbw.setCell (Nat.le_refl _) _⟩
        intro k d hd
        cases k with
        | zero =>
          simp at hd
          subst hd
          rw [hcn.out]
          simp [hcsz]
        | succ k =>
          have h := HT.out k d (by simpa using hd)
          rw [Array.getElem?_setIfInBounds_ne (by omega), ← h]
          congr 1
          omega
      case measure => simp [intOf]

/-- What Put answers. -/
def M.putS (s : ByteArray) (n z : Int) : ByteArray := if M.fitsB n z = true then s ++ ⟨(M.be n.toNat z.toNat).toArray⟩ else s
theorem M.fits_nat {n z : Int} (h : M.fitsB n z = true) : ∃ a b : Nat, n = a ∧ z = b ∧ 1 ≤ b ∧ b ≤ 7 ∧ a < 256 ^ b := by
  unfold M.fitsB at h
  simp only [decide_eq_true_eq] at h
  obtain ⟨h1, h2, h3, h4⟩ := h
  refine ⟨n.toNat, z.toNat, by omega, by omega, by omega, by omega, ?_⟩
  have : ((n.toNat : Nat) : Int) < ((256 ^ z.toNat : Nat) : Int) := by rw [Int.natCast_pow, Int.toNat_of_nonneg h3]; exact h4
  omega
theorem put_any (s : ByteArray) (n z : Int) (w : World) (hs : s.size ≤ 100000) (hn : n ≤ 9223372036854775807) (h0 : -9223372036854775808 ≤ z) (h9 : z ≤ 9223372036854775807) :
    Calls Try.prog 13 #[.string s, .int .i64 n, .int .i64 z] w fun e w' => e = .returned (.string (M.putS s n z)) ∧ Below w.heap.size w w' := by
  unfold M.putS
  by_cases hf : M.fitsB n z = true
  · rw [if_pos hf]
    obtain ⟨a, b, rfl, rfl, h1, h7, _⟩ := M.fits_nat hf
    simp only [Int.toNat_natCast]
    exact put_yes s a b w hs h1 h7 (by omega) hf
  · rw [if_neg hf]
    refine (put_no s n z w h0 h9 (by simpa using hf)).mono ?_
    rintro e w' ⟨rfl, rfl⟩
    exact ⟨rfl, Below.refl _ _⟩
theorem rput_any (s : ByteArray) (n z : Int) (w : World) (hs : s.size ≤ 100000) (hn : n ≤ 9223372036854775807) :
    Calls Try.prog 17 #[.string s, .int .i64 n, .int .i64 z] w fun e w' => e = .returned (.string (M.putS s n z)) ∧ Below w.heap.size w w' := by
  unfold M.putS
  by_cases hf : M.fitsB n z = true
  · rw [if_pos hf]
    obtain ⟨a, b, rfl, rfl, h1, h7, _⟩ := M.fits_nat hf
    simp only [Int.toNat_natCast]
    exact rput_yes s a b w hs h1 h7 (by omega) hf
  · rw [if_neg hf]
    refine (rput_no s n z w hn (by simpa using hf)).mono ?_
    rintro e w' ⟨rfl, rfl⟩
    exact ⟨rfl, Below.refl _ _⟩
end Go.Proofs.Ytoljggleekbbbaa
