/-
  The document's parts of a disk (solderref09) in memory. Walks over its New and Read.
-/
import Derived.Test.YtnjhbmpdpejpcaaETwo
import Derived.Test.YtnjhbmpdpejpcaaGBase
import Derived.Deep.RegionHeld3
namespace Go.Proofs.Ytnjhbmpdpejpcaa
open Go.RowKit

/-- The document's part of the document's disk in block b: mn sectors from fr on. -/
def RReg (y : World) (rb b fr mn : Nat) : Prop := Box y rb 56 #[.pointer (some ⟨b, 0, none⟩), .int .i64 (fr : Nat), .int .i64 (mn : Nat)]
section
variable {y y' : World} {rb b fr mn : Nat}
theorem RReg.c0 (h : RReg y rb b fr mn) : y.cell? ⟨rb, 0, none⟩ = some (.pointer (some ⟨b, 0, none⟩)) := by simpa using Box.cell h 0
theorem RReg.c1 (h : RReg y rb b fr mn) : y.cell? ⟨rb, 1, none⟩ = some (.int .i64 (fr : Nat)) := by simpa using Box.cell h 1
theorem RReg.c2 (h : RReg y rb b fr mn) : y.cell? ⟨rb, 2, none⟩ = some (.int .i64 (mn : Nat)) := by simpa using Box.cell h 2
theorem RReg.lt (h : RReg y rb b fr mn) : rb < y.heap.size := Box.lt h
theorem RReg.kept {P : Nat → Prop} (h : RReg y rb b fr mn) (hk : Kept P y y') (hp : ¬ P rb) : RReg y' rb b fr mn := hk.box h hp
end
theorem Ref.seenCell {w : World} {b : Nat} {P : Nat → Prop} {r : M.R} (h : Ref w b P r) : ∃ EA ec, w.cell? ⟨b, 1, none⟩ = some (.slice EA r.seen.length ec) ∧ r.seen.length ≤ 1000 := by
  obtain ⟨SV, EV, WV, FV, hr, _⟩ := h
  obtain ⟨EA, ec, rfl, _⟩ := owns_shape hr.seen
  exact ⟨EA, ec, hr.c1, by rw [hr.len]; exact hr.many⟩
theorem Ref.plus {w : World} {b : Nat} {P : Nat → Prop} {r : M.R} (h : Ref w b P r) (n : Nat) : Ref w b (M.plus P n) r := h.mono (fun _ _ e => Or.inl e)

theorem hnew_yes (fr m : Int) (w : World) {b : Nat} {P : Nat → Prop} {r : M.R} (h : Ref w b P r) (hy : M.within fr m (r.seen.length : Nat) = true) :
    Calls Try.prog 11 #[.pointer (some ⟨b, 0, none⟩), .int .i64 fr, .int .i64 m] w fun e w' => e = .returned (.tuple #[.pointer (some ⟨w.heap.size, 0, none⟩), .int .i64 0]) ∧
      w' = w.alloc (.cells #[.pointer (some ⟨b, 0, none⟩), .int .i64 fr, .int .i64 m] 56) := by
  obtain ⟨EA, ec, c1, hl⟩ := h.seenCell
  obtain ⟨h0, h1, h2⟩ := M.within_yes hy
  obtain ⟨n, hn⟩ : ∃ n, n = r.seen.length := ⟨_, rfl⟩
  rw [← hn] at c1 hl h2
  have f0 : decide (fr < 0) = false := by simpa using h0
  have f1 : decide (m < 0) = false := by simpa using h1
  have f2 : decide ((n : Int) < fr) = false := by simp; omega
  have f3 : decide ((n : Int) - fr < m) = false := by simp; omega
  have g1 : fr ≤ (n : Int) := by omega
  have g2 : (n : Int) ≤ 1000 := by omega
  clear h hy hn hl
  go_enter Try.func11, Try.ntmps11
  go_wp2_with fail
  go_ret2
  exact ⟨rfl, rfl⟩
theorem hnew_no (fr m : Int) (w : World) {b : Nat} {P : Nat → Prop} {r : M.R} (h : Ref w b P r) (hy : M.within fr m (r.seen.length : Nat) = false) :
    Calls Try.prog 11 #[.pointer (some ⟨b, 0, none⟩), .int .i64 fr, .int .i64 m] w fun e w' => e = .returned (.tuple #[.pointer none, .int .i64 3]) ∧ w' = w := by
  obtain ⟨EA, ec, c1, hl⟩ := h.seenCell
  obtain ⟨n, hn⟩ : ∃ n, n = r.seen.length := ⟨_, rfl⟩
  rw [← hn] at c1 hl hy
  have hy' : ¬ (0 ≤ fr ∧ 0 ≤ m ∧ m ≤ (n : Int) - fr) := fun ⟨q1, q2, q3⟩ => by
    unfold M.within at hy
    simp at hy
    omega
  have g2 : (n : Int) ≤ 1000 := by omega
  clear h hy hn hl
  by_cases h0 : fr < 0
  · have f0 : decide (fr < 0) = true := by simpa using h0
    clear hy'
    go_enter Try.func11, Try.ntmps11
    go_wp2_with fail
    go_ret2
    exact ⟨rfl, rfl⟩
  · have f0 : decide (fr < 0) = false := by simpa using h0
    by_cases h1 : m < 0
    · have f1 : decide (m < 0) = true := by simpa using h1
      clear hy'
      go_enter Try.func11, Try.ntmps11
      go_wp2_with fail
      go_ret2
      exact ⟨rfl, rfl⟩
    · have f1 : decide (m < 0) = false := by simpa using h1
      by_cases h2 : (n : Int) < fr
      · have f2 : decide ((n : Int) < fr) = true := by simpa using h2
        clear hy'
        go_enter Try.func11, Try.ntmps11
        go_wp2_with fail
        go_ret2
        exact ⟨rfl, rfl⟩
      · have f2 : decide ((n : Int) < fr) = false := by simpa using h2
        have h3 : (n : Int) - fr < m := by omega
        have f3 : decide ((n : Int) - fr < m) = true := by simpa using h3
        clear hy'
        go_enter Try.func11, Try.ntmps11
        go_wp2_with fail
        go_ret2
        exact ⟨rfl, rfl⟩

/-- So many sectors are read, from one on, behind what was read before. -/
def M.rrd : Nat → M.R → Nat → ByteArray → ByteArray × Int × M.R
  | 0, r, _, acc => (acc, 0, r)
  | n + 1, r, at_, acc => if M.rreadE r at_ = 0 then M.rrd n (M.callR r) (at_ + 1) (acc ++ M.rreadS r at_) else (⟨#[]⟩, M.rreadE r at_, M.callR r)
theorem M.rreadS_size {r : M.R} (h : ∀ s ∈ r.seen, s.size = 64) {i : Int} (he : M.rreadE r i = 0) : (M.rreadS r i).size = 64 := by
  unfold M.rreadE at he
  unfold M.rreadS
  by_cases hE : M.callE r = 0
  · rw [if_pos hE] at he ⊢
    by_cases hb : M.hasB r.seen.length i = true
    · rw [if_pos hb]
      unfold M.hasB at hb
      simp at hb
      have hlt : i.toNat < r.seen.length := by omega
      rw [List.getD_eq_getElem?_getD, List.getElem?_eq_getElem hlt]
      exact h _ (List.getElem_mem hlt)
    · rw [if_neg hb] at he
      exact absurd he (by omega)
  · rw [if_neg hE] at he
    exact absurd he hE

set_option maxRecDepth 100000 in
set_option maxHeartbeats 1000000 in
theorem hread_at (i m : Nat) (w : World) {rb b fr mn : Nat} {P : Nat → Prop} {r : M.R} (h : Ref w b P r) (hr : RReg w rb b fr mn) (hp : ¬ P rb) (hq : ∀ s ∈ r.seen, s.size = 64) (hin : i + m ≤ mn) (hf : fr ≤ 1000) (hmn : mn ≤ 1000) (ho : r.ops ≤ 1000000000) :
    Calls Try.prog 13 #[.pointer (some ⟨rb, 0, none⟩), .int .i64 (i : Nat), .int .i64 (m : Nat)] w fun e w' =>
      e = .returned (.tuple #[.string (M.rrd m r (fr + i) ⟨#[]⟩).1, .int .i64 (M.rrd m r (fr + i) ⟨#[]⟩).2.1]) ∧ Ref w' b P (M.rrd m r (fr + i) ⟨#[]⟩).2.2 ∧ Kept P w w' := by
  have c2 := hr.c2
  have HC : Hid (∀ y, Kept P w y → y.cell? ⟨rb, 0, none⟩ = some (.pointer (some ⟨b, 0, none⟩)) ∧ y.cell? ⟨rb, 1, none⟩ = some (.int .i64 (fr : Nat))) := fun y hk => ⟨(hr.kept hk hp).c0, (hr.kept hk hp).c1⟩
  have HR0 : Hid (Ref w b P r ∧ Kept P w w) := ⟨h, Kept.refl _ _⟩
  obtain ⟨R, hR⟩ : ∃ R, R = M.rrd m r (fr + i) ⟨#[]⟩ := ⟨_, rfl⟩
  have HF := Lib.hid hR
  have HO := Lib.hid ho
  have HB1 := Lib.hid hin
  have HB2 := Lib.hid hf
  have HB3 := Lib.hid hmn
  have HQQ := Lib.hid hq
  rw [← hR]
  obtain ⟨q, hqe⟩ : ∃ q, q = fr + i := ⟨_, rfl⟩
  rw [← hqe] at HF
  have hwq : IntKind.i64.wrap ((fr : Int) + (i : Int)) = (q : Int) := by rw [IntKind.wrap_i64]; omega
  have HWP : Hid (∀ k : Nat, k < m → IntKind.i64.wrap ((q : Int) + (k : Int)) = ((q + k : Nat) : Int) ∧ wrap64 ((k : Int) + 1) = ((k + 1 : Nat) : Int)) := fun k hk => ⟨by rw [IntKind.wrap_i64]; omega, by unfold wrap64; omega⟩
  have f0 : decide ((i : Int) < 0) = false := by simp
  have f1 : decide ((m : Int) < 0) = false := by simp
  have f2 : decide (mn < i) = false := by simp; omega
  have f3 : decide ((mn : Int) - (i : Int) < (m : Int)) = false := by simp; omega
  have g1 : (i : Int) ≤ (mn : Int) := by omega
  have g2 : (mn : Int) ≤ 1000 := by omega
  clear h hr hp hin hf hmn ho hR hqe hq
  go_enter Try.func13, Try.ntmps13
  go_wp2_with fail
  clear c2 g1 g2
  go_loopw [8, 9] (fun v j wr => ∃ (k : Nat) (rk : M.R) (acc : ByteArray), k ≤ m ∧ j = .int .i64 k ∧ v = .string acc ∧ Hid (Ref wr b P rk ∧ Kept P w wr) ∧ acc.size = 64 * k ∧ Hid (rk.ops = r.ops + k ∧ rk.seen = r.seen) ∧ Hid (R = M.rrd (m - k) rk (q + k) acc)) (fun v j _ => m - (intOf j).toNat)
  case atStart => exact ⟨0, r, ⟨#[]⟩, Nat.zero_le _, rfl, rfl, HR0, rfl, ⟨rfl, rfl⟩, HF.out⟩
  case round =>
    clear HR0
    obtain ⟨k, rk, acc, hk, rfl, rfl, HA, hacc, HOk, HRk⟩ := hrel
    by_cases hlt : k < m
    · have hd : decide (k < m) = true := by simp; omega
      obtain ⟨c0, c1⟩ := HC.out wr HA.out.2
      obtain ⟨hwp, _⟩ := HWP.out k hlt
      obtain ⟨p, hpp⟩ : ∃ p, p = q + k := ⟨_, rfl⟩
      rw [← hpp] at hwp HRk
      have hm1 : m ≤ 1000 := by have := HB1.out; have := HB3.out; omega
      have HRD : Hid (∀ y, (Ref y b P rk ∧ Kept P w y) → Calls Try.prog 38 #[.pointer (some ⟨b, 0, none⟩), .int .i64 (p : Nat)] y fun e y' => e = .returned (.tuple #[.string (M.rreadS rk (p : Nat)), .int .i64 (M.rreadE rk (p : Nat))]) ∧ Ref y' b P (M.callR rk) ∧ Kept P w y') := fun y hy =>
        (rread_any (p : Nat) y hy.1 (by have := HOk.out.1; have := HO.out; omega)).mono fun _ _ ⟨h1, h2, h3⟩ => ⟨h1, h2, hy.2.trans h3⟩
      have HAd : Hid (Ref wr.drew b P rk ∧ Kept P w wr.drew) := ⟨HA.out.1.kept ((Kept.refl (fun _ => False) wr).drewN 1) (fun _ _ => id), HA.out.2.drew⟩
      have HON : Hid ((M.callR rk).ops = r.ops + (k + 1) ∧ (M.callR rk).seen = r.seen) := ⟨by show rk.ops + 1 = _; rw [HOk.out.1]; omega, HOk.out.2⟩
      have HKM : Hid (k + 1 ≤ m ∧ m ≤ 1000) := ⟨hlt, hm1⟩
      by_cases hE : M.rreadE rk (p : Nat) = 0
      · have hs64 := M.rreadS_size (r := rk) (by rw [HOk.out.2]; exact HQQ.out) hE
        rw [hE] at HRD
        have HRn : Hid (R = M.rrd (m - (k + 1)) (M.callR rk) (p + 1) (acc ++ M.rreadS rk (p : Nat))) := by
          show R = _
          rw [HRk.out, show m - k = (m - (k + 1)) + 1 by omega, M.rrd, if_pos hE]
        obtain ⟨t, ht⟩ : ∃ t, t = M.rreadS rk (p : Nat) := ⟨_, rfl⟩
        rw [← ht] at HRD hs64 HRn
        have HT : Hid ((acc ++ t).size = 64 * (k + 1)) := by show (acc ++ t).size = _; rw [ByteArray.size_append]; omega
        have ba : acc.size ≤ 100000 := by omega
        have bt : t.size ≤ 100000 := by omega
        have HPP := Lib.hid hpp
        clear ht hpp hE hs64 hacc hm1 hlt hk HA HRk HOk
        go_wp2_with fail
        go_region_held3 (fun y => y.cell? ⟨rb, 0, none⟩ = some (.pointer (some ⟨b, 0, none⟩)) ∧ y.cell? ⟨rb, 1, none⟩ = some (.int .i64 (fr : Nat))) (first | exact ⟨c0, c1⟩ | exact ⟨d0, d1⟩) (first
          | (go_at_call 38
             refine (HRD.out _ HAd.out).mono ?_
             rintro e w2 ⟨rfl, h2⟩
             obtain ⟨d0, d1⟩ := HC.out w2 h2.2
             have H2 := Lib.hid h2
             clear h2 HRD))
        clear hwp hwq
        have hkb : (k : Int) ≤ 1000 := by have := HKM.out; omega
        go_wp2_with fail
        go_roundw
        case rel => exact ⟨k + 1, _, _, HKM.out.1, by go_num, rfl, H2, HT.out, HON, by have := HRn.out; rwa [HPP.out] at this⟩
        case measure => have := HKM.out.1; simp [intOf]; omega
      · have HRn : Hid (R = (⟨#[]⟩, M.rreadE rk (p : Nat), M.callR rk)) := by
          show R = _
          rw [HRk.out, show m - k = (m - (k + 1)) + 1 by omega, M.rrd, if_neg hE]
        obtain ⟨E, hEE⟩ : ∃ E, E = M.rreadE rk (p : Nat) := ⟨_, rfl⟩
        rw [← hEE] at HRD HRn hE
        have hE' : (E == 0) = false := by rw [beq_eq_false_iff_ne]; exact hE
        clear hEE hpp hE hacc hm1 hlt hk HA HRk HOk
        go_wp2_with fail
        go_region_held3 (fun y => y.cell? ⟨rb, 0, none⟩ = some (.pointer (some ⟨b, 0, none⟩)) ∧ y.cell? ⟨rb, 1, none⟩ = some (.int .i64 (fr : Nat))) (first | exact ⟨c0, c1⟩ | exact ⟨d0, d1⟩) (first
          | (go_at_call 38
             refine (HRD.out _ HAd.out).mono ?_
             rintro e w2 ⟨rfl, h2⟩
             obtain ⟨d0, d1⟩ := HC.out w2 h2.2
             have H2 := Lib.hid h2
             clear h2 HRD))
        go_wp2_with fail
        go_ret2
        rw [HRn.out]
        exact ⟨rfl, H2.out⟩
    · have e : k = m := by omega
      subst e
      have HRn : Hid (R = (acc, 0, rk)) := by
        show R = _
        rw [HRk.out, Nat.sub_self, M.rrd]
      clear hacc hlt hk HRk HOk
      go_wp2_with fail
      go_ret2
      rw [HRn.out]
      exact ⟨rfl, HA.out⟩
theorem hread_no (i m : Int) (w : World) {rb b fr mn : Nat} (hr : RReg w rb b fr mn) (hmn : mn ≤ 1000) (hy : M.within i m (mn : Nat) = false) :
    Calls Try.prog 13 #[.pointer (some ⟨rb, 0, none⟩), .int .i64 i, .int .i64 m] w fun e w' => e = .returned (.tuple #[.string ⟨#[]⟩, .int .i64 3]) ∧ w' = w := by
  have c2 := hr.c2
  have hy' : ¬ (0 ≤ i ∧ 0 ≤ m ∧ m ≤ (mn : Int) - i) := fun ⟨q1, q2, q3⟩ => by
    unfold M.within at hy
    simp at hy
    omega
  have g2 : (mn : Int) ≤ 1000 := by omega
  clear hr hy hmn
  by_cases h0 : i < 0
  · have f0 : decide (i < 0) = true := by simpa using h0
    clear hy'
    go_enter Try.func13, Try.ntmps13
    go_wp2_with fail
    go_ret2
    exact ⟨rfl, rfl⟩
  · have f0 : decide (i < 0) = false := by simpa using h0
    by_cases h1 : m < 0
    · have f1 : decide (m < 0) = true := by simpa using h1
      clear hy'
      go_enter Try.func13, Try.ntmps13
      go_wp2_with fail
      go_ret2
      exact ⟨rfl, rfl⟩
    · have f1 : decide (m < 0) = false := by simpa using h1
      by_cases h2 : (mn : Int) < i
      · have f2 : decide ((mn : Int) < i) = true := by simpa using h2
        clear hy'
        go_enter Try.func13, Try.ntmps13
        go_wp2_with fail
        go_ret2
        exact ⟨rfl, rfl⟩
      · have f2 : decide ((mn : Int) < i) = false := by simpa using h2
        have h3 : (mn : Int) - i < m := by omega
        have f3 : decide ((mn : Int) - i < m) = true := by simpa using h3
        clear hy'
        go_enter Try.func13, Try.ntmps13
        go_wp2_with fail
        go_ret2
        exact ⟨rfl, rfl⟩
/-- What a read comes to, wherever. -/
def M.hread (r : M.R) (fr mn : Nat) (i m : Int) : ByteArray × Int × M.R := if M.within i m (mn : Nat) = true then M.rrd m.toNat r (fr + i.toNat) ⟨#[]⟩ else (⟨#[]⟩, 3, r)
theorem hread_any (i m : Int) (w : World) {rb b fr mn : Nat} {P : Nat → Prop} {r : M.R} (h : Ref w b P r) (hr : RReg w rb b fr mn) (hp : ¬ P rb) (hq : ∀ s ∈ r.seen, s.size = 64) (hf : fr ≤ 1000) (hmn : mn ≤ 1000) (ho : r.ops ≤ 1000000000) :
    Calls Try.prog 13 #[.pointer (some ⟨rb, 0, none⟩), .int .i64 i, .int .i64 m] w fun e w' =>
      e = .returned (.tuple #[.string (M.hread r fr mn i m).1, .int .i64 (M.hread r fr mn i m).2.1]) ∧ Ref w' b P (M.hread r fr mn i m).2.2 ∧ Kept P w w' := by
  unfold M.hread
  by_cases hy : M.within i m (mn : Nat) = true
  · rw [if_pos hy]
    obtain ⟨h0, h1, h2⟩ := M.within_yes hy
    obtain ⟨k, rfl⟩ : ∃ k : Nat, i = k := ⟨i.toNat, by omega⟩
    obtain ⟨n, rfl⟩ : ∃ k : Nat, m = k := ⟨m.toNat, by omega⟩
    rw [Int.toNat_natCast, Int.toNat_natCast]
    exact hread_at k n w h hr hp hq (by omega) hf hmn ho
  · rw [if_neg hy]
    refine (hread_no i m w hr hmn (by simpa using hy)).mono ?_
    rintro e w' ⟨rfl, rfl⟩
    exact ⟨rfl, h, Kept.refl _ _⟩
end Go.Proofs.Ytnjhbmpdpejpcaa
