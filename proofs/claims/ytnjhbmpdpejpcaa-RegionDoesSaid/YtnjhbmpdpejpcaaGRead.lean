/-
  Walks over region.Read.
-/
import Derived.Test.YtnjhbmpdpejpcaaGBase
import Derived.Test.YtnjhbmpdpejpcaaShelf
import Derived.Deep.RegionHeld3
namespace Go.Proofs.Ytnjhbmpdpejpcaa
open Go.RowKit

/-- So many sectors are read, from one on, behind what was read before. -/
def M.rd : Nat → M.D → Nat → ByteArray → ByteArray × Int × M.D
  | 0, d, _, acc => (acc, 0, d)
  | n + 1, d, at_, acc => if M.readE d at_ = 0 then M.rd n (M.beginD d) (at_ + 1) (acc ++ M.readS d at_) else (⟨#[]⟩, M.readE d at_, M.beginD d)
theorem M.readS_size {d : M.D} (h : M.Inv d) {i : Int} (he : M.readE d i = 0) : (M.readS d i).size = 64 := by
  unfold M.readE at he
  unfold M.readS
  by_cases hE : M.beginE d = 0
  · rw [if_pos hE] at he ⊢
    by_cases hb : M.hasB d.S.length i = true
    · rw [if_pos hb]
      unfold M.hasB at hb
      simp at hb
      exact h.seen (by omega)
    · rw [if_neg hb] at he
      exact absurd he (by omega)
  · rw [if_neg hE] at he
    exact absurd he hE

theorem Kept.of_low {B : Nat} {w w' : World} (h : Below B w w') : Kept (fun k => B ≤ k) w w' := ⟨h.os, h.tape, h.output, h.size, fun k _ hp => h.block k (by omega)⟩
theorem builder_kept {P : Nat → Prop} {T e : TypeId} {B b : Nat} {p : Value} {bs : List Value} {w w' : World} (h : Lib.BuilderAt T e B b p bs w) (hk : Kept P w w') (hP : ∀ k, P k → k < B) : Lib.BuilderAt T e B b p bs w' := by
  obtain ⟨hB, v, hb, ho, hn⟩ := h
  exact ⟨hB, v, (hk.block b (lt_of_block hb) (fun e => by have := hP b e; omega)).trans hb, hk.owns ho (fun k e e' => by have := (ho.lt k e).1; have := hP k e'; omega), hn⟩
theorem isBuilder_kept {P : Nat → Prop} {T e : TypeId} {B b : Nat} {bs : List Value} {w w' : World} (h : Lib.IsBuilder T e B b bs w) (hk : Kept P w w') (hP : ∀ k, P k → k < B) : Lib.IsBuilder T e B b bs w' :=
  h.imp (fun h => builder_kept h hk hP) (fun h => builder_kept h hk hP)
theorem wstr_any (B b : Nat) (acc s : ByteArray) (w : World) (h : Lib.IsBuilder 73 5 B b (Lib.byteCells acc.data.toList) w) (hlen : acc.size + s.size ≤ 1000000) (hB : B ≤ w.heap.size) :
    Calls Try.prog 36 #[.pointer (some ⟨b, 0, none⟩), .string s] w fun e w' => e = .returned (.tuple #[.int .i64 s.size, .nilIface]) ∧ Lib.IsBuilder 73 5 B b (Lib.byteCells (acc ++ s).data.toList) w' ∧ Below B w w' := by
  have hl : (Lib.byteCells acc.data.toList).length = acc.size := by rw [Lib.byteCells_length, Array.length_toList]; rfl
  refine (Any.Builder_WriteString { Try.lays105 with } Try.Builder_Extra_105 B b _ s w h (by rw [hl]; omega) hB).mono ?_
  rintro e w' ⟨rfl, h1, h2⟩
  refine ⟨rfl, Or.inr ?_, h2⟩
  rw [Lib.strCells_eq, ← Lib.byteCells_append] at h1
  rw [ByteArray.data_append, Array.toList_append]
  exact h1
theorem str_any (B b : Nat) (acc : ByteArray) (w : World) (h : Lib.IsBuilder 73 5 B b (Lib.byteCells acc.data.toList) w) (hB : B ≤ w.heap.size) :
    Calls Try.prog 37 #[.pointer (some ⟨b, 0, none⟩)] w fun e w' => e = .returned (.string acc) ∧ Below B w w' :=
  (Any.Builder_String_any { Try.lays105 with } Try.Builder_Extra_105 B b _ w h hB).mono fun _ _ ⟨h1, h2⟩ => ⟨h1, h2⟩

/-- The disk, and what was read of it, in the midst of Read. -/
structure RdAt (w y : World) (a B : Nat) (P : Nat → Prop) (d : M.D) (acc : ByteArray) : Prop where
  disk : Disk y a P d
  bld : Lib.IsBuilder 73 5 B B (Lib.byteCells acc.data.toList) y
  kept : Kept P w y
  le : B ≤ y.heap.size
theorem RdAt.drew {w y : World} {a B : Nat} {P : Nat → Prop} {d : M.D} {acc : ByteArray} (h : RdAt w y a B P d acc) (hP : ∀ k, P k → k < B) : RdAt w y.drew a B P d acc :=
  ⟨h.disk.drewN 1, isBuilder_kept h.bld ((Kept.refl P y).drewN 1) hP, h.kept.drew, h.le⟩
theorem RdAt.read {w y : World} {a B : Nat} {P : Nat → Prop} {d : M.D} {acc : ByteArray} (h : RdAt w y a B P d acc) (hP : ∀ k, P k → k < B) (ho : d.ops ≤ 1099511627776) (i : Int) :
    Calls Try.prog 31 #[.pointer (some ⟨a, 0, none⟩), .int .i64 i] y fun e y' => e = .returned (.tuple #[.string (M.readS d i), .int .i64 (M.readE d i)]) ∧ RdAt w y' a B P (M.beginD d) acc :=
  (read_any i y h.disk ho).mono fun _ _ ⟨h1, h2, h3⟩ => ⟨h1, h2, isBuilder_kept h.bld h3 hP, h.kept.trans h3, Nat.le_trans h.le h3.size⟩
theorem RdAt.put {w y : World} {a B : Nat} {P : Nat → Prop} {d : M.D} {acc : ByteArray} (h : RdAt w y a B P d acc) (hP : ∀ k, P k → k < B) (hw : w.heap.size ≤ B) (s : ByteArray) (hl : acc.size + s.size ≤ 1000000) :
    Calls Try.prog 36 #[.pointer (some ⟨B, 0, none⟩), .string s] y fun e y' => e = .returned (.tuple #[.int .i64 s.size, .nilIface]) ∧ RdAt w y' a B P d (acc ++ s) :=
  (wstr_any B B acc s y h.bld hl h.le).mono fun _ _ ⟨h1, h2, h3⟩ => ⟨h1, h.disk.kept (Kept.of_low h3) (fun k e e' => by have := hP k e; omega), h2, h.kept.next (Kept.of_low h3) (fun k hk e => by omega), Nat.le_trans h.le h3.size⟩
theorem RdAt.str {w y : World} {a B : Nat} {P : Nat → Prop} {d : M.D} {acc : ByteArray} (h : RdAt w y a B P d acc) (hP : ∀ k, P k → k < B) (hw : w.heap.size ≤ B) :
    Calls Try.prog 37 #[.pointer (some ⟨B, 0, none⟩)] y fun e y' => e = .returned (.string acc) ∧ Disk y' a P d ∧ Kept P w y' :=
  (str_any B B acc y h.bld h.le).mono fun _ _ ⟨h1, h3⟩ => ⟨h1, h.disk.kept (Kept.of_low h3) (fun k e e' => by have := hP k e; omega), h.kept.next (Kept.of_low h3) (fun k hk e => by omega)⟩

set_option maxRecDepth 100000 in
set_option maxHeartbeats 1000000 in
theorem gread_at (i m : Nat) (w : World) {rb a fr mn : Nat} {P : Nat → Prop} {d : M.D} (h : Disk w a P d) (hlow : ∀ k, P k → k < w.heap.size) (hr : Reg w rb a fr mn) (hp : ¬ P rb) (hin : i + m ≤ mn) (hf : fr ≤ 1000) (hmn : mn ≤ 1000) (ho : d.ops ≤ 1000000000) :
    Calls Try.prog 12 #[.pointer (some ⟨rb, 0, none⟩), .int .i64 (i : Nat), .int .i64 (m : Nat)] w fun e w' =>
      e = .returned (.tuple #[.string (M.rd m d (fr + i) ⟨#[]⟩).1, .int .i64 (M.rd m d (fr + i) ⟨#[]⟩).2.1]) ∧ Disk w' a P (M.rd m d (fr + i) ⟨#[]⟩).2.2 ∧ Kept P w w' := by
  have c2 := hr.c2
  have HI := Lib.hid (within_any (i : Nat) (m : Nat) (mn : Nat) w (by omega) (by omega) (by omega))
  rw [show M.within (i : Nat) (m : Nat) (mn : Nat) = true by unfold M.within; simp; omega] at HI
  have HC : Hid (∀ y, Kept P w y → y.cell? ⟨rb, 0, none⟩ = some (.pointer (some ⟨a, 0, none⟩)) ∧ y.cell? ⟨rb, 1, none⟩ = some (.int .i64 (fr : Nat))) := fun y hk => ⟨(hr.kept hk hp).c0, (hr.kept hk hp).c1⟩
  obtain ⟨B, hB⟩ : ∃ B, B = w.heap.size := ⟨_, rfl⟩
  have HL : Hid (∀ k, P k → k < B) := by rw [hB]; exact hlow
  have HR0 : Hid (RdAt w (w.alloc (.cells #[.pointer none, .slice none 0 0] 73)) a B P d ⟨#[]⟩) := by
    rw [hB]
    exact ⟨h.kept ((Kept.refl (fun _ => False) w).alloc _) (fun _ _ => id), Lib.fresh_isBuilder _ _ w, (Kept.refl P w).alloc _, by rw [World.size_alloc]; omega⟩
  obtain ⟨R, hR⟩ : ∃ R, R = M.rd m d (fr + i) ⟨#[]⟩ := ⟨_, rfl⟩
  have HF := Lib.hid hR
  have HBW := Lib.hid hB
  have HO := Lib.hid ho
  have HB1 := Lib.hid hin
  have HB2 := Lib.hid hf
  have HB3 := Lib.hid hmn
  rw [← hR]
  obtain ⟨q, hq⟩ : ∃ q, q = fr + i := ⟨_, rfl⟩
  have HQ := Lib.hid hq
  rw [← hq] at HF
  have hwq : IntKind.i64.wrap ((fr : Int) + (i : Int)) = (q : Int) := by rw [IntKind.wrap_i64]; omega
  have HWP : Hid (∀ k : Nat, k < m → IntKind.i64.wrap ((q : Int) + (k : Int)) = ((q + k : Nat) : Int) ∧ IntKind.i64.wrap ((k : Int) + 1) = ((k + 1 : Nat) : Int)) := fun k hk => ⟨by rw [IntKind.wrap_i64]; omega, by rw [IntKind.wrap_i64]; omega⟩
  have HWS : Hid (∀ y, Sem.run Try.prog (zeroValue 73) y = .ok (.agg #[.pointer none, .slice none 0 0]) y) := fun y => by kernel_rfl
  clear h hr hp hin hf hmn ho hlow hR hB hq
  go_enter Try.func12, Try.ntmps12
  go_wp2_with fail
  refine HI.out.mono ?_
  rintro e w1 ⟨rfl, rfl⟩
  clear HI
  go_wp2_with fail
  rw [← HBW.out]
  obtain ⟨y0, hy0⟩ : ∃ y, y = w1.alloc (.cells #[.pointer none, .slice none 0 0] 73) := ⟨_, rfl⟩
  rw [← hy0] at HR0 ⊢
  clear hy0 c2
  go_loopw [23] (fun j wr => ∃ (k : Nat) (dk : M.D) (acc : ByteArray), k ≤ m ∧ j = .int .i64 k ∧ Hid (RdAt w1 wr a B P dk acc) ∧ acc.size = 64 * k ∧ Hid (dk.ops = d.ops + k) ∧ Hid (R = M.rd (m - k) dk (q + k) acc)) (fun j _ => m - (intOf j).toNat)
  case atStart => exact ⟨0, d, ⟨#[]⟩, Nat.zero_le _, rfl, HR0, rfl, rfl, HF.out⟩
  case round =>
    clear HR0
    obtain ⟨k, dk, acc, hk, rfl, HA, hacc, HOk, HRk⟩ := hrel
    by_cases hlt : k < m
    · have hd : decide (k < m) = true := by simp; omega
      obtain ⟨c0, c1⟩ := HC.out wr HA.out.kept
      obtain ⟨hwp, hwk⟩ := HWP.out k hlt
      obtain ⟨p, hpp⟩ : ∃ p, p = q + k := ⟨_, rfl⟩
      rw [← hpp] at hwp HRk
      have HRD := Lib.hid ((HA.out.drew HL.out).read HL.out (by have := HOk.out; have := HO.out; have := HB1.out; have := HB3.out; omega) (p : Nat))
      have HON : Hid ((M.beginD dk).ops = d.ops + (k + 1)) := by show dk.ops + 1 = _; rw [HOk.out]; omega
      have hm1 : m ≤ 1000 := by have := HB1.out; have := HB3.out; omega
      have HKM : Hid (k + 1 ≤ m ∧ m ≤ 1000) := ⟨hlt, hm1⟩
      by_cases hE : M.readE dk (p : Nat) = 0
      · rw [hE] at HRD
        have hs64 := M.readS_size HA.out.disk.inv hE
        have HRn : Hid (R = M.rd (m - (k + 1)) (M.beginD dk) (p + 1) (acc ++ M.readS dk (p : Nat))) := by
          show R = _
          rw [HRk.out, show m - k = (m - (k + 1)) + 1 by omega, M.rd, if_pos hE]
        obtain ⟨t, ht⟩ : ∃ t, t = M.readS dk (p : Nat) := ⟨_, rfl⟩
        rw [← ht] at HRD hs64 HRn
        have HT : Hid (acc.size + t.size ≤ 1000000 ∧ (acc ++ t).size = 64 * (k + 1)) := ⟨by omega, by rw [ByteArray.size_append]; omega⟩
        have HPP := Lib.hid hpp
        clear ht hpp hE hs64 hacc hm1 hlt hk HA HRk HOk
        go_wp2_with fail
        go_region_held3 (fun y => y.cell? ⟨rb, 0, none⟩ = some (.pointer (some ⟨a, 0, none⟩)) ∧ y.cell? ⟨rb, 1, none⟩ = some (.int .i64 (fr : Nat))) (first | exact ⟨c0, c1⟩ | exact ⟨d0, d1⟩) (first
          | (go_at_call 31
             refine HRD.out.mono ?_
             rintro e w2 ⟨rfl, h2⟩
             obtain ⟨d0, d1⟩ := HC.out w2 h2.kept
             have HW := Lib.hid (h2.put HL.out (by rw [HBW.out]; exact Nat.le_refl _) t HT.out.1)
             clear h2 HRD))
        go_wp2_with fail
        refine HW.out.mono ?_
        rintro e w3 ⟨rfl, h3⟩
        have H3 := Lib.hid h3
        clear h3 HW
        go_wp2_with fail
        go_roundw
        case rel => exact ⟨k + 1, _, _, HKM.out.1, by go_num, H3, HT.out.2, HON, by have := HRn.out; rwa [HPP.out] at this⟩
        case measure => have := HKM.out.1; simp [intOf]; omega
      · have HRn : Hid (R = (⟨#[]⟩, M.readE dk (p : Nat), M.beginD dk)) := by
          show R = _
          rw [HRk.out, show m - k = (m - (k + 1)) + 1 by omega, M.rd, if_neg hE]
        obtain ⟨E, hEE⟩ : ∃ E, E = M.readE dk (p : Nat) := ⟨_, rfl⟩
        rw [← hEE] at HRD HRn hE
        have hE' : (E == 0) = false := by rw [beq_eq_false_iff_ne]; exact hE
        clear hEE hpp hE hacc hm1 hlt hk HA HRk HOk
        go_wp2_with fail
        go_region_held3 (fun y => y.cell? ⟨rb, 0, none⟩ = some (.pointer (some ⟨a, 0, none⟩)) ∧ y.cell? ⟨rb, 1, none⟩ = some (.int .i64 (fr : Nat))) (first | exact ⟨c0, c1⟩ | exact ⟨d0, d1⟩) (first
          | (go_at_call 31
             refine HRD.out.mono ?_
             rintro e w2 ⟨rfl, h2⟩
             obtain ⟨d0, d1⟩ := HC.out w2 h2.kept
             have H2 := Lib.hid h2
             clear h2 HRD))
        go_wp2_with fail
        go_ret2
        rw [HRn.out]
        exact ⟨rfl, H2.out.disk, H2.out.kept⟩
    · have e : k = m := by omega
      subst e
      have HRn : Hid (R = (acc, 0, dk)) := by
        show R = _
        rw [HRk.out, Nat.sub_self, M.rd]
      have HS := Lib.hid (HA.out.str HL.out (by rw [HBW.out]; exact Nat.le_refl _))
      clear hacc hlt hk HA HRk HOk
      go_wp2_with fail
      refine HS.out.mono ?_
      rintro e w2 ⟨rfl, h2⟩
      have H2 := Lib.hid h2
      clear h2 HS
      go_wp2_with fail
      go_ret2
      rw [HRn.out]
      exact ⟨rfl, H2.out⟩
theorem gread_no (i m : Int) (w : World) {rb a fr mn : Nat} (hr : Reg w rb a fr mn) (hi : i ≤ 9223372036854775807) (hmn : mn ≤ 1000) (hy : M.within i m (mn : Nat) = false) :
    Calls Try.prog 12 #[.pointer (some ⟨rb, 0, none⟩), .int .i64 i, .int .i64 m] w fun e w' => e = .returned (.tuple #[.string ⟨#[]⟩, .int .i64 3]) ∧ w' = w := by
  have c2 := hr.c2
  have HI := Lib.hid (within_any i m (mn : Nat) w hi (by omega) (by omega))
  rw [hy] at HI
  clear hr hy hi
  go_enter Try.func12, Try.ntmps12
  go_wp2_with fail
  refine HI.out.mono ?_
  rintro e w2 ⟨rfl, rfl⟩
  go_wp2_with fail
  go_ret2
  exact ⟨rfl, rfl⟩
/-- What a read comes to, wherever. -/
def M.gread (d : M.D) (fr mn : Nat) (i m : Int) : ByteArray × Int × M.D := if M.within i m (mn : Nat) = true then M.rd m.toNat d (fr + i.toNat) ⟨#[]⟩ else (⟨#[]⟩, 3, d)
theorem gread_any (i m : Int) (w : World) {rb a fr mn : Nat} {P : Nat → Prop} {d : M.D} (h : Disk w a P d) (hr : Reg w rb a fr mn) (hp : ¬ P rb) (hi : i ≤ 9223372036854775807) (hf : fr ≤ 1000) (hmn : mn ≤ 1000) (ho : d.ops ≤ 1000000000) :
    Calls Try.prog 12 #[.pointer (some ⟨rb, 0, none⟩), .int .i64 i, .int .i64 m] w fun e w' =>
      e = .returned (.tuple #[.string (M.gread d fr mn i m).1, .int .i64 (M.gread d fr mn i m).2.1]) ∧ Disk w' a P (M.gread d fr mn i m).2.2 ∧ Kept P w w' := by
  unfold M.gread
  by_cases hy : M.within i m (mn : Nat) = true
  · rw [if_pos hy]
    obtain ⟨h0, h1, h2⟩ := M.within_yes hy
    obtain ⟨k, rfl⟩ : ∃ k : Nat, i = k := ⟨i.toNat, by omega⟩
    obtain ⟨n, rfl⟩ : ∃ k : Nat, m = k := ⟨m.toNat, by omega⟩
    rw [Int.toNat_natCast, Int.toNat_natCast]
    refine (gread_at k n w (P := fun k => P k ∧ k < w.heap.size) (h.mono (fun _ hk e => ⟨e, hk⟩)) (fun _ e => e.2) hr (fun e => hp e.1) (by omega) hf hmn ho).mono ?_
    rintro e w' ⟨rfl, h3, h4⟩
    exact ⟨rfl, h3.mono (fun _ _ e => e.1), h4.mono (fun _ _ e => e.1)⟩
  · rw [if_neg hy]
    refine (gread_no i m w hr hi hmn (by simpa using hy)).mono ?_
    rintro e w' ⟨rfl, rfl⟩
    exact ⟨rfl, h, Kept.refl _ _⟩
end Go.Proofs.Ytnjhbmpdpejpcaa
