/-
  Walks over region.Split where it refuses, and over region.Write.
-/
import Derived.Test.YtnjhbmpdpejpcaaGSplit
namespace Go.Proofs.Ytnjhbmpdpejpcaa
open Go.RowKit

theorem gsplit_size (i : Int) (s : ByteArray) (w : World) {rb a fr mn : Nat} (hs : s.size % 64 ≠ 0) (_hr : Reg w rb a fr mn) :
    Calls Try.prog 14 #[.pointer (some ⟨rb, 0, none⟩), .int .i64 i, .string s] w fun e w' => e = .returned (.tuple #[.slice none 0 0, .int .i64 12]) ∧ w' = w := by
  have h1 : (((s.size : Int) % 64) == 0) = false := by
    rw [beq_eq_false_iff_ne]
    omega
  have h2 : (((s.size : Int) % 64) != 0) = true := by
    rw [bne, h1]
    rfl
  clear hs _hr
  go_enter Try.func14, Try.ntmps14
  go_wp2_with fail
  go_ret2
  exact ⟨rfl, rfl⟩
theorem gsplit_no (i : Int) (n : Nat) (s : ByteArray) (w : World) {rb a fr mn : Nat} (hr : Reg w rb a fr mn) (hs : s.size = 64 * n) (hn : n ≤ 1000000000) (hi : i ≤ 9223372036854775807) (hmn : mn ≤ 1000) (hy : M.within i (n : Nat) (mn : Nat) = false) :
    Calls Try.prog 14 #[.pointer (some ⟨rb, 0, none⟩), .int .i64 i, .string s] w fun e w' => e = .returned (.tuple #[.slice none 0 0, .int .i64 3]) ∧ w' = w := by
  have c2 := hr.c2
  have HI := Lib.hid (within_any i (n : Nat) (mn : Nat) w hi (by omega) (by omega))
  rw [hy] at HI
  have h1 : (s.size : Int).tmod 64 = 0 := by rw [Int.tmod_eq_emod_of_nonneg (by omega)]; omega
  have h2 : (s.size : Int).tdiv 64 = (n : Int) := by rw [Int.tdiv_eq_ediv_of_nonneg (by omega)]; omega
  have hn1 : (n : Int) ≤ 1000000000 := by omega
  clear hr hy hi hs hn
  go_enter Try.func14, Try.ntmps14
  go_wp2_with fail
  refine HI.out.mono ?_
  rintro e w2 ⟨rfl, rfl⟩
  go_wp2_with fail
  go_ret2
  exact ⟨rfl, rfl⟩

/-- Sectors are written, in order, up to the first error. -/
def M.wr : List (Nat × ByteArray) → M.D → Int × M.D
  | [], d => (0, d)
  | p :: L, d => if M.writeE d p.1 p.2 = 0 then M.wr L (M.writeD d p.1 p.2) else (M.writeE d p.1 p.2, M.writeD d p.1 p.2)
theorem M.writeD_ops (d : M.D) (i : Int) (s : ByteArray) : (M.writeD d i s).ops = d.ops + 1 := by unfold M.writeD; split <;> rfl
theorem M.drop_at {L : List (Nat × ByteArray)} {k : Nat} {p : Nat × ByteArray} (h : L[k]? = some p) : L.drop k = p :: L.drop (k + 1) := by
  obtain ⟨hk, e⟩ := List.getElem?_eq_some_iff.1 h
  rw [List.drop_eq_getElem_cons hk, e]

/-- The disk, its part and the sectors, in the midst of Write. -/
structure WrAt (w y : World) (rb a fr mn B : Nat) (P : Nat → Prop) (d : M.D) (L : List (Nat × ByteArray)) : Prop where
  one : One w y a P (fun k => k = rb ∨ k = B) d
  reg : Reg y rb a fr mn
  box : Box y B 80 (M.cells L).toArray
section
variable {w y : World} {rb a fr mn B : Nat} {P : Nat → Prop} {d : M.D} {L : List (Nat × ByteArray)}
theorem WrAt.alloc (h : WrAt w y rb a fr mn B P d L) (o : Obj) : WrAt w (y.alloc o) rb a fr mn B P d L :=
  ⟨h.one.alloc o, h.reg.kept ((Kept.refl (fun _ => False) y).alloc o) id, (Kept.refl (fun _ => False) y |>.alloc o).box h.box id⟩
theorem WrAt.drew (h : WrAt w y rb a fr mn B P d L) : WrAt w y.drew rb a fr mn B P d L :=
  ⟨h.one.drew, h.reg.kept ((Kept.refl (fun _ => False) y).drew) id, ((Kept.refl (fun _ => False) y).drew).box h.box id⟩
theorem WrAt.write (h : WrAt w y rb a fr mn B P d L) (ho : d.ops ≤ 1099511627776) (i : Int) (s : ByteArray) :
    Calls Try.prog 39 #[.pointer (some ⟨a, 0, none⟩), .int .i64 i, .string s] y fun e y' => e = .returned (.int .i64 (M.writeE d i s)) ∧ WrAt w y' rb a fr mn B P (M.writeD d i s) L :=
  (owrite h.one ho i s).mono fun _ _ ⟨h1, h2, h3⟩ => ⟨h1, h2, h.reg.kept h3 (fun e => e (Or.inl rfl)), h3.box h.box (fun e => e (Or.inr rfl))⟩
theorem WrAt.cells (h : WrAt w y rb a fr mn B P d L) {k : Nat} {p : Nat × ByteArray} (hp : L[k]? = some p) : y.cell? ⟨B, k * 2, none⟩ = some (.int .i64 (p.1 : Nat)) ∧ y.cell? ⟨B, k * 2 + 1, none⟩ = some (.string p.2) :=
  ⟨by rw [h.box.cell, List.getElem?_toArray]; exact (M.cells_at hp).1, by rw [h.box.cell, List.getElem?_toArray]; exact (M.cells_at hp).2⟩
end

set_option maxRecDepth 100000 in
set_option maxHeartbeats 1000000 in
theorem gwrite_yes (i n : Nat) (s : ByteArray) (w : World) {rb a fr mn : Nat} {P : Nat → Prop} {d : M.D} (h : Disk w a P d) (hr : Reg w rb a fr mn) (hp : ¬ P rb) (hs : s.size = 64 * n) (hin : i + n ≤ mn) (hf : fr ≤ 1000) (hmn : mn ≤ 1000) (ho : d.ops ≤ 1000000000) :
    Calls Try.prog 17 #[.pointer (some ⟨rb, 0, none⟩), .int .i64 (i : Nat), .string s] w fun e w' =>
      e = .returned (.int .i64 (M.wr (M.cut n (fr + i) s) d).1) ∧ Disk w' a (M.plus P w.heap.size) (M.wr (M.cut n (fr + i) s) d).2 ∧ Kept P w w' := by
  have HSP := Lib.hid (gsplit_yes i n s w hr hs hin hf hmn)
  obtain ⟨L, hL⟩ : ∃ L, L = M.cut n (fr + i) s := ⟨_, rfl⟩
  have hLn : L.length = n := by rw [hL, M.cut_len]
  rw [← hL] at HSP ⊢
  obtain ⟨B, hB⟩ : ∃ B, B = w.heap.size := ⟨_, rfl⟩
  have HST : Hid (∀ w1, Box w1 B 80 (M.cells L).toArray → Below B w w1 → WrAt w w1 rb a fr mn B P d L) := by
    intro w1 h1 h2
    rw [hB] at h2
    have hk : Kept (fun _ => False) w w1 := Kept.of_below h2 _
    refine ⟨((One.start h).beside hk).less (fun k e => ?_), hr.kept hk id, h1⟩
    rcases e with e | e
    · subst e
      exact Or.inl ⟨hr.lt, hp⟩
    · subst e
      exact Or.inr ⟨by omega, h1.lt⟩
  obtain ⟨R, hR⟩ : ∃ R, R = M.wr L d := ⟨_, rfl⟩
  have HF := Lib.hid hR
  have HLN := Lib.hid hLn
  have HO : Hid (d.ops ≤ 1000000000 ∧ n ≤ 1000) := ⟨ho, by omega⟩
  have hn1 : (n : Int) ≤ 1000 := by omega
  rw [← hR]
  rw [← hB] at HSP
  clear h hr hp hs hin hf hmn ho hL hLn hR hB
  go_enter Try.func17, Try.ntmps17
  go_wp2_with fail
  refine HSP.out.mono ?_
  rintro e w1 ⟨rfl, h1, h2⟩
  have HA0 := Lib.hid (HST.out w1 h1 h2)
  clear h1 h2 HST HSP
  go_wp2_with fail
  go_loopw [24] (fun j wr => ∃ (k : Nat) (dk : M.D), k ≤ n ∧ j = .int .i64 k ∧ Hid (WrAt w wr rb a fr mn B P dk L) ∧ Hid (dk.ops = d.ops + k) ∧ Hid (R = M.wr (L.drop k) dk)) (fun j _ => n - (intOf j).toNat)
  case atStart => exact ⟨0, d, Nat.zero_le _, rfl, HA0, rfl, HF.out⟩
  case round =>
    clear HA0 HF
    obtain ⟨k, dk, hk, rfl, HA, HOk, HRk⟩ := hrel
    by_cases hlt : k < n
    · have hk0 : (0 : Int) ≤ (k : Int) := by omega
      have hlt' : (k : Int) < (n : Int) := by omega
      obtain ⟨p, hp⟩ : ∃ p, L[k]? = some p := ⟨L[k]'(by have := HLN.out; omega), List.getElem?_eq_getElem _⟩
      obtain ⟨x0, x1⟩ := HA.out.cells hp
      have HRn : Hid (R = M.wr (p :: L.drop (k + 1)) dk) := by show R = _; rw [← M.drop_at hp]; exact HRk.out
      obtain ⟨at_, t⟩ := p
      simp only at x0 x1
      have HAx : Hid (WrAt w (wr.alloc (Obj.cells #[.int .i64 (at_ : Nat), .string t] 80)) rb a fr mn B P dk L) := HA.out.alloc _
      obtain ⟨y3, y4⟩ := cells2 wr (.int .i64 (at_ : Nat)) (.string t) 80
      obtain ⟨x, hx⟩ : ∃ x, x = wr.alloc (Obj.cells #[.int .i64 (at_ : Nat), .string t] 80) := ⟨_, rfl⟩
      rw [← hx] at HAx y3 y4
      have HX := Lib.hid hx
      have c0 := HAx.out.reg.c0
      have HW := Lib.hid (HAx.out.drew.write (by have := HOk.out; have := HO.out; omega) (at_ : Nat) t)
      have HON : Hid ((M.writeD dk (at_ : Nat) t).ops = d.ops + (k + 1)) := by show (M.writeD dk (at_ : Nat) t).ops = _; rw [M.writeD_ops, HOk.out]; omega
      have HKL : Hid (k < n) := hlt
      clear hp hx HA HRk HOk hlt hk HAx
      by_cases hE : M.writeE dk (at_ : Nat) t = 0
      · rw [hE] at HW
        have HRm : Hid (R = M.wr (L.drop (k + 1)) (M.writeD dk (at_ : Nat) t)) := by
          show R = _
          rw [HRn.out, M.wr, if_pos hE]
        clear hE HRn
        go_wp2_with fail
        rw [← HX.out]
        go_still_tail 8, (by kernel_rfl)
        change wpList _ _ _ _ _ x.drew
        go_wp2_with fail
        refine HW.out.mono ?_
        rintro e w2 ⟨rfl, h2⟩
        have H2 := Lib.hid h2
        clear h2 HW
        go_wp2_with fail
        go_roundw
        case rel => exact ⟨k + 1, _, HKL.out, by go_num, H2, HON, HRm⟩
        case measure => have := HKL.out; simp [intOf]; omega
      · obtain ⟨E, hEE⟩ : ∃ E, E = M.writeE dk (at_ : Nat) t := ⟨_, rfl⟩
        have HRm : Hid (R = (E, M.writeD dk (at_ : Nat) t)) := by
          show R = _
          rw [HRn.out, M.wr, if_neg hE, hEE]
        rw [← hEE] at HW hE
        have hE' : (E == 0) = false := by rw [beq_eq_false_iff_ne]; exact hE
        clear hE HRn hEE
        go_wp2_with fail
        rw [← HX.out]
        go_still_tail 8, (by kernel_rfl)
        change wpList _ _ _ _ _ x.drew
        go_wp2_with fail
        refine HW.out.mono ?_
        rintro e w2 ⟨rfl, h2⟩
        have H2 := Lib.hid h2
        clear h2 HW
        go_wp2_with fail
        go_ret
        rw [HRm.out]
        exact ⟨rfl, H2.out.one.out⟩
    · have e : k = n := by omega
      subst e
      have HRn : Hid (R = (0, dk)) := by
        show R = _
        rw [HRk.out, List.drop_eq_nil_of_le (by rw [HLN.out]; exact Nat.le_refl _), M.wr]
      clear hlt hk HRk HOk
      go_wp2_with fail
      go_ret
      rw [HRn.out]
      exact ⟨rfl, HA.out.one.out⟩
theorem gwrite_bad (i E : Int) (s : ByteArray) (w : World) (rb : Nat) (hE : (E == 0) = false) (h : Calls Try.prog 14 #[.pointer (some ⟨rb, 0, none⟩), .int .i64 i, .string s] w fun e w' => e = .returned (.tuple #[.slice none 0 0, .int .i64 E]) ∧ w' = w) :
    Calls Try.prog 17 #[.pointer (some ⟨rb, 0, none⟩), .int .i64 i, .string s] w fun e w' => e = .returned (.int .i64 E) ∧ w' = w := by
  have HS := Lib.hid h
  clear h
  go_enter Try.func17, Try.ntmps17
  go_wp2_with fail
  refine HS.out.mono ?_
  rintro e w2 ⟨rfl, rfl⟩
  go_wp2_with fail
  go_ret
  exact ⟨rfl, rfl⟩

/-- What Split comes to, wherever: the sectors, the error. -/
def M.gsplit (fr mn : Nat) (i : Int) (s : ByteArray) : List (Nat × ByteArray) × Int :=
  if s.size % 64 = 0 then (if M.within i ((s.size / 64 : Nat) : Int) (mn : Nat) = true then (M.cut (s.size / 64) (fr + i.toNat) s, 0) else ([], 3)) else ([], 12)
/-- What a write comes to, wherever. -/
def M.gwrite (d : M.D) (fr mn : Nat) (i : Int) (s : ByteArray) : Int × M.D :=
  if (M.gsplit fr mn i s).2 = 0 then M.wr (M.gsplit fr mn i s).1 d else ((M.gsplit fr mn i s).2, d)
theorem gwrite_any (i : Int) (s : ByteArray) (w : World) {rb a fr mn : Nat} {P : Nat → Prop} {d : M.D} (h : Disk w a P d) (hr : Reg w rb a fr mn) (hp : ¬ P rb) (hi : i ≤ 9223372036854775807) (hsz : s.size ≤ 1000000000) (hf : fr ≤ 1000) (hmn : mn ≤ 1000) (ho : d.ops ≤ 1000000000) :
    Calls Try.prog 17 #[.pointer (some ⟨rb, 0, none⟩), .int .i64 i, .string s] w fun e w' =>
      e = .returned (.int .i64 (M.gwrite d fr mn i s).1) ∧ Disk w' a (M.plus P w.heap.size) (M.gwrite d fr mn i s).2 ∧ Kept P w w' := by
  unfold M.gwrite M.gsplit
  by_cases hs : s.size % 64 = 0
  · rw [if_pos hs]
    obtain ⟨n, hn⟩ : ∃ n, n = s.size / 64 := ⟨_, rfl⟩
    have hsn : s.size = 64 * n := by omega
    rw [← hn]
    by_cases hy : M.within i ((n : Nat) : Int) (mn : Nat) = true
    · rw [if_pos hy, if_pos rfl]
      obtain ⟨h0, h1, h2⟩ := M.within_yes hy
      obtain ⟨k, rfl⟩ : ∃ k : Nat, i = k := ⟨i.toNat, by omega⟩
      rw [Int.toNat_natCast]
      exact gwrite_yes k n s w h hr hp hsn (by omega) hf hmn ho
    · rw [if_neg hy, if_neg (by simp)]
      refine (gwrite_bad i 3 s w rb (by decide) (gsplit_no i n s w hr hsn (by omega) hi hmn (by simpa using hy))).mono ?_
      rintro e w' ⟨rfl, rfl⟩
      exact ⟨rfl, h.mono (fun _ _ e => Or.inl e), Kept.refl _ _⟩
  · rw [if_neg hs, if_neg (by simp)]
    refine (gwrite_bad i 12 s w rb (by decide) (gsplit_size i s w hs hr)).mono ?_
    rintro e w' ⟨rfl, rfl⟩
    exact ⟨rfl, h.mono (fun _ _ e => Or.inl e), Kept.refl _ _⟩
end Go.Proofs.Ytnjhbmpdpejpcaa
