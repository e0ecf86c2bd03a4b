/-
  A walk over wal.Stage.
-/
import Derived.Test.YtmgchfjfkdkaoaaGreatDoorPJ
namespace Go.Proofs.YtmgchfjfkdkaoaaGreatDoor
open Go.RowKit Go.Maps

/-- What Stage answers. -/
def M.wlStageE (fr mn : Nat) (s : M.Wl) (i : Int) (t : ByteArray) : Int :=
  if s.act = false then 10 else if M.guards s.d.S.length fr mn i = false then 3 else if t.size ≠ 64 then 12 else if 16 ≤ s.l.length ∧ M.has14 i s.l = false then 6 else 0
def M.wlStage (fr mn : Nat) (s : M.Wl) (i : Int) (t : ByteArray) : M.Wl := if M.wlStageE fr mn s i t = 0 then { s with l := M.ins i (.string t) s.l } else s

set_option maxHeartbeats 4000000 in
theorem stage14_any {w : World} {b fr mn : Nat} {P : Nat → Prop} {s : M.Wl} (h : Wal w b P fr mn s) (i : Int) (t : ByteArray) (hw : (Lit.int .i64 i).wf = true) (hf : fr ≤ 1000) (hm : mn ≤ 1000) (hl : s.l.length ≤ 100000) :
    Calls Tryz.prog 41 #[.pointer (some ⟨b, 0, none⟩), .int .i64 i, .string t] w fun e w' => e = .returned (.int .i64 (M.wlStageE fr mn s i t)) ∧ Wal w' b (fun j => P j ∨ w.heap.size ≤ j) fr mn (M.wlStage fr mn s i t) ∧ Kept P w w' := by
  have HA := Lib.hid (active14_any h)
  obtain ⟨a, ra, rr, sb, PD, PS, h, h1, h2, h3, h4, h5⟩ := h
  have HP : Hid (P b ∧ P ra ∧ P rr ∧ (∀ j, PD j → P j) ∧ ∀ j, PS j → P j) := ⟨h1, h2, h3, h4, h5⟩
  -- nothing but new memory
  have HSAME : Hid (∀ y, Below w.heap.size w y → Wal y b (fun j => P j ∨ w.heap.size ≤ j) fr mn s ∧ Kept P w y) := fun y hy => ⟨⟨a, ra, rr, sb, PD, PS, h.beside hy, Or.inl h1, Or.inl h2, Or.inl h3, fun j e => Or.inl (h4 j e), fun j e => Or.inl (h5 j e)⟩, Kept.of_below hy P⟩
  have HPUT : Hid (∀ y z, Below w.heap.size w y → Sh 128 z sb (M.plus13 PS y.heap.size) (M.ins i (.string t) s.l) s.k → Kept PS y z → Wal z b (fun j => P j ∨ w.heap.size ≤ j) fr mn { s with l := M.ins i (.string t) s.l } ∧ Kept P w z) := by
    intro y z hy hs hk
    have := hy.size
    have hM := (h.beside hy).sh' hs hk
    exact ⟨hM.out h (fun _ e => Or.inl e) (fun j e => e.1.imp id (fun e => by omega)) h1 h2 h3 h4 h5, (Kept.of_below hy P).trans (hk.mono (fun j _ e => h5 j e))⟩
  have CG : Hid (Calls Tryz.prog 73 #[.agg #[.pointer (some ⟨a, 0, none⟩), .int .i64 (fr : Nat), .pointer (some ⟨ra, 0, none⟩), .pointer (some ⟨rr, 0, none⟩)], .int .i64 i] w fun e w' => e = .returned (.bool (M.guards s.d.S.length fr mn i)) ∧ Below w.heap.size w w') := guards_any i w h.disk h.all hf hm (rr := rr)
  have CL : Hid (∀ y, Below w.heap.size w y → Calls Tryz.prog 59 #[.pointer (some ⟨sb, 0, none⟩)] y fun e w' => e = .returned (.int .i64 (s.l.length : Nat)) ∧ w' = y) := fun y hy => Q.loose_any y (h.beside hy).sh
  have CS : Hid (∀ y, Below w.heap.size w y → Calls Tryz.prog 81 #[.pointer (some ⟨b, 0, none⟩), .int .i64 i] y fun e w' => e = .returned (.bool (M.has14 i s.l)) ∧ Below y.heap.size y w') := fun y hy => staged_any i y (h.beside hy).c10 (h.beside hy).sh hl
  have CP : Hid (∀ y, Below w.heap.size w y → Calls Tryz.prog 82 #[.pointer (some ⟨sb, 0, none⟩), .int .i64 i, .string t] y fun e w' => e = .returned (.tuple #[]) ∧ Sh 128 w' sb (M.plus13 PS y.heap.size) (M.ins i (.string t) s.l) s.k ∧ Kept PS y w') := fun y hy => Q.put13_any y (h.beside hy).sh i (.string t) hw hl
  have HC : Hid (∀ y, Below w.heap.size w y → y.cell? ⟨b, 0, none⟩ = some (.pointer (some ⟨a, 0, none⟩)) ∧ y.cell? ⟨b, 1, none⟩ = some (.int .i64 (fr : Nat)) ∧ y.cell? ⟨b, 2, none⟩ = some (.pointer (some ⟨ra, 0, none⟩)) ∧ y.cell? ⟨b, 3, none⟩ = some (.pointer (some ⟨rr, 0, none⟩)) ∧ y.cell? ⟨b, 10, none⟩ = some (.pointer (some ⟨sb, 0, none⟩))) :=
    fun y hy => ⟨(h.beside hy).c0, (h.beside hy).c1, (h.beside hy).c2, (h.beside hy).c3, (h.beside hy).c10⟩
  obtain ⟨c0, c1, c2, c3, c10⟩ := HC.out w (Below.refl _ w)
  obtain ⟨n, hn⟩ : ∃ n, n = s.l.length := ⟨_, rfl⟩
  obtain ⟨gd, hgd⟩ : ∃ g, g = M.guards s.d.S.length fr mn i := ⟨_, rfl⟩
  obtain ⟨st, hst⟩ : ∃ g, g = M.has14 i s.l := ⟨_, rfl⟩
  have hn9 : (n : Int) ≤ 100000 := by omega
  have HE : Hid (M.wlStageE fr mn s i t = if s.act = false then 10 else if gd = false then 3 else if t.size ≠ 64 then 12 else if 16 ≤ n ∧ st = false then 6 else 0) := by
    show M.wlStageE fr mn s i t = _
    rw [hn, hgd, hst]
    rfl
  rw [← hn] at CL
  rw [← hgd] at CG
  rw [← hst] at CS
  unfold M.wlStage
  obtain ⟨E, hEE⟩ : ∃ E, E = M.wlStageE fr mn s i t := ⟨_, rfl⟩
  rw [← hEE] at HE ⊢
  clear h h1 h2 h3 h4 h5 hl hw hn hgd hst hEE hf hm HP
  cases ha : s.act with
  | false =>
    have hE : E = 10 := by rw [HE.out, if_pos ha]
    subst hE
    rw [ha] at HA
    clear HE ha c0 c1 c2 c3 c10
    go_enter Tryz.func41, Tryz.ntmps41
    go_wp2_with fail
    refine HA.out.mono ?_
    rintro e w1 ⟨rfl, rfl⟩
    have HR := Lib.hid (HSAME.out _ (Below.refl _ w1))
    go_wp2_with fail
    go_ret
    exact ⟨rfl, HR.out⟩
  | true =>
    have hE1 := HE.out
    rw [if_neg (by rw [ha]; decide)] at hE1
    rw [ha] at HA
    have HAA := Lib.hid ha
    clear HE ha
    cases gd with
    | false =>
      rw [if_pos rfl] at hE1
      subst hE1
      go_enter Tryz.func41, Tryz.ntmps41
      go_wp2_with fail
      refine HA.out.mono ?_
      rintro e w1 ⟨rfl, rfl⟩
      go_wp2_with fail
      refine CG.out.mono ?_
      rintro e w2 ⟨rfl, hb2⟩
      have HR := Lib.hid (HSAME.out _ hb2)
      clear hb2
      go_wp2_with fail
      go_ret
      exact ⟨rfl, HR.out⟩
    | true =>
      rw [if_neg (by decide)] at hE1
      by_cases hz : t.size = 64
      · rw [if_neg (by omega)] at hE1
        have hz1 : ((t.size : Int) == 64) = true := by rw [beq_iff_eq]; omega
        have hz2 : (t.size : Int) = 64 := by omega
        have hcase : (decide (16 ≤ n) = false ∧ E = 0) ∨ (decide (16 ≤ n) = true ∧ st = true ∧ E = 0) ∨ (decide (16 ≤ n) = true ∧ st = false ∧ E = 6) := by
          by_cases h16 : 16 ≤ n
          · cases st with
            | true => exact Or.inr (Or.inl ⟨by simpa using h16, rfl, by rw [hE1, if_neg (fun e => by cases e.2)]⟩)
            | false => exact Or.inr (Or.inr ⟨by simpa using h16, rfl, by rw [hE1, if_pos ⟨h16, rfl⟩]⟩)
          · exact Or.inl ⟨by simpa using h16, by rw [hE1, if_neg (fun e => h16 e.1)]⟩
        clear hE1 hz
        rcases hcase with ⟨h16, rfl⟩ | ⟨h16, rfl, rfl⟩ | ⟨h16, rfl, rfl⟩
        · have h16' : ¬ (16 : Int) ≤ (n : Int) := by have := of_decide_eq_false h16; omega
          go_enter Tryz.func41, Tryz.ntmps41
          go_wp2_with fail
          refine HA.out.mono ?_
          rintro e w1 ⟨rfl, rfl⟩
          go_wp2_with fail
          refine CG.out.mono ?_
          rintro e w2 ⟨rfl, hb2⟩
          have HB2 := Lib.hid hb2
          obtain ⟨c0', c1', c2', c3', c10'⟩ := HC.out w2 hb2
          clear hb2
          go_wp2_with fail
          refine (CL.out _ HB2.out).mono ?_
          rintro e w3 ⟨rfl, rfl⟩
          go_wp2_with fail
          refine (CP.out _ HB2.out).mono ?_
          rintro e w4 ⟨rfl, hs4, hk4⟩
          have HR := Lib.hid (HPUT.out _ _ HB2.out hs4 hk4)
          clear hs4 hk4
          go_wp2_with fail
          go_ret
          exact ⟨rfl, by have h := HR.out; rw [HAA.out] at h; exact h⟩
        · have h16' : (16 : Int) ≤ (n : Int) := by have := of_decide_eq_true h16; omega
          go_enter Tryz.func41, Tryz.ntmps41
          go_wp2_with fail
          refine HA.out.mono ?_
          rintro e w1 ⟨rfl, rfl⟩
          go_wp2_with fail
          refine CG.out.mono ?_
          rintro e w2 ⟨rfl, hb2⟩
          have HB2 := Lib.hid hb2
          obtain ⟨c0', c1', c2', c3', c10'⟩ := HC.out w2 hb2
          clear hb2
          go_wp2_with fail
          refine (CL.out _ HB2.out).mono ?_
          rintro e w3 ⟨rfl, rfl⟩
          go_wp2_with fail
          refine (CS.out _ HB2.out).mono ?_
          rintro e w4 ⟨rfl, hb4⟩
          have HB4 := Lib.hid (HB2.out.trans (hb4.mono HB2.out.size))
          clear hb4 c0' c1' c2' c3' c10'
          obtain ⟨c0', c1', c2', c3', c10'⟩ := HC.out _ HB4.out
          go_wp2_with fail
          refine (CP.out _ HB4.out).mono ?_
          rintro e w5 ⟨rfl, hs4, hk4⟩
          have HR := Lib.hid (HPUT.out _ _ HB4.out hs4 hk4)
          clear hs4 hk4
          go_wp2_with fail
          go_ret
          exact ⟨rfl, by have h := HR.out; rw [HAA.out] at h; exact h⟩
        · have h16' : (16 : Int) ≤ (n : Int) := by have := of_decide_eq_true h16; omega
          go_enter Tryz.func41, Tryz.ntmps41
          go_wp2_with fail
          refine HA.out.mono ?_
          rintro e w1 ⟨rfl, rfl⟩
          go_wp2_with fail
          refine CG.out.mono ?_
          rintro e w2 ⟨rfl, hb2⟩
          have HB2 := Lib.hid hb2
          obtain ⟨c0', c1', c2', c3', c10'⟩ := HC.out w2 hb2
          clear hb2
          go_wp2_with fail
          refine (CL.out _ HB2.out).mono ?_
          rintro e w3 ⟨rfl, rfl⟩
          go_wp2_with fail
          refine (CS.out _ HB2.out).mono ?_
          rintro e w4 ⟨rfl, hb4⟩
          have HR := Lib.hid (HSAME.out _ (HB2.out.trans (hb4.mono HB2.out.size)))
          clear hb4
          go_wp2_with fail
          go_ret
          exact ⟨rfl, HR.out⟩
      · rw [if_pos hz] at hE1
        subst hE1
        have hz1 : ((t.size : Int) == 64) = false := by rw [beq_eq_false_iff_ne]; omega
        have hz2 : ¬ (t.size : Int) = 64 := by omega
        clear hz
        go_enter Tryz.func41, Tryz.ntmps41
        go_wp2_with fail
        refine HA.out.mono ?_
        rintro e w1 ⟨rfl, rfl⟩
        go_wp2_with fail
        refine CG.out.mono ?_
        rintro e w2 ⟨rfl, hb2⟩
        have HR := Lib.hid (HSAME.out _ hb2)
        clear hb2
        go_wp2_with fail
        go_ret
        exact ⟨rfl, HR.out⟩
end Go.Proofs.YtmgchfjfkdkaoaaGreatDoor
