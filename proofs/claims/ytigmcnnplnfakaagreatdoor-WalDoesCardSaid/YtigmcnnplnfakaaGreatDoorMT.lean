/-
  Walks over solderref14's Commit. Walks over solderref14's Commit, where it commits what is staged. Walks over solderref14's Commit, where nothing is staged and where it refuses; what it comes to. Walk over solderref14.New. Steps as an argument of solderlaw14.WalRoom. Walks over solderlaw14's great and yes.
-/
import Derived.Test.YtigmcnnplnfakaaGreatDoorMS
import Derived.Test.YtigmcnnplnfakaaGreatDoorMA
import Derived.StillTailTactics
import Derived.Deep.RegionLaw
import Derived.Deep.AppendLies
import Derived.Handy
import Derived.Deep.Slices
import Derived.ChangeSame
import Derived.OpenShut
import Derived.Deep.QuietTactic
namespace Go.Proofs.YtigmcnnplnfakaaGreatDoor
open Go.RowKit

theorem infoS14 : (Tryz.prog.info? 9).map (fun i => (i.zero, i.size, i.bytes)) = some (some (.string ⟨#[]⟩), 1, 16) := by kernel_rfl
/-- What is staged is laid down. -/
def M.wlay (S : List ByteArray) (L : List (Nat × ByteArray)) : List ByteArray := L.foldl (fun S p => S.set p.1 p.2) S
theorem M.wlay_len : ∀ (L : List (Nat × ByteArray)) (S : List ByteArray), (M.wlay S L).length = S.length
  | [], _ => rfl
  | p :: L, S => by
    have := M.wlay_len L (S.set p.1 p.2)
    rw [List.length_set] at this
    exact this
theorem M.wlay_snoc (S : List ByteArray) (L : List (Nat × ByteArray)) (p : Nat × ByteArray) : M.wlay S (L ++ [p]) = (M.wlay S L).set p.1 p.2 := by simp [M.wlay]
def M.wcommitE (r : M.W) : Int := if r.act = true then (if 0 < r.staged.length ∧ (r.mn : Int) - 2 - (r.used : Int) < (r.staged.length : Int) + 1 then 6 else 0) else 10
def M.wdone (r : M.W) : M.W :=
  { r with seen := M.wlay r.seen r.staged, staged := [], act := false, used := if 0 < r.staged.length then r.used + r.staged.length + 1 else r.used, sure := if 0 < r.staged.length then false else r.sure }
def M.wcommit (r : M.W) : M.W := if M.wcommitE r = 0 then M.wdone r else r

/-- While it is laid down: the copy in block g. -/
structure Laying (w y : World) (b : Nat) (P : Nat → Prop) (r : M.W) (g c j : Nat) : Prop where
  wr : ∃ SV GV, WlAt y b SV GV r ∧ P b ∧ (∀ k, SV.ownBlock = some k → P k ∧ k ≠ g) ∧ (∀ k, GV.ownBlock = some k → P k ∧ k ≠ g)
  row : y.ownsRow 0 9 1 (.slice (some ⟨g, 0, none⟩) r.seen.length c) r.seen.length ((M.wlay r.seen (r.staged.take j)).map Value.string)
  new : w.heap.size ≤ g
  gb : g ≠ b
  kept : Kept P w y
theorem Laying.start {w y : World} {b g c n : Nat} {P : Nat → Prop} {r : M.W} (h : Wr w b P r) (ho : y.ownsRow 0 9 1 (.slice (some ⟨g, 0, none⟩) r.seen.length c) r.seen.length (r.seen.map Value.string)) (hk : Kept (fun _ => False) (w.drewN n) y) (hg : (w.drewN n).heap.size ≤ g) : Laying w y b P r g c 0 := by
  have hg' : w.heap.size ≤ g := hg
  obtain ⟨SV, GV, h, p1, p2, p3⟩ := h
  have hk' : Kept (fun _ => False) w y := ((Kept.refl (fun _ => False) w).drewN n).trans hk
  have hbl := h.box.lt
  exact ⟨⟨SV, GV, h.kept hk' id (fun _ _ => id) (fun _ _ => id), p1, fun k e => ⟨p2 k e, by have := (h.seen.lt k e).2; omega⟩, fun k e => ⟨p3 k e, by have := (h.staged.lt k e).2; omega⟩⟩, ho, hg', by omega, hk'.mono (fun _ _ e => e.elim)⟩
theorem Laying.drewN {w y : World} {b g c j : Nat} {P : Nat → Prop} {r : M.W} (h : Laying w y b P r g c j) (n : Nat) : Laying w (y.drewN n) b P r g c j := by
  obtain ⟨⟨SV, GV, hw, p⟩, ho, h3, h4, h5⟩ := h
  have hk : Kept (fun _ => False) y (y.drewN n) := (Kept.refl _ y).drewN n
  exact ⟨⟨SV, GV, hw.kept hk id (fun _ _ => id) (fun _ _ => id), p⟩, hk.owns14 ho (fun _ _ => id), h3, h4, h5.drewN n⟩
/-- What the round reads. -/
theorem Laying.cells {w y : World} {b g c j : Nat} {P : Nat → Prop} {r : M.W} (h : Laying w y b P r g c j) (hj : j < r.staged.length) :
    ∃ gg k old, y.cell? ⟨b, 1, none⟩ = some (.slice (some ⟨gg, 0, none⟩) r.staged.length k) ∧ y.cell? ⟨gg, j * 2, none⟩ = some (.int .i64 ((r.staged[j]'hj).1 : Nat)) ∧ y.cell? ⟨gg, j * 2 + 1, none⟩ = some (.string (r.staged[j]'hj).2) ∧ (r.staged[j]'hj).1 < r.seen.length ∧
      y.cell? ⟨g, (r.staged[j]'hj).1, none⟩ = some (.string old) ∧ y.frozen? ⟨g, (r.staged[j]'hj).1, none⟩ = false ∧ Hid (Laying w (y.setCell ⟨g, (r.staged[j]'hj).1, none⟩ (.string (r.staged[j]'hj).2)) b P r g c (j + 1)) := by
  obtain ⟨SV, GV, hw, p1, p2, p3⟩ := h.wr
  obtain ⟨a1, a2⟩ := M.cells_at (p := r.staged[j]'hj) (List.getElem?_eq_getElem hj)
  obtain ⟨gg, k, e, _, _, d1⟩ := owns_at14 hw.staged a1 (by omega)
  have d2 := hw.staged
  rw [e] at d2
  have d2 := d2.cells (g := gg) rfl _ _ a2
  rw [blk_add] at d2
  have hlt : (r.staged[j]'hj).1 < r.seen.length := hw.lies _ (List.getElem_mem hj)
  obtain ⟨hrow, hfr⟩ := owns_set14 h.row (r.staged[j]'hj).1 (.string (r.staged[j]'hj).2)
  have hlen := M.wlay_len (r.staged.take j) r.seen
  have hold : ((M.wlay r.seen (r.staged.take j)).map Value.string)[(r.staged[j]'hj).1]? = some (.string ((M.wlay r.seen (r.staged.take j))[(r.staged[j]'hj).1]'(by rw [hlen]; exact hlt))) := by
    rw [List.getElem?_map, List.getElem?_eq_getElem (by rw [hlen]; exact hlt)]
    rfl
  have ho := h.row.cells (g := g) rfl _ _ hold
  rw [blk_add] at ho
  have hc1 := hw.c1
  rw [e] at hc1
  have hk1 : Kept (fun k => k = g) y (y.setCell ⟨g, (r.staged[j]'hj).1, none⟩ (.string (r.staged[j]'hj).2)) := Kept.set14 (P := fun k => k = g) rfl _ _
  refine ⟨gg, k, _, hc1, d1, d2, hlt, ho, hfr, ⟨SV, GV, hw.kept hk1 (Ne.symm h.gb) (fun k e => (p2 k e).2) (fun k e => (p3 k e).2), p1, p2, p3⟩, ?_, h.new, h.gb, h.kept.next hk1 (fun i hi e => by have := h.new; omega)⟩
  have e2 : r.staged.take (j + 1) = r.staged.take j ++ [r.staged[j]'hj] := List.take_succ_eq_append_getElem hj
  rw [e2, M.wlay_snoc, List.map_set]
  exact hrow
end Go.Proofs.YtigmcnnplnfakaaGreatDoor
namespace Go.Proofs.YtigmcnnplnfakaaGreatDoor
open Go.RowKit

theorem Laying.drew {w y : World} {b g c j : Nat} {P : Nat → Prop} {r : M.W} (h : Laying w y b P r g c j) : Laying w y.drew b P r g c j := by
  obtain ⟨⟨SV, GV, hw, p⟩, ho, h3, h4, h5⟩ := h
  have hk : Kept (fun _ => False) y y.drew := (Kept.refl _ y).drew
  exact ⟨⟨SV, GV, hw.kept hk id (fun _ _ => id) (fun _ _ => id), p⟩, hk.owns14 ho (fun _ _ => id), h3, h4, h5.drew⟩
/-- What its end reads. -/
theorem Laying.reads {w y : World} {b g c j : Nat} {P : Nat → Prop} {r : M.W} (h : Laying w y b P r g c j) :
    (∃ A k, y.cell? ⟨b, 1, none⟩ = some (.slice A r.staged.length k)) ∧ y.cell? ⟨b, 5, none⟩ = some (.int .i64 (r.used : Nat)) := by
  obtain ⟨SV, GV, hw, -⟩ := h.wr
  obtain ⟨A, cc, eGV, _⟩ := owns_shape14 hw.staged
  have hc1 := hw.c1
  rw [eGV] at hc1
  exact ⟨⟨_, _, hc1⟩, hw.c5⟩
/-- What its end stores, and what it comes to. -/
theorem Laying.ends {w y : World} {b g c : Nat} {P : Nat → Prop} {r : M.W} (h : Laying w y b P r g c r.staged.length) (hu : r.used + 17 ≤ 1099511627776) {u : Nat} (he : u = r.used + r.staged.length + 1) :
    y.cell? ⟨b, 5, none⟩ = some (.int .i64 (r.used : Nat)) ∧ y.frozen? ⟨b, 5, none⟩ = false ∧
    (∃ x, (y.setCell ⟨b, 5, none⟩ (.int .i64 (u : Nat))).cell? ⟨b, 6, none⟩ = some (.bool x)) ∧ (y.setCell ⟨b, 5, none⟩ (.int .i64 (u : Nat))).frozen? ⟨b, 6, none⟩ = false ∧
    (∃ A n' c', ((y.setCell ⟨b, 5, none⟩ (.int .i64 (u : Nat))).setCell ⟨b, 6, none⟩ (.bool false)).cell? ⟨b, 0, none⟩ = some (.slice A n' c')) ∧ ((y.setCell ⟨b, 5, none⟩ (.int .i64 (u : Nat))).setCell ⟨b, 6, none⟩ (.bool false)).frozen? ⟨b, 0, none⟩ = false ∧
    Hid (Wr (((y.setCell ⟨b, 5, none⟩ (.int .i64 (u : Nat))).setCell ⟨b, 6, none⟩ (.bool false)).setCell ⟨b, 0, none⟩ (.slice (some ⟨g, 0, none⟩) r.seen.length c)) b (M.plus14 P w.heap.size) { r with seen := M.wlay r.seen r.staged, used := u, sure := false } ∧ Kept P w (((y.setCell ⟨b, 5, none⟩ (.int .i64 (u : Nat))).setCell ⟨b, 6, none⟩ (.bool false)).setCell ⟨b, 0, none⟩ (.slice (some ⟨g, 0, none⟩) r.seen.length c))) := by
  obtain ⟨SV, GV, hw, p1, p2, p3⟩ := h.wr
  have hfew := hw.few
  have h5 := hw.set5 u (by omega)
  have h6 := h5.set6 false
  obtain ⟨A, cc, eSV, _⟩ := owns_shape14 h6.seen
  have hc0 := h6.c0
  rw [eSV] at hc0
  have hk5 : Kept (fun k => k = b) y ((y.setCell ⟨b, 5, none⟩ (.int .i64 (u : Nat))).setCell ⟨b, 6, none⟩ (.bool false)) := (Kept.set14 (P := fun k => k = b) rfl _ _).trans (Kept.set14 (P := fun k => k = b) rfl _ _)
  have hrow := hk5.owns14 h.row (fun k e => by rw [← own_slice14 e]; exact h.gb)
  have hlen := M.wlay_len r.staged r.seen
  have hnew := h.new
  rw [List.take_length] at hrow
  have h0 := h6.set0 (SV' := .slice (some ⟨g, 0, none⟩) r.seen.length c) (S := M.wlay r.seen r.staged) (by rw [hlen]; exact hrow) hlen (fun k e => by rw [← own_slice14 e]; exact h.gb)
  refine ⟨hw.c5, hw.box.frozen 5, ⟨_, h5.c6⟩, h5.box.frozen 6, ⟨_, _, _, hc0⟩, h6.box.frozen 0, ?_, ?_⟩
  · exact ⟨_, GV, h0, Or.inl p1, fun k e => Or.inr (by rw [← own_slice14 e]; exact hnew), fun k e => Or.inl (p3 k e).1⟩
  · exact h.kept.trans (((Kept.set14 p1 5 _).trans (Kept.set14 p1 6 _)).trans (Kept.set14 p1 0 _))

set_option maxRecDepth 100000 in
set_option maxHeartbeats 4000000 in
theorem rcommit14_some (w : World) {b : Nat} {P : Nat → Prop} {r : M.W} (h : Wr w b P r) (hu : r.used + 17 ≤ 1099511627776) (ha : r.act = true) (hgt : 0 < r.staged.length) (hrm : ¬ (r.mn : Int) - 2 - (r.used : Int) < (r.staged.length : Int) + 1) :
    Calls Tryz.prog 45 #[.pointer (some ⟨b, 0, none⟩)] w fun e w' => e = .returned (.int .i64 0) ∧ Wr w' b (M.plus14 P w.heap.size) (M.wdone r) ∧ Kept P w w' := by
  obtain ⟨i0, hi, hz0, hz1, hz2⟩ := info_parts infoS14
  have HRm : Hid (∀ n, Calls Tryz.prog 19 #[.pointer (some ⟨b, 0, none⟩)] (w.drewN n) fun e w' => e = .returned (.int .i64 ((r.mn : Int) - 2 - (r.used : Int))) ∧ ∃ m, w' = (w.drewN n).drewN m) := fun n => rroom14 _ (h.drewN n)
  have HCp : Hid (∀ n y g c, y.ownsRow 0 9 1 (.slice (some ⟨g, 0, none⟩) r.seen.length c) r.seen.length (r.seen.map Value.string) → Kept (fun _ => False) (w.drewN n) y → (w.drewN n).heap.size ≤ g → Laying w y b P r g c 0) := fun n y g c h1 h2 h3 => Laying.start h h1 h2 h3
  obtain ⟨SV, GV, hw, -⟩ := h
  have c0 := hw.c0
  have c1 := hw.c1
  have c2 := hw.c2
  rw [ha] at c2
  obtain ⟨SA, sc, eS, hsc⟩ := owns_shape14 hw.seen
  obtain ⟨GA, gc, eG, hgc⟩ := owns_shape14 hw.staged
  have hst := hw.seen
  rw [eS] at c0 hst
  rw [eG] at c1
  have hfew := hw.few
  have hmany := hw.many
  have HU := Lib.hid hu
  obtain ⟨rm, hrme⟩ : ∃ x, x = (r.mn : Int) - 2 - (r.used : Int) := ⟨_, rfl⟩
  rw [← hrme] at HRm hrm
  obtain ⟨sl, hsl⟩ : ∃ x, x = r.seen.length := ⟨_, rfl⟩
  obtain ⟨gl, hgl⟩ : ∃ x, x = r.staged.length := ⟨_, rfl⟩
  obtain ⟨us, hus⟩ : ∃ x, x = r.used := ⟨_, rfl⟩
  obtain ⟨xs, hxs⟩ : ∃ x, x = r.seen.map Value.string := ⟨_, rfl⟩
  rw [← hsl] at c0 hsc hmany HCp hst
  rw [← hgl] at c1 hgc hfew hgt hrm
  rw [← hxs] at HCp hst
  have HSt : Hid (∀ n, (w.drewN n).ownsRow 0 9 1 (.slice SA sl sc) sl xs) := fun n => hst
  have HOne : Hid (∀ u ∈ xs, u.oneCell' = true) := by
    rw [hxs]
    intro u hu
    obtain ⟨s, _, rfl⟩ := List.mem_map.1 hu
    rfl
  have hd : decide ((0 : Int) < (gl : Int)) = true := by simp; omega
  have hd2 : decide (rm < (gl : Int) + 1) = false := by simp; omega
  have HMx : Hid (sl ≤ maxLen ∧ sl * 16 ≤ 140737488355328) := ⟨by unfold maxLen; omega, by omega⟩
  obtain ⟨n1, hn1⟩ : ∃ n, n = us + gl := ⟨_, rfl⟩
  obtain ⟨n2, hn2⟩ : ∃ n, n = us + gl + 1 := ⟨_, rfl⟩
  have e1 : IntKind.i64.wrap ((us : Int) + (gl : Int)) = (n1 : Int) := by rw [IntKind.wrap_i64]; omega
  have e2 : IntKind.i64.wrap ((n1 : Int) + 1) = (n2 : Int) := by rw [IntKind.wrap_i64]; omega
  have HN2 : Hid (n2 = r.used + r.staged.length + 1) := by rw [hn2, hus, hgl]; rfl
  have HN := Lib.hid hgl
  have HSL := Lib.hid hsl
  have HUS := Lib.hid hus
  have HGt := Lib.hid hgt
  have HD0 : Hid (∀ (n : Nat) (o : Obj), ((w.drewN n).alloc o).cell? ⟨b, 0, none⟩ = some (.slice SA sl sc)) := fun n o => ((Kept.refl (fun _ => False) (w.drewN n)).alloc o).cell (p := ⟨b, 0, none⟩) c0 id
  clear hw eS eG hst hsl hgl hxs hus hrme hn1 hn2 hrm hu
  have tok1 : True := trivial
  go_enter Tryz.func45, Tryz.ntmps45
  go_wp2_with fail
  go_quiet ((go_at_call 19; exact quiet_more (HRm.out _)))
  have d0 := HD0.out nq
  go_wp2_with (first
    | (at_builtin
       have _t := tok1
       refine append_copy14 rfl _ _ 39 rfl 9 i0 (.string ⟨#[]⟩) 1 16 Tryz.underlying39 hi hz0 hz1 hz2 rfl (by decide) _ rfl rfl (.slice SA sl sc) sl xs rfl (HSt.out _) HOne.out HMx.out.1 HMx.out.2 ?_
       intro g1 k1 w2 ho1 hk1 hg1
       have HC2 := Lib.hid (HCp.out _ w2 g1 k1 ho1 hk1 hg1)
       clear tok1 ho1 hk1 hg1 HCp HD0 d0)
    | fail)
  go_loopw [4] (fun i wr => ∃ j : Nat, j ≤ gl ∧ i = .int .i64 j ∧ Laying w wr b P r g1 k1 j) (fun i _ => gl - (intOf i).toNat)
  case atStart => exact ⟨0, Nat.zero_le _, rfl, HC2.out⟩
  case round =>
    obtain ⟨j, hj, rfl, hL⟩ := hrel
    have HL := Lib.hid hL
    clear hL HC2
    by_cases hlt : j < gl
    · have hjT : j < r.staged.length := by rw [← HN.out]; exact hlt
      obtain ⟨gg, k, old, q1, q2, q3, q4, -⟩ := HL.out.cells hjT
      obtain ⟨-, -, old', -, -, -, -, q5, q6, HX⟩ := HL.out.drew.cells hjT
      obtain ⟨x, hx⟩ : ∃ x, x = (r.staged[j]'hjT).1 := ⟨_, rfl⟩
      obtain ⟨s, hs⟩ : ∃ s, s = (r.staged[j]'hjT).2 := ⟨_, rfl⟩
      rw [← hx] at q2 q4 q5 q6 HX
      rw [← hs] at q3 HX
      rw [← HN.out] at q1
      rw [← HSL.out] at q4
      have hj0 : (0 : Int) ≤ (j : Int) := by omega
      have hj1 : (j : Int) < (gl : Int) := by omega
      have hx0 : (0 : Int) ≤ (x : Int) := by omega
      have hx1 : (x : Int) < (sl : Int) := by omega
      clear hx hs hjT
      go_wp2_with fail
      go_still_tail 18, (by kernel_rfl)
      change wpList _ _ _ _ _ wr.drew
      obtain ⟨w3, hw3⟩ : ∃ v, v = wr.drew := ⟨_, rfl⟩
      rw [← hw3] at q5 q6 HX
      rw [← hw3]
      clear hw3 q1 q2 q3
      go_wp2_with fail
      go_roundw
      case rel => exact ⟨j + 1, by omega, by go_num, HX.out⟩
      case measure => simp [intOf]; omega
    · have ej : j = gl := by omega
      subst ej
      have HL' : Hid (Laying w wr b P r g1 k1 r.staged.length) := by have := HL.out; rw [HN.out] at this; exact this
      obtain ⟨⟨A, k, q1⟩, q2⟩ := HL.out.reads
      rw [← HN.out] at q1
      rw [← HUS.out] at q2
      obtain ⟨q3, q4, ⟨x6, q5⟩, q6, ⟨A0, m0, k0, q7⟩, q8, HX⟩ := HL'.out.drew.ends HU.out HN2.out
      rw [← HSL.out] at HX
      rw [← HUS.out] at q3
      clear HL HL'
      go_wp2_with fail
      go_still_tail 14, (by kernel_rfl)
      change wpList _ _ _ _ _ wr.drew
      obtain ⟨w3, hw3⟩ : ∃ v, v = wr.drew := ⟨_, rfl⟩
      rw [← hw3] at q3 q4 q5 q6 q7 q8 HX
      rw [← hw3]
      clear hw3 q1 q2
      go_wp2_with fail
      refine (rabort14 _ HX.out.1).mono ?_
      rintro e w4 ⟨rfl, h4, k4⟩
      have HY : Hid (Wr w4 b (M.plus14 P w.heap.size) (M.wdone r) ∧ Kept P w w4) := by
        refine ⟨?_, HX.out.2.next k4 (fun i hi e => e.elim id (fun e => by omega))⟩
        have ee : M.wdone r = M.wabort { r with seen := M.wlay r.seen r.staged, used := n2, sure := false } := by
          have hg : 0 < r.staged.length := by rw [← HN.out]; exact HGt.out
          unfold M.wdone M.wabort
          rw [if_pos hg, if_pos hg, HN2.out]
        rw [ee]
        exact h4
      clear h4 k4
      go_wp2_with fail
      go_ret
      exact ⟨rfl, HY.out⟩
end Go.Proofs.YtigmcnnplnfakaaGreatDoor
namespace Go.Proofs.YtigmcnnplnfakaaGreatDoor
open Go.RowKit

/-- The end, where nothing is staged. -/
theorem Laying.ends0 {w y : World} {b g c : Nat} {P : Nat → Prop} {r : M.W} (h : Laying w y b P r g c 0) :
    (∃ A n' c', y.cell? ⟨b, 0, none⟩ = some (.slice A n' c')) ∧ y.frozen? ⟨b, 0, none⟩ = false ∧
    Hid (Wr (y.setCell ⟨b, 0, none⟩ (.slice (some ⟨g, 0, none⟩) r.seen.length c)) b (M.plus14 P w.heap.size) r ∧ Kept P w (y.setCell ⟨b, 0, none⟩ (.slice (some ⟨g, 0, none⟩) r.seen.length c))) := by
  obtain ⟨SV, GV, hw, p1, p2, p3⟩ := h.wr
  obtain ⟨A, cc, eSV, _⟩ := owns_shape14 hw.seen
  have hc0 := hw.c0
  rw [eSV] at hc0
  have hnew := h.new
  have h0 := hw.set0 (SV' := .slice (some ⟨g, 0, none⟩) r.seen.length c) (S := r.seen) h.row rfl (fun k e => by rw [← own_slice14 e]; exact h.gb)
  refine ⟨⟨_, _, _, hc0⟩, hw.box.frozen 0, ?_, ?_⟩
  · exact ⟨_, GV, h0, Or.inl p1, fun k e => Or.inr (by rw [← own_slice14 e]; exact hnew), fun k e => Or.inl (p3 k e).1⟩
  · exact h.kept.trans (Kept.set14 p1 0 _)

set_option maxRecDepth 100000 in
set_option maxHeartbeats 4000000 in
theorem rcommit14_none (w : World) {b : Nat} {P : Nat → Prop} {r : M.W} (h : Wr w b P r) (ha : r.act = true) (hgt : ¬ 0 < r.staged.length) :
    Calls Tryz.prog 45 #[.pointer (some ⟨b, 0, none⟩)] w fun e w' => e = .returned (.int .i64 0) ∧ Wr w' b (M.plus14 P w.heap.size) (M.wdone r) ∧ Kept P w w' := by
  obtain ⟨i0, hi, hz0, hz1, hz2⟩ := info_parts infoS14
  have HCp : Hid (∀ n y g c, y.ownsRow 0 9 1 (.slice (some ⟨g, 0, none⟩) r.seen.length c) r.seen.length (r.seen.map Value.string) → Kept (fun _ => False) (w.drewN n) y → (w.drewN n).heap.size ≤ g → Laying w y b P r g c 0) := fun n y g c h1 h2 h3 => Laying.start h h1 h2 h3
  obtain ⟨SV, GV, hw, -⟩ := h
  have c0 := hw.c0
  have c1 := hw.c1
  have c2 := hw.c2
  rw [ha] at c2
  obtain ⟨SA, sc, eS, hsc⟩ := owns_shape14 hw.seen
  obtain ⟨GA, gc, eG, hgc⟩ := owns_shape14 hw.staged
  have hst := hw.seen
  rw [eS] at c0 hst
  rw [eG] at c1
  have hmany := hw.many
  have hg0 : r.staged.length = 0 := by omega
  rw [hg0] at c1
  obtain ⟨sl, hsl⟩ : ∃ x, x = r.seen.length := ⟨_, rfl⟩
  obtain ⟨xs, hxs⟩ : ∃ x, x = r.seen.map Value.string := ⟨_, rfl⟩
  rw [← hsl] at c0 hsc hmany HCp hst
  rw [← hxs] at HCp hst
  have HSt : Hid (∀ n, (w.drewN n).ownsRow 0 9 1 (.slice SA sl sc) sl xs) := fun n => hst
  have HOne : Hid (∀ u ∈ xs, u.oneCell' = true) := by
    rw [hxs]
    intro u hu
    obtain ⟨s, _, rfl⟩ := List.mem_map.1 hu
    rfl
  have hd : decide ((0 : Int) < ((0 : Nat) : Int)) = false := by decide
  have HMx : Hid (sl ≤ maxLen ∧ sl * 16 ≤ 140737488355328) := ⟨by unfold maxLen; omega, by omega⟩
  have HSL := Lib.hid hsl
  have HG0 := Lib.hid hg0
  have HD0 : Hid (∀ (n : Nat) (o : Obj), ((w.drewN n).alloc o).cell? ⟨b, 0, none⟩ = some (.slice SA sl sc)) := fun n o => ((Kept.refl (fun _ => False) (w.drewN n)).alloc o).cell (p := ⟨b, 0, none⟩) c0 id
  clear hw eS eG hst hsl hxs hgt hg0 hgc
  have tok1 : True := trivial
  go_enter Tryz.func45, Tryz.ntmps45
  go_wp2_with fail
  go_quiet (fail)
  have d0 := HD0.out nq
  go_wp2_with (first
    | (at_builtin
       have _t := tok1
       refine append_copy14 rfl _ _ 39 rfl 9 i0 (.string ⟨#[]⟩) 1 16 Tryz.underlying39 hi hz0 hz1 hz2 rfl (by decide) _ rfl rfl (.slice SA sl sc) sl xs rfl (HSt.out _) HOne.out HMx.out.1 HMx.out.2 ?_
       intro g1 k1 w2 ho1 hk1 hg1
       have HC2 := Lib.hid (HCp.out _ w2 g1 k1 ho1 hk1 hg1)
       clear tok1 ho1 hk1 hg1 HCp HD0 d0)
    | fail)
  go_loopw [4] (fun i wr => i = .int .i64 ((0 : Nat) : Int) ∧ wr = w2) (fun i _ => 0)
  case atStart => exact ⟨rfl, rfl⟩
  case round =>
    obtain ⟨rfl, rfl⟩ := hrel
    obtain ⟨⟨A, k, q1⟩, -⟩ := HC2.out.reads
    obtain ⟨⟨A0, m0, k0, q7⟩, q8, HX⟩ := HC2.out.ends0
    rw [← HSL.out] at HX
    rw [HG0.out] at q1
    clear HC2
    go_wp2_with fail
    refine (rabort14 _ HX.out.1).mono ?_
    rintro e w4 ⟨rfl, h4, k4⟩
    have HY : Hid (Wr w4 b (M.plus14 P w.heap.size) (M.wdone r) ∧ Kept P w w4) := by
      refine ⟨?_, HX.out.2.next k4 (fun i hi e => e.elim id (fun e => by omega))⟩
      have ee : M.wdone r = M.wabort r := by
        unfold M.wdone M.wabort
        rw [if_neg (by rw [HG0.out]; omega), if_neg (by rw [HG0.out]; omega), List.eq_nil_of_length_eq_zero HG0.out]
        rfl
      rw [ee]
      exact h4
    clear h4 k4
    go_wp2_with fail
    go_ret
    exact ⟨rfl, HY.out⟩

/-- Commit. -/
theorem rcommit14 (w : World) {b : Nat} {P : Nat → Prop} {r : M.W} (h : Wr w b P r) (hu : r.used + 17 ≤ 1099511627776) :
    Calls Tryz.prog 45 #[.pointer (some ⟨b, 0, none⟩)] w fun e w' => e = .returned (.int .i64 (M.wcommitE r)) ∧ Wr w' b (M.plus14 P w.heap.size) (M.wcommit r) ∧ Kept P w w' := by
  by_cases ha : r.act = true
  · by_cases hgt : 0 < r.staged.length
    · by_cases hrm : (r.mn : Int) - 2 - (r.used : Int) < (r.staged.length : Int) + 1
      · have hE : M.wcommitE r = 6 := by unfold M.wcommitE; rw [if_pos ha, if_pos ⟨hgt, hrm⟩]
        have hC : M.wcommit r = r := by unfold M.wcommit; rw [if_neg (by rw [hE]; decide)]
        rw [hE, hC]
        have HX : Hid (∀ n, Wr (w.drewN n) b (M.plus14 P w.heap.size) r ∧ Kept P w (w.drewN n)) := fun n => ⟨(h.drewN n).mono (fun _ _ e => Or.inl e), (Kept.refl P w).drewN n⟩
        have HRm : Hid (∀ n, Calls Tryz.prog 19 #[.pointer (some ⟨b, 0, none⟩)] (w.drewN n) fun e w' => e = .returned (.int .i64 ((r.mn : Int) - 2 - (r.used : Int))) ∧ ∃ m, w' = (w.drewN n).drewN m) := fun n => rroom14 _ (h.drewN n)
        obtain ⟨SV, GV, hw, -⟩ := h
        have c1 := hw.c1
        have c2 := hw.c2
        rw [ha] at c2
        obtain ⟨GA, gc, eG, hgc⟩ := owns_shape14 hw.staged
        rw [eG] at c1
        have hfew := hw.few
        obtain ⟨rm, hrme⟩ : ∃ x, x = (r.mn : Int) - 2 - (r.used : Int) := ⟨_, rfl⟩
        rw [← hrme] at HRm hrm
        obtain ⟨gl, hgl⟩ : ∃ x, x = r.staged.length := ⟨_, rfl⟩
        rw [← hgl] at c1 hgc hfew hgt hrm
        have hd : decide ((0 : Int) < (gl : Int)) = true := by simp; omega
        have hd2 : decide (rm < (gl : Int) + 1) = true := by simp; omega
        clear hw eG hgl hrme hrm hE hC hu ha
        go_enter Tryz.func45, Tryz.ntmps45
        go_wp2_with fail
        go_quiet ((go_at_call 19; exact quiet_more (HRm.out _)))
        go_wp2_with fail
        go_ret
        exact ⟨rfl, HX.out _⟩
      · have hE : M.wcommitE r = 0 := by unfold M.wcommitE; rw [if_pos ha, if_neg (fun h => hrm h.2)]
        rw [show M.wcommit r = M.wdone r by unfold M.wcommit; rw [if_pos hE], hE]
        exact rcommit14_some w h hu ha hgt hrm
    · have hE : M.wcommitE r = 0 := by unfold M.wcommitE; rw [if_pos ha, if_neg (fun h => hgt h.1)]
      rw [show M.wcommit r = M.wdone r by unfold M.wcommit; rw [if_pos hE], hE]
      exact rcommit14_none w h ha hgt
  · have ha' : r.act = false := by simpa using ha
    have hE : M.wcommitE r = 10 := by unfold M.wcommitE; rw [if_neg ha]
    have hC : M.wcommit r = r := by unfold M.wcommit; rw [if_neg (by rw [hE]; decide)]
    rw [hE, hC]
    have HX : Hid (Wr w b (M.plus14 P w.heap.size) r ∧ Kept P w w) := ⟨h.mono (fun _ _ e => Or.inl e), Kept.refl P w⟩
    obtain ⟨SV, GV, hw, -⟩ := h
    have c2 := hw.c2
    rw [ha'] at c2
    clear hw hE hC hu ha ha'
    go_enter Tryz.func45, Tryz.ntmps45
    go_wp2_with fail
    go_ret
    exact ⟨rfl, HX.out⟩
end Go.Proofs.YtigmcnnplnfakaaGreatDoor
namespace Go.Proofs.YtigmcnnplnfakaaGreatDoor
open Go.RowKit

theorem cell1_new14 (w : World) (x : Value) (t : TypeId) : ∀ j u, [x][j]? = some u → (w.alloc (.cells #[x] t)).cell? ((⟨w.heap.size, 0, none⟩ : Addr).add j) = some u := by
  intro j u hj
  rw [blk_add, (Box.new w t #[x]).cell]
  simpa using hj
/-- A log without records, of a disk of zeros. -/
def M.wnew (c f m : Nat) : M.W := ⟨List.replicate c M.zero, [], false, f, m, 0, true⟩

/-- While it is made: so many sectors are there. -/
structure Making14 (w y : World) (b : Nat) (zz : ByteArray) (f m k : Nat) (SV : Value) : Prop where
  box : Box y b 42 #[SV, .slice none 0 0, .bool false, .int .i64 (f : Nat), .int .i64 (m : Nat), .int .i64 0, .bool true]
  row : y.ownsRow 0 9 1 SV k (List.replicate k (.string zz))
  ne : ∀ g, SV.ownBlock = some g → w.heap.size ≤ g ∧ g ≠ b
  low : w.heap.size ≤ b
  below : Below w.heap.size w y
theorem Making14.more {w y y3 : World} {b g c k f m : Nat} {zz : ByteArray} {SV : Value} (h : Making14 w y b zz f m k SV) {o1 o2 : Obj} (ho : y3.ownsRow 0 9 1 (.slice (some ⟨g, 0, none⟩) (k + 1) c) (k + 1) (List.replicate k (.string zz) ++ [.string zz])) (hgr : ((y.alloc o1).alloc o2).grownBy y3 SV.ownBlock) (hat : SV.ownBlock = some g ∨ g = y.heap.size + 2) :
    y3.cell? ⟨b, 0, none⟩ = some SV ∧ y3.frozen? ⟨b, 0, none⟩ = false ∧ Hid (Making14 w (y3.setCell ⟨b, 0, none⟩ (.slice (some ⟨g, 0, none⟩) (k + 1) c)) b zz f m (k + 1) (.slice (some ⟨g, 0, none⟩) (k + 1) c)) := by
  have hbl := h.box.lt
  have hsz := h.below.size
  have hk3 : Kept (fun j => SV.ownBlock = some j) y y3 := Kept.grown (Kept.alloc (Kept.alloc (Kept.refl _ y) o1) o2) hgr (fun j e _ => e)
  have hB := hk3.box h.box (fun e => (h.ne b e).2 rfl)
  have hk4 : Kept (fun j => j = b) y3 (y3.setCell ⟨b, 0, none⟩ (.slice (some ⟨g, 0, none⟩) (k + 1) c)) := Kept.set14 (P := fun j => j = b) rfl 0 _
  have hgb : w.heap.size ≤ g ∧ g ≠ b := hat.elim (fun e => h.ne g e) (fun e => ⟨by omega, by omega⟩)
  refine ⟨by simpa using hB.cell 0, hB.frozen 0, by simpa using hB.set 0 (.slice (some ⟨g, 0, none⟩) (k + 1) c), ?_, fun j e => own_slice14 e ▸ hgb, h.low, ?_⟩
  · rw [List.replicate_succ']
    exact hk4.owns14 ho (fun j e => by rw [← own_slice14 e]; exact hgb.2)
  · have h1 : Below w.heap.size y y3 := hk3.below hsz (fun j hj e => by have := (h.ne j e).1; omega)
    exact (h.below.trans h1).trans (hk4.below (Nat.le_trans hsz hk3.size) (fun j hj e => by have := h.low; omega))
theorem Making14.done {w y : World} {b k f m : Nat} {SV : Value} (h : Making14 w y b M.zero f m k SV) (hk : k ≤ 1000) (hf : f ≤ 1000) (hm : m ≤ 1000) : Wr y b (fun j => w.heap.size ≤ j) (M.wnew k f m) ∧ Below w.heap.size w y := by
  have hr : (List.replicate k M.zero).map Value.string = List.replicate k (.string M.zero) := by simp
  refine ⟨⟨SV, .slice none 0 0, ⟨h.box, ?_, World.ownsRow_nil _ _ _ _, fun j e => (h.ne j e).2, fun j e => (by cases e), fun p hp => (by cases hp), Nat.zero_le _, by simpa [M.wnew] using hk, ⟨hf, hm⟩, Nat.zero_le _⟩, h.low, fun j e => (h.ne j e).1, fun j e => (by cases e)⟩, h.below⟩
  show World.ownsRow _ _ _ _ _ (List.replicate k M.zero).length ((List.replicate k M.zero).map Value.string)
  rw [hr, List.length_replicate]
  exact h.row

set_option maxRecDepth 100000 in
set_option maxHeartbeats 2000000 in
theorem rnew14 (c f m : Nat) (hcl : c ≤ 1000) (hf : f ≤ 1000) (hm : m ≤ 1000) (w : World) : Calls Tryz.prog 8 #[.int .i64 (c : Nat), .int .i64 (f : Nat), .int .i64 (m : Nat)] w fun e w' => ∃ b, e = .returned (.pointer (some ⟨b, 0, none⟩)) ∧ Wr w' b (fun j => w.heap.size ≤ j) (M.wnew c f m) ∧ Below w.heap.size w w' := by
  obtain ⟨i0, hi, hz0, hz1, hz2⟩ := info_parts infoS14
  obtain ⟨R, hR⟩ : ∃ R, R = M.nils 64 := ⟨_, rfl⟩
  obtain ⟨zz, hzz⟩ : ∃ zz, zz = M.zero := ⟨_, rfl⟩
  have hmk : ∀ W : World, (Instr.makeSlice 55 (.int .i64 64) (.int .i64 64)).run Tryz.prog W = .ok (.slice (some ⟨W.heap.size, 0, none⟩) 64 64) (W.alloc (.cells R 5)) := fun W => by rw [hR]; exact make_nils 64 (by omega) W
  have hcvA : ∀ W : World, Sem.run Tryz.prog (convert 55 9 (.slice (some ⟨W.heap.size, 0, none⟩) 64 64)) (W.alloc (.cells R 5)) = .ok (.string zz) (W.alloc (.cells R 5)) := fun W => by rw [hR, hzz]; exact conv_nils 64 _ _ (Box.new _ _ _)
  have hcvB : ∀ W : World, Sem.run Tryz.prog (convert 55 9 (.slice (some ⟨W.heap.size, 0, none⟩) 64 64)) (W.alloc (.cells R 5)).drew = .ok (.string zz) (W.alloc (.cells R 5)).drew := fun W => by rw [hR, hzz]; exact conv_nils 64 _ _ (Box.new _ _ _)
  have HZZ := Lib.hid hzz
  clear hR hzz
  have HM0 : Hid (Making14 w (w.alloc (.cells #[.slice none 0 0, .slice none 0 0, .bool false, .int .i64 (f : Nat), .int .i64 (m : Nat), .int .i64 0, .bool true] 42)) w.heap.size zz f m 0 (.slice none 0 0)) :=
    ⟨Box.new _ _ _, World.ownsRow_nil _ _ _ _, fun g e => (by cases e), Nat.le_refl _, (Below.refl _ _).alloc (Nat.le_refl _) _⟩
  go_enter Tryz.func8, Tryz.ntmps8
  go_wp2_with fail
  obtain ⟨y0, hy0⟩ : ∃ y, y = w.alloc (.cells #[.slice none 0 0, .slice none 0 0, .bool false, .int .i64 (f : Nat), .int .i64 (m : Nat), .int .i64 0, .bool true] 42) := ⟨_, rfl⟩
  obtain ⟨b, hb⟩ : ∃ b, b = w.heap.size := ⟨_, rfl⟩
  rw [← hy0, ← hb] at HM0
  rw [← hy0, ← hb]
  clear hy0 hb
  go_loopw [8] (fun i wr => ∃ k : Nat, k ≤ c ∧ i = .int .i64 k ∧ ∃ SV, Making14 w wr b zz f m k SV) (fun i _ => c - (intOf i).toNat)
  case atStart => exact ⟨0, Nat.zero_le _, rfl, _, HM0.out⟩
  case round =>
    clear HM0
    obtain ⟨k, hk, rfl, SV, hM⟩ := hrel
    obtain ⟨SA, sc, rfl, _⟩ := owns_shape14 hM.row
    have c0 := hM.box.cell 0
    simp only [List.getElem?_toArray, List.getElem?_cons_zero] at c0
    by_cases hlt : k < c
    · have hlt' : (k : Int) < (c : Int) := by omega
      have HN : Hid (k + 1 ≤ maxLen ∧ (k + 1) * 16 ≤ 140737488355328) := by refine ⟨?_, ?_⟩ <;> (try unfold maxLen) <;> omega
      have hbl := hM.box.lt
      have d1 : (wr.alloc (.cells R 5)).cell? ⟨b, 0, none⟩ = some (.slice SA k sc) := (World.cell?_of_block (Below.heap_alloc _ _ _ hbl)).trans c0
      have d2 : ((wr.alloc (.cells R 5)).alloc (.cells #[.string zz] 9)).cell? ⟨b, 0, none⟩ = some (.slice SA k sc) := (World.cell?_of_block (Below.heap_alloc _ _ _ (by rw [World.size_alloc]; show b < _; omega))).trans d1
      obtain ⟨xs, hxs⟩ : ∃ xs, xs = List.replicate k (Value.string zz) := ⟨_, rfl⟩
      have HO : Hid (((wr.alloc (.cells R 5)).alloc (.cells #[.string zz] 9)).drew.ownsRow 0 9 1 (.slice SA k sc) k xs) := by rw [hxs]; exact ((hM.row.alloc _).alloc _)
      have HC : Hid (∀ j u, [Value.string zz][j]? = some u → ((wr.alloc (.cells R 5)).alloc (.cells #[.string zz] 9)).drew.cell? ((⟨wr.heap.size + 1, 0, none⟩ : Addr).add j) = some u) := by
        have := cell1_new14 (wr.alloc (.cells R 5)) (.string zz) 9
        rw [World.size_alloc] at this
        exact this
      have HL : Hid (∀ (y3 : World) (g c : Nat), y3.ownsRow 0 9 1 (.slice (some ⟨g, 0, none⟩) (k + 1) c) (k + 1) (xs ++ [.string zz]) → ((wr.alloc (.cells R 5)).alloc (.cells #[.string zz] 9)).drew.grownBy y3 (Value.slice SA k sc).ownBlock → ((Value.slice SA k sc).ownBlock = some g ∨ g = wr.heap.size + 2) →
          y3.cell? ⟨b, 0, none⟩ = some (.slice SA k sc) ∧ y3.frozen? ⟨b, 0, none⟩ = false ∧ Hid (Making14 w (y3.setCell ⟨b, 0, none⟩ (.slice (some ⟨g, 0, none⟩) (k + 1) c)) b zz f m (k + 1) (.slice (some ⟨g, 0, none⟩) (k + 1) c))) := by
        intro y3 g c p1 p2 p3
        rw [hxs] at p1
        have p2' : ((wr.alloc (.cells R 5)).alloc (.cells #[.string zz] 9)).grownBy y3 (Value.slice SA k sc).ownBlock := ⟨p2.os, p2.tape, p2.output, p2.size, p2.block⟩
        exact hM.more p1 p2' p3
      clear hM hxs HZZ
      go_wp2_with fail
      go_region_law (refine step_append_lies _ rfl _ _ 39 rfl 0 9 i0 (.string ⟨#[]⟩) 1 16 Tryz.underlying39 hi hz0 hz1 hz2 rfl (by decide) (.slice SA k sc) k xs rfl (by exact HO.out) ⟨wr.heap.size + 1, 0, none⟩ 1 1 [.string zz] rfl rfl (by exact HC.out) (fun x hx => by simp at hx; subst hx; rfl) (by omega) HN.out.1 HN.out.2 (Nat.zero_le _) (wr.heap.size + 2) (by simp [World.drew]) ?_; intro g3 k3 w3 hown3 hgrow3 hat3 _; obtain ⟨p1, p2, HX⟩ := HL.out w3 g3 k3 hown3 hgrow3 hat3; clear hown3 hgrow3 hat3)
      all_goals
        go_wp2_with fail
        go_roundw
        case rel => exact ⟨k + 1, by omega, by go_num, _, HX.out⟩
        case measure => simp [intOf]; omega
    · have hlt' : ¬ (k : Int) < (c : Int) := by omega
      have e : k = c := by omega
      subst e
      rw [HZZ.out] at hM
      have HX := Lib.hid (hM.done hcl hf hm)
      clear hM hlt hmk hcvA hcvB
      go_wp2_with fail
      go_ret
      exact ⟨b, rfl, HX.out⟩
end Go.Proofs.YtigmcnnplnfakaaGreatDoor
namespace Go.Proofs.YtigmcnnplnfakaaGreatDoor
open Go.RowKit Go.ChangeShapes Go.WideShapes Go.ChangeAt Go.Deep

theorem add_block14 (a : Addr) (n : Nat) : (a.add n).block = a.block := by unfold Addr.add; split <;> rfl
theorem add_one14 (a : Addr) (m j : Nat) (hj : j ≠ 0) : a.add (m + j) = ⟨(a.add m).block, (a.add m).off + j, none⟩ := by
  unfold Addr.add
  by_cases h : m = 0
  · subst h
    simp [hj]
  · simp [h]
    omega

/-- What a step is. -/
structure M.Op14 where
  kind : Int
  at_ : Int
  data : ByteArray
instance : Inhabited M.Op14 := ⟨⟨0, 0, ⟨#[]⟩⟩⟩
/-- A step in memory. -/
def OpCells14 (w : World) (ad : Addr) (o : M.Op14) : Prop := w.cell? ad = some (.int .i64 o.kind) ∧ w.cell? ⟨ad.block, ad.off + 1, none⟩ = some (.int .i64 o.at_) ∧ w.cell? ⟨ad.block, ad.off + 2, none⟩ = some (.string o.data)
/-- v is a slice of steps, in blocks of w. -/
def OpsAt14 (w : World) (v : Value) : Prop := ∃ (A : Option Addr) (len cap : Nat), v = .slice A len cap ∧ len ≤ maxLen ∧
  ∀ i, i < len → ∃ (ad : Addr) (o : M.Op14), A = some ad ∧ ad.block < w.heap.size ∧ OpCells14 w (ad.add (i * 3)) o ∧ (Lit.int .i64 o.at_).wf = true

set_option maxRecDepth 100000 in
theorem walRoom_open0 {H : Type} {enc : TypeId × Value → H} {W : World} {r : Reach} {b0 : Nat} {v : Value} {d : DataW H} {p : List MemPlace} (hval : Value.okWide Tryz.prog W r b0 22 v)
    (h : DataW.Trod enc Tryz.prog W 0 (fun _ => true) true 22 v d p) : OpsAt14 W v := by
  obtain ⟨A, len, cap, rfl⟩ := okWide_slice Tryz.underlying22 hval
  obtain ⟨fuel, hf⟩ := h
  rcases open_slice Tryz.underlying22 hf with ⟨hc, _⟩ | ⟨a, l, c, m, k, D, Pl, hc, _, hl, hcm, hmm, _, hall⟩
  · simp [Value.cells] at hc
    obtain ⟨rfl, rfl, rfl⟩ := hc
    exact ⟨none, 0, 0, rfl, Nat.zero_le _, fun i hi => absurd hi (by omega)⟩
  · simp [Value.cells] at hc
    obtain ⟨rfl, rfl, rfl⟩ := hc
    simp only [if_true] at hmm
    subst hmm
    refine ⟨some a, len, m, rfl, Nat.le_trans hl hcm, fun i hi => ?_⟩
    obtain ⟨cs, h1, h2⟩ := hall i (by omega)
    have ce : Tryz.prog.cellsOf 35 = 3 := by kernel_rfl
    have ci : Tryz.prog.cellsOf 3 = 1 := by kernel_rfl
    have cst : Tryz.prog.cellsOf 9 = 1 := by kernel_rfl
    rw [ce] at h1
    obtain ⟨_, hlen, hcell⟩ := World.cells?_some h1
    obtain ⟨xs, k', hk, _, _, hxl, hfld⟩ := DataW.trod_struct Tryz.underlying35 h2
    match cs, hlen with
    | [v0, v1, v2], _ =>
      have x0 : 0 < xs.length := by rw [hxl]; decide
      have x1 : 1 < xs.length := by rw [hxl]; decide
      have x2 : 2 < xs.length := by rw [hxl]; decide
      have g0 := hfld 0 _ rfl
      rw [List.getElem?_eq_getElem x0] at g0
      change DataW.trod enc Tryz.prog W 0 (fun _ => true) true k' 3 (([v0, v1, v2].drop 0).take (Tryz.prog.cellsOf 3)) = some _ at g0
      rw [ci] at g0
      change DataW.trod enc Tryz.prog W 0 (fun _ => true) true k' 3 [v0] = some _ at g0
      have g1 := hfld 1 _ rfl
      rw [List.getElem?_eq_getElem x1] at g1
      change DataW.trod enc Tryz.prog W 0 (fun _ => true) true k' 3 (([v0, v1, v2].drop 1).take (Tryz.prog.cellsOf 3)) = some _ at g1
      rw [ci] at g1
      change DataW.trod enc Tryz.prog W 0 (fun _ => true) true k' 3 [v1] = some _ at g1
      have g3 := hfld 2 _ rfl
      rw [List.getElem?_eq_getElem x2] at g3
      change DataW.trod enc Tryz.prog W 0 (fun _ => true) true k' 9 (([v0, v1, v2].drop 2).take (Tryz.prog.cellsOf 9)) = some _ at g3
      rw [cst] at g3
      change DataW.trod enc Tryz.prog W 0 (fun _ => true) true k' 9 [v2] = some _ at g3
      obtain ⟨n0, e0, _, _⟩ := DataW.trod_int Tryz.underlying3 g0
      obtain ⟨n1, e1, _, w1⟩ := DataW.trod_int Tryz.underlying3 g1
      obtain ⟨s3, e2, _, _⟩ := DataW.trod_string Tryz.underlying9 g3
      simp only [List.cons.injEq, and_true] at e0 e1 e2
      have c0 := hcell 0 (by omega)
      have c1 := hcell 1 (by omega)
      have c2 := hcell 2 (by omega)
      rw [add_add] at c0 c1 c2
      have hlt : a.block < W.heap.size := by
        have := World.block_lt_of_cell? W _ c0
        rwa [add_block14] at this
      refine ⟨a, ⟨n0, n1, s3⟩, rfl, hlt, ⟨?_, ?_, ?_⟩, w1⟩
      · rw [Nat.add_zero] at c0; rw [c0]; simp [e0]
      · rw [← add_one14 _ _ 1 (by omega), c1]; simp [e1]
      · rw [← add_one14 _ _ 2 (by omega), c2]; simp [e2]
/-- The same with a function that tells the steps. -/
def OpF14 (w : World) (A : Option Addr) (len : Nat) (f : Nat → M.Op14) : Prop := ∀ i, i < len → ∃ ad : Addr, A = some ad ∧ ad.block < w.heap.size ∧ OpCells14 w (ad.add (i * 3)) (f i) ∧ (Lit.int .i64 (f i).at_).wf = true
theorem OpF14.of {w : World} {A : Option Addr} {len : Nat} (h : ∀ i, i < len → ∃ (ad : Addr) (o : M.Op14), A = some ad ∧ ad.block < w.heap.size ∧ OpCells14 w (ad.add (i * 3)) o ∧ (Lit.int .i64 o.at_).wf = true) : ∃ f, OpF14 w A len f := by
  classical
  refine ⟨fun i => if hi : i < len then Classical.choose (Classical.choose_spec (h i hi)) else default, fun i hi => ?_⟩
  have := Classical.choose_spec (Classical.choose_spec (h i hi))
  simp only [dif_pos hi]
  exact ⟨Classical.choose (h i hi), this⟩
theorem OpF14.at_ {w y : World} {N : Nat} {A : Option Addr} {len : Nat} {f : Nat → M.Op14} (h : OpF14 w A len f) (hN : N = w.heap.size) (hb : Below N w y) {i : Nat} (hi : i < len) : ∃ ad : Addr, A = some ad ∧ OpCells14 y (ad.add (i * 3)) (f i) := by
  obtain ⟨ad, h1, h2, ⟨c0, c1, c2⟩, _⟩ := h i hi
  subst hN
  have hl : (ad.add (i * 3)).block < w.heap.size := by rw [add_block14]; exact h2
  exact ⟨ad, h1, (hb.cell hl).trans c0, (hb.cell (by exact hl)).trans c1, (hb.cell (by exact hl)).trans c2⟩

set_option maxRecDepth 100000 in
theorem great14_any (A : Option Addr) (len cap : Nat) (f : Nat → M.Op14) (w y : World) (h : OpF14 w A len f) (hb : Below w.heap.size w y) (hlen : len ≤ maxLen) :
    Calls Tryz.prog 6 #[.slice A len cap] y fun e y' => (e = .returned (.bool true) ∧ y' = y) ∨ (e = .returned (.bool false) ∧ y' = y ∧ Hid (len ≤ 120 ∧ ∀ i, i < len → (f i).data.size ≤ 500)) := by
  have HF := Lib.hid (fun i (hi : i < len) => h.at_ rfl hb hi)
  have hl63 : (len : Int) ≤ 9223372036854775807 := by unfold maxLen at hlen; omega
  clear h hb hlen
  go_enter Tryz.func6, Tryz.ntmps6
  go_wp2_with fail
  go_loopw [3] (fun j wr => ∃ k : Nat, k ≤ len ∧ k ≤ 120 ∧ j = .int .i64 k ∧ wr = y ∧ Hid (∀ i, i < k → (f i).data.size ≤ 500)) (fun j _ => len - (intOf j).toNat)
  case atStart => exact ⟨0, Nat.zero_le _, Nat.zero_le _, rfl, rfl, fun i hi => absurd hi (by omega)⟩
  case round =>
    obtain ⟨k, hk, hk1, rfl, rfl, HA⟩ := hrel
    by_cases hlt : k < len
    · have hk0 : (0 : Int) ≤ (k : Int) := by omega
      have hlt' : (k : Int) < (len : Int) := by omega
      by_cases h1 : k < 120
      · have h1' : decide ((120 : Int) ≤ (k : Int)) = false := by simp; omega
        obtain ⟨ad, rfl, x0, x1, x2⟩ := HF.out k hlt
        obtain ⟨t, ht⟩ : ∃ t, t = (f k).data := ⟨_, rfl⟩
        rw [← ht] at x2
        by_cases h5 : t.size ≤ 500
        · have h5' : decide ((500 : Int) < (t.size : Int)) = false := by simp; omega
          have HN : Hid (∀ i, i < k + 1 → (f i).data.size ≤ 500) := fun i hi => by
            by_cases e : i = k
            · rw [e, ← ht]; exact h5
            · exact HA.out i (by omega)
          clear x0 x1 ht
          go_wp2_with fail
          try (go_quiet (fail); go_wp2_with fail)
          go_roundw
          case rel => exact ⟨k + 1, by omega, by omega, by go_num, (by first | rfl | trivial), HN⟩
          case measure => simp [intOf]; omega
        · have h5' : decide ((500 : Int) < (t.size : Int)) = true := by simp; omega
          clear x0 x1 ht
          go_wp2_with fail
          go_ret
          first | exact Or.inl ⟨rfl, rfl⟩ | exact Or.inl rfl
      · have h1' : decide ((120 : Int) ≤ (k : Int)) = true := by simp; omega
        go_wp2_with fail
        go_ret
        first | exact Or.inl ⟨rfl, rfl⟩ | exact Or.inl rfl
    · have e : k = len := by omega
      subst e
      clear hlt
      have HE : Hid (k ≤ 120 ∧ ∀ i, i < k → (f i).data.size ≤ 500) := ⟨hk1, HA.out⟩
      go_wp2_with fail
      go_ret
      first | exact Or.inr ⟨rfl, rfl, HE⟩ | exact Or.inr ⟨rfl, rfl⟩
end Go.Proofs.YtigmcnnplnfakaaGreatDoor
