/-
  Walks over ring.grow and ring.Push, at things that are strings.
-/
import Derived.Test.YtlpcjfjjfnnbcaaQIn
import Derived.Deep.RegionHeld3
import Derived.StillTailTactics
namespace Go.Proofs.Ytlpcjfjjfnnbcaa.Q
open Go.RowKit

theorem Ring.box0 {w : World} {b g most : Nat} {A : Option Addr} {ss : List ByteArray} {f : Nat} {L : List ByteArray} (h : Ring w b g most A ss f L) : w.cell? ⟨b, 0, none⟩ = some (.slice A ss.length ss.length) := by
  have h0 := h.box.cell 0
  simpa using h0
theorem Ring.box1 {w : World} {b g most : Nat} {A : Option Addr} {ss : List ByteArray} {f : Nat} {L : List ByteArray} (h : Ring w b g most A ss f L) : w.cell? ⟨b, 1, none⟩ = some (.int .i64 f) := by
  have h0 := h.box.cell 1
  simpa using h0
theorem Ring.box2 {w : World} {b g most : Nat} {A : Option Addr} {ss : List ByteArray} {f : Nat} {L : List ByteArray} (h : Ring w b g most A ss f L) : w.cell? ⟨b, 2, none⟩ = some (.int .i64 (L.length : Nat)) := by
  have h0 := h.box.cell 2
  simpa using h0
theorem Ring.box3 {w : World} {b g most : Nat} {A : Option Addr} {ss : List ByteArray} {f : Nat} {L : List ByteArray} (h : Ring w b g most A ss f L) : w.cell? ⟨b, 3, none⟩ = some (.int .i64 (most : Nat)) := by
  have h0 := h.box.cell 3
  simpa using h0

set_option maxRecDepth 100000 in
set_option maxHeartbeats 2000000 in
theorem grow_any (w : World) {b g most : Nat} {A : Option Addr} {ss : List ByteArray} {f : Nat} {L : List ByteArray} (hR : Ring w b g most A ss f L) (hl : L.length < most) :
    Calls Try.prog 31 #[.pointer (some ⟨b, 0, none⟩)] w fun e w' => e = .returned (.tuple #[]) ∧
      (∃ g' ss', Ring w' b g' most (some ⟨g', 0, none⟩) ss' 0 L ∧ L.length < ss'.length ∧ w.heap.size ≤ g') ∧ Kept (fun k => k = b) w w' := by
  have hm := hR.most
  have hbl := hR.box.lt
  have HR := Lib.hid hR
  have h2 := hR.box2
  have h3 := hR.box3
  clear hR
  obtain ⟨n, hn1, hn2, hnn⟩ : ∃ n : Nat, L.length < n ∧ n ≤ most ∧ ((n = 2 * L.length + 1 ∧ n ≤ most) ∨ (most = n ∧ n < 2 * L.length + 1)) := by
    by_cases h : 2 * L.length + 1 ≤ most
    · exact ⟨2 * L.length + 1, by omega, h, Or.inl ⟨rfl, h⟩⟩
    · exact ⟨most, hl, Nat.le_refl _, Or.inr ⟨rfl, by omega⟩⟩
  have HC := Lib.hid (fun (x : World) (hx : Ring x b g most A ss f L) => inOrder_any x n (by omega) hx (by omega))
  have HE : Hid (∀ x w1 : World, Box x b 59 #[.slice A ss.length ss.length, .int .i64 f, .int .i64 L.length, .int .i64 most] → w.heap.size = x.heap.size → Box w1 x.heap.size 9 ((L ++ List.replicate (n - L.length) (⟨#[]⟩ : ByteArray)).map Value.string).toArray → Below x.heap.size x w1 →
      Kept (fun k => k = b) w w1 → ∃ g' ss', Ring ((w1.setCell ⟨b, 0, none⟩ (.slice (some ⟨w.heap.size, 0, none⟩) n n)).setCell ⟨b, 1, none⟩ (.int .i64 0)) b g' most (some ⟨g', 0, none⟩) ss' 0 L ∧ L.length < ss'.length ∧ w.heap.size ≤ g') := by
    intro x w1 hxb hxz hB1 hb1 _
    have hz : (L ++ List.replicate (n - L.length) (⟨#[]⟩ : ByteArray)).length = n := by simp; omega
    refine ⟨w.heap.size, L ++ List.replicate (n - L.length) (⟨#[]⟩ : ByteArray), ⟨?_, Or.inr ⟨rfl, ?_⟩, M.Lies.grown L ⟨#[]⟩ n (by omega) (by omega), by rw [hz]; exact hn2, hm, fun _ => by omega⟩, by rw [hz]; exact hn1, Nat.le_refl _⟩
    · have := ((hxb.below hb1 (by omega)).set 0 (.slice (some ⟨w.heap.size, 0, none⟩) n n)).set 1 (.int .i64 0)
      rw [hz]
      simpa using this
    · rw [hxz]
      exact (Below.heap_setCell _ _ _ _ (by simp only; omega)).trans ((Below.heap_setCell _ _ _ _ (by simp only; omega)).trans hB1)
  obtain ⟨k, hk⟩ : ∃ k, k = L.length := ⟨_, rfl⟩
  rw [← hk] at hnn h2 hl hn1
  have HK := Lib.hid hk
  clear hk
  obtain ⟨k2, hk2⟩ : ∃ x, x = 2 * k := ⟨_, rfl⟩
  obtain ⟨k3, hk3⟩ : ∃ x, x = k2 + 1 := ⟨_, rfl⟩
  have w1 : IntKind.i64.wrap (2 * (k : Int)) = (k2 : Int) := by rw [IntKind.wrap_i64]; omega
  have w2 : IntKind.i64.wrap ((k2 : Int) + 1) = (k3 : Int) := by rw [IntKind.wrap_i64]; omega
  have hnk : (n = k3 ∧ ¬ most < k3) ∨ (most = n ∧ most < k3) := by omega
  have hkm : k < most := hl
  clear hk2 hk3 hnn hl
  rcases hnk with ⟨e1, e2⟩ | ⟨e1, e2⟩
  all_goals
    subst e1
    go_enter Try.func31, Try.ntmps31
    go_wp2_with fail
    go_region_held3 (fun x => x.cell? ⟨b, 2, none⟩ = some (.int .i64 k) ∧ x.cell? ⟨b, 3, none⟩ = some (.int .i64 most)) (first | exact ⟨by assumption, by assumption⟩ | exact ⟨by go_simp, by go_simp⟩)
      (first
        | (go_at_call 34; refine (HC.out _ HR.out.drew).mono ?_; rintro e w1 ⟨rfl, hB1, hb1⟩
           have g2 := (hb1.cell (p := ⟨b, 2, none⟩) hbl).trans h2
           have g3 := (hb1.cell (p := ⟨b, 3, none⟩) hbl).trans h3
           have g0 := (hb1.cell (p := ⟨b, 0, none⟩) hbl).trans HR.out.box0
           have g1 := (hb1.cell (p := ⟨b, 1, none⟩) hbl).trans HR.out.box1
           have f0 := (hb1.frozen (p := ⟨b, 0, none⟩) hbl).trans (HR.out.box.frozen 0)
           have f1 := (hb1.frozen (p := ⟨b, 1, none⟩) hbl).trans (HR.out.box.frozen 1)
           have HKK : Hid (∀ v u, Kept (fun k => k = b) w ((w1.setCell ⟨b, 0, none⟩ v).setCell ⟨b, 1, none⟩ u)) := fun v u =>
             (((Kept.refl _ w).drew.next (Kept.of_below hb1 (fun k => k = b)) (fun _ _ h => h)).set (fun _ => rfl) 0 _).set (fun _ => rfl) 1 _
           have HX := Lib.hid (HE.out w.drew w1 HR.out.box rfl hB1 hb1 ((Kept.refl _ w).drew.next (Kept.of_below hb1 (fun k => k = b)) (fun _ _ h => h)))
           clear hB1 hb1))
    go_wp2_with fail
    go_end0
    exact ⟨rfl, HX.out, HKK.out _ _⟩

theorem push_nil (x : ByteArray) (w : World) : Calls Try.prog 21 #[.pointer none, .string x] w fun e w' => e = .returned (.int .i64 10) ∧ w' = w := by
  go_enter Try.func21, Try.ntmps21
  go_wp2_with fail
  go_ret
  exact ⟨rfl, rfl⟩
theorem push_full (x : ByteArray) (w : World) {b g most : Nat} {A : Option Addr} {ss : List ByteArray} {f : Nat} {L : List ByteArray} (hR : Ring w b g most A ss f L) (hl : most ≤ L.length) :
    Calls Try.prog 21 #[.pointer (some ⟨b, 0, none⟩), .string x] w fun e w' => e = .returned (.int .i64 6) ∧ ∃ n, w' = w.drewN n := by
  have HC := Lib.hid (room_any w hR)
  have e : most - L.length = 0 := by omega
  rw [e] at HC
  clear hR hl e
  go_enter Try.func21, Try.ntmps21
  go_wp2_with fail
  refine HC.out.mono ?_
  rintro e w1 ⟨rfl, n, rfl⟩
  go_wp2_with fail
  go_ret
  exact ⟨rfl, n, rfl⟩

/-- What is pushed lies behind the others. -/
theorem Ring.push {w : World} {b g most : Nat} {A : Option Addr} {ss : List ByteArray} {f : Nat} {L : List ByteArray} (h : Ring w b g most A ss f L) (hl : L.length < ss.length) (x : ByteArray) (q : Nat) (hq : q = (f + L.length) % ss.length) (m : Nat) (hm : m = L.length + 1) :
    Ring ((w.setCell ⟨g, q, none⟩ (.string x)).setCell ⟨b, 2, none⟩ (.int .i64 (m : Nat))) b g most A (ss.set q x) f (L ++ [x]) := by
  have hs : 0 < ss.length := by omega
  have hb := h.box
  have hg := (h.full hs).2
  have hne := h.ne hs
  subst hq
  subst hm
  refine ⟨?_, Or.inr ⟨(h.full hs).1, ?_⟩, h.lies.push hl x, by rw [List.length_set]; exact h.le, h.most, fun _ => hne⟩
  · have h1 : Box (w.setCell ⟨g, (f + L.length) % ss.length, none⟩ (.string x)) b 59 #[.slice A ss.length ss.length, .int .i64 f, .int .i64 L.length, .int .i64 most] := (Below.heap_setCell _ _ _ _ (by simpa using hne)).trans hb
    have h2 := h1.set 2 (.int .i64 ((L.length + 1 : Nat) : Int))
    rw [List.length_set]
    simpa using h2
  · have h1 := hg.set ((f + L.length) % ss.length) (.string x)
    rw [List.setIfInBounds_toArray, ← List.map_set] at h1
    exact (Below.heap_setCell _ _ _ _ (by simpa using Ne.symm hne)).trans h1

theorem cell_set_other {w : World} {g i : Nat} {u : Value} {p : Addr} (h : p.block ≠ g) : (w.setCell ⟨g, i, none⟩ u).cell? p = w.cell? p := World.cell?_of_block (Below.heap_setCell w ⟨g, i, none⟩ u p.block h)

/-- What Push needs to know of a ring that has a slot. -/
theorem Ring.facts {u : World} {b g most : Nat} {A : Option Addr} {ss : List ByteArray} {f : Nat} {L : List ByteArray} (h : Ring u b g most A ss f L) (hl : L.length < ss.length) (x : ByteArray) :
    ∃ (q z : Nat) (y : ByteArray), q < z ∧ u.cell? ⟨b, 0, none⟩ = some (.slice (some ⟨g, 0, none⟩) z z) ∧ u.cell? ⟨b, 2, none⟩ = some (.int .i64 (L.length : Nat)) ∧ u.frozen? ⟨b, 2, none⟩ = false ∧
      u.cell? ⟨g, q, none⟩ = some (.string y) ∧ u.frozen? ⟨g, q, none⟩ = false ∧ b ≠ g ∧
      (∀ n, Calls Try.prog 32 #[.pointer (some ⟨b, 0, none⟩), .int .i64 (L.length : Nat)] (u.drewN n) fun e w' => e = .returned (.int .i64 (q : Nat)) ∧ ∃ m, w' = (u.drewN n).drewN m) ∧
      (∀ n m : Nat, m = L.length + 1 → Ring (((u.drewN n).setCell ⟨g, q, none⟩ (.string x)).setCell ⟨b, 2, none⟩ (.int .i64 (m : Nat))) b g most A (ss.set q x) f (L ++ [x])) := by
  have hs : 0 < ss.length := by omega
  have hle := h.le
  have hm := h.most
  have hq : (f + L.length) % ss.length < ss.length := Nat.mod_lt _ hs
  refine ⟨(f + L.length) % ss.length, ss.length, ss[(f + L.length) % ss.length]'hq, hq, ?_, h.box2, h.box.frozen 2, h.cell (h.full hs).1 _ hq, (h.full hs).2.frozen _, h.ne hs, fun n => slotOf_any _ (h.drewN n) hs _ (by omega), fun n m hm => (h.drewN n).push hl x _ rfl m hm⟩
  rw [← (h.full hs).1]
  exact h.box0

set_option maxRecDepth 100000 in
set_option maxHeartbeats 2000000 in
/-- Push, where a slot is free. -/
theorem push_slot (x : ByteArray) (w : World) {b g most : Nat} {A : Option Addr} {ss : List ByteArray} {f : Nat} {L : List ByteArray} (hR : Ring w b g most A ss f L) (hl : L.length < ss.length) :
    Calls Try.prog 21 #[.pointer (some ⟨b, 0, none⟩), .string x] w fun e w' => e = .returned (.int .i64 0) ∧
      (∃ ss', Ring w' b g most A ss' f (L ++ [x])) ∧ Kept (fun k => k = b ∨ k = g) w w' := by
  have HRm := Lib.hid (room_any w hR)
  have hle := hR.le
  have hm := hR.most
  have h0 := hR.box0
  have h2 := hR.box2
  have HR := Lib.hid hR
  have HL := Lib.hid hl
  clear hR
  obtain ⟨k, hk⟩ : ∃ k, k = L.length := ⟨_, rfl⟩
  rw [← hk] at h2 HRm hl
  obtain ⟨k1, hk1⟩ : ∃ k1, k1 = L.length + 1 := ⟨_, rfl⟩
  have w1 : IntKind.i64.wrap ((k : Int) + 1) = (k1 : Int) := by rw [IntKind.wrap_i64]; omega
  have w1' : (k : Int) + 1 = (k1 : Int) := by omega
  have w1'' : wrap64 (k1 : Int) = (k1 : Int) := by unfold wrap64; omega
  obtain ⟨r, hr⟩ : ∃ r, r = most - k := ⟨_, rfl⟩
  rw [← hr] at HRm
  have hr0' : r ≠ 0 := by omega
  obtain ⟨z0, hz0⟩ : ∃ z, z = ss.length := ⟨_, rfl⟩
  rw [← hz0] at h0 hl hle
  have hkz' : k ≠ z0 := by omega
  have hr0 : ((r : Int) == 0) = false := by rw [beq_eq_false_iff_ne]; omega
  have hkz : ((k : Int) == (z0 : Int)) = false := by rw [beq_eq_false_iff_ne]; omega
  have HK := Lib.hid hk
  have HK1 := Lib.hid hk1
  clear hk hk1 hr hz0
  go_enter Try.func21, Try.ntmps21
  go_wp2_with fail
  refine HRm.out.mono ?_
  rintro e v1 ⟨rfl, n1, rfl⟩
  go_wp2_with fail
  go_quiet (fail)
  go_wp2_with fail
  obtain ⟨u, hu⟩ : ∃ u, u = (w.drewN n1).drewN nq := ⟨_, rfl⟩
  have HRu : Hid (Ring u b g most A ss f L) := by rw [hu]; exact (HR.out.drewN n1).drewN nq
  have HKu : Hid (Kept (fun k => k = b ∨ k = g) w u) := by rw [hu]; exact ((Kept.refl _ w).drewN n1).drewN nq
  rw [← hu]
  clear hu HR HRm h0 h2 hkz hkz' hle hl
  obtain ⟨q, z, y, hqz, h0, h2, f2, hc, fc, hne, HS, HP⟩ := HRu.out.facts HL.out x
  have HS := Lib.hid HS
  have HP := Lib.hid (fun n => HP n k1 HK1.out)
  have hq0 : (0 : Int) ≤ (q : Int) := by omega
  have hq1 : (q : Int) < (z : Int) := by omega
  rw [← HK.out] at h2 HS
  go_region_held3 (fun y => y.cell? ⟨b, 0, none⟩ = some (.slice (some ⟨g, 0, none⟩) z z) ∧ y.cell? ⟨b, 2, none⟩ = some (.int .i64 k)) (first | exact ⟨h0, h2⟩ | exact ⟨(cell_set_other (p := ⟨b, 0, none⟩) hne).trans h0, (cell_set_other (p := ⟨b, 2, none⟩) hne).trans h2⟩)
    (first
      | (go_at_call 32; refine (HS.out 1).mono ?_; rintro e v2 ⟨rfl, n2, rfl⟩))
  have hv : Hid (Ring (((u.drewN (1 + n2)).setCell ⟨g, q, none⟩ (.string x)).setCell ⟨b, 2, none⟩ (.int .i64 k1)) b g most A (ss.set q x) f (L ++ [x])) := HP.out (1 + n2)
  have hvk : Hid (Kept (fun k => k = b ∨ k = g) u (((u.drewN (1 + n2)).setCell ⟨g, q, none⟩ (.string x)).setCell ⟨b, 2, none⟩ (.int .i64 k1))) :=
    (((Kept.refl _ u).drewN (1 + n2)).set (fun _ => Or.inr rfl) q _).set (fun _ => Or.inl rfl) 2 _
  have c2 : ((u.drewN (1 + n2)).setCell ⟨g, q, none⟩ (.string x)).cell? ⟨b, 2, none⟩ = some (.int .i64 k) := (cell_set_other (p := ⟨b, 2, none⟩) hne).trans h2
  have d2 : ((u.drewN (1 + n2)).setCell ⟨g, q, none⟩ (.string x)).frozen? ⟨b, 2, none⟩ = false := by rw [World.frozen?_setCell]; exact f2
  obtain ⟨v, hv'⟩ : ∃ v, v = (u.drewN (1 + n2)).setCell ⟨g, q, none⟩ (.string x) := ⟨_, rfl⟩
  rw [← hv'] at hv hvk c2 d2
  rw [← hv']
  clear hv' h0 h2 f2 hc fc HS HP
  go_wp2_with fail
  go_ret
  exact ⟨rfl, ⟨_, hv.out⟩, HKu.out.trans hvk.out⟩

set_option maxRecDepth 100000 in
set_option maxHeartbeats 2000000 in
/-- Push, where all slots are taken, and there may be more. -/
theorem push_grow (x : ByteArray) (w : World) {b g0 most : Nat} {A0 : Option Addr} {ss0 : List ByteArray} {f0 : Nat} {L : List ByteArray} (hR : Ring w b g0 most A0 ss0 f0 L) (hl : L.length = ss0.length) (hlm : L.length < most) :
    Calls Try.prog 21 #[.pointer (some ⟨b, 0, none⟩), .string x] w fun e w' => e = .returned (.int .i64 0) ∧
      (∃ g A ss f, Ring w' b g most A ss f (L ++ [x]) ∧ w.heap.size ≤ g) ∧ Kept (fun k => k = b) w w' := by
  have HRm := Lib.hid (room_any w hR)
  have hm := hR.most
  have h0 := hR.box0
  have h2 := hR.box2
  have hbl := hR.box.lt
  have HG := Lib.hid (fun y (hy : Ring y b g0 most A0 ss0 f0 L) => grow_any y hy hlm)
  have HR := Lib.hid hR
  clear hR
  obtain ⟨k, hk⟩ : ∃ k, k = L.length := ⟨_, rfl⟩
  rw [← hk] at h2 HRm hl hlm
  obtain ⟨k1, hk1⟩ : ∃ k1, k1 = L.length + 1 := ⟨_, rfl⟩
  have w1 : IntKind.i64.wrap ((k : Int) + 1) = (k1 : Int) := by rw [IntKind.wrap_i64]; omega
  have w1' : (k : Int) + 1 = (k1 : Int) := by omega
  have w1'' : wrap64 (k1 : Int) = (k1 : Int) := by unfold wrap64; omega
  obtain ⟨r, hr⟩ : ∃ r, r = most - k := ⟨_, rfl⟩
  rw [← hr] at HRm
  have hr0' : r ≠ 0 := by omega
  rw [← hl] at h0
  have hr0 : ((r : Int) == 0) = false := by rw [beq_eq_false_iff_ne]; omega
  have HK := Lib.hid hk
  have HK1 := Lib.hid hk1
  clear hk hk1 hr hl
  go_enter Try.func21, Try.ntmps21
  go_wp2_with fail
  refine HRm.out.mono ?_
  rintro e v1 ⟨rfl, n1, rfl⟩
  go_wp2_with fail
  go_quiet (fail)
  go_wp2_with fail
  refine (HG.out _ (HR.out.drewN (n1 + nq))).mono ?_
  rintro e u ⟨rfl, ⟨g, ss, hRu, hlu, hgu⟩, hku⟩
  have HRu := Lib.hid hRu
  have HL := Lib.hid hlu
  have HKu : Hid (Kept (fun k => k = b) w u) := ((Kept.refl _ w).drewN (n1 + nq)).next hku (fun _ _ h => h)
  have hgw : w.heap.size ≤ g := hgu
  obtain ⟨A, hA⟩ : ∃ A : Option Addr, A = some ⟨g, 0, none⟩ := ⟨_, rfl⟩
  obtain ⟨f, hf⟩ : ∃ f : Nat, f = 0 := ⟨_, rfl⟩
  rw [← hA, ← hf] at HRu
  clear hRu hlu hku hgu hA hf HR HRm HG h0 h2
  go_wp2_with fail
  obtain ⟨q, z, y, hqz, h0, h2, f2, hc, fc, hne, HS, HP⟩ := HRu.out.facts HL.out x
  have HS := Lib.hid HS
  have HP := Lib.hid (fun n => HP n k1 HK1.out)
  have hq0 : (0 : Int) ≤ (q : Int) := by omega
  have hq1 : (q : Int) < (z : Int) := by omega
  rw [← HK.out] at h2 HS
  go_region_held3 (fun y => y.cell? ⟨b, 0, none⟩ = some (.slice (some ⟨g, 0, none⟩) z z) ∧ y.cell? ⟨b, 2, none⟩ = some (.int .i64 k)) (first | exact ⟨h0, h2⟩ | exact ⟨(cell_set_other (p := ⟨b, 0, none⟩) hne).trans h0, (cell_set_other (p := ⟨b, 2, none⟩) hne).trans h2⟩)
    (first
      | (go_at_call 32; refine (HS.out 1).mono ?_; rintro e v2 ⟨rfl, n2, rfl⟩))
  have hv : Hid (Ring (((u.drewN (1 + n2)).setCell ⟨g, q, none⟩ (.string x)).setCell ⟨b, 2, none⟩ (.int .i64 k1)) b g most A (ss.set q x) f (L ++ [x])) := HP.out (1 + n2)
  have hvk : Hid (Kept (fun k => k = b ∨ k = g) u (((u.drewN (1 + n2)).setCell ⟨g, q, none⟩ (.string x)).setCell ⟨b, 2, none⟩ (.int .i64 k1))) :=
    (((Kept.refl _ u).drewN (1 + n2)).set (fun _ => Or.inr rfl) q _).set (fun _ => Or.inl rfl) 2 _
  have c2 : ((u.drewN (1 + n2)).setCell ⟨g, q, none⟩ (.string x)).cell? ⟨b, 2, none⟩ = some (.int .i64 k) := (cell_set_other (p := ⟨b, 2, none⟩) hne).trans h2
  have d2 : ((u.drewN (1 + n2)).setCell ⟨g, q, none⟩ (.string x)).frozen? ⟨b, 2, none⟩ = false := by rw [World.frozen?_setCell]; exact f2
  obtain ⟨v, hv'⟩ : ∃ v, v = (u.drewN (1 + n2)).setCell ⟨g, q, none⟩ (.string x) := ⟨_, rfl⟩
  rw [← hv'] at hv hvk c2 d2
  rw [← hv']
  clear hv' h0 h2 f2 hc fc HS HP
  go_wp2_with fail
  go_ret
  exact ⟨rfl, ⟨g, A, _, f, hv.out, hgw⟩, HKu.out.next hvk.out (fun i hi h => h.elim id (fun e => by omega))⟩

theorem push_any (x : ByteArray) (w : World) {b g most : Nat} {A : Option Addr} {ss : List ByteArray} {f : Nat} {L : List ByteArray} (hR : Ring w b g most A ss f L) (hl : L.length < most) :
    Calls Try.prog 21 #[.pointer (some ⟨b, 0, none⟩), .string x] w fun e w' => e = .returned (.int .i64 0) ∧
      (∃ g' A' ss' f', Ring w' b g' most A' ss' f' (L ++ [x]) ∧ (g' = g ∨ w.heap.size ≤ g')) ∧ Kept (fun k => k = b ∨ k = g) w w' := by
  by_cases h : L.length < ss.length
  · refine (push_slot x w hR h).mono ?_
    rintro e w' ⟨rfl, ⟨ss', h1⟩, h2⟩
    exact ⟨rfl, ⟨_, _, _, _, h1, Or.inl rfl⟩, h2⟩
  · refine (push_grow x w hR (by have := hR.lies.le; omega) hl).mono ?_
    rintro e w' ⟨rfl, ⟨g', A', ss', f', h1, h2⟩, h3⟩
    exact ⟨rfl, ⟨g', A', ss', f', h1, Or.inr h2⟩, h3.mono (fun _ _ e => Or.inl e)⟩
end Go.Proofs.Ytlpcjfjjfnnbcaa.Q
