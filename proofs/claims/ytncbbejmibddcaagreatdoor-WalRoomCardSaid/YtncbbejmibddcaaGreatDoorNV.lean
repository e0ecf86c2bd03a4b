/-
  Walks over the law's begun, works and place.
-/
import Derived.Test.YtncbbejmibddcaaGreatDoorNT
import Derived.Test.YtncbbejmibddcaaGreatDoorNM
import Derived.Test.YtncbbejmibddcaaGreatDoorMT
namespace Go.Proofs.YtncbbejmibddcaaGreatDoor
open Go.RowKit Go.Maps

theorem Env10.lt {w : World} (h : Env10 w) : 0 < w.heap.size := by
  unfold Env10 World.var? at h
  rw [Tryz.gNone] at h
  simp only [Option.bind_some] at h
  cases e : w.heap[0]? with
  | none => rw [e] at h; cases h
  | some o => exact lt_of_block e
/-- No head in a sector of noughts; a head beside it. -/
theorem M.hget_zero : (M.hget (M.zeros 64)).2 = 4 := by
  have h1 : (M.zeros 64).extract 0 1 ≠ ⟨#[76]⟩ := by decide
  unfold M.hget
  rw [if_neg (by simp [M.zeros_size]), if_pos h1]
theorem M.hnewer_first : M.hnewer (M.zeros 64) (M.hwhole ⟨1, 1, 0⟩) = (⟨1, 1, 0⟩, 0) := by
  have h2 := M.hget_whole ⟨1, 1, 0⟩ (by decide)
  unfold M.hnewer
  rw [h2, M.hget_zero]
  rfl
theorem M.hnewer_none : M.hnewer (M.zeros 64) (M.zeros 64) = (M.h0, 8) := by
  unfold M.hnewer
  rw [M.hget_zero]
  rfl
theorem M.seen_new (c k : Nat) (hk : k < c) : M.seen (M.new c).S (M.new c).L k = M.zeros 64 := by
  show (M.seen0 [] k).getD ((List.replicate c M.zero).getD k ByteArray.empty) = _
  rw [M.seen0_nil, List.getD_eq_getElem?_getD, List.getElem?_replicate, if_pos hk]
  rfl
theorem M.still_new : M.Still (M.new 44) 10 24 := ⟨M.calm_new 44, by simp [M.new], by omega⟩

/-- The law's log at its beginning. -/
def M.wl0 (d : M.D) : M.Wl := ⟨2, 25, 0, 0, false, false, d, [], []⟩
/-- A disk that the law's log stands on. -/
structure M.D44 (d : M.D) (o : Nat) : Prop where
  still : M.Still d 10 24
  len : d.S.length = 44
  ops : d.ops ≤ o

set_option maxHeartbeats 4000000 in
theorem begun14_any (w : World) (hE : Env10 w) : Calls Tryz.prog 7 #[] w fun e y => ∃ a b d, e = .returned (.tuple #[.pointer (some ⟨a, 0, none⟩), .pointer (some ⟨b, 0, none⟩), .bool true]) ∧ Wal y b (fun j => w.heap.size ≤ j) 10 24 (M.wl0 d) ∧ M.D44 d 200 ∧ Below w.heap.size w y := by
  have C1 := Lib.hid (knew 44 w w (Below.refl _ w))
  rw [show M.held 44 = 44 by decide] at C1
  obtain ⟨d1, d2, d3, d4, hF⟩ := M.fm14 M.still_new rfl (by omega)
  have h0 : (M.new 44).S.length = 44 := by simp [M.new]
  have ho4 : d4.ops = 27 := by rw [hF.o4, hF.o3, hF.o2, hF.o1]; rfl
  have hl4 : d4.S.length = 44 := by rw [hF.len, h0]
  have C2 : Hid (∀ y a, Disk y a (fun k => w.heap.size ≤ k) (M.new 44) → Calls Tryz.prog 30 #[.pointer (some ⟨a, 0, none⟩), .int .i64 10, .int .i64 24] y fun e w' => e = .returned (.int .i64 0) ∧ Disk w' a (M.plus (fun k => w.heap.size ≤ k) y.heap.size) d4 ∧ Kept (fun k => w.heap.size ≤ k) y w') := by
    intro y a hy
    exact format_ok 10 24 y hy (by omega) (by omega) (by rw [h0]; omega) hF (by show 0 ≤ _; omega)
  have C3 : Hid (∀ y a, Below w.heap.size w y → Disk y a (fun k => w.heap.size ≤ k ∧ k < y.heap.size) d4 → Calls Tryz.prog 11 #[.pointer (some ⟨a, 0, none⟩), .int .i64 10, .int .i64 24] y fun e w' => ∃ b d', e = .returned (.tuple #[.pointer (some ⟨b, 0, none⟩), .int .i64 0]) ∧ Wal w' b (fun j => w.heap.size ≤ j) 10 24 (M.wl0 d') ∧ M.D44 d' 200 ∧ Below w.heap.size w w') := by
    intro y a hb hd
    have hE2 := hE.below hb
    have s0 : M.seen d4.S d4.L 10 = M.zeros 64 := hF.seen 0 (by omega)
    have s1 : M.seen d4.S d4.L (10 + 1) = M.hwhole ⟨1, 1, 0⟩ := hF.seen 1 (by omega)
    have s2 : M.seen d4.S d4.L (10 + 2 + 0 % (24 - 2)) = M.zeros 64 := hF.seen 2 (by omega)
    refine (open_empty 1 1 0 10 24 y hd hF.still hE2 (fun e => by have := hE.lt; omega) (fun k e => e.2) (by omega) (by omega) (by omega) (by rw [ho4]; omega) (by rw [s0, s1]; exact M.hnewer_first) (by omega) (by omega) (by omega) (by rw [s2, (M.szE_zero _).1]; decide)).mono ?_
    rintro e w' ⟨b, d', e1, e2, e3, e4, e5, e6⟩
    have := hb.size
    exact ⟨b, d', e1, e6.mono (fun j _ e => e.elim (fun e => e.1) (fun e => by omega)), ⟨e2, by rw [e3, hl4], by rw [ho4] at e4; omega⟩, hb.trans (e5.below hb.size (fun k hk e => by omega))⟩
  clear hF h0 ho4 hl4 hE
  go_enter Tryz.func7, Tryz.ntmps7
  go_wp2_with fail
  refine C1.out.mono ?_
  rintro e w1 ⟨a, rfl, hd⟩
  have HD := Lib.hid hd
  clear hd C1
  go_wp2_with fail
  refine (C2.out _ _ HD.out.disk).mono ?_
  rintro e w2 ⟨rfl, hd2, hk2⟩
  have HB2 : Hid (Below w.heap.size w w2) := HD.out.below.trans (hk2.below HD.out.le (fun k hk e => by omega))
  have HD2 : Hid (Disk w2 a (fun k => w.heap.size ≤ k ∧ k < w2.heap.size) d4) := hd2.mono (fun k hk e => ⟨e.elim id (fun e => Nat.le_trans HD.out.le e), hk⟩)
  clear hd2 hk2 HD C2
  go_wp2_with fail
  refine (C3.out _ _ HB2.out HD2.out).mono ?_
  rintro e w3 ⟨b, d', rfl, h1, h2, h3⟩
  have HR := Lib.hid (And.intro h1 (And.intro h2 h3))
  clear h1 h2 h3 C3 HB2 HD2
  go_wp2_with fail
  go_returns
  exact ⟨a, b, d', rfl, HR.out⟩

theorem place14_any (i : Nat) (hi : i ≤ 1000) (w : World) : Calls Tryz.prog 28 #[.int .i64 (i : Nat)] w fun e y => e = .returned (.int .i64 ((if i < 10 then i else i + 24 : Nat) : Int)) ∧ y = w := by
  have b1 : (0 : Int) ≤ (i : Int) ∧ (i : Int) ≤ 1000 := by omega
  by_cases h : i < 10
  · have h' : (i : Int) < 10 := by omega
    rw [if_pos h]
    clear h hi
    go_enter Tryz.func28, Tryz.ntmps28
    go_wp2_with fail
    go_ret
    exact ⟨rfl, rfl⟩
  · have h' : ¬ (i : Int) < 10 := by omega
    rw [if_neg h]
    have e : ((i + 24 : Nat) : Int) = (i : Int) + 24 := by omega
    rw [e]
    clear h hi e
    go_enter Tryz.func28, Tryz.ntmps28
    go_wp2_with fail
    go_ret
    exact ⟨rfl, rfl⟩

/-- A log of the call's own, from block N on. -/
structure Wk14 (N : Nat) (w y : World) (b : Nat) (s : M.Wl) : Prop where
  wal : Wal y b (fun j => N ≤ j) 10 24 s
  below : Below N w y
  le : N ≤ y.heap.size
theorem Wk14.step {N : Nat} {w y z : World} {b : Nat} {s s' : M.Wl} (h : Wk14 N w y b s) (h1 : Wal z b (fun j => N ≤ j ∨ y.heap.size ≤ j) 10 24 s') (h2 : Kept (fun j => N ≤ j) y z) : Wk14 N w z b s' :=
  ⟨h1.mono (fun j _ e => e.elim id (fun e => Nat.le_trans h.le e)), h.below.trans (h2.below h.le (fun k hk e => by omega)), Nat.le_trans h.le h2.size⟩
theorem Wk14.beside {N : Nat} {w y z : World} {b : Nat} {s : M.Wl} (h : Wk14 N w y b s) (hb : Below y.heap.size y z) : Wk14 N w z b s :=
  ⟨h.wal.kept (Kept.of_below hb (fun _ => False)) (fun _ _ => id), h.below.trans (hb.mono h.le), Nat.le_trans h.le hb.size⟩

/-- The calls of works, one behind the other. -/
theorem works_parts14 (w : World) : ∃ (t t63 : ByteArray) (N0 : Array Value) (S0 S1 S2 S3 S4 : World → Nat → Prop), (t = t63 ++ (⟨#[120]⟩ : ByteArray) ∧ t63.size = 63) ∧
    (∀ W : World, (Instr.makeSlice 55 (.int .i64 63) (.int .i64 63)).run Tryz.prog W = .ok (.slice (some ⟨W.heap.size, 0, none⟩) 63 63) (W.alloc (.cells N0 5))) ∧
    (∀ W : World, Sem.run Tryz.prog (convert 55 9 (.slice (some ⟨W.heap.size, 0, none⟩) 63 63)) (W.alloc (.cells N0 5)) = .ok (.string t63) (W.alloc (.cells N0 5))) ∧
    (Env10 w → Calls Tryz.prog 7 #[] w fun e y => ∃ a b, e = .returned (.tuple #[.pointer (some ⟨a, 0, none⟩), .pointer (some ⟨b, 0, none⟩), .bool true]) ∧ S0 y b) ∧
    (∀ y z b, S0 y b → Below y.heap.size y z → S0 z b) ∧
    (∀ y b, S0 y b → Calls Tryz.prog 26 #[.pointer (some ⟨b, 0, none⟩)] y fun e z => e = .returned (.int .i64 0) ∧ S1 z b) ∧
    (∀ y b, S1 y b → Calls Tryz.prog 27 #[.pointer (some ⟨b, 0, none⟩), .int .i64 5, .string t] y fun e z => e = .returned (.int .i64 0) ∧ S2 z b) ∧
    (∀ y b, S2 y b → Calls Tryz.prog 27 #[.pointer (some ⟨b, 0, none⟩), .int .i64 10, .string t] y fun e z => e = .returned (.int .i64 3) ∧ S2 z b) ∧
    (∀ y b, S2 y b → Calls Tryz.prog 29 #[.pointer (some ⟨b, 0, none⟩)] y fun e z => e = .returned (.int .i64 0) ∧ S3 z b) ∧
    (∀ y b, S3 y b → Calls Tryz.prog 14 #[.pointer (some ⟨b, 0, none⟩), .int .i64 5] y fun e z => e = .returned (.tuple #[.string t, .int .i64 0]) ∧ z = y) ∧
    (∀ y b, S3 y b → Calls Tryz.prog 18 #[.pointer (some ⟨b, 0, none⟩)] y fun e z => e = .returned (.int .i64 20) ∧ S3 z b) ∧
    (∀ y b, S3 y b → Calls Tryz.prog 17 #[.pointer (some ⟨b, 0, none⟩)] y fun e z => e = .returned (.bool false) ∧ z = y) ∧
    (∀ y b, S3 y b → Calls Tryz.prog 32 #[.pointer (some ⟨b, 0, none⟩)] y fun e z => e = .returned (.int .i64 0) ∧ S4 z b) ∧
    (∀ y b, S4 y b → Calls Tryz.prog 17 #[.pointer (some ⟨b, 0, none⟩)] y fun e z => e = .returned (.bool true) ∧ z = y) ∧
    (∀ y b, S4 y b → Below w.heap.size w y) := by
  obtain ⟨t, ht⟩ : ∃ t, t = M.zeros 63 ++ (⟨#[120]⟩ : ByteArray) := ⟨_, rfl⟩
  have hts : t.size = 64 := by rw [ht, ByteArray.size_append, M.zeros_size]; rfl
  have w5 : (Lit.int .i64 5).wf = true := by decide
  have w10 : (Lit.int .i64 10).wf = true := by decide
  refine ⟨t, M.zeros 63, M.nils 63, fun y b => ∃ d, Wk14 w.heap.size w y b (M.wl0 d) ∧ M.D44 d 200, fun y b => ∃ d, Wk14 w.heap.size w y b { M.wl0 d with act := true } ∧ M.D44 d 200,
    fun y b => ∃ d, Wk14 w.heap.size w y b { M.wl0 d with act := true, l := [(5, .string t)] } ∧ M.D44 d 200, fun y b => ∃ s, Wk14 w.heap.size w y b s ∧ M.Still s.d 10 24 ∧ s.d.ops ≤ 10000 ∧ s.l = [] ∧ s.k = [(5, .string t)] ∧ s.used = 2 ∧ s.uns = true,
    fun y b => ∃ s, Wk14 w.heap.size w y b s ∧ s.uns = false, ⟨ht, M.zeros_size _⟩, fun W => make_nils 63 (by omega) W, fun W => conv_nils 63 _ _ (Box.new _ _ _), ?_, ?_, ?_, ?_, ?_, ?_, ?_, ?_, ?_, ?_, ?_, ?_⟩
  · intro hE
    refine (begun14_any w hE).mono ?_
    rintro e y ⟨a, b, d, e1, e2, e3, e4⟩
    exact ⟨a, b, e1, d, ⟨e2, e4, e4.size⟩, e3⟩
  · rintro y z b ⟨d, h1, h2⟩ hb
    exact ⟨d, h1.beside hb, h2⟩
  · rintro y b ⟨d, h1, h2⟩
    refine (begin14_any h1.wal).mono ?_
    rintro e z ⟨e1, e2, e3⟩
    exact ⟨e1, d, h1.step (e2.mono (fun _ _ e => Or.inl e)) e3, h2⟩
  · rintro y b ⟨d, h1, h2⟩
    have hE : M.wlStageE 10 24 { M.wl0 d with act := true } 5 t = 0 := by unfold M.wlStageE; simp [M.wl0, h2.len, M.guards, hts]
    refine (stage14_any h1.wal 5 t w5 (by omega) (by omega) (by simp [M.wl0])).mono ?_
    rintro e z ⟨e1, e2, e3⟩
    unfold M.wlStage at e2
    rw [if_pos hE] at e2
    exact ⟨by rw [e1, hE], d, h1.step e2 e3, h2⟩
  · rintro y b ⟨d, h1, h2⟩
    have hE : M.wlStageE 10 24 { M.wl0 d with act := true, l := [(5, .string t)] } 10 t = 3 := by unfold M.wlStageE; simp [M.wl0, h2.len, M.guards]
    refine (stage14_any h1.wal 10 t w10 (by omega) (by omega) (by simp)).mono ?_
    rintro e z ⟨e1, e2, e3⟩
    unfold M.wlStage at e2
    rw [if_neg (by rw [hE]; decide)] at e2
    exact ⟨by rw [e1, hE], d, h1.step e2 e3, h2⟩
  · rintro y b ⟨d, h1, h2⟩
    have hr : M.rE (M.aF [(5, t)]) (M.tF [(5, t)]) ((25 : Nat) : Int) [(5, t)].length = 0 := M.rE14 (by simp) (by simp) (by omega) (by simp [M.vs14, M.Rising]) (fun p hp => by simp only [List.mem_singleton] at hp; subst hp; exact ⟨by omega, hts⟩)
    have hst : M.Still d (10 + 2) (24 - 2) := ⟨h2.still.calm, by have := h2.still.room; omega, by omega⟩
    obtain ⟨_, h16, hall⟩ := M.rE_ok _ _ hr
    have hrs := M.rec_size (M.aF [(5, t)]) (M.tF [(5, t)]) 25 [(5, t)].length h16.2 (fun i hi => (hall i hi).2)
    obtain ⟨a1, a2, a3, a4, -, -⟩ := M.put_still (p := 0) (n := [(5, t)].length + 1) hst hrs (by simp)
    refine (commit14_ok h1.wal [(5, t)] rfl (fun p hp => by simp only [List.mem_singleton] at hp; subst hp; omega) (fun _ => hr) hst (by omega) (by omega) (by simp [M.wl0]) (by simp [M.wl0]) (by have := h2.ops; show d.ops ≤ _; omega) (by simp [M.wl0]) (by simp)).mono ?_
    rintro e z ⟨e1, e2, e3⟩
    refine ⟨e1, _, h1.step e2 e3, ⟨a2.calm, ?_, by omega⟩, ?_, rfl, rfl, rfl, rfl⟩
    · show 10 + 24 ≤ (M.wr (M.lay12 (10 + 2) (24 - 2) 0 ([(5, t)].length + 1) (M.rec (M.aF [(5, t)]) (M.tF [(5, t)]) 25 [(5, t)].length)) d).2.S.length
      rw [a3]
      exact h2.still.room
    · show (M.wr (M.lay12 (10 + 2) (24 - 2) 0 ([(5, t)].length + 1) (M.rec (M.aF [(5, t)]) (M.tF [(5, t)]) 25 [(5, t)].length)) d).2.ops ≤ _
      rw [a4]
      have := h2.ops
      simp
      omega
  · rintro y b ⟨s, h1, h2, h3, h4, h5, h6, h7⟩
    exact read14_found h1.wal 5 t w5 (by rw [h4, h5]; rfl)
  · rintro y b ⟨s, h1, h2, h3, h4, h5, h6, h7⟩
    refine (room14_any h1.wal (by omega) (by omega)).mono ?_
    rintro e z ⟨e1, n, rfl⟩
    exact ⟨by rw [e1, h6]; rfl, s, h1.beside (below_drewN (Below.refl _ _) n), h2, h3, h4, h5, h6, h7⟩
  · rintro y b ⟨s, h1, h2, h3, h4, h5, h6, h7⟩
    refine (sure14_any h1.wal).mono ?_
    rintro e z ⟨e1, e2⟩
    exact ⟨by rw [e1, h7]; rfl, e2⟩
  · rintro y b ⟨s, h1, h2, h3, h4, h5, h6, h7⟩
    have he : M.beginE s.d = 0 := (M.flush_still h2).1
    refine (flush15_any h1.wal (by omega)).mono ?_
    rintro e z ⟨e1, e2, e3⟩
    exact ⟨by rw [e1, he], _, h1.step e2 e3, by simp [he]⟩
  · rintro y b ⟨s, h1, h2⟩
    refine (sure14_any h1.wal).mono ?_
    rintro e z ⟨e1, e2⟩
    exact ⟨by rw [e1, h2]; rfl, e2⟩
  · rintro y b ⟨s, h1, h2⟩
    exact h1.below
end Go.Proofs.YtncbbejmibddcaaGreatDoor
