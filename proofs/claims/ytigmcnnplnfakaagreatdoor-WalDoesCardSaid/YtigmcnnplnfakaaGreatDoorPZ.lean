/-
  Open on any disk that the log lies on: it opens what is seen, or says that a call failed. Walks over the law's begun, works and place.
-/
import Derived.Test.YtigmcnnplnfakaaGreatDoorPX
import Derived.Test.YtigmcnnplnfakaaGreatDoorPS
import Derived.Test.YtigmcnnplnfakaaGreatDoorPI
import Derived.Test.YtigmcnnplnfakaaGreatDoorMT
namespace Go.Proofs.YtigmcnnplnfakaaGreatDoor
open Go.RowKit Go.Maps

theorem M.LS.of {d d' : M.D} {T V : Nat → ByteArray} {b n g q p : Nat} {C : List (List (Nat × ByteArray))} (h : M.LS d T b) (hw : M.Was d d' n) (hn : n ≤ 1000) (hf : d'.fails.length < d.fails.length) (hV : M.Sees d' V) (hL : M.Lg V T g q p C) (hg : g + 2 * d.fails.length ≤ b + 2) (hq : q + C.length + 100 * d.fails.length ≤ b + 100) : M.LS d' T b := by
  have h1 := hw.ops
  have h2 := h.ops
  exact ⟨hw.ok, by omega, V, g, q, p, C, hV, hL, by omega, by omega⟩
/-- What Open leaves where a call failed; and where none did. -/
def OpenN (w w' : World) (a : Nat) (P : Nat → Prop) (d : M.D) (T : Nat → ByteArray) (b : Nat) (e : Ending) : Prop :=
  e = .returned (.tuple #[.pointer none, .int .i64 30]) ∧ ∃ d', Disk w' a (M.plus P w.heap.size) d' ∧ M.LS d' T b ∧ d'.fails.length < d.fails.length
def OpenY (w w' : World) (a : Nat) (P : Nat → Prop) (d : M.D) (T : Nat → ByteArray) (b : Nat) (e : Ending) : Prop :=
  ∃ wb s, e = .returned (.tuple #[.pointer (some ⟨wb, 0, none⟩), .int .i64 0]) ∧ Wal w' wb (M.plus P w.heap.size) 10 24 s ∧ M.WS s T (b + 500) ∧ s.act = false ∧ s.l = [] ∧ s.k = [] ∧ s.used = 0 ∧ s.uns = false ∧ s.dk = a ∧ s.d.fails.length ≤ d.fails.length

theorem open15_any (w : World) {a b : Nat} {P : Nat → Prop} {d : M.D} {T : Nat → ByteArray} (h : Disk w a P d) (hlow : ∀ k, P k → k < w.heap.size) (hE : Env10 w) (hpe : ¬ P 0) (hET : ErrT w) (hPE : ¬ P 1) (ok : M.LS d T b) (hb : b ≤ 500000) :
    Calls Tryz.prog 11 #[.pointer (some ⟨a, 0, none⟩), .int .i64 10, .int .i64 24] w fun e w' => (OpenN w w' a P d T b e ∨ OpenY w w' a P d T b e) ∧ Kept P w w' := by
  obtain ⟨V, g, q, p, C, hV, hL, hg, hq⟩ := ok.lg
  have hops := ok.ops
  have hlen := ok.ok.len
  have hin := h.inv
  have hz : ∀ k, k < 44 → (V k).size = 64 := fun k hk => by rw [← hV k hk]; exact hin.seen (by omega)
  have hz0 := hz 10 (by omega)
  have hz1 := hz 11 (by omega)
  obtain ⟨s, E, d1, hG, w1, hV1, hc⟩ := M.heads15 ok.ok hV
  rcases hc with ⟨rfl, rfl⟩ | ⟨rfl, hf⟩
  · have hN := hL.newer (by omega) (by omega)
    obtain ⟨E2, d2, u, l, hsc, w2, hV2, hc2, hgd⟩ := hL.told w1.ok hV1
    have ho1 := w1.ops
    have ho2 := w2.ops
    have hf1 := w1.fl
    have hf2 := w2.fl
    rcases hc2 with ⟨rfl, ha, hl⟩ | ⟨rfl, hf⟩
    · obtain ⟨V', hsp, hmk⟩ := hL.opens (q1 := q + C.length + 24) (by omega) (by omega) rfl
      have hsp2 := hsp d2 w2.ok hV2
      have hR : M.steps14 (M.mvR (M.readyF (10 + 2) (24 - 2) p 0 (q + l.length + 24)) (M.allSecs l) 10 24 (g + 1) (q + l.length + 24) 0) d2 = M.steps14 (M.mvR (M.readyF 12 22 p 0 (q + C.length + 24)) C.flatten 10 24 (g + 1) (q + C.length + 24) 0) d2 := by rw [ha, hl]
      obtain ⟨R, hRd⟩ : ∃ R, R = M.steps14 (M.mvR (M.readyF 12 22 p 0 (q + C.length + 24)) C.flatten 10 24 (g + 1) (q + C.length + 24) 0) d2 := ⟨_, rfl⟩
      rw [← hRd] at hsp2 hR
      clear hsp hRd
      obtain ⟨w3, hc3⟩ := hsp2
      have ho3 := w3.ops
      have hf3 := w3.fl
      have hroom := hL.room
      have htl := M.tot_len C
      have htf := M.tot_flat C
      have hl9 : l.length ≤ 1000 := by omega
      have hs9 : (M.allSecs l).length ≤ 1000 := by rw [ha]; omega
      have hp9 : ∀ x ∈ M.allSecs l, x.1 ≤ 1000 := fun x hx => by
        rw [ha] at hx
        obtain ⟨c, hc, hx2⟩ := List.mem_flatten.1 hx
        have := M.gd44 (hL.fit c hc x hx2).1
        omega
      rcases hc3 with ⟨hR0, hV3⟩ | ⟨hR0, hf, U, hU, g', q', p', C', hL', hg', hq'⟩
      · refine (open_good g q p 10 24 w h hlow (by omega) (by omega) (by omega) (by omega) (by omega) hE hpe hG hz0 hz1 (by omega) hN hL.pl (by omega) (by omega) hsc hgd hl9 hs9 hp9 (by omega) hET hPE hR hR0).mono ?_
        rintro e w' ⟨x, e1, e2, e3⟩
        refine ⟨Or.inr ⟨x, _, e1, e2, ⟨w3.ok, ?_, ?_, ?_, ⟨V', g + 1, q + C.length + 24, 0, [], hV3, hmk ⟨g + 1, q + l.length + 24, 0, 0, false, false, R.2, [], [], a⟩ rfl (by show q + l.length + 24 = _; rw [hl]) rfl rfl rfl⟩, M.Secs14.nil, by simp, M.Secs14.nil⟩, rfl, rfl, rfl, rfl, rfl, rfl, by show R.2.fails.length ≤ _; omega⟩, e3⟩
        · show R.2.ops + 1000 * R.2.fails.length ≤ _; omega
        · show g + 1 + 2 * R.2.fails.length ≤ _; omega
        · show q + l.length + 24 + 100 * R.2.fails.length ≤ _; omega
      · refine (open_bad g q p 10 24 w h hlow (by omega) (by omega) (by omega) (by omega) (by omega) hE hpe hG hz0 hz1 (by omega) hN hL.pl (by omega) (by omega) hsc hgd hl9 hs9 hp9 (by omega) hET hPE hR (by rw [hR0]; decide)).mono ?_
        rintro e w' ⟨e1, e2, e3⟩
        exact ⟨Or.inl ⟨by rw [e1, hR0], _, e2, ok.of ((w1.trans w2).trans w3) (by omega) (by omega) hU hL' (by omega) (by omega), by omega⟩, e3⟩
    · refine (open_err2 g q p 10 24 w h hlow (by omega) (by omega) (by omega) (by omega) (by omega) hE hpe hG hz0 hz1 (by omega) hN hL.pl (by omega) (by omega) hsc (by decide) hgd).mono ?_
      rintro e w' ⟨e1, e2, e3⟩
      exact ⟨Or.inl ⟨e1, _, e2.mono (fun _ _ e => Or.inl e), ok.of (w1.trans w2) (by omega) (by omega) hV2 hL (by omega) (by omega), by omega⟩, e3⟩
  · refine (open_err1 10 24 w h hlow (by omega) (by omega) (by omega) (by omega) (by omega) hG (by decide)).mono ?_
    rintro e w' ⟨e1, e2, e3⟩
    exact ⟨Or.inl ⟨e1, _, e2.mono (fun _ _ e => Or.inl e), ok.of w1 (by omega) hf hV1 hL (by omega) (by omega), hf⟩, e3⟩
end Go.Proofs.YtigmcnnplnfakaaGreatDoor
namespace Go.Proofs.YtigmcnnplnfakaaGreatDoor
open Go.RowKit Go.Maps

theorem Env10.lt {w : World} (h : Env10 w) : 0 < w.heap.size := by
  unfold Env10 World.var? at h
  rw [Tryz.gNone] at h
  simp only [Option.bind_some] at h
  cases e : w.heap[0]? with
  | none => rw [e] at h; cases h
  | some o => exact lt_of_block e
theorem ErrT.lt {w : World} (h : ErrT w) : 1 < w.heap.size := by
  unfold ErrT World.cell? at h
  cases e : w.heap[1]? with
  | none => simp [e] at h
  | some o => exact lt_of_block e
theorem M.seen_new (c k : Nat) (hk : k < c) : M.seen (M.new c).S (M.new c).L k = M.zeros 64 := by
  show (M.seen0 [] k).getD ((List.replicate c M.zero).getD k ByteArray.empty) = _
  rw [M.seen0_nil, List.getD_eq_getElem?_getD, List.getElem?_replicate, if_pos hk]
  rfl
theorem M.still_new : M.Still (M.new 44) 10 24 := ⟨M.calm_new 44, by simp [M.new], by omega⟩
theorem M.ok_new : M.Ok14 (M.new 44) := ⟨rfl, rfl, by simp [M.new]⟩
theorem M.sees_new : M.Sees (M.new 44) (fun _ => M.zeros 64) := fun k hk => M.seen_new 44 k hk
/-- No head in a sector of noughts. -/
theorem M.hget_zero : (M.hget (M.zeros 64)).2 = 4 := by
  have h1 : (M.zeros 64).extract 0 1 ≠ ⟨#[76]⟩ := by decide
  unfold M.hget
  rw [if_neg (by simp [M.zeros_size]), if_pos h1]
theorem M.hnewer_none : M.hnewer (M.zeros 64) (M.zeros 64) = (M.h0, 8) := by
  unfold M.hnewer
  rw [M.hget_zero]
  rfl

/-- The law's log at its beginning. -/
structure M.Fresh (s : M.Wl) : Prop where
  ws : M.WS s (fun _ => M.zeros 64) 1000
  act : s.act = false
  l : s.l = []
  k : s.k = []
  used : s.used = 0
  uns : s.uns = false
  calm : s.d.fails = []

set_option maxHeartbeats 4000000 in
theorem begun14_any (w : World) (hE : Env10 w) (hET : ErrT w) : Calls Tryz.prog 7 #[] w fun e y => ∃ a b s, e = .returned (.tuple #[.pointer (some ⟨a, 0, none⟩), .pointer (some ⟨b, 0, none⟩), .bool true]) ∧ Wal y b (fun j => w.heap.size ≤ j) 10 24 s ∧ M.Fresh s ∧ s.dk = a ∧ Below w.heap.size w y := by
  have C1 := Lib.hid (knew 44 w w (Below.refl _ w))
  rw [show M.held 44 = 44 by decide] at C1
  obtain ⟨V', hsp, hlg⟩ := M.Sp.format 10 24 (by omega) (by omega)
  obtain ⟨f1, f2, f3, f4⟩ := hsp.calm M.ok_new M.sees_new rfl
  obtain ⟨R, hR⟩ : ∃ R, R = M.steps14 (M.fmF 10 24) (M.new 44) := ⟨_, rfl⟩
  rw [← hR] at f1 f2 f3 f4
  have ho : R.2.ops ≤ 60 := by have := f3.ops; exact Nat.le_trans this (by show 0 + 60 ≤ 60; omega)
  have hls : M.LS R.2 (fun _ => M.zeros 64) 500 := ⟨f3.ok, by rw [f4]; simp; omega, V', 1, 1, 0, [], f2, hlg rfl rfl, by rw [f4]; simp, by rw [f4]; simp⟩
  have h0 : (M.new 44).S.length = 44 := by simp [M.new]
  have C2 : Hid (∀ y a, Disk y a (fun k => w.heap.size ≤ k) (M.new 44) → Calls Tryz.prog 30 #[.pointer (some ⟨a, 0, none⟩), .int .i64 10, .int .i64 24] y fun e w' => e = .returned (.int .i64 0) ∧ Disk w' a (M.plus (fun k => w.heap.size ≤ k) y.heap.size) R.2 ∧ Kept (fun k => w.heap.size ≤ k) y w') := by
    intro y a hy
    have := format_any 10 24 y hy (by omega) (by omega) (by rw [h0]; omega) (by show 0 ≤ _; omega) hR.symm (fun e => absurd f1 e)
    rw [f1] at this
    exact this
  have C3 : Hid (∀ y a, Below w.heap.size w y → Disk y a (fun k => w.heap.size ≤ k ∧ k < y.heap.size) R.2 → Calls Tryz.prog 11 #[.pointer (some ⟨a, 0, none⟩), .int .i64 10, .int .i64 24] y fun e w' => ∃ b s, e = .returned (.tuple #[.pointer (some ⟨b, 0, none⟩), .int .i64 0]) ∧ Wal w' b (fun j => w.heap.size ≤ j) 10 24 s ∧ M.Fresh s ∧ s.dk = a ∧ Below w.heap.size w w') := by
    intro y a hb hd
    have hz := hb.size
    refine (open15_any y hd (fun k e => e.2) (hE.below hb) (fun e => by have := hE.lt; omega) ((Kept.of_below hb (fun _ => False)).cell hET id) (fun e => by have := hET.lt; omega) hls (by omega)).mono ?_
    rintro e w' ⟨(⟨e1, d', e2, e3, e4⟩ | ⟨wb, s, e1, e2, e3, e4, e5, e6, e7, e8, e9, e10⟩), hk⟩
    · rw [f4] at e4
      exact absurd e4 (by simp)
    · exact ⟨wb, s, e1, e2.mono (fun j _ e => e.elim (fun e => e.1) (fun e => by omega)), ⟨e3.more (by omega), e4, e5, e6, e7, e8, List.eq_nil_of_length_eq_zero (by rw [f4] at e10; simpa using e10)⟩, e9, hb.trans (hk.below hb.size (fun k hk e => by omega))⟩
  clear hsp hlg f1 f2 f3 f4 hR ho hls h0 hE hET
  go_enter Tryz.func7, Tryz.ntmps7
  go_wp2_with fail
  refine C1.out.mono ?_
  rintro e w1 ⟨a, rfl, hd⟩
  have HD := Lib.hid hd
  clear hd C1
  go_wp2_with fail
  refine (C2.out _ _ HD.out.disk).mono ?_
  rintro e w2 ⟨rfl, hd2, hk2⟩
  have HB2 : Hid (Below w.heap.size w w2) := HD.out.below.trans (hk2.below HD.out.le (fun k hk e => by omega))
  have HD2 : Hid (Disk w2 a (fun k => w.heap.size ≤ k ∧ k < w2.heap.size) R.2) := hd2.mono (fun k hk e => ⟨e.elim id (fun e => Nat.le_trans HD.out.le e), hk⟩)
  clear hd2 hk2 HD C2
  go_wp2_with fail
  refine (C3.out _ _ HB2.out HD2.out).mono ?_
  rintro e w3 ⟨b, s, rfl, h1, h2, h3, h4⟩
  have HR := Lib.hid (And.intro h1 (And.intro h2 (And.intro h3 h4)))
  clear h1 h2 h3 h4 C3 HB2 HD2
  go_wp2_with fail
  go_returns
  exact ⟨a, b, s, rfl, HR.out⟩

theorem place14_any (i : Nat) (hi : i ≤ 1000) (w : World) : Calls Tryz.prog 28 #[.int .i64 (i : Nat)] w fun e y => e = .returned (.int .i64 ((if i < 10 then i else i + 24 : Nat) : Int)) ∧ y = w := by
  have b1 : (0 : Int) ≤ (i : Int) ∧ (i : Int) ≤ 1000 := by omega
  by_cases h : i < 10
  · have h' : (i : Int) < 10 := by omega
    rw [if_pos h]
    clear h hi
    go_enter Tryz.func28, Tryz.ntmps28
    go_wp2_with fail
    go_ret
    exact ⟨rfl, rfl⟩
  · have h' : ¬ (i : Int) < 10 := by omega
    rw [if_neg h]
    have e : ((i + 24 : Nat) : Int) = (i : Int) + 24 := by omega
    rw [e]
    clear h hi e
    go_enter Tryz.func28, Tryz.ntmps28
    go_wp2_with fail
    go_ret
    exact ⟨rfl, rfl⟩

/-- A log of the call's own, from block N on. -/
structure Wk14 (N : Nat) (w y : World) (b : Nat) (s : M.Wl) : Prop where
  wal : Wal y b (fun j => N ≤ j) 10 24 s
  below : Below N w y
  le : N ≤ y.heap.size
theorem Wk14.step {N : Nat} {w y z : World} {b : Nat} {s s' : M.Wl} (h : Wk14 N w y b s) (h1 : Wal z b (fun j => N ≤ j ∨ y.heap.size ≤ j) 10 24 s') (h2 : Kept (fun j => N ≤ j) y z) : Wk14 N w z b s' :=
  ⟨h1.mono (fun j _ e => e.elim id (fun e => Nat.le_trans h.le e)), h.below.trans (h2.below h.le (fun k hk e => by omega)), Nat.le_trans h.le h2.size⟩
theorem Wk14.beside {N : Nat} {w y z : World} {b : Nat} {s : M.Wl} (h : Wk14 N w y b s) (hb : Below y.heap.size y z) : Wk14 N w z b s :=
  ⟨h.wal.kept (Kept.of_below hb (fun _ => False)) (fun _ _ => id), h.below.trans (hb.mono h.le), Nat.le_trans h.le hb.size⟩

/-- The calls of works, one behind the other. -/
theorem works_parts14 (w : World) : ∃ (t t63 : ByteArray) (N0 : Array Value) (S0 S1 S2 S3 S4 : World → Nat → Prop), (t = t63 ++ (⟨#[120]⟩ : ByteArray) ∧ t63.size = 63) ∧
    (∀ W : World, (Instr.makeSlice 55 (.int .i64 63) (.int .i64 63)).run Tryz.prog W = .ok (.slice (some ⟨W.heap.size, 0, none⟩) 63 63) (W.alloc (.cells N0 5))) ∧
    (∀ W : World, Sem.run Tryz.prog (convert 55 9 (.slice (some ⟨W.heap.size, 0, none⟩) 63 63)) (W.alloc (.cells N0 5)) = .ok (.string t63) (W.alloc (.cells N0 5))) ∧
    (Env10 w → ErrT w → Calls Tryz.prog 7 #[] w fun e y => ∃ a b, e = .returned (.tuple #[.pointer (some ⟨a, 0, none⟩), .pointer (some ⟨b, 0, none⟩), .bool true]) ∧ S0 y b) ∧
    (∀ y z b, S0 y b → Below y.heap.size y z → S0 z b) ∧
    (∀ y b, S0 y b → Calls Tryz.prog 26 #[.pointer (some ⟨b, 0, none⟩)] y fun e z => e = .returned (.int .i64 0) ∧ S1 z b) ∧
    (∀ y b, S1 y b → Calls Tryz.prog 27 #[.pointer (some ⟨b, 0, none⟩), .int .i64 5, .string t] y fun e z => e = .returned (.int .i64 0) ∧ S2 z b) ∧
    (∀ y b, S2 y b → Calls Tryz.prog 27 #[.pointer (some ⟨b, 0, none⟩), .int .i64 10, .string t] y fun e z => e = .returned (.int .i64 3) ∧ S2 z b) ∧
    (ErrT w → ∀ y b, S2 y b → Calls Tryz.prog 29 #[.pointer (some ⟨b, 0, none⟩)] y fun e z => e = .returned (.int .i64 0) ∧ S3 z b) ∧
    (∀ y b, S3 y b → Calls Tryz.prog 14 #[.pointer (some ⟨b, 0, none⟩), .int .i64 5] y fun e z => e = .returned (.tuple #[.string t, .int .i64 0]) ∧ z = y) ∧
    (∀ y b, S3 y b → Calls Tryz.prog 18 #[.pointer (some ⟨b, 0, none⟩)] y fun e z => e = .returned (.int .i64 20) ∧ S3 z b) ∧
    (∀ y b, S3 y b → Calls Tryz.prog 17 #[.pointer (some ⟨b, 0, none⟩)] y fun e z => e = .returned (.bool false) ∧ z = y) ∧
    (∀ y b, S3 y b → Calls Tryz.prog 32 #[.pointer (some ⟨b, 0, none⟩)] y fun e z => e = .returned (.int .i64 0) ∧ S4 z b) ∧
    (∀ y b, S4 y b → Calls Tryz.prog 17 #[.pointer (some ⟨b, 0, none⟩)] y fun e z => e = .returned (.bool true) ∧ z = y) ∧
    (∀ y b, S4 y b → Below w.heap.size w y) := by
  obtain ⟨t, ht⟩ : ∃ t, t = M.zeros 63 ++ (⟨#[120]⟩ : ByteArray) := ⟨_, rfl⟩
  have hts : t.size = 64 := by rw [ht, ByteArray.size_append, M.zeros_size]; rfl
  have w5 : (Lit.int .i64 5).wf = true := by decide
  have w10 : (Lit.int .i64 10).wf = true := by decide
  have gd5 : M.gd 5 := by unfold M.gd; omega
  have hsec : M.Secs14 [((5 : Int), Value.string t)] := fun p hp => by rw [List.mem_singleton] at hp; subst hp; exact ⟨5, t, rfl, gd5, hts⟩
  refine ⟨t, M.zeros 63, M.nils 63, fun y b => ∃ s, Wk14 w.heap.size w y b s ∧ M.Fresh s, fun y b => ∃ s, Wk14 w.heap.size w y b { s with act := true } ∧ M.Fresh s,
    fun y b => ∃ s, Wk14 w.heap.size w y b { s with act := true, l := [(5, .string t)] } ∧ M.Fresh s, fun y b => ∃ s T, Wk14 w.heap.size w y b s ∧ M.WS s T 1100 ∧ M.get13 5 s.l s.k = some (.string t) ∧ s.used = 2 ∧ s.uns = true ∧ s.d.fails = [],
    fun y b => ∃ s, Wk14 w.heap.size w y b s ∧ s.uns = false, ⟨ht, M.zeros_size _⟩, fun W => make_nils 63 (by omega) W, fun W => conv_nils 63 _ _ (Box.new _ _ _), ?_, ?_, ?_, ?_, ?_, ?_, ?_, ?_, ?_, ?_, ?_, ?_⟩
  · intro hE hET
    refine (begun14_any w hE hET).mono ?_
    rintro e y ⟨a, b, s, e1, e2, e3, e4, e5⟩
    exact ⟨a, b, e1, s, ⟨e2, e5, e5.size⟩, e3⟩
  · rintro y z b ⟨s, h1, h2⟩ hb
    exact ⟨s, h1.beside hb, h2⟩
  · rintro y b ⟨s, h1, h2⟩
    refine (begin14_any h1.wal).mono ?_
    rintro e z ⟨e1, e2, e3⟩
    rw [h2.act] at e1
    exact ⟨e1, s, h1.step (e2.mono (fun _ _ e => Or.inl e)) e3, h2⟩
  · rintro y b ⟨s, h1, h2⟩
    have hE : M.wlStageE 10 24 { s with act := true } 5 t = 0 := by unfold M.wlStageE; simp [h2.l, h2.ws.ok.len, M.guards, hts]
    refine (stage14_any h1.wal 5 t w5 (by omega) (by omega) (by show s.l.length ≤ _; rw [h2.l]; simp)).mono ?_
    rintro e z ⟨e1, e2, e3⟩
    unfold M.wlStage at e2
    rw [if_pos hE] at e2
    have el : M.ins 5 (.string t) s.l = [(5, .string t)] := by rw [h2.l]; rfl
    rw [show ({ s with act := true } : M.Wl).l = s.l from rfl, el] at e2
    exact ⟨by rw [e1, hE], s, h1.step e2 e3, h2⟩
  · rintro y b ⟨s, h1, h2⟩
    have hE : M.wlStageE 10 24 { s with act := true, l := [(5, .string t)] } 10 t = 3 := by unfold M.wlStageE; simp [h2.ws.ok.len, M.guards]
    refine (stage14_any h1.wal 10 t w10 (by omega) (by omega) (by simp)).mono ?_
    rintro e z ⟨e1, e2, e3⟩
    unfold M.wlStage at e2
    rw [if_neg (by rw [hE]; decide)] at e2
    exact ⟨by rw [e1, hE], s, h1.step e2 e3, h2⟩
  · rintro hET y b ⟨s, h1, h2⟩
    obtain ⟨s1, hs1⟩ : ∃ s1 : M.Wl, s1 = { s with act := true, l := [(5, .string t)] } := ⟨_, rfl⟩
    have ws1 : M.WS s1 (fun _ => M.zeros 64) 1000 := by rw [hs1]; exact h2.ws.stg true hsec (by simp)
    have a1 : s1.act = true := by rw [hs1]
    have a2 : s1.l = M.vs14 [(5, t)] := by rw [hs1]; rfl
    have a3 : s1.used = 0 := by rw [hs1]; exact h2.used
    have a4 : s1.d.fails = [] := by rw [hs1]; exact h2.calm
    have a5 : s1.k = [] := by rw [hs1]; exact h2.k
    have h1w := h1.wal
    rw [← hs1] at h1w
    have hseq := ws1.seq
    have hops := ws1.ops
    have hfit : ∀ p ∈ [(5, t)], M.gd p.1 ∧ p.2.size = 64 := fun p hp => by rw [List.mem_singleton] at hp; subst hp; exact ⟨gd5, hts⟩
    have hr : M.rE (M.aF [(5, t)]) (M.tF [(5, t)]) ((s1.seq : Nat) : Int) [(5, t)].length = 0 := M.rE14 (by simp) (by simp) (by omega) (by simp [M.vs14, M.Rising]) hfit
    have hET2 : ErrT y := (Kept.of_below h1.below (fun _ => False)).cell hET id
    refine (commit14_any h1w [(5, t)] a2 (fun p hp => by rw [List.mem_singleton] at hp; subst hp; omega) (fun _ => hr) (by omega) (by omega) (by omega) ws1.pl ws1.used (by omega) (by rw [a5]; simp) (by simp) ⟨hET2, fun e => by have := hET.lt; omega⟩).mono ?_
    rintro e z ⟨e1, e2, e3⟩
    have hz := h1.step (s' := M.wlCommit 10 24 s1 [(5, t)]) e2 e3
    rcases ws1.commit a2 hfit (fun _ => hr) with ⟨c1, _⟩ | ⟨_, c1, _⟩ | ⟨_, _, c1, _⟩ | ⟨_, _, _, _, d', _, _, c1⟩ | ⟨_, _, _, c1, s', c2, c3, c4, c5, c6, c7, c8, c9, c10⟩
    · rw [a1] at c1; cases c1
    · exact absurd c1 (by simp)
    · rw [a3] at c1; exact absurd c1 (by simp)
    · rw [a4] at c1; exact absurd c1 (by simp)
    · rw [c2] at hz
      exact ⟨by rw [e1, c1], s', _, hz, c3, by rw [c5, c9, a2, a5]; rfl, by rw [c6, a3]; rfl, c7, List.eq_nil_of_length_eq_zero (by rw [a4] at c10; simpa using c10)⟩
  · rintro y b ⟨s, T, h1, h2, h3, h4, h5, h6⟩
    exact read14_found h1.wal 5 t w5 h3
  · rintro y b ⟨s, T, h1, h2, h3, h4, h5, h6⟩
    refine (room14_any h1.wal (by omega) (by omega)).mono ?_
    rintro e z ⟨e1, n, rfl⟩
    exact ⟨by rw [e1, h4]; rfl, s, T, h1.beside (below_drewN (Below.refl _ _) n), h2, h3, h4, h5, h6⟩
  · rintro y b ⟨s, T, h1, h2, h3, h4, h5, h6⟩
    refine (sure14_any h1.wal).mono ?_
    rintro e z ⟨e1, e2⟩
    exact ⟨by rw [e1, h5]; rfl, e2⟩
  · rintro y b ⟨s, T, h1, h2, h3, h4, h5, h6⟩
    have hops := h2.ops
    have he : M.beginE s.d = 0 := h2.flush.2.elim id (fun e => by have := h2.flushF.2 e; rw [h6] at this; exact absurd this (by simp))
    refine (flush15_any h1.wal (by omega)).mono ?_
    rintro e z ⟨e1, e2, e3⟩
    exact ⟨by rw [e1, he], _, h1.step e2 e3, by simp [he]⟩
  · rintro y b ⟨s, h1, h2⟩
    refine (sure14_any h1.wal).mono ?_
    rintro e z ⟨e1, e2⟩
    exact ⟨by rw [e1, h2]; rfl, e2⟩
  · rintro y b ⟨s, h1, h2⟩
    exact h1.below
end Go.Proofs.YtigmcnnplnfakaaGreatDoor
