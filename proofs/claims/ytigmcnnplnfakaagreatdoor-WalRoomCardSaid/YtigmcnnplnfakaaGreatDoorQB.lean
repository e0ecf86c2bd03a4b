/-
  Walks over wal.logOn and Format where the log may not be. The calls of the law WalRoom, as contracts over letters.
-/
import Derived.Test.YtigmcnnplnfakaaGreatDoorPS
import Derived.Test.YtigmcnnplnfakaaGreatDoorPZ
import Derived.Test.YtigmcnnplnfakaaGreatDoorPY
namespace Go.Proofs.YtigmcnnplnfakaaGreatDoor
open Go.RowKit

set_option maxHeartbeats 4000000 in
theorem logOn_no (fr mn : Int) (w : World) {a : Nat} {P : Nat → Prop} {d : M.D} (h : Disk w a P d) (hf : fr ≤ 9223372036854775807) (hno : mn < 24 ∨ 200 < mn ∨ M.within fr mn (d.S.length : Nat) = false) :
    Calls Tryz.prog 34 #[.pointer (some ⟨a, 0, none⟩), .int .i64 fr, .int .i64 mn] w fun e w' => e = .returned (.tuple #[.agg #[.pointer none, .int .i64 0, .pointer none, .pointer none], .int .i64 3]) ∧ Below w.heap.size w w' := by
  obtain ⟨W, hW⟩ : ∃ x, x = w.alloc (.cells #[.pointer none, .int .i64 0, .pointer none, .pointer none] 65) := ⟨_, rfl⟩
  have HB0 : Hid (Below w.heap.size w W) := by rw [hW]; exact below1 _ _
  have HX0 : Box W w.heap.size 65 #[.pointer none, .int .i64 0, .pointer none, .pointer none] := by rw [hW]; exact Box.new _ _ _
  have C1 : Hid (M.within fr mn (d.S.length : Nat) = false → Calls Tryz.prog 73 #[.pointer (some ⟨a, 0, none⟩), .int .i64 fr, .int .i64 mn] W fun e w' => e = .returned (.tuple #[.pointer none, .int .i64 3]) ∧ w' = W) := fun hy => new9_no fr mn W (h.beside HB0.out) hf hy
  have x0 := HX0.cell 0
  have x1 := HX0.cell 1
  have x2 := HX0.cell 2
  have x3 := HX0.cell 3
  have f0 := HX0.frozen 0
  have f1 := HX0.frozen 1
  have f2 := HX0.frozen 2
  have f3 := HX0.frozen 3
  by_cases h1 : mn < 24
  · clear h hf hno C1 x0 x1 x2 x3 f0 f1 f2 f3 HX0
    go_enter Tryz.func34, Tryz.ntmps34
    go_wp2_with fail
    exact bodyPost_ret (v := .tuple #[.agg #[.pointer none, .int .i64 0, .pointer none, .pointer none], .int .i64 3]) (by simp [results, Tryz.results34, go_sem]) rfl ⟨rfl, by (repeat refine Below.setCell ?_ (by simp) _); first | exact below1 _ _ | exact HB0.out⟩
  · by_cases h2 : 200 < mn
    · clear h hf hno C1 x0 x1 x2 x3 f0 f1 f2 f3 HX0
      go_enter Tryz.func34, Tryz.ntmps34
      go_wp2_with fail
      exact bodyPost_ret (v := .tuple #[.agg #[.pointer none, .int .i64 0, .pointer none, .pointer none], .int .i64 3]) (by simp [results, Tryz.results34, go_sem]) rfl ⟨rfl, by (repeat refine Below.setCell ?_ (by simp) _); first | exact below1 _ _ | exact HB0.out⟩
    · have C2 := Lib.hid (C1.out (hno.elim (fun e => absurd e h1) (fun e => e.elim (fun e => absurd e h2) id)))
      clear h hf hno C1 HX0
      go_enter Tryz.func34, Tryz.ntmps34
      go_wp2_with fail
      rw [← hW]
      clear hW
      refine C2.out.mono ?_
      rintro e w1 ⟨rfl, hw1⟩
      subst hw1
      go_wp2_with fail
      exact bodyPost_ret (v := .tuple #[.agg #[.pointer none, .int .i64 0, .pointer none, .pointer none], .int .i64 3]) (by simp [results, Tryz.results34, go_sem, *]) rfl ⟨rfl, by (repeat refine Below.setCell ?_ (by simp) _); exact HB0.out⟩

set_option maxHeartbeats 4000000 in
theorem format_no (fr mn : Int) (w : World) {a : Nat} {P : Nat → Prop} {d : M.D} (h : Disk w a P d) (hf : fr ≤ 9223372036854775807) (hno : mn < 24 ∨ 200 < mn ∨ M.within fr mn (d.S.length : Nat) = false) :
    Calls Tryz.prog 30 #[.pointer (some ⟨a, 0, none⟩), .int .i64 fr, .int .i64 mn] w fun e w' => e = .returned (.int .i64 3) ∧ Below w.heap.size w w' := by
  have C1 := Lib.hid (logOn_no fr mn w h hf hno)
  clear h hf hno
  go_enter Tryz.func30, Tryz.ntmps30
  go_wp2_with fail
  refine C1.out.mono ?_
  rintro e w1 ⟨rfl, hb1⟩
  have HB1 := Lib.hid (hb1.trans ((below1 w1 (.cells #[.pointer none, .int .i64 0, .pointer none, .pointer none] 65)).mono hb1.size))
  clear hb1 C1
  go_wp2_with fail
  go_ret
  exact ⟨rfl, HB1.out⟩
end Go.Proofs.YtigmcnnplnfakaaGreatDoor
namespace Go.Proofs.YtigmcnnplnfakaaGreatDoor
open Go.RowKit Go.Maps

def M.plc (i : Nat) : Nat := if i < 10 then i else i + 24
theorem M.plc_inj {i j : Nat} (hi : i ≤ 16) (hj : j ≤ 16) (h : M.plc i = M.plc j) : i = j := by unfold M.plc at h; split at h <;> split at h <;> omega
theorem M.plc_ok {i : Nat} (hi : i ≤ 16) : M.guards 44 10 24 (M.plc i : Nat) = true ∧ (Lit.int .i64 (M.plc i : Nat)).wf = true ∧ M.plc i < 44 := by
  have : i < 17 := by omega
  revert this
  revert i
  decide
theorem M.wnew_seen {k : Nat} (h : M.gd k) : (M.wnew 44 10 24).seen.getD k ByteArray.empty = M.zeros 64 := by
  show (List.replicate 44 M.zero).getD k ByteArray.empty = _
  rw [List.getD_eq_getElem?_getD, List.getElem?_replicate, if_pos (M.gd44 h)]
  rfl
theorem M.plc_gd {i : Nat} (hi : i ≤ 16) : M.gd (M.plc i) := by unfold M.gd M.plc; split <;> omega
/-- So many sectors of noughts are staged at the first places. -/
structure M.Vok (s : M.Wl) (i n : Nat) : Prop where
  ok : ∃ T, M.WS s T n
  calm : s.d.fails = []
  act : s.act = true
  used : s.used = 0
  len : s.l.length = i
  keys : ∀ p ∈ s.l, ∃ j, j < i ∧ p.1 = (M.plc j : Nat)
theorem M.Vok.no {s : M.Wl} {i n k : Nat} (h : M.Vok s i n) (hi : i ≤ k) (hk : k ≤ 16) : M.has14 (M.plc k : Nat) s.l = false := by
  cases hh : M.has14 (M.plc k : Nat) s.l with
  | false => rfl
  | true =>
    obtain ⟨p, hp, hpi⟩ := List.any_eq_true.1 hh
    obtain ⟨j, hj, e⟩ := h.keys p hp
    have hpi : p.1 = (M.plc k : Nat) := by simpa using hpi
    have : M.plc j = M.plc k := by omega
    have := M.plc_inj (by omega) hk this
    omega
theorem M.Vok.find {s : M.Wl} {i n k : Nat} (h : M.Vok s i n) (hi : i ≤ k) (hk : k ≤ 16) : M.find ((M.plc k : Nat) : Int) s.l = none := by
  cases hf : M.find ((M.plc k : Nat) : Int) s.l with
  | none => rfl
  | some x =>
    obtain ⟨j, hj, e⟩ := h.keys _ (M.find_mem hf)
    have : M.plc j = M.plc k := by simp only at e; omega
    have := M.plc_inj (by omega) hk this
    omega
theorem M.Vok.stageE {s : M.Wl} {i n k : Nat} (h : M.Vok s i n) (hi : i ≤ k) (hk : k ≤ 16) : M.wlStageE 10 24 s (M.plc k : Nat) (M.zeros 64) = if i = 16 then 6 else 0 := by
  obtain ⟨T, ok⟩ := h.ok
  have hll := ok.ll
  have hl := h.len
  unfold M.wlStageE
  rw [if_neg (by rw [h.act]; decide), ok.ok.len, (M.plc_ok hk).1, if_neg (by decide), if_neg (by rw [M.zeros_size]; decide), h.no hi hk, hl]
  by_cases h16 : i = 16
  · rw [if_pos ⟨by omega, rfl⟩, if_pos h16]
  · rw [if_neg (fun e => by omega), if_neg h16]
theorem M.Vok.ins {s : M.Wl} {i n k : Nat} (h : M.Vok s i n) (hr : M.Rising s.l) (hi : i ≤ k) (hi16 : i < 16) (hk : k ≤ 16) : ∃ T, M.WS (M.wlStage 10 24 s (M.plc k : Nat) (M.zeros 64)) T n ∧ M.wlStage 10 24 s (M.plc k : Nat) (M.zeros 64) = { s with l := M.ins ((M.plc k : Nat) : Int) (.string (M.zeros 64)) s.l } ∧ (M.ins ((M.plc k : Nat) : Int) (.string (M.zeros 64)) s.l).length = i + 1 := by
  have hE := h.stageE hi hk
  rw [if_neg (by omega)] at hE
  obtain ⟨T, ok⟩ := h.ok
  have hlen : (M.ins ((M.plc k : Nat) : Int) (.string (M.zeros 64)) s.l).length = i + 1 := by
    rw [M.length_ins _ _ hr, h.find hi hk, h.len]
    rfl
  have e : M.wlStage 10 24 s (M.plc k : Nat) (M.zeros 64) = { s with l := M.ins ((M.plc k : Nat) : Int) (.string (M.zeros 64)) s.l } := by
    unfold M.wlStage
    rw [if_pos hE]
  refine ⟨T, ?_, e, hlen⟩
  rw [e]
  exact ok.stg s.act (ok.loose.ins (M.plc_gd hk) (M.zeros_size _)) (by rw [hlen]; omega)
theorem M.Vok.stage {s : M.Wl} {i n k : Nat} (h : M.Vok s i n) (hr : M.Rising s.l) (hi : i = k) (hk : k < 16) : M.Vok (M.wlStage 10 24 s (M.plc k : Nat) (M.zeros 64)) (i + 1) n := by
  obtain ⟨T, h1, h2, h3⟩ := h.ins hr (Nat.le_of_eq hi) (by omega) (by omega)
  rw [h2] at h1 ⊢
  refine ⟨⟨T, h1⟩, h.calm, h.act, h.used, h3, ?_⟩
  intro p hp
  rcases M.mem_ins hp with rfl | hp
  · exact ⟨k, by omega, rfl⟩
  · obtain ⟨j, hj, e⟩ := h.keys p hp
    exact ⟨j, by omega, e⟩

theorem Kept.low14 {N : Nat} {w y z : World} (hk : Kept (fun j => ¬ j < N) y z) (hb : Below N w y) (hN : N ≤ y.heap.size) : Below N w z := hb.trans (hk.below hN (fun _ h e => e h))

/-- The calls of WalRoom up to the last Commit, one behind the other. -/
theorem room_parts14 (w : World) (hE : Env10 w) (hET : ErrT w) : ∃ (S0 : World → Nat → Prop) (T V : Nat → World → Nat → Nat → Prop) (U1 U2 X : World → Nat → Nat → Prop),
    (∀ y, Below w.heap.size w y → Calls Tryz.prog 7 #[] y fun e z => ∃ a b, e = .returned (.tuple #[.pointer (some ⟨a, 0, none⟩), .pointer (some ⟨b, 0, none⟩), .bool true]) ∧ S0 z b) ∧
    (∀ y b, S0 y b → Calls Tryz.prog 8 #[.int .i64 44, .int .i64 10, .int .i64 24] y fun e z => ∃ r, e = .returned (.pointer (some ⟨r, 0, none⟩)) ∧ T 0 z b r) ∧
    (∀ n y b r (k : Int) at_ data, T n y b r → n ≤ 150 → (Lit.int .i64 at_).wf = true → Calls Tryz.prog 13 #[.pointer (some ⟨b, 0, none⟩), .pointer (some ⟨r, 0, none⟩), .agg #[.int .i64 k, .int .i64 at_, .string data]] y fun e z => (∃ v, e = .returned v) ∧ T (n + 1) z b r) ∧
    (∀ n y b r, T n y b r → Below w.heap.size w y) ∧
    (∀ n y b r, T n y b r → n ≤ 150 → Calls Tryz.prog 24 #[.pointer (some ⟨b, 0, none⟩)] y fun e z => e = .returned (.tuple #[]) ∧ U1 z b r) ∧
    (∀ y b r, U1 y b r → Calls Tryz.prog 25 #[.pointer (some ⟨b, 0, none⟩)] y fun e z => e = .returned (.int .i64 0) ∧ U2 z b r) ∧
    (∀ y b r, U2 y b r → Calls Tryz.prog 18 #[.pointer (some ⟨b, 0, none⟩)] y fun e z => e = .returned (.int .i64 22) ∧ U2 z b r) ∧
    (∀ y b r, U2 y b r → Calls Tryz.prog 26 #[.pointer (some ⟨b, 0, none⟩)] y fun e z => e = .returned (.int .i64 0) ∧ V 0 z b r) ∧
    (∀ i y z b r, V i y b r → Below y.heap.size y z → V i z b r) ∧
    (∀ i y b r, V i y b r → i < 16 → Calls Tryz.prog 27 #[.pointer (some ⟨b, 0, none⟩), .int .i64 (M.plc i : Nat), .string (M.zeros 64)] y fun e z => e = .returned (.int .i64 0) ∧ V (i + 1) z b r) ∧
    (∀ i y b r, V i y b r → i ≤ 16 → Calls Tryz.prog 27 #[.pointer (some ⟨b, 0, none⟩), .int .i64 (M.plc 16 : Nat), .string (M.zeros 64)] y fun e z => e = .returned (.int .i64 (if i = 16 then 6 else 0)) ∧ X z b r) ∧
    (∀ y b r, X y b r → Calls Tryz.prog 29 #[.pointer (some ⟨b, 0, none⟩)] y fun e z => e = .returned (.int .i64 0) ∧ Below w.heap.size w z) := by
  obtain ⟨N, hN⟩ : ∃ N, N = w.heap.size := ⟨_, rfl⟩
  rw [← hN]
  have hsz : ∀ y, Below N w y → N ≤ y.heap.size := fun y hb => by rw [hN]; exact hb.size
  have hEn : 0 < N := by rw [hN]; exact hE.lt
  have hEe : 1 < N := by rw [hN]; exact hET.lt
  have env : ∀ y, Below N w y → Env15 (fun j => j < N) y := fun y hb => by
    rw [hN] at hb
    exact ⟨hE.below hb, (Kept.of_below hb (fun _ => False)).cell hET id, hEn, hEe⟩
  refine ⟨fun y b => ∃ s, Wk14 N w y b s ∧ M.Fresh s, fun n y b r => (∃ a : Nat × Nat, a.2 = 0 ∧ Bo14 (fun j => j < N) a y b r (2000 + 200 * n)) ∧ Below N w y,
    fun i y b r => ∃ s q n, n ≤ 40000 ∧ Two14 (fun j => j < N) y b r s q ∧ M.Vok s i n ∧ Below N w y, fun y b r => ∃ s q T n, n ≤ 35000 ∧ Two14 (fun j => j < N) y b r s q ∧ M.WS s T n ∧ Below N w y ∧ s.l = [] ∧ s.act = false ∧ s.d.fails = [],
    fun y b r => ∃ s q T n, n ≤ 36000 ∧ Two14 (fun j => j < N) y b r s q ∧ M.WS s T n ∧ Below N w y ∧ s.l = [] ∧ s.act = false ∧ s.d.fails = [] ∧ s.used = 0, fun y b r => ∃ s q T n, n ≤ 40000 ∧ Two14 (fun j => j < N) y b r s q ∧ M.WS s T n ∧ Below N w y ∧ s.act = true ∧ s.d.fails = [] ∧ s.used = 0, ?_, ?_, ?_, ?_, ?_, ?_, ?_, ?_, ?_, ?_, ?_, ?_⟩
  · intro y hb
    have he := env y hb
    refine (begun14_any y he.none he.err).mono ?_
    rintro e z ⟨a, b, s, e1, e2, e3, e4, e5⟩
    have := hsz y hb
    exact ⟨a, b, e1, s, ⟨e2.mono (fun j _ e => Nat.le_trans this e), hb.trans (e5.mono this), Nat.le_trans this e5.size⟩, e3⟩
  · rintro y b ⟨s, h1, h2⟩
    refine (rnew14 44 10 24 (by omega) (by omega) (by omega) y).mono ?_
    rintro e z ⟨r, e1, e2, e3⟩
    have hz := e3.size
    have hle := h1.le
    have hbz : Below N w z := h1.below.trans (e3.mono hle)
    refine ⟨r, e1, ⟨(s.dk, 0), rfl, env z hbz, s, M.wnew 44 10 24, ⟨fun j => N ≤ j ∧ j < y.heap.size, fun j => y.heap.size ≤ j ∧ j < z.heap.size, (h1.wal.mono (fun j hj e => ⟨e, hj⟩)).kept (Kept.of_below e3 (fun _ => False)) (fun _ _ => id), e2.mono (fun j hj e => ⟨e, hj⟩), fun j e e' => by omega, fun j e => ⟨by omega, by omega⟩, fun j e => ⟨by omega, by omega⟩, fun j e => by omega⟩, ⟨fun _ => M.zeros 64, h2.ws.more (by omega), ?_⟩, rfl, by rw [h2.calm]; simp⟩, hbz⟩
    exact ⟨⟨by simp [M.wnew], rfl, rfl, by show 0 + 2 ≤ 24; omega⟩, fun k hk => M.wnew_seen hk, fun k => by rw [h2.l]; rfl, by rw [h2.l]; rfl, List.nodup_nil, h2.act.symm, h2.used.symm, by rw [h2.uns]; rfl⟩
  · rintro n y b r k at_ data ⟨⟨a, ha, h1⟩, h3⟩ hn hw
    refine (do14_any h1 (by omega) k at_ data hw).mono ?_
    rintro e z ⟨⟨E, hv, _, _⟩, e1, e2⟩
    exact ⟨⟨_, hv⟩, ⟨a, ha, by rw [show 2000 + 200 * (n + 1) = 2000 + 200 * n + 200 by omega]; exact e1⟩, e2.low14 h3 (hsz y h3)⟩
  · rintro n y b r ⟨h1, h3⟩
    exact h3
  · rintro n y b r ⟨⟨a, ha, h0, s, q, h1, ⟨T, h2, _⟩, hon⟩, h3⟩ hn
    refine (two_abort h1).mono ?_
    rintro e z ⟨e1, e2, e3⟩
    exact ⟨e1, _, q, T, _, by omega, e2, h2.abort, e3.low14 h3 (hsz y h3), rfl, rfl, List.eq_nil_of_length_eq_zero (by have := hon.2; rw [ha] at this; show s.d.fails.length = 0; omega)⟩
  · rintro y b r ⟨s, q, T, n, hn, h1, h2, h3, h4, h5, h6⟩
    obtain ⟨lk, R, hlk, hfit, hR, hC⟩ := two_check h1 h2 (by omega) (env y h3).err (env y h3).fe
    refine hC.mono ?_
    rintro e z ⟨e1, e2, e3⟩
    rcases h2.check (by omega) h1.rising.2 hlk hfit hR with ⟨c1, c2, c3⟩ | ⟨_, _, c3⟩
    · rw [if_pos c1] at e2
      exact ⟨by rw [e1, c1], _, q, T, _, by omega, e2, c2, e3.low14 h3 (hsz y h3), h4, h5, List.eq_nil_of_length_eq_zero (by rw [h6] at c3; simpa using c3), rfl⟩
    · rw [h6] at c3
      exact absurd c3 (by simp)
  · rintro y b r ⟨s, q, T, n, hn, h1, h2, h3, h4, h5, h6, h7⟩
    refine (two_room h1 h2.used).mono ?_
    rintro e z ⟨e1, k, rfl⟩
    exact ⟨by rw [e1, h7]; rfl, s, q, T, n, hn, h1.drewN k, h2, below_drewN h3 k, h4, h5, h6, h7⟩
  · rintro y b r ⟨s, q, T, n, hn, h1, h2, h3, h4, h5, h6, h7⟩
    refine (two_begin h1).mono ?_
    rintro e z ⟨e1, e2, e3⟩
    rw [h5] at e1
    exact ⟨e1, _, q, n, by omega, e2, ⟨⟨T, h2.act true⟩, h6, rfl, h7, by show s.l.length = 0; rw [h4]; rfl, fun p hp => by rw [show ({ s with act := true } : M.Wl).l = [] from h4] at hp; cases hp⟩, e3.low14 h3 (hsz y h3)⟩
  · rintro i y z b r ⟨s, q, n, hn, h1, h2, h3⟩ hb
    exact ⟨s, q, n, hn, (h1.beside hb).less (fun j e => Or.inl e), h2, h3.trans (hb.mono (hsz y h3))⟩
  · rintro i y b r ⟨s, q, n, hn, h1, h2, h3⟩ hi
    obtain ⟨T, ok⟩ := h2.ok
    refine (two_stage h1 ok.ll (M.plc i : Nat) (M.zeros 64) (M.plc_ok (by omega)).2.1).mono ?_
    rintro e z ⟨e1, e2, e3⟩
    rw [h2.stageE (Nat.le_refl _) (by omega), if_neg (by omega)] at e1
    exact ⟨e1, _, q, n, hn, e2, h2.stage h1.rising.1 rfl hi, e3.low14 h3 (hsz y h3)⟩
  · rintro i y b r ⟨s, q, n, hn, h1, h2, h3⟩ hi
    obtain ⟨T, ok⟩ := h2.ok
    refine (two_stage h1 ok.ll (M.plc 16 : Nat) (M.zeros 64) (M.plc_ok (by omega)).2.1).mono ?_
    rintro e z ⟨e1, e2, e3⟩
    have hE := h2.stageE hi (Nat.le_refl 16)
    rw [hE] at e1
    by_cases h16 : i = 16
    · rw [if_pos h16] at hE
      unfold M.wlStage at e2
      rw [if_neg (by rw [hE]; decide)] at e2
      exact ⟨e1, s, q, T, n, hn, e2, ok, e3.low14 h3 (hsz y h3), h2.act, h2.calm, h2.used⟩
    · obtain ⟨T', k1, k2, k3⟩ := h2.ins h1.rising.1 hi (by omega) (Nat.le_refl 16)
      rw [k2] at e2 k1
      exact ⟨e1, _, q, T', n, hn, e2, k1, e3.low14 h3 (hsz y h3), h2.act, h2.calm, h2.used⟩
  · rintro y b r ⟨s, q, T, n, hn, h1, h2, h3, h4, h5, h6⟩
    refine (two_commit h1 h2 (by omega) (env y h3).err (env y h3).fe).mono ?_
    rintro e z ⟨lp, e1, e2, e3, e4, e5, e6⟩
    have hl : lp.length ≤ 16 := by have := h2.ll; rw [e1, M.vs14_len] at this; exact this
    refine ⟨?_, e6.low14 h3 (hsz y h3)⟩
    rcases h2.commit e1 e2 e3 with ⟨c1, _⟩ | ⟨_, _, c1, _⟩ | ⟨_, _, c1, _⟩ | ⟨_, _, _, _, d', _, _, c1⟩ | ⟨_, _, _, c1, _⟩
    · rw [h4] at c1; cases c1
    · rw [e4, c1]
    · rw [h6] at c1; exact absurd c1 (by omega)
    · rw [h5] at c1; exact absurd c1 (by simp)
    · rw [e4, c1]

theorem newdisk14 (y : World) : Calls Tryz.prog 31 #[.int .i64 44] y fun e z => ∃ a, e = .returned (.pointer (some ⟨a, 0, none⟩)) ∧ Disk z a (fun k => y.heap.size ≤ k) (M.new 44) ∧ Below y.heap.size y z := by
  refine (knew 44 y y (Below.refl _ y)).mono ?_
  rintro e z ⟨a, e1, h⟩
  rw [show M.held 44 = 44 by decide] at h
  exact ⟨a, e1, h.disk, h.below⟩
/-- May such a log be? -/
def M.mayF (p z : Int) : Bool := decide (24 ≤ z) && (decide (z ≤ 200) && (decide (0 ≤ p) && (decide (p ≤ 44) && decide (z ≤ 44 - p))))
theorem format14_any (p z : Int) (y : World) {a B : Nat} (hp : p ≤ 9223372036854775807) (hB : B ≤ y.heap.size) (hd : Disk y a (fun k => B ≤ k) (M.new 44)) :
    Calls Tryz.prog 30 #[.pointer (some ⟨a, 0, none⟩), .int .i64 p, .int .i64 z] y fun e x => e = .returned (.int .i64 (if M.mayF p z = true then 0 else 3)) ∧ Below B y x := by
  have h0 : (M.new 44).S.length = 44 := by simp [M.new]
  by_cases hm : M.mayF p z = true
  · rw [if_pos hm]
    unfold M.mayF at hm
    simp only [Bool.and_eq_true, decide_eq_true_eq] at hm
    obtain ⟨h1, h2, h3, h4, h5⟩ := hm
    obtain ⟨fr, rfl⟩ := Int.eq_ofNat_of_zero_le h3
    obtain ⟨mn, rfl⟩ := Int.eq_ofNat_of_zero_le (show 0 ≤ z by omega)
    obtain ⟨V', hsp, -⟩ := M.Sp.format fr mn (by omega) (by omega)
    obtain ⟨f1, -, -, -⟩ := hsp.calm M.ok_new M.sees_new rfl
    refine (format_any fr mn y hd (by omega) (by omega) (by rw [h0]; omega) (by show 0 ≤ _; omega) rfl (fun e => absurd f1 e)).mono ?_
    rintro e x ⟨e1, e2, e3⟩
    exact ⟨by rw [e1, f1], e3.below hB (fun k hk e => by omega)⟩
  · rw [if_neg hm]
    have hno : z < 24 ∨ 200 < z ∨ M.within p z ((M.new 44).S.length : Nat) = false := by
      by_cases h1 : z < 24
      · exact Or.inl h1
      by_cases h2 : 200 < z
      · exact Or.inr (Or.inl h2)
      refine Or.inr (Or.inr ?_)
      rw [h0]
      unfold M.mayF at hm
      rw [decide_eq_true (show 24 ≤ z by omega), decide_eq_true (show z ≤ 200 by omega)] at hm
      unfold M.within
      by_cases h3 : 0 ≤ p
      · rw [decide_eq_true h3] at hm
        simp at hm
        simp
        omega
      · simp [h3]
    refine (format_no p z y hd hp hno).mono ?_
    rintro e x ⟨e1, e2⟩
    exact ⟨e1, e2.mono hB⟩
theorem openblank14 (y0 y : World) {a : Nat} (hE : Env10 y0) (hb : Below y0.heap.size y0 y) (hd : Disk y a (fun k => y0.heap.size ≤ k) (M.new 44)) :
    Calls Tryz.prog 11 #[.pointer (some ⟨a, 0, none⟩), .int .i64 10, .int .i64 24] y fun e x => e = .returned (.tuple #[.pointer none, .int .i64 32]) ∧ Below y0.heap.size y0 x := by
  have h1 : M.seen (M.new 44).S (M.new 44).L 10 = M.zeros 64 := M.seen_new 44 10 (by omega)
  have h2 : M.seen (M.new 44).S (M.new 44).L (10 + 1) = M.zeros 64 := M.seen_new 44 11 (by omega)
  have hd' : Disk y a (fun k => y0.heap.size ≤ k ∧ k < y.heap.size) (M.new 44) := hd.mono (fun k hk e => ⟨e, hk⟩)
  refine (open_no 10 24 y hd' M.still_new (hE.below hb) (fun e => by have := hE.lt; omega) (fun k e => e.2) (by omega) (by omega) (by omega) (by show 0 ≤ _; omega) (by rw [h1, h2]; exact M.hnewer_none)).mono ?_
  rintro e x ⟨e1, e2⟩
  exact ⟨e1, hb.trans (e2.below hb.size (fun k hk e => by omega))⟩
end Go.Proofs.YtigmcnnplnfakaaGreatDoor
