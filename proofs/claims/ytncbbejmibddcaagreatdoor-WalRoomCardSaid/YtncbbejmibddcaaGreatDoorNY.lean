/-
  The calls of the law WalRoom, as contracts over letters.
-/
import Derived.Test.YtncbbejmibddcaaGreatDoorNV
import Derived.Test.YtncbbejmibddcaaGreatDoorNU
import Derived.Test.YtncbbejmibddcaaGreatDoorNX
namespace Go.Proofs.YtncbbejmibddcaaGreatDoor
open Go.RowKit Go.Maps

def M.plc (i : Nat) : Nat := if i < 10 then i else i + 24
theorem M.plc_inj {i j : Nat} (hi : i ≤ 16) (hj : j ≤ 16) (h : M.plc i = M.plc j) : i = j := by unfold M.plc at h; split at h <;> split at h <;> omega
theorem M.plc_ok {i : Nat} (hi : i ≤ 16) : M.guards 44 10 24 (M.plc i : Nat) = true ∧ (Lit.int .i64 (M.plc i : Nat)).wf = true ∧ M.plc i < 44 := by
  have : i < 17 := by omega
  revert this
  revert i
  decide
/-- So many sectors of noughts are staged at the first places. -/
structure M.Vok (s : M.Wl) (r : M.W) (i n : Nat) : Prop where
  ok : M.WOk s r n
  act : s.act = true
  used : s.used = 0
  len : s.l.length = i
  keys : ∀ p ∈ s.l, ∃ j, j < i ∧ p.1 = (M.plc j : Nat)
theorem M.Vok.no {s : M.Wl} {r : M.W} {i n k : Nat} (h : M.Vok s r i n) (hi : i ≤ k) (hk : k ≤ 16) : M.has14 (M.plc k : Nat) s.l = false := by
  cases hh : M.has14 (M.plc k : Nat) s.l with
  | false => rfl
  | true =>
    obtain ⟨p, hp, hpi⟩ := List.any_eq_true.1 hh
    obtain ⟨j, hj, e⟩ := h.keys p hp
    have hpi : p.1 = (M.plc k : Nat) := by simpa using hpi
    have : M.plc j = M.plc k := by omega
    have := M.plc_inj (by omega) hk this
    omega
theorem M.Vok.find {s : M.Wl} {r : M.W} {i n k : Nat} (h : M.Vok s r i n) (hi : i ≤ k) (hk : k ≤ 16) : M.find ((M.plc k : Nat) : Int) s.l = none := by
  cases hf : M.find ((M.plc k : Nat) : Int) s.l with
  | none => rfl
  | some x =>
    obtain ⟨j, hj, e⟩ := h.keys _ (M.find_mem hf)
    have : M.plc j = M.plc k := by simp only at e; omega
    have := M.plc_inj (by omega) hk this
    omega
theorem M.Vok.stageE {s : M.Wl} {r : M.W} {i n k : Nat} (h : M.Vok s r i n) (hi : i ≤ k) (hk : k ≤ 16) : M.wlStageE 10 24 s (M.plc k : Nat) (M.zeros 64) = if i = 16 then 6 else 0 := by
  have hll := h.ok.ll
  have hl := h.len
  unfold M.wlStageE
  rw [if_neg (by rw [h.act]; decide), h.ok.len, (M.plc_ok hk).1, if_neg (by decide), if_neg (by rw [M.zeros_size]; decide), h.no hi hk, hl]
  by_cases h16 : i = 16
  · rw [if_pos ⟨by omega, rfl⟩, if_pos h16]
  · rw [if_neg (fun e => by omega), if_neg h16]
theorem M.Vok.stage {s : M.Wl} {r : M.W} {i n k : Nat} (h : M.Vok s r i n) (hr : M.Rising s.l) (hi : i = k) (hk : k < 16) : M.Vok (M.wlStage 10 24 s (M.plc k : Nat) (M.zeros 64)) r (i + 1) n := by
  have hE := h.stageE (Nat.le_of_eq hi) (by omega)
  rw [if_neg (by omega)] at hE
  have ok := h.ok.stage hr (M.plc k : Nat) (M.zeros 64)
  unfold M.wlStage at ok ⊢
  rw [if_pos hE] at ok ⊢
  refine ⟨ok, h.act, h.used, ?_, ?_⟩
  · show (M.ins ((M.plc k : Nat) : Int) (.string (M.zeros 64)) s.l).length = i + 1
    rw [M.length_ins _ _ hr, h.find (Nat.le_of_eq hi) (by omega), h.len]
    rfl
  · intro p hp
    rcases M.mem_ins hp with rfl | hp
    · exact ⟨k, by omega, rfl⟩
    · obtain ⟨j, hj, e⟩ := h.keys p hp
      exact ⟨j, by omega, e⟩

theorem Two14.rising {F : Nat → Prop} {y : World} {wb rb : Nat} {s : M.Wl} {r : M.W} (h : Two14 F y wb rb s r) : M.Rising s.l ∧ M.Rising s.k := by
  obtain ⟨P, h1, -, -⟩ := h.walS
  exact h1.rising
theorem Kept.low14 {N : Nat} {w y z : World} (hk : Kept (fun j => ¬ j < N) y z) (hb : Below N w y) (hN : N ≤ y.heap.size) : Below N w z := hb.trans (hk.below hN (fun _ h e => e h))

/-- The calls of WalRoom up to the last Commit, one behind the other. -/
theorem room_parts14 (w : World) : ∃ (S0 : World → Nat → Prop) (T V : Nat → World → Nat → Nat → Prop) (U1 U2 X : World → Nat → Nat → Prop),
    (∀ y, Below w.heap.size w y → Env10 y → Calls Tryz.prog 7 #[] y fun e z => ∃ a b, e = .returned (.tuple #[.pointer (some ⟨a, 0, none⟩), .pointer (some ⟨b, 0, none⟩), .bool true]) ∧ S0 z b) ∧
    (∀ y b, S0 y b → Calls Tryz.prog 8 #[.int .i64 44, .int .i64 10, .int .i64 24] y fun e z => ∃ r, e = .returned (.pointer (some ⟨r, 0, none⟩)) ∧ T 0 z b r) ∧
    (∀ n y b r (k : Int) at_ data, T n y b r → n ≤ 150 → (Lit.int .i64 at_).wf = true → Calls Tryz.prog 13 #[.pointer (some ⟨b, 0, none⟩), .pointer (some ⟨r, 0, none⟩), .agg #[.int .i64 k, .int .i64 at_, .string data]] y fun e z => (∃ v, e = .returned v) ∧ T (n + 1) z b r) ∧
    (∀ n y b r, T n y b r → Below w.heap.size w y) ∧
    (∀ n y b r, T n y b r → n ≤ 150 → Calls Tryz.prog 24 #[.pointer (some ⟨b, 0, none⟩)] y fun e z => e = .returned (.tuple #[]) ∧ U1 z b r) ∧
    (∀ y b r, U1 y b r → Calls Tryz.prog 25 #[.pointer (some ⟨b, 0, none⟩)] y fun e z => e = .returned (.int .i64 0) ∧ U2 z b r) ∧
    (∀ y b r, U2 y b r → Calls Tryz.prog 18 #[.pointer (some ⟨b, 0, none⟩)] y fun e z => e = .returned (.int .i64 22) ∧ U2 z b r) ∧
    (∀ y b r, U2 y b r → Calls Tryz.prog 26 #[.pointer (some ⟨b, 0, none⟩)] y fun e z => e = .returned (.int .i64 0) ∧ V 0 z b r) ∧
    (∀ i y z b r, V i y b r → Below y.heap.size y z → V i z b r) ∧
    (∀ i y b r, V i y b r → i < 16 → Calls Tryz.prog 27 #[.pointer (some ⟨b, 0, none⟩), .int .i64 (M.plc i : Nat), .string (M.zeros 64)] y fun e z => e = .returned (.int .i64 0) ∧ V (i + 1) z b r) ∧
    (∀ i y b r, V i y b r → i ≤ 16 → Calls Tryz.prog 27 #[.pointer (some ⟨b, 0, none⟩), .int .i64 (M.plc 16 : Nat), .string (M.zeros 64)] y fun e z => e = .returned (.int .i64 (if i = 16 then 6 else 0)) ∧ X z b r) ∧
    (∀ y b r, X y b r → Calls Tryz.prog 29 #[.pointer (some ⟨b, 0, none⟩)] y fun e z => e = .returned (.int .i64 0) ∧ Below w.heap.size w z) := by
  obtain ⟨N, hN⟩ : ∃ N, N = w.heap.size := ⟨_, rfl⟩
  rw [← hN]
  have hsz : ∀ y, Below N w y → N ≤ y.heap.size := fun y hb => by rw [hN]; exact hb.size
  refine ⟨fun y b => ∃ d, Wk14 N w y b (M.wl0 d) ∧ M.D44 d 200, fun n y b r => ∃ s q, Two14 (fun j => j < N) y b r s q ∧ M.WOk s q n ∧ Below N w y,
    fun i y b r => ∃ s q n, n ≤ 156 ∧ Two14 (fun j => j < N) y b r s q ∧ M.Vok s q i n ∧ Below N w y, fun y b r => ∃ s q n, n ≤ 155 ∧ Two14 (fun j => j < N) y b r s q ∧ M.WOk s q n ∧ Below N w y ∧ s.l = [] ∧ s.act = false,
    fun y b r => ∃ s q n, n ≤ 156 ∧ Two14 (fun j => j < N) y b r s q ∧ M.WOk s q n ∧ Below N w y ∧ s.l = [] ∧ s.act = false ∧ s.used = 0, fun y b r => ∃ s q n, n ≤ 156 ∧ Two14 (fun j => j < N) y b r s q ∧ M.WOk s q n ∧ Below N w y ∧ s.act = true ∧ s.used = 0, ?_, ?_, ?_, ?_, ?_, ?_, ?_, ?_, ?_, ?_, ?_, ?_⟩
  · intro y hb hE
    refine (begun14_any y hE).mono ?_
    rintro e z ⟨a, b, d, e1, e2, e3, e4⟩
    have := hsz y hb
    exact ⟨a, b, e1, d, ⟨e2.mono (fun j _ e => Nat.le_trans this e), hb.trans (e4.mono this), Nat.le_trans this e4.size⟩, e3⟩
  · rintro y b ⟨d, h1, h2⟩
    refine (rnew14 44 10 24 (by omega) (by omega) (by omega) y).mono ?_
    rintro e z ⟨r, e1, e2, e3⟩
    have hz := e3.size
    have hle := h1.le
    refine ⟨r, e1, M.wl0 d, M.wnew 44 10 24, ⟨fun j => N ≤ j ∧ j < y.heap.size, fun j => y.heap.size ≤ j ∧ j < z.heap.size, (h1.wal.mono (fun j hj e => ⟨e, hj⟩)).kept (Kept.of_below e3 (fun _ => False)) (fun _ _ => id), e2.mono (fun j hj e => ⟨e, hj⟩), fun j e e' => by omega, fun j e => ⟨by omega, by omega⟩, fun j e => ⟨by omega, by omega⟩, fun j e => by omega⟩, ?_, h1.below.trans (e3.mono hle)⟩
    exact ⟨h2.still, h2.len, by have := h2.ops; show d.ops ≤ _; omega, by simp [M.wl0], by simp [M.wl0], by simp [M.wl0], by simp [M.wl0], M.Secs14.nil, by simp [M.wl0], M.Secs14.nil, by simp [M.wl0], ⟨by simp [M.wnew], rfl, rfl, by show 0 + 2 ≤ 24; omega⟩⟩
  · rintro n y b r k at_ data ⟨s, q, h1, h2, h3⟩ hn hw
    refine (do14_any h1 h2 (by omega) k at_ data hw).mono ?_
    rintro e z ⟨hv, s', q', e1, e2, e3⟩
    exact ⟨hv, s', q', e1, e2, e3.low14 h3 (hsz y h3)⟩
  · rintro n y b r ⟨s, q, h1, h2, h3⟩
    exact h3
  · rintro n y b r ⟨s, q, h1, h2, h3⟩ hn
    refine (two_abort h1).mono ?_
    rintro e z ⟨e1, e2, e3⟩
    exact ⟨e1, _, q, n, by omega, e2, h2.abort, e3.low14 h3 (hsz y h3), rfl, rfl⟩
  · rintro y b r ⟨s, q, n, hn, h1, h2, h3, h4, h5⟩
    refine (two_check h1 h2 (by omega)).mono ?_
    rintro e z ⟨e1, d', e2, e3, e4⟩
    exact ⟨e1, _, q, n + 1, by omega, e2, e4, e3.low14 h3 (hsz y h3), h4, h5, rfl⟩
  · rintro y b r ⟨s, q, n, hn, h1, h2, h3, h4, h5, h6⟩
    refine (two_room h1 h2).mono ?_
    rintro e z ⟨e1, k, rfl⟩
    exact ⟨by rw [e1, h6]; rfl, s, q, n, hn, h1.drewN k, h2, below_drewN h3 k, h4, h5, h6⟩
  · rintro y b r ⟨s, q, n, hn, h1, h2, h3, h4, h5, h6⟩
    refine (two_begin h1).mono ?_
    rintro e z ⟨e1, e2, e3⟩
    rw [h5] at e1
    exact ⟨e1, _, q, n, hn, e2, ⟨h2.act true, rfl, h6, by show s.l.length = 0; rw [h4]; rfl, fun p hp => by rw [show ({ s with act := true } : M.Wl).l = [] from h4] at hp; cases hp⟩, e3.low14 h3 (hsz y h3)⟩
  · rintro i y z b r ⟨s, q, n, hn, h1, h2, h3⟩ hb
    exact ⟨s, q, n, hn, (h1.beside hb).less (fun j e => Or.inl e), h2, h3.trans (hb.mono (hsz y h3))⟩
  · rintro i y b r ⟨s, q, n, hn, h1, h2, h3⟩ hi
    refine (two_stage h1 h2.ok (M.plc i : Nat) (M.zeros 64) (M.plc_ok (by omega)).2.1).mono ?_
    rintro e z ⟨e1, e2, e3, e4⟩
    rw [h2.stageE (Nat.le_refl _) (by omega), if_neg (by omega)] at e1
    exact ⟨e1, _, q, n, hn, e2, h2.stage h1.rising.1 rfl hi, e3.low14 h3 (hsz y h3)⟩
  · rintro i y b r ⟨s, q, n, hn, h1, h2, h3⟩ hi
    refine (two_stage h1 h2.ok (M.plc 16 : Nat) (M.zeros 64) (M.plc_ok (by omega)).2.1).mono ?_
    rintro e z ⟨e1, e2, e3, e4⟩
    rw [h2.stageE hi (by omega)] at e1
    refine ⟨e1, _, q, n, hn, e2, e4, e3.low14 h3 (hsz y h3), ?_, ?_⟩
    · unfold M.wlStage; split
      · exact h2.act
      · exact h2.act
    · unfold M.wlStage; split
      · exact h2.used
      · exact h2.used
  · rintro y b r ⟨s, q, n, hn, h1, h2, h3, h4, h5⟩
    refine (two_commit h1 h2 (by omega)).mono ?_
    rintro e z ⟨lp, e1, e2, e3, e4, e5⟩
    have hl : lp.length ≤ 16 := by have := h2.ll; rw [e1, M.vs14_len] at this; exact this
    have hE : M.wlCommitE 24 s lp = 0 := by
      unfold M.wlCommitE
      rw [if_neg (by rw [h4]; decide), h5]
      split
      · rfl
      · rw [if_pos (by omega)]
    rw [hE] at e2
    exact ⟨e2, e4.low14 h3 (hsz y h3)⟩

theorem newdisk14 (y : World) : Calls Tryz.prog 31 #[.int .i64 44] y fun e z => ∃ a, e = .returned (.pointer (some ⟨a, 0, none⟩)) ∧ Disk z a (fun k => y.heap.size ≤ k) (M.new 44) ∧ Below y.heap.size y z := by
  refine (knew 44 y y (Below.refl _ y)).mono ?_
  rintro e z ⟨a, e1, h⟩
  rw [show M.held 44 = 44 by decide] at h
  exact ⟨a, e1, h.disk, h.below⟩
/-- May such a log be? -/
def M.mayF (p z : Int) : Bool := decide (24 ≤ z) && (decide (z ≤ 200) && (decide (0 ≤ p) && (decide (p ≤ 44) && decide (z ≤ 44 - p))))
theorem format14_any (p z : Int) (y : World) {a B : Nat} (hp : p ≤ 9223372036854775807) (hB : B ≤ y.heap.size) (hd : Disk y a (fun k => B ≤ k) (M.new 44)) :
    Calls Tryz.prog 30 #[.pointer (some ⟨a, 0, none⟩), .int .i64 p, .int .i64 z] y fun e x => e = .returned (.int .i64 (if M.mayF p z = true then 0 else 3)) ∧ Below B y x := by
  have h0 : (M.new 44).S.length = 44 := by simp [M.new]
  by_cases hm : M.mayF p z = true
  · rw [if_pos hm]
    unfold M.mayF at hm
    simp only [Bool.and_eq_true, decide_eq_true_eq] at hm
    obtain ⟨h1, h2, h3, h4, h5⟩ := hm
    obtain ⟨fr, rfl⟩ := Int.eq_ofNat_of_zero_le h3
    obtain ⟨mn, rfl⟩ := Int.eq_ofNat_of_zero_le (show 0 ≤ z by omega)
    obtain ⟨d1, d2, d3, d4, hF⟩ := M.fm14 (d := M.new 44) (fr := fr) (mn := mn) ⟨M.calm_new 44, by rw [h0]; omega, by omega⟩ rfl (by omega)
    refine (format_ok fr mn y hd (by omega) (by omega) (by rw [h0]; omega) hF (by show 0 ≤ _; omega)).mono ?_
    rintro e x ⟨e1, e2, e3⟩
    exact ⟨e1, e3.below hB (fun k hk e => by omega)⟩
  · rw [if_neg hm]
    have hno : z < 24 ∨ 200 < z ∨ M.within p z ((M.new 44).S.length : Nat) = false := by
      by_cases h1 : z < 24
      · exact Or.inl h1
      by_cases h2 : 200 < z
      · exact Or.inr (Or.inl h2)
      refine Or.inr (Or.inr ?_)
      rw [h0]
      unfold M.mayF at hm
      rw [decide_eq_true (show 24 ≤ z by omega), decide_eq_true (show z ≤ 200 by omega)] at hm
      unfold M.within
      by_cases h3 : 0 ≤ p
      · rw [decide_eq_true h3] at hm
        simp at hm
        simp
        omega
      · simp [h3]
    refine (format_no p z y hd hp hno).mono ?_
    rintro e x ⟨e1, e2⟩
    exact ⟨e1, e2.mono hB⟩
theorem openblank14 (y0 y : World) {a : Nat} (hE : Env10 y0) (hb : Below y0.heap.size y0 y) (hd : Disk y a (fun k => y0.heap.size ≤ k) (M.new 44)) :
    Calls Tryz.prog 11 #[.pointer (some ⟨a, 0, none⟩), .int .i64 10, .int .i64 24] y fun e x => e = .returned (.tuple #[.pointer none, .int .i64 32]) ∧ Below y0.heap.size y0 x := by
  have h1 : M.seen (M.new 44).S (M.new 44).L 10 = M.zeros 64 := M.seen_new 44 10 (by omega)
  have h2 : M.seen (M.new 44).S (M.new 44).L (10 + 1) = M.zeros 64 := M.seen_new 44 11 (by omega)
  have hd' : Disk y a (fun k => y0.heap.size ≤ k ∧ k < y.heap.size) (M.new 44) := hd.mono (fun k hk e => ⟨e, hk⟩)
  refine (open_no 10 24 y hd' M.still_new (hE.below hb) (fun e => by have := hE.lt; omega) (fun k e => e.2) (by omega) (by omega) (by omega) (by show 0 ≤ _; omega) (by rw [h1, h2]; exact M.hnewer_none)).mono ?_
  rintro e x ⟨e1, e2⟩
  exact ⟨e1, hb.trans (e2.below hb.size (fun k hk e => by omega))⟩
end Go.Proofs.YtncbbejmibddcaaGreatDoor
