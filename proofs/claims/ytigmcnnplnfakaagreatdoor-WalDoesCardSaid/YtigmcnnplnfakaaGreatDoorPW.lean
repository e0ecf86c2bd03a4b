/-
  What the law's log and the document's keep, call by call, whatever calls of the disk fail: mathematics.
-/
import Derived.Test.YtigmcnnplnfakaaGreatDoorPK
import Derived.Test.YtigmcnnplnfakaaGreatDoorPV
import Derived.Test.YtigmcnnplnfakaaGreatDoorNH
namespace Go.Proofs.YtigmcnnplnfakaaGreatDoor
open Go.RowKit Go.Maps

/-- Sectors over places that transactions may have. -/
def M.Secs14 (L : List (Int × Value)) : Prop := ∀ p ∈ L, ∃ (k : Nat) (t : ByteArray), p = ((k : Int), .string t) ∧ M.gd k ∧ t.size = 64
theorem M.Secs14.nil : M.Secs14 [] := fun _ h => by cases h
theorem M.Secs14.list : ∀ {L : List (Int × Value)}, M.Secs14 L → ∃ lp, L = M.vs14 lp ∧ lp.length = L.length ∧ ∀ p ∈ lp, M.gd p.1 ∧ p.2.size = 64
  | [], _ => ⟨[], rfl, rfl, fun _ h => by cases h⟩
  | p :: L, h => by
    obtain ⟨lp, h1, h2, h3⟩ := M.Secs14.list (L := L) (fun q hq => h q (List.mem_cons_of_mem _ hq))
    obtain ⟨k, t, e1, e2, e3⟩ := h p (List.mem_cons_self ..)
    refine ⟨(k, t) :: lp, by rw [e1, h1]; rfl, by simp [h2], fun q hq => ?_⟩
    rcases List.mem_cons.1 hq with rfl | hq
    · exact ⟨e2, e3⟩
    · exact h3 q hq
theorem M.Secs14.ins {L : List (Int × Value)} {k : Nat} {t : ByteArray} (h : M.Secs14 L) (hk : M.gd k) (ht : t.size = 64) : M.Secs14 (M.ins (k : Int) (.string t) L) := by
  intro p hp
  rcases M.mem_ins hp with rfl | hp
  · exact ⟨k, t, rfl, hk, ht⟩
  · exact h p hp
theorem M.Secs14.puts : ∀ {L K : List (Int × Value)}, M.Secs14 L → M.Secs14 K → M.Secs14 (M.puts L K)
  | [], _, _, h => h
  | p :: L, K, hL, hK => by
    obtain ⟨k, t, e1, e2, e3⟩ := hL p (List.mem_cons_self ..)
    show M.Secs14 (M.puts L (M.ins p.1 p.2 K))
    refine M.Secs14.puts (fun q hq => hL q (List.mem_cons_of_mem _ hq)) ?_
    rw [e1]
    exact hK.ins e2 e3
theorem M.gd44 {k : Nat} (h : M.gd k) : k < 44 := by unfold M.gd at h; omega

theorem M.rE14 {lp : List (Nat × ByteArray)} {q : Nat} (h1 : 1 ≤ lp.length) (h16 : lp.length ≤ 16) (hq : q < 281474976710656) (hr : M.Rising (M.vs14 lp)) (hl : ∀ p ∈ lp, M.gd p.1 ∧ p.2.size = 64) : M.rE (M.aF lp) (M.tF lp) (q : Nat) lp.length = 0 := by
  have hat : ∀ i, i < lp.length → ∃ p, lp[i]? = some p ∧ p ∈ lp := fun i hi => ⟨lp[i]'hi, List.getElem?_eq_getElem _, List.getElem_mem hi⟩
  have hlt : ∀ k i, k < i → i < lp.length → M.aF lp k < M.aF lp i := by
    intro k i hki hi
    have e := List.pairwise_iff_getElem.1 hr k i (by rw [M.vs14_len]; omega) (by rw [M.vs14_len]; exact hi) hki
    rw [M.vs14_at, M.vs14_at] at e
    obtain ⟨f1, _⟩ := M.aF_at (List.getElem?_eq_getElem (show k < lp.length by omega))
    obtain ⟨f2, _⟩ := M.aF_at (List.getElem?_eq_getElem hi)
    rw [f1, f2]
    exact e
  have hsec : ∀ i, i < lp.length → M.secE (M.aF lp) (M.tF lp) i = 0 := by
    intro i hi
    obtain ⟨p, e, hp⟩ := hat i hi
    obtain ⟨f1, f2⟩ := M.aF_at e
    obtain ⟨g1, g2⟩ := hl p hp
    have g1 := M.gd44 g1
    have ht : M.twice (M.aF lp) i = false := by
      cases hc : M.twice (M.aF lp) i with
      | false => rfl
      | true =>
        obtain ⟨k, hk, he⟩ := (M.twice_iff _ _).1 hc
        have := hlt k i hk hi
        omega
    unfold M.secE
    rw [if_neg (by rw [f1]; omega), if_neg (by rw [f2]; omega), if_neg (by rw [ht]; decide)]
  have hfirst : ∀ k, k ≤ lp.length → M.firstE (M.aF lp) (M.tF lp) k = 0 := by
    intro k
    induction k with
    | zero => intro _; rfl
    | succ k ih => intro hk; rw [M.firstE_next _ _ _ (ih (by omega)), hsec k (by omega)]
  unfold M.rE M.chk
  rw [if_neg (by omega), if_neg (by omega), if_neg (by omega)]
  exact hfirst _ (Nat.le_refl _)
theorem M.rising_few : ∀ (L : List (Int × Value)) (lo hi : Int), M.Rising L → (∀ p ∈ L, lo ≤ p.1 ∧ p.1 < hi) → L.length ≤ (hi - lo).toNat
  | [], _, _, _, _ => Nat.zero_le _
  | p :: L, lo, hi, h, hb => by
    obtain ⟨h1, h2⟩ := List.pairwise_cons.1 h
    obtain ⟨b1, b2⟩ := hb p (List.mem_cons_self ..)
    have := M.rising_few L (p.1 + 1) hi h2 (fun q hq => ⟨by have := h1 q hq; omega, (hb q (List.mem_cons_of_mem _ hq)).2⟩)
    rw [List.length_cons]
    omega
theorem M.Secs14.few {L : List (Int × Value)} (h : M.Secs14 L) (hr : M.Rising L) : L.length ≤ 44 := by
  refine M.rising_few L 0 44 hr (fun p hp => ?_)
  obtain ⟨k, t, e, hk, _⟩ := h p hp
  have := M.gd44 hk
  rw [e]
  exact ⟨by show (0 : Int) ≤ (k : Int); omega, by show (k : Int) < 44; omega⟩

/-- The disk as the log has it, within a budget. -/
structure M.LS (d : M.D) (T : Nat → ByteArray) (b : Nat) : Prop where
  ok : M.Ok14 d
  ops : d.ops + 1000 * d.fails.length ≤ b
  lg : ∃ V g q p C, M.Sees d V ∧ M.Lg V T g q p C ∧ g + 2 * d.fails.length ≤ b ∧ q + C.length + 100 * d.fails.length ≤ b
/-- The wal alone, within a budget. -/
structure M.WS (s : M.Wl) (T : Nat → ByteArray) (b : Nat) : Prop where
  ok : M.Ok14 s.d
  ops : s.d.ops + 1000 * s.d.fails.length ≤ b
  gen : s.gen + 2 * s.d.fails.length ≤ b
  seq : s.seq + 100 * s.d.fails.length ≤ b
  wv : ∃ V g q p C, M.Sees s.d V ∧ M.WV s V T g q p C
  loose : M.Secs14 s.l
  ll : s.l.length ≤ 16
  kept : M.Secs14 s.k
section
variable {s : M.Wl} {T : Nat → ByteArray} {b : Nat}
theorem M.WS.more (h : M.WS s T b) {c : Nat} (hc : b ≤ c) : M.WS s T c := ⟨h.ok, Nat.le_trans h.ops hc, Nat.le_trans h.gen hc, Nat.le_trans h.seq hc, h.wv, h.loose, h.ll, h.kept⟩
theorem M.WS.disk (h : M.WS s T b) : M.LS s.d T (b + 2) := by
  obtain ⟨V, g, q, p, C, h1, h2⟩ := h.wv
  refine ⟨h.ok, by have := h.ops; omega, V, g, q, p, C, h1, h2.lg, ?_, by rw [h2.seq]; have := h.seq; omega⟩
  have h3 := h2.gen
  have h4 := h.gen
  rcases h3 with e | e <;> rw [e] <;> omega
theorem M.WS.pl (h : M.WS s T b) : s.pl < 22 := let ⟨_, _, _, _, _, _, h2⟩ := h.wv; h2.place
theorem M.WS.used (h : M.WS s T b) : s.used ≤ 22 := let ⟨_, _, _, _, _, _, h2⟩ := h.wv; h2.used.2
/-- Only what is staged changes. -/
theorem M.WS.stg (h : M.WS s T b) (x : Bool) {L : List (Int × Value)} (hL : M.Secs14 L) (hl : L.length ≤ 16) : M.WS { s with act := x, l := L } T b :=
  ⟨h.ok, h.ops, h.gen, h.seq, let ⟨V, g, q, p, C, h1, h2⟩ := h.wv; ⟨V, g, q, p, C, h1, h2.same rfl rfl rfl rfl rfl⟩, hL, hl, h.kept⟩
theorem M.WS.act (h : M.WS s T b) (x : Bool) : M.WS { s with act := x } T b := h.stg x h.loose h.ll
theorem M.WS.abort (h : M.WS s T b) : M.WS { s with act := false, l := [] } T b := h.stg false M.Secs14.nil (by simp)
theorem M.WS.uns (h : M.WS s T b) (x : Bool) : M.WS { s with uns := x } T b :=
  ⟨h.ok, h.ops, h.gen, h.seq, let ⟨V, g, q, p, C, h1, h2⟩ := h.wv; ⟨V, g, q, p, C, h1, h2.same rfl rfl rfl rfl rfl⟩, h.loose, h.ll, h.kept⟩
/-- The disk did something that is not seen. -/
theorem M.WS.still (h : M.WS s T b) {d' : M.D} {n : Nat} (hw : M.Was s.d d' n) (hs : ∀ V, M.Sees s.d V → M.Sees d' V) : M.WS { s with d := d' } T (b + n) := by
  have h1 := hw.fl
  have h2 := hw.ops
  have h3 := h.ops
  have h4 := h.gen
  have h5 := h.seq
  refine ⟨hw.ok, ?_, ?_, ?_, let ⟨V, g, q, p, C, h1, h2⟩ := h.wv; ⟨V, g, q, p, C, hs V h1, h2.same rfl rfl rfl rfl rfl⟩, h.loose, h.ll, h.kept⟩
  · show d'.ops + 1000 * d'.fails.length ≤ _; omega
  · show s.gen + 2 * d'.fails.length ≤ _; omega
  · show s.seq + 100 * d'.fails.length ≤ _; omega
theorem M.WS.flush (h : M.WS s T b) : M.WS { s with d := M.flushD s.d, uns := if M.beginE s.d = 0 then false else s.uns } T (b + 1) ∧ (M.beginE s.d = 0 ∨ M.beginE s.d = 30) := by
  obtain ⟨V, g, q, p, C, h1, h2⟩ := h.wv
  have hf := h.ok.flush h1
  refine ⟨(h.still hf.1 (fun W hW => ?_)).uns _, hf.2.imp (fun e => e.1) (fun e => e.1)⟩
  have hf2 := h.ok.flush hW
  exact hf2.2.elim (fun e => e.2) (fun e => e.2.2)
theorem M.WS.flushF (h : M.WS s T b) : (M.flushD s.d).fails.length ≤ s.d.fails.length ∧ (M.beginE s.d = 30 → (M.flushD s.d).fails.length < s.d.fails.length) := by
  obtain ⟨V, g, q, p, C, h1, h2⟩ := h.wv
  have hf := h.ok.flush h1
  exact ⟨hf.1.fl, fun e => hf.2.elim (fun x => by rw [x.1] at e; exact absurd e (by decide)) (fun x => x.2.1)⟩
/-- It stands on this disk, with so few failures before it; nothing is staged where nothing is begun. -/
def M.Wl.on (s : M.Wl) (a : Nat × Nat) : Prop := s.dk = a.1 ∧ s.d.fails.length ≤ a.2 ∧ (s.act = false → s.l = [])
theorem M.Wl.on.to {s s' : M.Wl} {a : Nat × Nat} (h : s.on a) (h1 : s'.dk = s.dk) (h2 : s'.d.fails.length ≤ s.d.fails.length) (h3 : s'.act = false → s'.l = []) : s'.on a := ⟨h1.trans h.1, Nat.le_trans h2 h.2.1, h3⟩
theorem M.Wl.on.stage {s : M.Wl} {a : Nat × Nat} (h : s.on a) (i : Int) (t : ByteArray) : (M.wlStage 10 24 s i t).on a := by
  unfold M.wlStage
  split
  · rename_i hE
    refine ⟨h.1, h.2.1, fun ha => ?_⟩
    unfold M.wlStageE at hE
    rw [if_pos (show s.act = false from ha)] at hE
    exact absurd hE (by decide)
  · exact h
theorem M.WS.read (h : M.WS s T b) : M.WS { s with d := M.beginD s.d } T (b + 1) := h.still h.ok.begin (fun _ hW => hW)

/-- What Commit leaves. -/
theorem M.WS.commit (h : M.WS s T b) {lp : List (Nat × ByteArray)} (hl : s.l = M.vs14 lp) (hfit : ∀ p ∈ lp, M.gd p.1 ∧ p.2.size = 64) (hr : lp.length ≠ 0 → M.rE (M.aF lp) (M.tF lp) ((s.seq : Nat) : Int) lp.length = 0) :
    (s.act = false ∧ M.wlCommitE 10 24 s lp = 10 ∧ M.wlCommit 10 24 s lp = s) ∨
    (s.act = true ∧ lp.length = 0 ∧ M.wlCommitE 10 24 s lp = 0 ∧ M.wlCommit 10 24 s lp = { s with act := false }) ∨
    (s.act = true ∧ lp.length ≠ 0 ∧ 22 < s.used + lp.length + 1 ∧ M.wlCommitE 10 24 s lp = 6 ∧ M.wlCommit 10 24 s lp = s) ∨
    (s.act = true ∧ lp.length ≠ 0 ∧ s.used + lp.length + 1 ≤ 22 ∧ M.wlCommitE 10 24 s lp = 30 ∧ ∃ d', M.wlCommit 10 24 s lp = { s with d := d' } ∧ M.WS { s with d := d' } T (b + 100) ∧ d'.fails.length < s.d.fails.length) ∨
    (s.act = true ∧ lp.length ≠ 0 ∧ s.used + lp.length + 1 ≤ 22 ∧ M.wlCommitE 10 24 s lp = 0 ∧ ∃ s', M.wlCommit 10 24 s lp = s' ∧ M.WS s' (M.upd T lp) (b + 100) ∧ s'.act = false ∧ s'.l = [] ∧ s'.used = s.used + lp.length + 1 ∧ s'.uns = true ∧ s'.dk = s.dk ∧ s'.k = M.puts s.l s.k ∧ s'.d.fails.length ≤ s.d.fails.length) := by
  unfold M.wlCommitE M.wlCommit
  cases ha : s.act with
  | false => exact Or.inl ⟨rfl, by rw [if_pos rfl], by rw [if_pos rfl]⟩
  | true =>
    right
    rw [if_neg (show ¬ (true = false) by decide), if_neg (show ¬ (true = false) by decide)]
    by_cases h0 : lp.length = 0
    · exact Or.inl ⟨rfl, h0, by rw [if_pos h0], by rw [if_pos h0]⟩
    · right
      rw [if_neg h0, if_neg h0]
      by_cases hroom : s.used + lp.length + 1 ≤ 22
      · right
        have eE : M.prE 10 24 s lp = (M.prR 10 24 s lp).1 := by unfold M.prE; rw [if_pos (by omega)]
        have eW : M.prW 10 24 s lp = if (M.prR 10 24 s lp).1 = 0 then M.wlPut 10 24 s lp else { s with d := (M.prR 10 24 s lp).2 } := by unfold M.prW; rw [if_pos (by omega)]
        rw [eE, eW]
        obtain ⟨V, g, q, p, C, h1, h2⟩ := h.wv
        obtain ⟨V', hsp, hput⟩ := h2.put lp (hr h0) hfit hroom hl (left := ((24 - 2 : Nat) : Int) - ((s.used : Nat) : Int) - (1 + ((lp.length : Nat) : Int))) (by omega)
        obtain ⟨hw, hcase⟩ := hsp s.d h.ok h1
        have hRd : M.prR 10 24 s lp = M.steps14 (M.pbF 12 22 s.pl ((M.recW s lp).extract 0 64) (M.pbO (M.recW s lp) (((24 - 2 : Nat) : Int) - ((s.used : Nat) : Int) - (1 + ((lp.length : Nat) : Int))))) s.d := rfl
        rw [← hRd] at hw hcase
        obtain ⟨R, hR⟩ : ∃ R, R = M.prR 10 24 s lp := ⟨_, rfl⟩
        have g1 := hw.fl
        have g2 := hw.ops
        have g3 := h.ops
        have g4 := h.gen
        have g5 := h.seq
        rw [← hR] at hw hcase g1 g2 ⊢
        rcases hcase with ⟨e, hs⟩ | ⟨e, hf, U, hU, hG⟩
        · right
          refine ⟨rfl, h0, hroom, by rw [e], _, rfl, ?_, ?_⟩
          · rw [if_pos e, if_pos e]
            refine ⟨by show M.Ok14 (M.prR 10 24 s lp).2; rw [← hR]; exact hw.ok, ?_, ?_, ?_, ⟨V', g, q, p, C ++ [lp], by show M.Sees (M.prR 10 24 s lp).2 V'; rw [← hR]; exact hs, hput _ rfl rfl rfl rfl rfl⟩, M.Secs14.nil, by simp [M.wlPut], h.loose.puts h.kept⟩
            · show (M.prR 10 24 s lp).2.ops + 1000 * (M.prR 10 24 s lp).2.fails.length ≤ _; rw [← hR]; omega
            · show s.gen + 2 * (M.prR 10 24 s lp).2.fails.length ≤ _; rw [← hR]; omega
            · show s.seq + 1 + 100 * (M.prR 10 24 s lp).2.fails.length ≤ _; rw [← hR]; omega
          · rw [if_pos e, if_pos e]
            exact ⟨rfl, rfl, by show s.used + (lp.length + 1) = _; omega, rfl, rfl, rfl, by show (M.prR 10 24 s lp).2.fails.length ≤ _; rw [← hR]; exact g1⟩
        · left
          refine ⟨rfl, h0, hroom, e, R.2, by rw [if_neg (by rw [e]; decide), if_neg (by rw [e]; decide), ← ha], ⟨hw.ok, ?_, ?_, ?_, ⟨U, g, q, p, C, hU, hG.same rfl rfl rfl rfl rfl⟩, h.loose, h.ll, h.kept⟩, hf⟩
          · show R.2.ops + 1000 * R.2.fails.length ≤ _; omega
          · show s.gen + 2 * R.2.fails.length ≤ _; omega
          · show s.seq + 100 * R.2.fails.length ≤ _; omega
      · left
        have eE : M.prE 10 24 s lp = 6 := by unfold M.prE; rw [if_neg (by omega)]
        have eW : M.prW 10 24 s lp = s := by unfold M.prW; rw [if_neg (by omega)]
        exact ⟨rfl, h0, by omega, by rw [eE], by rw [eE, if_neg (by decide), eW]⟩

/-- What Checkpoint leaves. -/
theorem M.WS.check (h : M.WS s T b) (hb : b ≤ 500000) (hup : M.Rising s.k) {lk : List (Nat × ByteArray)} (hlk : s.k = M.vs14 lk) (hfit : ∀ x ∈ lk, M.gd x.1 ∧ x.2.size = 64) {R : Int × M.D} (hR : M.steps14 (M.mvF lk 10 24 (s.gen + 1) s.seq s.pl) s.d = R) :
    (R.1 = 0 ∧ M.WS ⟨s.gen + 1, s.seq, s.pl, 0, s.act, false, R.2, s.l, [], s.dk⟩ T (b + 100) ∧ R.2.fails.length ≤ s.d.fails.length) ∨ (R.1 = 30 ∧ M.WS { s with d := R.2 } T (b + 100) ∧ R.2.fails.length < s.d.fails.length) := by
  obtain ⟨V, g, q, p, C, h1, h2⟩ := h.wv
  have g3 := h.ops
  have g4 := h.gen
  have g5 := h.seq
  have hlen : lk.length ≤ 44 := by have := h.kept.few hup; rwa [hlk, M.vs14_len] at this
  obtain ⟨V', hsp, hck⟩ := h2.check lk hlk hup hfit (by omega) (by omega)
  obtain ⟨hw, hcase⟩ := hsp s.d h.ok h1
  rw [hR] at hw hcase
  have g1 := hw.fl
  have g2 := hw.ops
  rcases hcase with ⟨e, hs⟩ | ⟨e, hf, U, hU, g', q', p', C', hG⟩
  · refine Or.inl ⟨e, ⟨hw.ok, ?_, ?_, ?_, ⟨V', _, _, _, _, hs, hck _ rfl rfl rfl rfl rfl⟩, h.loose, h.ll, M.Secs14.nil⟩, g1⟩
    · show R.2.ops + 1000 * R.2.fails.length ≤ _; omega
    · show s.gen + 1 + 2 * R.2.fails.length ≤ _; omega
    · show s.seq + 100 * R.2.fails.length ≤ _; omega
  · refine Or.inr ⟨e, ⟨hw.ok, ?_, ?_, ?_, ⟨U, g', q', p', C', hU, hG.same rfl rfl rfl rfl rfl⟩, h.loose, h.ll, h.kept⟩, hf⟩
    · show R.2.ops + 1000 * R.2.fails.length ≤ _; omega
    · show s.gen + 2 * R.2.fails.length ≤ _; omega
    · show s.seq + 100 * R.2.fails.length ≤ _; omega
end

/-- The document's log is as the program's. -/
structure M.WM (s : M.Wl) (r : M.W) (T : Nat → ByteArray) : Prop where
  fit : M.WFit r 44 10 24
  seen : ∀ k, M.gd k → r.seen.getD k ByteArray.empty = T k
  same : ∀ k : Nat, M.find (k : Int) s.l = (M.sfind k r.staged).map Value.string
  len : s.l.length = r.staged.length
  nod : (r.staged.map Prod.fst).Nodup
  act : r.act = s.act
  used : r.used = s.used
  sure : r.sure = !s.uns
/-- Both. -/
def M.WOk (s : M.Wl) (r : M.W) (b : Nat) : Prop := ∃ T, M.WS s T b ∧ M.WM s r T
section
variable {s : M.Wl} {r : M.W} {T : Nat → ByteArray} {b : Nat}
theorem M.sfind_none : ∀ {L : List (Nat × ByteArray)} {k : Nat}, k ∉ L.map Prod.fst → M.sfind k L = none
  | [], _, _ => rfl
  | p :: L, k, h => by
    have h1 : ¬ p.1 = k := fun e => h (by rw [← e]; exact List.mem_cons_self ..)
    rw [M.sfind, if_neg h1]
    exact M.sfind_none (fun hm => h (List.mem_cons_of_mem _ hm))
theorem M.seen0_nodup : ∀ {L : List (Nat × ByteArray)}, (L.map Prod.fst).Nodup → ∀ k, M.seen0 L k = M.sfind k L
  | [], _, _ => rfl
  | p :: L, h, k => by
    rw [List.map_cons, List.nodup_cons] at h
    rw [M.seen0_cons, M.seen0_nodup h.2 k, M.sfind]
    by_cases e : p.1 = k
    · rw [if_pos e, if_pos e, M.sfind_none (by rw [← e]; exact h.1)]
      rfl
    · rw [if_neg e, if_neg e]
      cases M.sfind k L <;> rfl
theorem M.find_vs (k : Nat) : ∀ L : List (Nat × ByteArray), M.find (k : Int) (M.vs14 L) = (M.sfind k L).map Value.string
  | [] => rfl
  | p :: L => by
    show (if (p.1 : Int) = (k : Int) then some (Value.string p.2) else M.find (k : Int) (M.vs14 L)) = _
    rw [M.sfind, M.find_vs k L]
    by_cases e : p.1 = k
    · rw [if_pos (by omega), if_pos e]; rfl
    · rw [if_neg (by omega), if_neg e]
theorem M.nodup_vs {L : List (Nat × ByteArray)} (h : M.Rising (M.vs14 L)) : (L.map Prod.fst).Nodup := by
  unfold M.Rising M.vs14 at h
  rw [List.pairwise_map] at h
  unfold List.Nodup
  rw [List.pairwise_map]
  exact h.imp (fun hab e => by simp only at hab; omega)
theorem M.wlay_at : ∀ (L : List (Nat × ByteArray)) (S : List ByteArray) (k : Nat), (∀ p ∈ L, p.1 < S.length) → (M.wlay S L).getD k ByteArray.empty = (M.seen0 L k).getD (S.getD k ByteArray.empty)
  | [], _, _, _ => rfl
  | p :: L, S, k, h => by
    show (M.wlay (S.set p.1 p.2) L).getD k ByteArray.empty = _
    rw [M.wlay_at L (S.set p.1 p.2) k (fun x hx => by rw [List.length_set]; exact h x (List.mem_cons_of_mem _ hx)), M.seen0_cons]
    have h1 := h p (List.mem_cons_self ..)
    by_cases e : p.1 = k
    · rw [if_pos e, List.getD_eq_getElem?_getD, ← e, List.getElem?_set_self h1]
      cases M.seen0 L p.1 <;> rfl
    · rw [if_neg e, List.getD_eq_getElem?_getD, List.getElem?_set_ne e, ← List.getD_eq_getElem?_getD]
      cases M.seen0 L k <;> rfl
theorem M.sput_find (k : Nat) (t : ByteArray) (j : Nat) : ∀ L : List (Nat × ByteArray), M.sfind j (M.sput k t L) = if k = j then some t else M.sfind j L
  | [] => by
    show (if k = j then some t else none) = _
    split <;> rfl
  | p :: L => by
    unfold M.sput
    split
    · rename_i e
      show (if k = j then some t else M.sfind j L) = if k = j then some t else (if p.1 = j then some p.2 else M.sfind j L)
      split
      · rfl
      · rw [if_neg (by omega)]
    · rename_i e
      show (if p.1 = j then some p.2 else M.sfind j (M.sput k t L)) = if k = j then some t else (if p.1 = j then some p.2 else M.sfind j L)
      rw [M.sput_find k t j L]
      by_cases e1 : p.1 = j
      · rw [if_pos e1, if_neg (by omega), if_pos e1]
      · rw [if_neg e1, if_neg e1]
theorem M.sput_keys (k : Nat) (t : ByteArray) : ∀ L : List (Nat × ByteArray), ∀ x ∈ (M.sput k t L).map Prod.fst, x = k ∨ x ∈ L.map Prod.fst
  | [], x, hx => by
    simp [M.sput] at hx
    exact Or.inl hx
  | p :: L, x, hx => by
    unfold M.sput at hx
    split at hx
    · rw [List.map_cons] at hx
      rcases List.mem_cons.1 hx with e | e
      · exact Or.inl e
      · exact Or.inr (List.mem_cons_of_mem _ e)
    · rw [List.map_cons] at hx
      rcases List.mem_cons.1 hx with e | e
      · exact Or.inr (by rw [e]; exact List.mem_cons_self ..)
      · exact (M.sput_keys k t L x e).imp id (List.mem_cons_of_mem _)
theorem M.sput_nodup (k : Nat) (t : ByteArray) : ∀ {L : List (Nat × ByteArray)}, (L.map Prod.fst).Nodup → ((M.sput k t L).map Prod.fst).Nodup
  | [], _ => by simp [M.sput]
  | p :: L, h => by
    rw [List.map_cons, List.nodup_cons] at h
    unfold M.sput
    split
    · rename_i e
      rw [List.map_cons, List.nodup_cons]
      exact ⟨by rw [← e]; exact h.1, h.2⟩
    · rename_i e
      rw [List.map_cons, List.nodup_cons]
      refine ⟨fun hm => ?_, M.sput_nodup k t h.2⟩
      rcases M.sput_keys k t L p.1 hm with e1 | e1
      · exact e e1
      · exact h.1 e1

theorem M.has_find : ∀ (i : Int) (L : List (Int × Value)), M.has14 i L = (M.find i L).isSome
  | _, [] => rfl
  | i, p :: L => by
    show (p.1 == i || M.has14 i L) = _
    rw [M.has_find i L, M.find]
    by_cases e : p.1 = i
    · rw [if_pos e, beq_iff_eq.2 e]; rfl
    · rw [if_neg e, beq_eq_false_iff_ne.2 e]; rfl
/-- Stage, by both. -/
theorem M.WS.stage (h : M.WS s T b) (hr : M.Rising s.l) (hm : M.WM s r T) (i : Int) (t : ByteArray) : M.WS (M.wlStage 10 24 s i t) T b ∧ M.WM (M.wlStage 10 24 s i t) (M.wstage r i t) T ∧ M.wlStageE 10 24 s i t = M.wstageE r i t := by
  have hgu : M.guards s.d.S.length 10 24 i = true ↔ (M.wHas r.seen.length i = true ∧ M.wown r i = false) := by
    rw [h.ok.len, hm.fit.seen]
    unfold M.guards M.wHas M.wown
    rw [hm.fit.fr, hm.fit.mn]
    simp
    omega
  have hE : M.wlStageE 10 24 s i t = M.wstageE r i t := by
    unfold M.wlStageE M.wstageE
    rw [hm.act]
    cases ha : s.act with
    | false => simp
    | true =>
      rw [if_neg (by decide), if_pos rfl]
      by_cases hg : M.guards s.d.S.length 10 24 i = true
      · rw [if_neg (by rw [hg]; decide), if_pos (hgu.1 hg)]
        by_cases ht : t.size = 64
        · rw [if_neg (fun e => e ht), if_pos ht]
          have hi : 0 ≤ i := by unfold M.guards at hg; simp at hg; exact hg.1
          have hf : M.has14 i s.l = (M.sfind i.toNat r.staged).isSome := by
            rw [M.has_find, show i = ((i.toNat : Nat) : Int) by omega, hm.same, Int.toNat_natCast]
            cases M.sfind i.toNat r.staged <;> rfl
          rw [hf, hm.len]
          by_cases hs : (M.sfind i.toNat r.staged).isSome = true
          · rw [if_neg (fun e => by rw [hs] at e; exact absurd e.2 (by decide)), if_pos hs]
          · rw [if_neg hs]
            by_cases h16 : 16 ≤ r.staged.length
            · rw [if_pos ⟨h16, by simpa using hs⟩, if_pos h16]
            · rw [if_neg (fun e => h16 e.1), if_neg h16]
        · rw [if_pos ht, if_neg ht]
      · rw [if_pos (by simpa using hg), if_neg (fun e => hg (hgu.2 e))]
  refine ⟨?_, ?_, hE⟩
  · unfold M.wlStage
    by_cases e : M.wlStageE 10 24 s i t = 0
    · rw [if_pos e]
      have e0 := e
      unfold M.wlStageE at e
      split at e
      · exact absurd e (by decide)
      · split at e
        · exact absurd e (by decide)
        · rename_i hg
          split at e
          · exact absurd e (by decide)
          · rename_i ht
            split at e
            · exact absurd e (by decide)
            · rename_i h16
              have hg' : M.guards s.d.S.length 10 24 i = true := by simpa using hg
              rw [h.ok.len] at hg'
              unfold M.guards at hg'
              simp at hg'
              have hgd : M.gd i.toNat := by unfold M.gd; omega
              have hin : M.Secs14 (M.ins i (.string t) s.l) := by
                rw [show i = ((i.toNat : Nat) : Int) by omega]
                exact h.loose.ins hgd (by omega)
              have hact : ({ s with l := M.ins i (.string t) s.l } : M.Wl) = { s with act := s.act, l := M.ins i (.string t) s.l } := rfl
              rw [hact]
              refine h.stg s.act hin ?_
              rw [M.length_ins i _ hr]
              have hll := h.ll
              split
              · omega
              · rename_i hf
                by_cases h15 : s.l.length = 16
                · exfalso
                  apply h16
                  refine ⟨by omega, ?_⟩
                  rw [M.has_find]
                  simpa using hf
                · omega
    · rw [if_neg e]
      exact h
  · unfold M.wlStage M.wstage
    rw [hE]
    by_cases e : M.wstageE r i t = 0
    · rw [if_pos e, if_pos e]
      have hi : 0 ≤ i := by
        unfold M.wstageE at e
        split at e
        · split at e
          · rename_i hh
            have := hh.1
            unfold M.wHas at this
            simp at this
            exact this.1
          · exact absurd e (by decide)
        · exact absurd e (by decide)
      refine ⟨⟨hm.fit.seen, hm.fit.fr, hm.fit.mn, hm.fit.room⟩, hm.seen, fun k => ?_, ?_, M.sput_nodup _ _ hm.nod, hm.act, hm.used, hm.sure⟩
      · show M.find (k : Int) (M.ins i (.string t) s.l) = (M.sfind k (M.sput i.toNat t r.staged)).map Value.string
        rw [M.sput_find]
        by_cases ek : i.toNat = k
        · rw [if_pos ek, show i = (k : Int) by omega, M.find_ins_same]; rfl
        · rw [if_neg ek, M.find_ins_other _ (by omega), hm.same]
      · show (M.ins i (.string t) s.l).length = (M.sput i.toNat t r.staged).length
        rw [M.length_ins i _ hr, M.sput_len, hm.len]
        have hs : (M.find i s.l).isSome = (M.sfind i.toNat r.staged).isSome := by
          rw [show i = ((i.toNat : Nat) : Int) by omega, hm.same, Int.toNat_natCast]
          cases M.sfind i.toNat r.staged <;> rfl
        rw [hs]
    · rw [if_neg e, if_neg e]
      exact hm
theorem M.WM.begin (h : M.WM s r T) : M.WM { s with act := true } (M.wbegin r) T := ⟨h.fit.begin, h.seen, h.same, h.len, h.nod, rfl, h.used, h.sure⟩
theorem M.WM.abort (h : M.WM s r T) : M.WM { s with act := false, l := [] } (M.wabort r) T := ⟨h.fit.abort, h.seen, fun _ => rfl, rfl, List.nodup_nil, rfl, h.used, h.sure⟩
theorem M.WM.disk (h : M.WM s r T) (d : M.D) : M.WM { s with d := d } r T := ⟨h.fit, h.seen, h.same, h.len, h.nod, h.act, h.used, h.sure⟩
/-- The document's Commit. -/
theorem M.WM.commit (h : M.WM s r T) {lp : List (Nat × ByteArray)} (hl : s.l = M.vs14 lp) (hup : M.Rising s.l) (hlies : ∀ p ∈ r.staged, p.1 < r.seen.length) :
    lp.length = r.staged.length ∧ M.wcommitE r = (if s.act = false then 10 else if lp.length = 0 then 0 else if s.used + lp.length + 1 ≤ 22 then 0 else 6) ∧
    (s.act = true → lp.length = 0 → M.WM { s with act := false } (M.wcommit r) T) ∧
    (M.wcommitE r ≠ 0 → M.wcommit r = r) ∧
    (s.act = true → lp.length ≠ 0 → s.used + lp.length + 1 ≤ 22 → ∀ s' : M.Wl, s'.act = false → s'.l = [] → s'.used = s.used + lp.length + 1 → s'.uns = true → M.WM s' (M.wcommit r) (M.upd T lp)) := by
  have hlen : lp.length = r.staged.length := by have := h.len; rwa [hl, M.vs14_len] at this
  have hE : M.wcommitE r = (if s.act = false then 10 else if lp.length = 0 then 0 else if s.used + lp.length + 1 ≤ 22 then 0 else 6) := by
    unfold M.wcommitE
    rw [h.act, h.used, h.fit.mn, ← hlen]
    cases s.act with
    | false => rfl
    | true =>
      rw [if_pos rfl, if_neg (show ¬ (true = false) by decide)]
      by_cases h0 : lp.length = 0
      · rw [if_neg (show ¬ (0 < lp.length ∧ ((24 : Nat) : Int) - 2 - ((s.used : Nat) : Int) < (lp.length : Int) + 1) by omega), if_pos h0]
      · rw [if_neg h0]
        by_cases h2 : s.used + lp.length + 1 ≤ 22
        · rw [if_neg (show ¬ (0 < lp.length ∧ ((24 : Nat) : Int) - 2 - ((s.used : Nat) : Int) < (lp.length : Int) + 1) by omega), if_pos h2]
        · rw [if_pos (show 0 < lp.length ∧ ((24 : Nat) : Int) - 2 - ((s.used : Nat) : Int) < (lp.length : Int) + 1 by omega), if_neg h2]
  have hsame : ∀ k, M.seen0 r.staged k = M.seen0 lp k := fun k => by
    have hup' : M.Rising (M.vs14 lp) := by rw [← hl]; exact hup
    rw [M.seen0_nodup h.nod, M.seen0_nodup (M.nodup_vs hup')]
    have e := h.same k
    rw [hl, M.find_vs] at e
    cases e1 : M.sfind k lp with
    | none =>
      cases e2 : M.sfind k r.staged with
      | none => rfl
      | some y => rw [e1, e2] at e; cases e
    | some x =>
      cases e2 : M.sfind k r.staged with
      | none => rw [e1, e2] at e; cases e
      | some y =>
        rw [e1, e2] at e
        have e' : some (Value.string x) = some (Value.string y) := e
        injection e' with e'
        injection e' with e'
        rw [e']
  refine ⟨hlen, hE, fun ha h0 => ?_, fun hne => ?_, fun ha h0 hroom s' g1 g2 g3 g4 => ?_⟩
  · have e0 : M.wcommitE r = 0 := by rw [hE, if_neg (show ¬ (s.act = false) by rw [ha]; decide), if_pos h0]
    have hst : r.staged = [] := List.eq_nil_of_length_eq_zero (by omega)
    have hsl : s.l = [] := List.eq_nil_of_length_eq_zero (by rw [h.len, hst]; rfl)
    unfold M.wcommit
    rw [if_pos e0]
    unfold M.wdone
    rw [hst]
    exact ⟨⟨h.fit.seen, h.fit.fr, h.fit.mn, h.fit.room⟩, h.seen, fun k => by show M.find (k : Int) s.l = _; rw [hsl]; rfl, by show s.l.length = 0; rw [hsl]; rfl, List.nodup_nil, rfl, h.used, h.sure⟩
  · unfold M.wcommit
    rw [if_neg hne]
  · have e0 : M.wcommitE r = 0 := by rw [hE, if_neg (show ¬ (s.act = false) by rw [ha]; decide), if_neg h0, if_pos hroom]
    have hf := h.fit.commit
    have hseen : ∀ k, M.gd k → (M.wcommit r).seen.getD k ByteArray.empty = M.upd T lp k := fun k hk => by
      unfold M.wcommit
      rw [if_pos e0]
      show (M.wlay r.seen r.staged).getD k ByteArray.empty = _
      rw [M.wlay_at _ _ _ hlies, hsame, h.seen k hk]
      rfl
    have hc : M.wcommit r = M.wdone r := by unfold M.wcommit; rw [if_pos e0]
    refine ⟨hf, hseen, ?_, ?_, ?_, ?_, ?_, ?_⟩
    · intro k; rw [g2, hc]; rfl
    · rw [g2, hc]; rfl
    · rw [hc]; exact List.nodup_nil
    · rw [g1, hc]; rfl
    · rw [g3, hc]
      show (if 0 < r.staged.length then r.used + r.staged.length + 1 else r.used) = _
      rw [if_pos (by omega), h.used, hlen]
    · rw [g4, hc]
      show (if 0 < r.staged.length then false else r.sure) = _
      rw [if_pos (by omega)]
      rfl
/-- A log opened anew beside the document's that is told so. -/
theorem M.WM.opened (h : M.WM s r T) (s' : M.Wl) (g1 : s'.act = false) (g2 : s'.l = []) (g3 : s'.used = 0) (g4 : s'.uns = false) : M.WM s' { M.wabort r with used := 0, sure := true } T :=
  ⟨⟨h.fit.seen, h.fit.fr, h.fit.mn, by show 0 + 2 ≤ 24; omega⟩, h.seen, fun _ => by rw [g2]; rfl, by rw [g2]; rfl, List.nodup_nil, g1.symm, g3.symm, by rw [g4]; rfl⟩
end
end Go.Proofs.YtigmcnnplnfakaaGreatDoor
