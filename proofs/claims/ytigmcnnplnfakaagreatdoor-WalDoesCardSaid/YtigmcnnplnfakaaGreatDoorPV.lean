/-
  A checkpoint, an opening, a new log, whatever calls fail: mathematics.
-/
import Derived.Test.YtigmcnnplnfakaaGreatDoorPU
namespace Go.Proofs.YtigmcnnplnfakaaGreatDoor
open Go.RowKit

section
variable {s : M.Wl} {V U T : Nat → ByteArray} {g q p : Nat} {C : List (List (Nat × ByteArray))}
/-- All is laid down, and the log is empty. -/
theorem M.WV.check (h : M.WV s V T g q p C) (lk : List (Nat × ByteArray)) (hlk : s.k = M.vs14 lk) (hup : M.Rising s.k) (hfit : ∀ x ∈ lk, M.gd x.1 ∧ x.2.size = 64) (hg9 : s.gen ≤ 100000000) (hq9 : s.seq ≤ 100000000) :
    ∃ V', M.Sp (M.steps14 (M.mvF lk 10 24 (s.gen + 1) s.seq s.pl)) (lk.length + 10) V V' (fun U => ∃ g q p C, M.WV s U T g q p C) ∧
      ∀ s' : M.Wl, s'.gen = s.gen + 1 → s'.seq = s.seq → s'.pl = s.pl → s'.used = 0 → s'.k = [] → M.WV s' V' T (s.gen + 1) s.seq s.pl [] := by
  have hpl := h.place
  have hT : ∀ x ∈ lk, x.2 = T x.1 := fun x hx => by
    have hm : ((x.1 : Int), Value.string x.2) ∈ s.k := by rw [hlk]; exact List.mem_map.2 ⟨x, hx, rfl⟩
    have h1 := M.find_of_mem hup hm
    rcases h.kept x.1 (hfit x hx).1 with e | ⟨e, _⟩
    · rw [h1] at e
      injection e with e
      injection e with e
    · rw [h1] at e
      cases e
  have hmix : ∀ K : List (Nat × ByteArray), (∀ x ∈ K, x ∈ lk) → (∀ k, ¬ M.gd k → M.upd V K k = V k) ∧ ∀ k, M.gd k → M.upd V K k = V k ∨ M.upd V K k = T k := fun K hK => by
    refine ⟨fun k hk => M.upd_out (fun x hx e => hk (by rw [← e]; exact (hfit x (hK x hx)).1)), fun k _ => ?_⟩
    by_cases e : ∃ x ∈ K, x.1 = k
    · exact Or.inr (M.upd_in (fun x hx ex => by rw [hT x (hK x hx), ex]) e)
    · exact Or.inl (M.upd_out (fun x hx ex => e ⟨x, hx, ex⟩))
  have hW : ∀ K : List (Nat × ByteArray), (∀ x ∈ K, x ∈ lk) → M.WV s (M.upd V K) T g q p C := fun K hK => h.other (hmix K hK).1 (hmix K hK).2
  obtain ⟨V1, hV1⟩ : ∃ x, x = M.upd V lk := ⟨_, rfl⟩
  have hW1 : M.WV s V1 T g q p C := by rw [hV1]; exact hW lk (fun _ e => e)
  have hall : ∀ k, M.gd k → V1 k = T k := fun k hk => by
    rw [hV1]
    by_cases e : ∃ x ∈ lk, x.1 = k
    · exact M.upd_in (fun x hx ex => by rw [hT x hx, ex]) e
    · rw [M.upd_out (fun x hx ex => e ⟨x, hx, ex⟩)]
      rcases h.kept k hk with e2 | ⟨_, e2⟩
      · exfalso
        rw [hlk] at e2
        obtain ⟨y, hy, hy2⟩ : ∃ y ∈ lk, y.1 = k := by
          have : ∀ l : List (Nat × ByteArray), M.find (k : Int) (M.vs14 l) = some (.string (T k)) → ∃ y ∈ l, y.1 = k := fun l => by
            induction l with
            | nil => intro h; cases h
            | cons a l ih =>
              intro h
              by_cases ea : a.1 = k
              · exact ⟨a, List.mem_cons_self .., ea⟩
              · have h' : (if (a.1 : Int) = (k : Int) then some (Value.string a.2) else M.find (k : Int) (M.vs14 l)) = some (.string (T k)) := h
                rw [if_neg (by omega)] at h'
                obtain ⟨y, h1, h2⟩ := ih h'
                exact ⟨y, List.mem_cons_of_mem _ h1, h2⟩
          exact this lk e2
        exact e ⟨y, hy, hy2⟩
      · exact e2
  obtain ⟨V2, hV2⟩ : ∃ x, x = M.upd V1 [(10 + (s.gen + 1) % 2, M.hwhole ⟨((s.gen + 1 : Nat) : Int), ((s.seq : Nat) : Int), ((s.pl : Nat) : Int)⟩)] := ⟨_, rfl⟩
  have hone : ∀ k, V2 k = if 10 + (s.gen + 1) % 2 = k then M.hwhole ⟨((s.gen + 1 : Nat) : Int), ((s.seq : Nat) : Int), ((s.pl : Nat) : Int)⟩ else V1 k := fun k => by rw [hV2]; exact M.upd_one V1 _ k
  have hrec : ∀ k, 12 ≤ k → V2 k = V1 k := fun k hk => by rw [hone, if_neg (by omega)]
  have hgd2 : ∀ k, M.gd k → V2 k = T k := fun k hk => by rw [hone, if_neg (by unfold M.gd at hk; omega), hall k hk]
  have hq : q ≤ 100000000 := by have := h.seq; omega
  have hold : (M.hget (V1 (10 + s.gen % 2))).2 = 0 → (M.hget (V1 (10 + s.gen % 2))).1.g < ((s.gen + 1 : Nat) : Int) := by
    intro e0
    rcases h.gen with e | e
    · have hh := hW1.lg.head
      rw [e] at hh
      rw [hh, M.hget_whole _ (M.may14 (by omega) (by omega) (by have := h.lg.pl; omega))]
      show ((s.gen : Nat) : Int) < _
      omega
    · have hh := hW1.lg.old
      rw [e, show (s.gen + 1 + 1) % 2 = s.gen % 2 by omega] at hh
      exact hh e0
  have hL2 : M.Lg V2 T (s.gen + 1) s.seq s.pl [] := by
    refine ⟨by rw [hone, if_pos rfl], ?_, hpl, trivial, Nat.zero_le _, Or.inr ?_, fun c hc => (by cases hc), fun k hk => hgd2 k hk⟩
    · rw [show (s.gen + 1 + 1) % 2 = s.gen % 2 by omega, hone, if_neg (by omega)]
      exact hold
    · show M.szE (V2 (12 + (s.pl + 0) % 22)) ((s.seq + 0 : Nat) : Int) ≠ 0
      rw [hrec _ (by omega), show (s.pl + 0) % 22 = s.pl by omega, Nat.add_zero]
      exact hW1.stop
  have hW2 : M.WV s V2 T (s.gen + 1) s.seq s.pl [] :=
    ⟨hL2, Or.inr rfl, by show (s.pl + 0) % 22 = s.pl; omega, by simp, ⟨Nat.zero_le _, h.used.2⟩, fun hu => by rw [hrec _ (by omega)]; exact hW1.keep hu, fun k hk => (h.kept k hk).imp id (fun e => ⟨e.1, hgd2 k hk⟩)⟩
  refine ⟨V2, ?_, fun s' g1 g2 g3 g4 g5 => ⟨hL2, Or.inl g1.symm, by rw [g3]; show (s.pl + 0) % 22 = s.pl; omega, by rw [g2]; simp, by rw [g4]; exact ⟨Nat.zero_le _, by omega⟩, fun hu => by omega, fun k hk => Or.inr ⟨by rw [g5]; rfl, hgd2 k hk⟩⟩⟩
  have s1 := M.Sp.flush (V := V) (G := fun U => ∃ g q p C, M.WV s U T g q p C) ⟨g, q, p, C, h⟩
  have s2 := M.Sp.wr (G := fun U => ∃ g q p C, M.WV s U T g q p C) lk V (fun x hx => ⟨by have := (hfit x hx).1; unfold M.gd at this; omega, (hfit x hx).2⟩) (fun j _ => ⟨g, q, p, C, hW _ (fun x hx => List.mem_of_mem_take hx)⟩)
  rw [← hV1] at s2
  have s3 := M.Sp.flush (V := V1) (G := fun U => ∃ g q p C, M.WV s U T g q p C) ⟨g, q, p, C, hW1⟩
  have s4 := M.Sp.head (V := V1) (G := fun U => ∃ g q p C, M.WV s U T g q p C) (s.gen + 1) s.seq s.pl ⟨g, q, p, C, hW1⟩
  rw [← hV2] at s4
  have s5 := M.Sp.flush (V := V2) (G := fun U => ∃ g q p C, M.WV s U T g q p C) ⟨_, _, _, _, hW2⟩
  exact (s1.cons (s2.cons (s3.cons (s4.cons (s5.cons (M.Sp.nil V2 _)))))).more (by omega)

/-- What an opening leaves, whatever calls fail. -/
theorem M.Lg.opens (h : M.Lg V T g q p C) (hg9 : g ≤ 100000000) (hq9 : q + C.length ≤ 100000000) {q1 : Nat} (hq1 : q1 = q + C.length + 24) :
    ∃ V', M.Sp (M.steps14 (M.mvR (M.readyF 12 22 p 0 q1) C.flatten 10 24 (g + 1) q1 0)) 60 V V' (fun U => ∃ g' q' p' C', M.Lg U T g' q' p' C' ∧ g' ≤ g + 1 ∧ q' + C'.length ≤ q1) ∧
      ∀ s' : M.Wl, s'.gen = g + 1 → s'.seq = q1 → s'.pl = 0 → s'.used = 0 → s'.k = [] → M.WV s' V' T (g + 1) q1 0 [] := by
  have hfl : ∀ x ∈ C.flatten, M.gd x.1 ∧ x.2.size = 64 := fun x hx => by
    obtain ⟨c, hc, hx2⟩ := List.mem_flatten.1 hx
    exact h.fit c hc x hx2
  have hlen := M.tot_flat C
  have hroom := h.room
  obtain ⟨G, hG⟩ : ∃ G : (Nat → ByteArray) → Prop, G = fun U => ∃ g' q' p' C', M.Lg U T g' q' p' C' ∧ g' ≤ g + 1 ∧ q' + C'.length ≤ q1 := ⟨_, rfl⟩
  have mkG : ∀ U, M.Lg U T g q p C → G U := fun U hU => by rw [hG]; exact ⟨g, q, p, C, hU, by omega, by omega⟩
  have mkE : ∀ U, M.Lg U T g q p [] → G U := fun U hU => by rw [hG]; exact ⟨g, q, p, [], hU, by omega, by simp; omega⟩
  have hpart : ∀ K : List (Nat × ByteArray), (∀ x ∈ K, x ∈ C.flatten) → M.Lg (M.upd V K) T g q p C := fun K hK => by
    have ho : ∀ k, ¬ M.gd k → M.upd V K k = V k := fun k hk => M.upd_out (fun x hx e => hk (by rw [← e]; exact (hfl x (hK x hx)).1))
    refine ⟨by rw [ho _ (by unfold M.gd; omega)]; exact h.head, by rw [ho _ (by unfold M.gd; omega)]; exact h.old, h.pl, M.chain_keep C p q h.ch (fun j _ => ho _ (by unfold M.gd; omega)), h.room, by rw [ho _ (by unfold M.gd; omega)]; exact h.stop, h.fit, fun k hk => ?_⟩
    have hd := h.data k hk
    unfold M.upd at hd ⊢
    cases e : M.seen0 C.flatten k with
    | some x => rw [e] at hd; exact hd
    | none =>
      rw [e] at hd
      have : M.seen0 K k = none := by
        cases e2 : M.seen0 K k with
        | none => rfl
        | some y =>
          exfalso
          have hx : ∃ x ∈ K, x.1 = k := Classical.byContradiction fun hn => by
            have := M.seen_fold_no (k := k) (B := K) none (fun x hx ex => hn ⟨x, hx, ex⟩)
            rw [show M.seen0 K k = none from this] at e2
            cases e2
          obtain ⟨x, hx1, hx2⟩ := hx
          have hsome : ∀ L : List (Nat × ByteArray), (∃ x ∈ L, x.1 = k) → M.seen0 L k ≠ none := fun L => by
            induction L with
            | nil => rintro ⟨x, hx, _⟩; cases hx
            | cons a L ih =>
              rintro ⟨x, hx, ex⟩ hn
              rw [M.seen0_cons] at hn
              rcases List.mem_cons.1 hx with rfl | hx
              · rw [if_pos ex] at hn
                cases e3 : M.seen0 L k <;> rw [e3] at hn <;> cases hn
              · cases e3 : M.seen0 L k with
                | none => exact ih ⟨x, hx, ex⟩ e3
                | some z => rw [e3] at hn; cases hn
          exact hsome _ ⟨x, hK x hx1, hx2⟩ e
      rw [this]
      exact hd
  obtain ⟨V1, hV1⟩ : ∃ x, x = M.upd V C.flatten := ⟨_, rfl⟩
  have hL1 : M.Lg V1 T g q p C := by rw [hV1]; exact hpart _ (fun _ e => e)
  have hdat : ∀ k, M.gd k → V1 k = T k := fun k hk => by rw [hV1]; exact h.data k hk
  have hmt : ∀ W, (∀ m, W (10 + m % 2) = V1 (10 + m % 2)) → (∀ k, M.gd k → W k = V1 k) → M.szE (W (12 + p)) ((q : Nat) : Int) ≠ 0 → M.Lg W T g q p [] := fun W h1 h2 h3 =>
    ⟨by rw [h1]; exact hL1.head, by rw [h1]; exact hL1.old, h.pl, trivial, Nat.zero_le _, Or.inr (by
      show M.szE (W (12 + (p + 0) % 22)) ((q + 0 : Nat) : Int) ≠ 0
      rw [show (p + 0) % 22 = p by have := h.pl; omega, Nat.add_zero]
      exact h3), fun c hc => (by cases hc), fun k hk => (h2 k hk).trans (hdat k hk)⟩
  have hz8 : ∀ n : Int, M.szE (M.zeros 64) n ≠ 0 := fun n => by rw [(M.szE_zero n).1]; decide
  have hpl := h.pl
  have hb1 : ∀ k, M.upd V1 [(12 + p, M.zeros 64)] k = if 12 + p = k then M.zeros 64 else V1 k := fun k => M.upd_one V1 _ k
  have hb2 : ∀ k, M.upd (M.upd V1 [(12 + p, M.zeros 64)]) [(12 + 0, M.zeros 64)] k = if 12 + 0 = k then M.zeros 64 else if 12 + p = k then M.zeros 64 else V1 k := fun k => by rw [M.upd_one, hb1]
  have hg1 : G (M.upd V1 [(12 + p, M.zeros 64)]) := mkE _ (hmt _ (fun m => by rw [hb1, if_neg (by omega)]) (fun k hk => by rw [hb1, if_neg (by unfold M.gd at hk; omega)]) (by rw [hb1, if_pos rfl]; exact hz8 _))
  have hg2 : G (M.upd (M.upd V1 [(12 + p, M.zeros 64)]) [(12 + 0, M.zeros 64)]) := mkE _ (hmt _ (fun m => by rw [hb2, if_neg (by omega), if_neg (by omega)]) (fun k hk => by rw [hb2, if_neg (by unfold M.gd at hk; omega), if_neg (by unfold M.gd at hk; omega)]) (by
    rw [hb2]
    split
    · exact hz8 _
    · rw [if_pos rfl]; exact hz8 _))
  obtain ⟨V2, hV2⟩ : ∃ x, x = if M.szE (V1 12) ((q1 : Nat) : Int) ≠ 0 then V1 else M.upd (M.upd V1 [(12 + p, M.zeros 64)]) [(12 + 0, M.zeros 64)] := ⟨_, rfl⟩
  have h2 : (∀ m, V2 (10 + m % 2) = V1 (10 + m % 2)) ∧ (∀ k, M.gd k → V2 k = V1 k) ∧ M.szE (V2 12) ((q1 : Nat) : Int) ≠ 0 ∧ G V2 := by
    by_cases hz : M.szE (V1 12) ((q1 : Nat) : Int) ≠ 0
    · rw [if_pos hz] at hV2
      rw [hV2]
      exact ⟨fun _ => rfl, fun _ _ => rfl, hz, mkG _ hL1⟩
    · rw [if_neg hz] at hV2
      rw [hV2]
      refine ⟨fun m => by rw [hb2, if_neg (by omega), if_neg (by omega)], fun k hk => by rw [hb2, if_neg (by unfold M.gd at hk; omega), if_neg (by unfold M.gd at hk; omega)], ?_, hg2⟩
      rw [hb2, if_pos rfl]
      exact hz8 _
  obtain ⟨V3, hV3⟩ : ∃ x, x = M.upd V2 [(10 + (g + 1) % 2, M.hwhole ⟨((g + 1 : Nat) : Int), ((q1 : Nat) : Int), ((0 : Nat) : Int)⟩)] := ⟨_, rfl⟩
  have hone : ∀ k, V3 k = if 10 + (g + 1) % 2 = k then M.hwhole ⟨((g + 1 : Nat) : Int), ((q1 : Nat) : Int), ((0 : Nat) : Int)⟩ else V2 k := fun k => by rw [hV3]; exact M.upd_one V2 _ k
  have hgd3 : ∀ k, M.gd k → V3 k = T k := fun k hk => by rw [hone, if_neg (by unfold M.gd at hk; omega), h2.2.1 k hk, hdat k hk]
  have hL3 : M.Lg V3 T (g + 1) q1 0 [] := by
    refine ⟨by rw [hone, if_pos rfl], ?_, by omega, trivial, Nat.zero_le _, Or.inr ?_, fun c hc => (by cases hc), fun k hk => hgd3 k hk⟩
    · rw [show (g + 1 + 1) % 2 = g % 2 by omega, hone, if_neg (by omega), h2.1, hL1.head, M.hget_whole _ (M.may14 (by omega) (by omega) (by omega))]
      intro _
      show ((g : Nat) : Int) < _
      omega
    · show M.szE (V3 (12 + (0 + 0) % 22)) ((q1 + 0 : Nat) : Int) ≠ 0
      rw [hone, if_neg (by omega), Nat.add_zero]
      exact h2.2.2.1
  have hG3 : G V3 := by rw [hG]; exact ⟨g + 1, q1, 0, [], hL3, by omega, by simp⟩
  refine ⟨V3, ?_, fun s' g1 g2 g3 g4 g5 => ⟨hL3, Or.inl g1.symm, by rw [g3]; rfl, by rw [g2]; simp, by rw [g4]; exact ⟨Nat.zero_le _, by omega⟩, fun hu => by omega, fun k hk => Or.inr ⟨by rw [g5]; rfl, hgd3 k hk⟩⟩⟩
  rw [← hG]
  have s1 := M.Sp.flush (V := V) (G := G) (mkG _ h)
  have s2 := M.Sp.wr (G := G) C.flatten V (fun x hx => ⟨by have := (hfl x hx).1; unfold M.gd at this; omega, (hfl x hx).2⟩) (fun j _ => mkG _ (hpart _ (fun x hx => List.mem_of_mem_take hx)))
  rw [← hV1] at s2
  have s3 := M.Sp.flush (V := V1) (G := G) (mkG _ hL1)
  have s4 := M.Sp.ready (V := V1) (G := G) p q1 h.pl (mkG _ hL1) (fun _ => hg1) (fun _ => hg2)
  rw [← hV2] at s4
  have s5 := M.Sp.head (V := V2) (G := G) (g + 1) q1 0 h2.2.2.2
  rw [← hV3] at s5
  have s6 := M.Sp.flush (V := V3) (G := G) hG3
  exact (s1.cons (s2.cons (s3.cons (s4.cons (s5.cons (s6.cons (M.Sp.nil V3 _))))))).more (by omega)
end

/-- Where no call may fail, none fails. -/
theorem M.Sp.calm {f : M.D → Int × M.D} {n : Nat} {V V' : Nat → ByteArray} {G : (Nat → ByteArray) → Prop} (h : M.Sp f n V V' G) {d : M.D} (hd : M.Ok14 d) (hV : M.Sees d V) (hf : d.fails = []) : (f d).1 = 0 ∧ M.Sees (f d).2 V' ∧ M.Was d (f d).2 n ∧ (f d).2.fails = [] := by
  obtain ⟨h1, h2⟩ := h d hd hV
  have hl := h1.fl
  rw [hf] at hl
  have he : (f d).2.fails = [] := List.eq_nil_of_length_eq_zero (by simpa using hl)
  rcases h2 with ⟨e1, e2⟩ | ⟨_, e2, _⟩
  · exact ⟨e1, e2, h1, he⟩
  · rw [hf] at e2
    exact absurd e2 (by simp)
/-- The whole of a region is made noughts. -/
theorem M.Sp.blanks (fr mn n : Nat) (hn : n ≤ mn) (h44 : fr + mn ≤ 44) {V : Nat → ByteArray} : M.Sp (fun d => M.gwrite d fr mn 0 (M.zeros (64 * n))) n V (fun k => if fr ≤ k ∧ k < fr + n then M.zeros 64 else V k) (fun _ => True) := by
  have e1 : (M.zeros (64 * n)).size = 64 * n := M.zeros_size _
  have hc : M.cut n (fr + (0 : Int).toNat) (M.zeros (64 * n)) = M.cut n fr (M.zeros (64 * n)) := rfl
  have hs : M.gsplit fr mn 0 (M.zeros (64 * n)) = (M.cut n fr (M.zeros (64 * n)), 0) := by
    unfold M.gsplit
    rw [e1, if_pos (by omega), show 64 * n / 64 = n by omega, if_pos (by simp [M.within]; omega), hc]
  have hw := M.Sp.wr (G := fun _ => True) (M.cut n fr (M.zeros (64 * n))) V (fun x hx => by
    obtain ⟨j, hj, rfl⟩ := M.cut_mem hx
    exact ⟨by show fr + j < 44; omega, by rw [M.piece_zeros n j hj, M.zeros_size]⟩) (fun _ _ => trivial)
  rw [M.cut_len] at hw
  refine (hw.eq (g := fun d => M.gwrite d fr mn 0 (M.zeros (64 * n))) (fun d => by show M.gwrite d fr mn 0 _ = _; unfold M.gwrite; rw [hs]; rfl)).to (fun k _ => ?_)
  by_cases e : fr ≤ k ∧ k < fr + n
  · rw [if_pos e]
    refine M.upd_in (fun x hx ex => ?_) ⟨(fr + (k - fr), M.piece (M.zeros (64 * n)) (k - fr)), List.mem_of_getElem? (M.cut_at (by omega)), by show fr + (k - fr) = k; omega⟩
    obtain ⟨j, hj, rfl⟩ := M.cut_mem hx
    exact M.piece_zeros n j hj
  · rw [if_neg e]
    refine M.upd_out (fun x hx ex => ?_)
    obtain ⟨j, hj, rfl⟩ := M.cut_mem hx
    simp only at ex
    omega
theorem M.Sp.headAt (fr mn g q k : Nat) (hm : 2 ≤ mn) (h44 : fr + 2 ≤ 44) {V : Nat → ByteArray} : M.Sp (fun d => M.headW d fr mn g q k) 1 V (M.upd V [(fr + g % 2, M.hwhole ⟨(g : Nat), (q : Nat), (k : Nat)⟩)]) (fun _ => True) :=
  (M.Sp.one (fr + g % 2, M.hwhole ⟨(g : Nat), (q : Nat), (k : Nat)⟩) (by show fr + g % 2 < 44; omega) (M.hwhole_size _) trivial).eq (fun d => M.headW_wr d fr mn g q k hm)
/-- Format, on a disk of noughts. -/
theorem M.Sp.format (fr mn : Nat) (h1 : 24 ≤ mn) (h44 : fr + mn ≤ 44) :
    ∃ V', M.Sp (M.steps14 (M.fmF fr mn)) 60 (fun _ => M.zeros 64) V' (fun _ => True) ∧ (fr = 10 → mn = 24 → M.Lg V' (fun _ => M.zeros 64) 1 1 0 []) := by
  have s1 := M.Sp.headAt fr mn 281474976710655 0 0 (by omega) (by omega) (V := fun _ => M.zeros 64)
  obtain ⟨V1, hV1⟩ : ∃ x, x = M.upd (fun _ => M.zeros 64) [(fr + 281474976710655 % 2, M.hwhole ⟨((281474976710655 : Nat) : Int), ((0 : Nat) : Int), ((0 : Nat) : Int)⟩)] := ⟨_, rfl⟩
  rw [← hV1] at s1
  have s2 := M.Sp.flush (V := V1) (G := fun _ => True) trivial
  have s3 := M.Sp.blanks fr mn 1 (by omega) h44 (V := V1)
  obtain ⟨V2, hV2⟩ : ∃ x : Nat → ByteArray, x = fun k => if fr ≤ k ∧ k < fr + 1 then M.zeros 64 else V1 k := ⟨_, rfl⟩
  rw [← hV2] at s3
  have s4 := M.Sp.blanks (fr + 2) (mn - 2) (mn - 2) (Nat.le_refl _) (by omega) (V := V2)
  obtain ⟨V3, hV3⟩ : ∃ x : Nat → ByteArray, x = fun k => if fr + 2 ≤ k ∧ k < fr + 2 + (mn - 2) then M.zeros 64 else V2 k := ⟨_, rfl⟩
  rw [← hV3] at s4
  have s5 := M.Sp.flush (V := V3) (G := fun _ => True) trivial
  have s6 := M.Sp.headAt fr mn 1 1 0 (by omega) (by omega) (V := V3)
  obtain ⟨V4, hV4⟩ : ∃ x, x = M.upd V3 [(fr + 1 % 2, M.hwhole ⟨((1 : Nat) : Int), ((1 : Nat) : Int), ((0 : Nat) : Int)⟩)] := ⟨_, rfl⟩
  rw [← hV4] at s6
  have s7 := M.Sp.flush (V := V4) (G := fun _ => True) trivial
  refine ⟨V4, (s1.cons (s2.cons (s3.cons (s4.cons (s5.cons (s6.cons (s7.cons (M.Sp.nil V4 _)))))))).more (by omega), ?_⟩
  rintro rfl rfl
  have hz0 : (M.hget (M.zeros 64)).2 ≠ 0 := by
    have h1 : (M.zeros 64).extract 0 1 ≠ (⟨#[76]⟩ : ByteArray) := by decide
    unfold M.hget
    rw [if_neg (by rw [M.zeros_size]; simp), if_pos h1]
    decide
  have hall : ∀ k, k ≠ 11 → V4 k = M.zeros 64 := fun k hk => by
    have hk' : ¬ (10 + 1 % 2 = k) := by omega
    rw [hV4, M.upd_one, if_neg hk', hV3]
    simp only
    split
    · rfl
    · rw [hV2]
      simp only
      split
      · rfl
      · rw [hV1, M.upd_one, if_neg (show ¬ (10 + 281474976710655 % 2 = k) by omega)]
  have h11 : V4 11 = M.hwhole ⟨((1 : Nat) : Int), ((1 : Nat) : Int), ((0 : Nat) : Int)⟩ := by rw [hV4, M.upd_one, if_pos (show 10 + 1 % 2 = 11 by omega)]
  refine ⟨h11, ?_, by omega, trivial, Nat.zero_le _, Or.inr ?_, fun c hc => (by cases hc), fun k hk => ?_⟩
  · show (M.hget (V4 10)).2 = 0 → _
    rw [hall 10 (by omega)]
    exact fun e => absurd e hz0
  · show M.szE (V4 12) ((1 : Nat) : Int) ≠ 0
    rw [hall 12 (by omega), (M.szE_zero _).1]
    decide
  · rw [List.flatten_nil, M.upd_nil]
    exact hall k (by unfold M.gd at hk; omega)
end Go.Proofs.YtigmcnnplnfakaaGreatDoor
