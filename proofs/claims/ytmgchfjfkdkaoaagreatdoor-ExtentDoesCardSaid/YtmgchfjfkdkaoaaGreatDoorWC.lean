/-
  A checkpoint, an opening, a new log, whatever calls fail: mathematics. What the law's log and the document's keep, call by call, whatever calls of the disk fail: mathematics. Open on any disk that the log lies on: it opens what is seen, or says that a call failed. A wal on a disk of which no call fails, whatever the log's place: one theorem a call.
-/
import Derived.Test.YtmgchfjfkdkaoaaGreatDoorWB
import Derived.Test.YtmgchfjfkdkaoaaGreatDoorPK
import Derived.Test.YtmgchfjfkdkaoaaGreatDoorPS
import Derived.Test.YtmgchfjfkdkaoaaGreatDoorRD
import Derived.Test.YtmgchfjfkdkaoaaGreatDoorPJ
import Derived.Test.YtmgchfjfkdkaoaaGreatDoorPL
import Derived.Test.YtmgchfjfkdkaoaaGreatDoorPM
namespace Go.Proofs.YtmgchfjfkdkaoaaGreatDoor
open Go.RowKit

variable {a : M.Geo}
section
variable {s : M.Wl} {V U T : Nat → ByteArray} {g q p : Nat} {C : List (List (Nat × ByteArray))}
/-- All is laid down, and the log is empty. -/
theorem M.WV.check (h : M.WV a s V T g q p C) (lk : List (Nat × ByteArray)) (hlk : s.k = M.vs14 lk) (hup : M.Rising s.k) (hfit : ∀ x ∈ lk, M.gd a x.1 ∧ x.2.size = 64) (hg9 : s.gen ≤ 100000000) (hq9 : s.seq ≤ 100000000) :
    ∃ V', M.Sp a (M.steps14 (M.mvF lk a.fr a.mn (s.gen + 1) s.seq s.pl)) (lk.length + 10) V V' (fun U => ∃ g q p C, M.WV a s U T g q p C) ∧
      ∀ s' : M.Wl, s'.gen = s.gen + 1 → s'.seq = s.seq → s'.pl = s.pl → s'.used = 0 → s'.k = [] → M.WV a s' V' T (s.gen + 1) s.seq s.pl [] := by
  have hpl := h.place
  obtain ⟨x1, x2, x3, x4⟩ := a.facts
  have hT : ∀ x ∈ lk, x.2 = T x.1 := fun x hx => by
    have hm : ((x.1 : Int), Value.string x.2) ∈ s.k := by rw [hlk]; exact List.mem_map.2 ⟨x, hx, rfl⟩
    have h1 := M.find_of_mem hup hm
    rcases h.kept x.1 (hfit x hx).1 with e | ⟨e, _⟩
    · rw [h1] at e
      injection e with e
      injection e with e
    · rw [h1] at e
      cases e
  have hmix : ∀ K : List (Nat × ByteArray), (∀ x ∈ K, x ∈ lk) → (∀ k, ¬ M.gd a k → M.upd V K k = V k) ∧ ∀ k, M.gd a k → M.upd V K k = V k ∨ M.upd V K k = T k := fun K hK => by
    refine ⟨fun k hk => M.upd_out (fun x hx e => hk (by rw [← e]; exact (hfit x (hK x hx)).1)), fun k _ => ?_⟩
    by_cases e : ∃ x ∈ K, x.1 = k
    · exact Or.inr (M.upd_in (fun x hx ex => by rw [hT x (hK x hx), ex]) e)
    · exact Or.inl (M.upd_out (fun x hx ex => e ⟨x, hx, ex⟩))
  have hW : ∀ K : List (Nat × ByteArray), (∀ x ∈ K, x ∈ lk) → M.WV a s (M.upd V K) T g q p C := fun K hK => h.other (hmix K hK).1 (hmix K hK).2
  obtain ⟨V1, hV1⟩ : ∃ x, x = M.upd V lk := ⟨_, rfl⟩
  have hW1 : M.WV a s V1 T g q p C := by rw [hV1]; exact hW lk (fun _ e => e)
  have hall : ∀ k, M.gd a k → V1 k = T k := fun k hk => by
    rw [hV1]
    by_cases e : ∃ x ∈ lk, x.1 = k
    · exact M.upd_in (fun x hx ex => by rw [hT x hx, ex]) e
    · rw [M.upd_out (fun x hx ex => e ⟨x, hx, ex⟩)]
      rcases h.kept k hk with e2 | ⟨_, e2⟩
      · exfalso
        rw [hlk] at e2
        obtain ⟨y, hy, hy2⟩ : ∃ y ∈ lk, y.1 = k := by
          have : ∀ l : List (Nat × ByteArray), M.find (k : Int) (M.vs14 l) = some (.string (T k)) → ∃ y ∈ l, y.1 = k := fun l => by
            induction l with
            | nil => intro h; cases h
            | cons x l ih =>
              intro h
              by_cases ea : x.1 = k
              · exact ⟨x, List.mem_cons_self .., ea⟩
              · have h' : (if (x.1 : Int) = (k : Int) then some (Value.string x.2) else M.find (k : Int) (M.vs14 l)) = some (.string (T k)) := h
                rw [if_neg (by omega)] at h'
                obtain ⟨y, h1, h2⟩ := ih h'
                exact ⟨y, List.mem_cons_of_mem _ h1, h2⟩
          exact this lk e2
        exact e ⟨y, hy, hy2⟩
      · exact e2
  obtain ⟨V2, hV2⟩ : ∃ x, x = M.upd V1 [(a.fr + (s.gen + 1) % 2, M.hwhole ⟨((s.gen + 1 : Nat) : Int), ((s.seq : Nat) : Int), ((s.pl : Nat) : Int)⟩)] := ⟨_, rfl⟩
  have hone : ∀ k, V2 k = if a.fr + (s.gen + 1) % 2 = k then M.hwhole ⟨((s.gen + 1 : Nat) : Int), ((s.seq : Nat) : Int), ((s.pl : Nat) : Int)⟩ else V1 k := fun k => by rw [hV2]; exact M.upd_one V1 _ k
  have hrec : ∀ k, a.fr + 2 ≤ k → V2 k = V1 k := fun k hk => by rw [hone, if_neg (by omega)]
  have hgd2 : ∀ k, M.gd a k → V2 k = T k := fun k hk => by rw [hone, if_neg (by unfold M.gd at hk; omega), hall k hk]
  have hq : q ≤ 100000000 := by have := h.seq; omega
  have hold : (M.hget (V1 (a.fr + s.gen % 2))).2 = 0 → (M.hget (V1 (a.fr + s.gen % 2))).1.g < ((s.gen + 1 : Nat) : Int) := by
    intro e0
    rcases h.gen with e | e
    · have hh := hW1.lg.head
      rw [e] at hh
      rw [hh, M.hget_whole _ (M.may14 (by omega) (by omega) (by have := h.lg.pl; omega))]
      show ((s.gen : Nat) : Int) < _
      omega
    · have hh := hW1.lg.old
      rw [e, show (s.gen + 1 + 1) % 2 = s.gen % 2 by omega] at hh
      exact hh e0
  have hL2 : M.Lg a V2 T (s.gen + 1) s.seq s.pl [] := by
    refine ⟨by rw [hone, if_pos rfl], ?_, hpl, trivial, Nat.zero_le _, Or.inr ?_, fun c hc => (by cases hc), fun k hk => hgd2 k hk⟩
    · rw [show (s.gen + 1 + 1) % 2 = s.gen % 2 by omega, hone, if_neg (by omega)]
      exact hold
    · show M.szE (V2 (a.fr + 2 + s.pl % (a.mn - 2))) ((s.seq : Nat) : Int) ≠ 0
      rw [Nat.mod_eq_of_lt hpl, hrec _ (by omega)]
      exact hW1.stop
  have hW2 : M.WV a s V2 T (s.gen + 1) s.seq s.pl [] :=
    ⟨hL2, Or.inr rfl, by show (s.pl + 0) % (a.mn - 2) = s.pl; exact Nat.mod_eq_of_lt hpl, by simp, ⟨Nat.zero_le _, h.used.2⟩, fun hu => by rw [hrec _ (by omega)]; exact hW1.keep hu, fun k hk => (h.kept k hk).imp id (fun e => ⟨e.1, hgd2 k hk⟩)⟩
  refine ⟨V2, ?_, fun s' g1 g2 g3 g4 g5 => ⟨hL2, Or.inl g1.symm, by rw [g3]; show (s.pl + 0) % (a.mn - 2) = s.pl; exact Nat.mod_eq_of_lt hpl, by rw [g2]; simp, by rw [g4]; exact ⟨Nat.zero_le _, by omega⟩, fun hu => by omega, fun k hk => Or.inr ⟨by rw [g5]; rfl, hgd2 k hk⟩⟩⟩
  have s1 := M.Sp.flush (a := a) (V := V) (G := fun U => ∃ g q p C, M.WV a s U T g q p C) ⟨g, q, p, C, h⟩
  have s2 := M.Sp.wr (a := a) (G := fun U => ∃ g q p C, M.WV a s U T g q p C) lk V (fun x hx => ⟨by have := (hfit x hx).1; unfold M.gd at this; omega, (hfit x hx).2⟩) (fun j _ => ⟨g, q, p, C, hW _ (fun x hx => List.mem_of_mem_take hx)⟩)
  rw [← hV1] at s2
  have s3 := M.Sp.flush (a := a) (V := V1) (G := fun U => ∃ g q p C, M.WV a s U T g q p C) ⟨g, q, p, C, hW1⟩
  have s4 := M.Sp.head (a := a) (V := V1) (G := fun U => ∃ g q p C, M.WV a s U T g q p C) (s.gen + 1) s.seq s.pl ⟨g, q, p, C, hW1⟩
  rw [← hV2] at s4
  have s5 := M.Sp.flush (a := a) (V := V2) (G := fun U => ∃ g q p C, M.WV a s U T g q p C) ⟨_, _, _, _, hW2⟩
  exact (s1.cons (s2.cons (s3.cons (s4.cons (s5.cons (M.Sp.nil (a := a) V2 _)))))).more (by omega)

/-- What an opening leaves, whatever calls fail. -/
theorem M.Lg.opens (h : M.Lg a V T g q p C) (hg9 : g ≤ 100000000) (hq9 : q + C.length ≤ 100000000) {q1 : Nat} (hq1 : q1 = q + C.length + a.mn) :
    ∃ V', M.Sp a (M.steps14 (M.mvR (M.readyF (a.fr + 2) (a.mn - 2) p 0 q1) C.flatten a.fr a.mn (g + 1) q1 0)) 260 V V' (fun U => ∃ g' q' p' C', M.Lg a U T g' q' p' C' ∧ g' ≤ g + 1 ∧ q' + C'.length ≤ q1) ∧
      ∀ s' : M.Wl, s'.gen = g + 1 → s'.seq = q1 → s'.pl = 0 → s'.used = 0 → s'.k = [] → M.WV a s' V' T (g + 1) q1 0 [] := by
  have hfl : ∀ x ∈ C.flatten, M.gd a x.1 ∧ x.2.size = 64 := fun x hx => by
    obtain ⟨c, hc, hx2⟩ := List.mem_flatten.1 hx
    exact h.fit c hc x hx2
  have hlen := M.tot_flat C
  have hroom := h.room
  obtain ⟨x1, x2, x3, x4⟩ := a.facts
  obtain ⟨G, hG⟩ : ∃ G : (Nat → ByteArray) → Prop, G = fun U => ∃ g' q' p' C', M.Lg a U T g' q' p' C' ∧ g' ≤ g + 1 ∧ q' + C'.length ≤ q1 := ⟨_, rfl⟩
  have mkG : ∀ U, M.Lg a U T g q p C → G U := fun U hU => by rw [hG]; exact ⟨g, q, p, C, hU, by omega, by omega⟩
  have mkE : ∀ U, M.Lg a U T g q p [] → G U := fun U hU => by rw [hG]; exact ⟨g, q, p, [], hU, by omega, by simp; omega⟩
  have hpart : ∀ K : List (Nat × ByteArray), (∀ x ∈ K, x ∈ C.flatten) → M.Lg a (M.upd V K) T g q p C := fun K hK => by
    have ho : ∀ k, ¬ M.gd a k → M.upd V K k = V k := fun k hk => M.upd_out (fun x hx e => hk (by rw [← e]; exact (hfl x (hK x hx)).1))
    refine ⟨by rw [ho _ (by unfold M.gd; omega)]; exact h.head, by rw [ho _ (by unfold M.gd; omega)]; exact h.old, h.pl, M.chain_keep C p q h.ch (fun j _ => ho _ (by have := M.mod_lt (p + j) (m := a.mn - 2) (by omega); unfold M.gd; omega)), h.room, by rw [ho _ (by have := M.mod_lt (p + M.tot C) (m := a.mn - 2) (by omega); unfold M.gd; omega)]; exact h.stop, h.fit, fun k hk => ?_⟩
    have hd := h.data k hk
    unfold M.upd at hd ⊢
    cases e : M.seen0 C.flatten k with
    | some x => rw [e] at hd; exact hd
    | none =>
      rw [e] at hd
      have : M.seen0 K k = none := by
        cases e2 : M.seen0 K k with
        | none => rfl
        | some y =>
          exfalso
          have hx : ∃ x ∈ K, x.1 = k := Classical.byContradiction fun hn => by
            have := M.seen_fold_no (k := k) (B := K) none (fun x hx ex => hn ⟨x, hx, ex⟩)
            rw [show M.seen0 K k = none from this] at e2
            cases e2
          obtain ⟨x, hx1, hx2⟩ := hx
          have hsome : ∀ L : List (Nat × ByteArray), (∃ x ∈ L, x.1 = k) → M.seen0 L k ≠ none := fun L => by
            induction L with
            | nil => rintro ⟨x, hx, _⟩; cases hx
            | cons y0 L ih =>
              rintro ⟨x, hx, ex⟩ hn
              rw [M.seen0_cons] at hn
              rcases List.mem_cons.1 hx with rfl | hx
              · rw [if_pos ex] at hn
                cases e3 : M.seen0 L k <;> rw [e3] at hn <;> cases hn
              · cases e3 : M.seen0 L k with
                | none => exact ih ⟨x, hx, ex⟩ e3
                | some z => rw [e3] at hn; cases hn
          exact hsome _ ⟨x, hK x hx1, hx2⟩ e
      rw [this]
      exact hd
  obtain ⟨V1, hV1⟩ : ∃ x, x = M.upd V C.flatten := ⟨_, rfl⟩
  have hL1 : M.Lg a V1 T g q p C := by rw [hV1]; exact hpart _ (fun _ e => e)
  have hdat : ∀ k, M.gd a k → V1 k = T k := fun k hk => by rw [hV1]; exact h.data k hk
  have hmt : ∀ W, (∀ m, W (a.fr + m % 2) = V1 (a.fr + m % 2)) → (∀ k, M.gd a k → W k = V1 k) → M.szE (W (a.fr + 2 + p)) ((q : Nat) : Int) ≠ 0 → M.Lg a W T g q p [] := fun W h1 h2 h3 =>
    ⟨by rw [h1]; exact hL1.head, by rw [h1]; exact hL1.old, h.pl, trivial, Nat.zero_le _, Or.inr (by
      show M.szE (W (a.fr + 2 + p % (a.mn - 2))) ((q : Nat) : Int) ≠ 0
      rw [Nat.mod_eq_of_lt h.pl]
      exact h3), fun c hc => (by cases hc), fun k hk => (h2 k hk).trans (hdat k hk)⟩
  have hz8 : ∀ n : Int, M.szE (M.zeros 64) n ≠ 0 := fun n => by rw [(M.szE_zero n).1]; decide
  have hpl := h.pl
  have hb1 : ∀ k, M.upd V1 [(a.fr + 2 + p, M.zeros 64)] k = if a.fr + 2 + p = k then M.zeros 64 else V1 k := fun k => M.upd_one V1 _ k
  have hb2 : ∀ k, M.upd (M.upd V1 [(a.fr + 2 + p, M.zeros 64)]) [(a.fr + 2 + 0, M.zeros 64)] k = if a.fr + 2 + 0 = k then M.zeros 64 else if a.fr + 2 + p = k then M.zeros 64 else V1 k := fun k => by rw [M.upd_one, hb1]
  have hg1 : G (M.upd V1 [(a.fr + 2 + p, M.zeros 64)]) := mkE _ (hmt _ (fun m => by rw [hb1, if_neg (by omega)]) (fun k hk => by rw [hb1, if_neg (by unfold M.gd at hk; omega)]) (by rw [hb1, if_pos rfl]; exact hz8 _))
  have hg2 : G (M.upd (M.upd V1 [(a.fr + 2 + p, M.zeros 64)]) [(a.fr + 2 + 0, M.zeros 64)]) := mkE _ (hmt _ (fun m => by rw [hb2, if_neg (by omega), if_neg (by omega)]) (fun k hk => by rw [hb2, if_neg (by unfold M.gd at hk; omega), if_neg (by unfold M.gd at hk; omega)]) (by
    rw [hb2]
    split
    · exact hz8 _
    · rw [if_pos rfl]; exact hz8 _))
  obtain ⟨V2, hV2⟩ : ∃ x, x = if M.szE (V1 (a.fr + 2)) ((q1 : Nat) : Int) ≠ 0 then V1 else M.upd (M.upd V1 [(a.fr + 2 + p, M.zeros 64)]) [(a.fr + 2 + 0, M.zeros 64)] := ⟨_, rfl⟩
  have h2 : (∀ m, V2 (a.fr + m % 2) = V1 (a.fr + m % 2)) ∧ (∀ k, M.gd a k → V2 k = V1 k) ∧ M.szE (V2 (a.fr + 2)) ((q1 : Nat) : Int) ≠ 0 ∧ G V2 := by
    by_cases hz : M.szE (V1 (a.fr + 2)) ((q1 : Nat) : Int) ≠ 0
    · rw [if_pos hz] at hV2
      rw [hV2]
      exact ⟨fun _ => rfl, fun _ _ => rfl, hz, mkG _ hL1⟩
    · rw [if_neg hz] at hV2
      rw [hV2]
      refine ⟨fun m => by rw [hb2, if_neg (by omega), if_neg (by omega)], fun k hk => by rw [hb2, if_neg (by unfold M.gd at hk; omega), if_neg (by unfold M.gd at hk; omega)], ?_, hg2⟩
      rw [hb2, if_pos rfl]
      exact hz8 _
  obtain ⟨V3, hV3⟩ : ∃ x, x = M.upd V2 [(a.fr + (g + 1) % 2, M.hwhole ⟨((g + 1 : Nat) : Int), ((q1 : Nat) : Int), ((0 : Nat) : Int)⟩)] := ⟨_, rfl⟩
  have hone : ∀ k, V3 k = if a.fr + (g + 1) % 2 = k then M.hwhole ⟨((g + 1 : Nat) : Int), ((q1 : Nat) : Int), ((0 : Nat) : Int)⟩ else V2 k := fun k => by rw [hV3]; exact M.upd_one V2 _ k
  have hgd3 : ∀ k, M.gd a k → V3 k = T k := fun k hk => by rw [hone, if_neg (by unfold M.gd at hk; omega), h2.2.1 k hk, hdat k hk]
  have hL3 : M.Lg a V3 T (g + 1) q1 0 [] := by
    refine ⟨by rw [hone, if_pos rfl], ?_, by omega, trivial, Nat.zero_le _, Or.inr ?_, fun c hc => (by cases hc), fun k hk => hgd3 k hk⟩
    · rw [show (g + 1 + 1) % 2 = g % 2 by omega, hone, if_neg (by omega), h2.1, hL1.head, M.hget_whole _ (M.may14 (by omega) (by omega) (by omega))]
      intro _
      show ((g : Nat) : Int) < _
      omega
    · show M.szE (V3 (a.fr + 2 + 0 % (a.mn - 2))) ((q1 : Nat) : Int) ≠ 0
      rw [Nat.zero_mod, Nat.add_zero, hone, if_neg (by omega)]
      exact h2.2.2.1
  have hG3 : G V3 := by rw [hG]; exact ⟨g + 1, q1, 0, [], hL3, by omega, by simp⟩
  refine ⟨V3, ?_, fun s' g1 g2 g3 g4 g5 => ⟨hL3, Or.inl g1.symm, by rw [g3]; exact Nat.zero_mod _, by rw [g2]; simp, by rw [g4]; exact ⟨Nat.zero_le _, by omega⟩, fun hu => by omega, fun k hk => Or.inr ⟨by rw [g5]; rfl, hgd3 k hk⟩⟩⟩
  rw [← hG]
  have s1 := M.Sp.flush (a := a) (V := V) (G := G) (mkG _ h)
  have s2 := M.Sp.wr (a := a) (G := G) C.flatten V (fun x hx => ⟨by have := (hfl x hx).1; unfold M.gd at this; omega, (hfl x hx).2⟩) (fun j _ => mkG _ (hpart _ (fun x hx => List.mem_of_mem_take hx)))
  rw [← hV1] at s2
  have s3 := M.Sp.flush (a := a) (V := V1) (G := G) (mkG _ hL1)
  have s4 := M.Sp.ready (a := a) (V := V1) (G := G) p q1 h.pl (mkG _ hL1) (fun _ => hg1) (fun _ => hg2)
  rw [← hV2] at s4
  have s5 := M.Sp.head (a := a) (V := V2) (G := G) (g + 1) q1 0 h2.2.2.2
  rw [← hV3] at s5
  have s6 := M.Sp.flush (a := a) (V := V3) (G := G) hG3
  exact (s1.cons (s2.cons (s3.cons (s4.cons (s5.cons (s6.cons (M.Sp.nil (a := a) V3 _))))))).more (by omega)
end

/-- Where no call may fail, none fails. -/
theorem M.Sp.calm {f : M.D → Int × M.D} {n : Nat} {V V' : Nat → ByteArray} {G : (Nat → ByteArray) → Prop} (h : M.Sp a f n V V' G) {d : M.D} (hd : M.Ok14 a d) (hV : M.Sees a d V) (hf : d.fails = []) : (f d).1 = 0 ∧ M.Sees a (f d).2 V' ∧ M.Was a d (f d).2 n ∧ (f d).2.fails = [] := by
  obtain ⟨h1, h2⟩ := h d hd hV
  have hl := h1.fl
  rw [hf] at hl
  have he : (f d).2.fails = [] := List.eq_nil_of_length_eq_zero (by simpa using hl)
  rcases h2 with ⟨e1, e2⟩ | ⟨_, e2, _⟩
  · exact ⟨e1, e2, h1, he⟩
  · rw [hf] at e2
    exact absurd e2 (by simp)
/-- The whole of a region is made noughts. -/
theorem M.Sp.blanks (fr mn n : Nat) (hn : n ≤ mn) (h44 : fr + mn ≤ a.N) {V : Nat → ByteArray} : M.Sp a (fun d => M.gwrite d fr mn 0 (M.zeros (64 * n))) n V (fun k => if fr ≤ k ∧ k < fr + n then M.zeros 64 else V k) (fun _ => True) := by
  have e1 : (M.zeros (64 * n)).size = 64 * n := M.zeros_size _
  have hc : M.cut n (fr + (0 : Int).toNat) (M.zeros (64 * n)) = M.cut n fr (M.zeros (64 * n)) := rfl
  have hs : M.gsplit fr mn 0 (M.zeros (64 * n)) = (M.cut n fr (M.zeros (64 * n)), 0) := by
    unfold M.gsplit
    rw [e1, if_pos (by omega), show 64 * n / 64 = n by omega, if_pos (by simp [M.within]; omega), hc]
  have hw := M.Sp.wr (a := a) (G := fun _ => True) (M.cut n fr (M.zeros (64 * n))) V (fun x hx => by
    obtain ⟨j, hj, rfl⟩ := M.cut_mem hx
    exact ⟨by show fr + j < a.N; omega, by rw [M.piece_zeros n j hj, M.zeros_size]⟩) (fun _ _ => trivial)
  rw [M.cut_len] at hw
  refine (hw.eq (g := fun d => M.gwrite d fr mn 0 (M.zeros (64 * n))) (fun d => by show M.gwrite d fr mn 0 _ = _; unfold M.gwrite; rw [hs]; rfl)).to (fun k _ => ?_)
  by_cases e : fr ≤ k ∧ k < fr + n
  · rw [if_pos e]
    refine M.upd_in (fun x hx ex => ?_) ⟨(fr + (k - fr), M.piece (M.zeros (64 * n)) (k - fr)), List.mem_of_getElem? (M.cut_at (by omega)), by show fr + (k - fr) = k; omega⟩
    obtain ⟨j, hj, rfl⟩ := M.cut_mem hx
    exact M.piece_zeros n j hj
  · rw [if_neg e]
    refine M.upd_out (fun x hx ex => ?_)
    obtain ⟨j, hj, rfl⟩ := M.cut_mem hx
    simp only at ex
    omega
theorem M.Sp.headAt (fr mn g q k : Nat) (hm : 2 ≤ mn) (h44 : fr + 2 ≤ a.N) {V : Nat → ByteArray} : M.Sp a (fun d => M.headW d fr mn g q k) 1 V (M.upd V [(fr + g % 2, M.hwhole ⟨(g : Nat), (q : Nat), (k : Nat)⟩)]) (fun _ => True) :=
  (M.Sp.one (a := a) (fr + g % 2, M.hwhole ⟨(g : Nat), (q : Nat), (k : Nat)⟩) (by show fr + g % 2 < a.N; omega) (M.hwhole_size _) trivial).eq (fun d => M.headW_wr d fr mn g q k hm)
/-- Format, on a disk of noughts. -/
theorem M.Sp.format (a : M.Geo) :
    ∃ V', M.Sp a (M.steps14 (M.fmF a.fr a.mn)) 260 (fun _ => M.zeros 64) V' (fun _ => True) ∧ M.Lg a V' (fun _ => M.zeros 64) 1 1 0 [] := by
  obtain ⟨x1, x2, x3, x4⟩ := a.facts
  obtain ⟨fr, hfr⟩ : ∃ fr, fr = a.fr := ⟨_, rfl⟩
  obtain ⟨mn, hmn⟩ : ∃ mn, mn = a.mn := ⟨_, rfl⟩
  rw [← hfr, ← hmn]
  have h44 : fr + mn ≤ a.N := by omega
  have s1 := M.Sp.headAt (a := a) fr mn 281474976710655 0 0 (by omega) (by omega) (V := fun _ => M.zeros 64)
  obtain ⟨V1, hV1⟩ : ∃ x, x = M.upd (fun _ => M.zeros 64) [(fr + 281474976710655 % 2, M.hwhole ⟨((281474976710655 : Nat) : Int), ((0 : Nat) : Int), ((0 : Nat) : Int)⟩)] := ⟨_, rfl⟩
  rw [← hV1] at s1
  have s2 := M.Sp.flush (a := a) (V := V1) (G := fun _ => True) trivial
  have s3 := M.Sp.blanks (a := a) fr mn 1 (by omega) h44 (V := V1)
  obtain ⟨V2, hV2⟩ : ∃ x : Nat → ByteArray, x = fun k => if fr ≤ k ∧ k < fr + 1 then M.zeros 64 else V1 k := ⟨_, rfl⟩
  rw [← hV2] at s3
  have s4 := M.Sp.blanks (a := a) (fr + 2) (mn - 2) (mn - 2) (Nat.le_refl _) (by omega) (V := V2)
  obtain ⟨V3, hV3⟩ : ∃ x : Nat → ByteArray, x = fun k => if fr + 2 ≤ k ∧ k < fr + 2 + (mn - 2) then M.zeros 64 else V2 k := ⟨_, rfl⟩
  rw [← hV3] at s4
  have s5 := M.Sp.flush (a := a) (V := V3) (G := fun _ => True) trivial
  have s6 := M.Sp.headAt (a := a) fr mn 1 1 0 (by omega) (by omega) (V := V3)
  obtain ⟨V4, hV4⟩ : ∃ x, x = M.upd V3 [(fr + 1 % 2, M.hwhole ⟨((1 : Nat) : Int), ((1 : Nat) : Int), ((0 : Nat) : Int)⟩)] := ⟨_, rfl⟩
  rw [← hV4] at s6
  have s7 := M.Sp.flush (a := a) (V := V4) (G := fun _ => True) trivial
  refine ⟨V4, (s1.cons (s2.cons (s3.cons (s4.cons (s5.cons (s6.cons (s7.cons (M.Sp.nil (a := a) V4 _)))))))).more (by omega), ?_⟩
  subst hfr hmn
  have hz0 : (M.hget (M.zeros 64)).2 ≠ 0 := by
    have h1 : (M.zeros 64).extract 0 1 ≠ (⟨#[76]⟩ : ByteArray) := by decide
    unfold M.hget
    rw [if_neg (by rw [M.zeros_size]; simp), if_pos h1]
    decide
  have hall : ∀ k, k ≠ a.fr + 1 → V4 k = M.zeros 64 := fun k hk => by
    have hk' : ¬ (a.fr + 1 % 2 = k) := by omega
    rw [hV4, M.upd_one, if_neg hk', hV3]
    simp only
    split
    · rfl
    · rw [hV2]
      simp only
      split
      · rfl
      · rw [hV1, M.upd_one, if_neg (show ¬ (a.fr + 281474976710655 % 2 = k) by omega)]
  have h11 : V4 (a.fr + 1) = M.hwhole ⟨((1 : Nat) : Int), ((1 : Nat) : Int), ((0 : Nat) : Int)⟩ := by rw [hV4, M.upd_one, if_pos (show a.fr + 1 % 2 = a.fr + 1 by omega)]
  refine ⟨h11, ?_, by omega, trivial, Nat.zero_le _, Or.inr ?_, fun c hc => (by cases hc), fun k hk => ?_⟩
  · show (M.hget (V4 a.fr)).2 = 0 → _
    rw [hall a.fr (by omega)]
    exact fun e => absurd e hz0
  · show M.szE (V4 (a.fr + 2 + 0 % (a.mn - 2))) ((1 : Nat) : Int) ≠ 0
    rw [Nat.zero_mod, Nat.add_zero, hall (a.fr + 2) (by omega), (M.szE_zero _).1]
    decide
  · rw [List.flatten_nil, M.upd_nil]
    exact hall k (by unfold M.gd at hk; omega)
end Go.Proofs.YtmgchfjfkdkaoaaGreatDoor
namespace Go.Proofs.YtmgchfjfkdkaoaaGreatDoor
open Go.RowKit Go.Maps

variable {a : M.Geo}
/-- Sectors over places that transactions may have. -/
def M.Secs14 (a : M.Geo) (L : List (Int × Value)) : Prop := ∀ p ∈ L, ∃ (k : Nat) (t : ByteArray), p = ((k : Int), .string t) ∧ M.gd a k ∧ t.size = 64
theorem M.Secs14.nil : M.Secs14 a [] := fun _ h => by cases h
theorem M.Secs14.list : ∀ {L : List (Int × Value)}, M.Secs14 a L → ∃ lp, L = M.vs14 lp ∧ lp.length = L.length ∧ ∀ p ∈ lp, M.gd a p.1 ∧ p.2.size = 64
  | [], _ => ⟨[], rfl, rfl, fun _ h => by cases h⟩
  | p :: L, h => by
    obtain ⟨lp, h1, h2, h3⟩ := M.Secs14.list (L := L) (fun q hq => h q (List.mem_cons_of_mem _ hq))
    obtain ⟨k, t, e1, e2, e3⟩ := h p (List.mem_cons_self ..)
    refine ⟨(k, t) :: lp, by rw [e1, h1]; rfl, by simp [h2], fun q hq => ?_⟩
    rcases List.mem_cons.1 hq with rfl | hq
    · exact ⟨e2, e3⟩
    · exact h3 q hq
theorem M.Secs14.ins {L : List (Int × Value)} {k : Nat} {t : ByteArray} (h : M.Secs14 a L) (hk : M.gd a k) (ht : t.size = 64) : M.Secs14 a (M.ins (k : Int) (.string t) L) := by
  intro p hp
  rcases M.mem_ins hp with rfl | hp
  · exact ⟨k, t, rfl, hk, ht⟩
  · exact h p hp
theorem M.Secs14.puts : ∀ {L K : List (Int × Value)}, M.Secs14 a L → M.Secs14 a K → M.Secs14 a (M.puts L K)
  | [], _, _, h => h
  | p :: L, K, hL, hK => by
    obtain ⟨k, t, e1, e2, e3⟩ := hL p (List.mem_cons_self ..)
    show M.Secs14 a (M.puts L (M.ins p.1 p.2 K))
    refine M.Secs14.puts (fun q hq => hL q (List.mem_cons_of_mem _ hq)) ?_
    rw [e1]
    exact hK.ins e2 e3
theorem M.gd44 {k : Nat} (h : M.gd a k) : k < a.N := by have := a.facts; unfold M.gd at h; omega

theorem M.rE14 {lp : List (Nat × ByteArray)} {q : Nat} (h1 : 1 ≤ lp.length) (h16 : lp.length ≤ 16) (hq : q < 281474976710656) (hr : M.Rising (M.vs14 lp)) (hl : ∀ p ∈ lp, M.gd a p.1 ∧ p.2.size = 64) : M.rE (M.aF lp) (M.tF lp) (q : Nat) lp.length = 0 := by
  have hat : ∀ i, i < lp.length → ∃ p, lp[i]? = some p ∧ p ∈ lp := fun i hi => ⟨lp[i]'hi, List.getElem?_eq_getElem _, List.getElem_mem hi⟩
  have hlt : ∀ k i, k < i → i < lp.length → M.aF lp k < M.aF lp i := by
    intro k i hki hi
    have e := List.pairwise_iff_getElem.1 hr k i (by rw [M.vs14_len]; omega) (by rw [M.vs14_len]; exact hi) hki
    rw [M.vs14_at, M.vs14_at] at e
    obtain ⟨f1, _⟩ := M.aF_at (List.getElem?_eq_getElem (show k < lp.length by omega))
    obtain ⟨f2, _⟩ := M.aF_at (List.getElem?_eq_getElem hi)
    rw [f1, f2]
    exact e
  have hsec : ∀ i, i < lp.length → M.secE (M.aF lp) (M.tF lp) i = 0 := by
    intro i hi
    obtain ⟨p, e, hp⟩ := hat i hi
    obtain ⟨f1, f2⟩ := M.aF_at e
    obtain ⟨g1, g2⟩ := hl p hp
    have g1 := M.gd44 g1
    have g0 := a.few
    have ht : M.twice (M.aF lp) i = false := by
      cases hc : M.twice (M.aF lp) i with
      | false => rfl
      | true =>
        obtain ⟨k, hk, he⟩ := (M.twice_iff _ _).1 hc
        have := hlt k i hk hi
        omega
    unfold M.secE
    rw [if_neg (by rw [f1]; omega), if_neg (by rw [f2]; omega), if_neg (by rw [ht]; decide)]
  have hfirst : ∀ k, k ≤ lp.length → M.firstE (M.aF lp) (M.tF lp) k = 0 := by
    intro k
    induction k with
    | zero => intro _; rfl
    | succ k ih => intro hk; rw [M.firstE_next _ _ _ (ih (by omega)), hsec k (by omega)]
  unfold M.rE M.chk
  rw [if_neg (by omega), if_neg (by omega), if_neg (by omega)]
  exact hfirst _ (Nat.le_refl _)
theorem M.rising_few : ∀ (L : List (Int × Value)) (lo hi : Int), M.Rising L → (∀ p ∈ L, lo ≤ p.1 ∧ p.1 < hi) → L.length ≤ (hi - lo).toNat
  | [], _, _, _, _ => Nat.zero_le _
  | p :: L, lo, hi, h, hb => by
    obtain ⟨h1, h2⟩ := List.pairwise_cons.1 h
    obtain ⟨b1, b2⟩ := hb p (List.mem_cons_self ..)
    have := M.rising_few L (p.1 + 1) hi h2 (fun q hq => ⟨by have := h1 q hq; omega, (hb q (List.mem_cons_of_mem _ hq)).2⟩)
    rw [List.length_cons]
    omega
theorem M.Secs14.few {L : List (Int × Value)} (h : M.Secs14 a L) (hr : M.Rising L) : L.length ≤ a.N := by
  refine M.rising_few L 0 a.N hr (fun p hp => ?_)
  obtain ⟨k, t, e, hk, _⟩ := h p hp
  have := M.gd44 hk
  rw [e]
  exact ⟨by show (0 : Int) ≤ (k : Int); omega, by show (k : Int) < a.N; omega⟩

/-- The disk as the log has it, within a budget. -/
structure M.LS (a : M.Geo) (d : M.D) (T : Nat → ByteArray) (b : Nat) : Prop where
  ok : M.Ok14 a d
  ops : d.ops + 10000 * d.fails.length ≤ b
  lg : ∃ V g q p C, M.Sees a d V ∧ M.Lg a V T g q p C ∧ g + 2 * d.fails.length ≤ b ∧ q + C.length + 300 * d.fails.length ≤ b
/-- The wal alone, within a budget. -/
structure M.WS (a : M.Geo) (s : M.Wl) (T : Nat → ByteArray) (b : Nat) : Prop where
  ok : M.Ok14 a s.d
  ops : s.d.ops + 10000 * s.d.fails.length ≤ b
  gen : s.gen + 2 * s.d.fails.length ≤ b
  seq : s.seq + 300 * s.d.fails.length ≤ b
  wv : ∃ V g q p C, M.Sees a s.d V ∧ M.WV a s V T g q p C
  loose : M.Secs14 a s.l
  ll : s.l.length ≤ 16
  kept : M.Secs14 a s.k
section
variable {s : M.Wl} {T : Nat → ByteArray} {b : Nat}
theorem M.WS.more (h : M.WS a s T b) {c : Nat} (hc : b ≤ c) : M.WS a s T c := ⟨h.ok, Nat.le_trans h.ops hc, Nat.le_trans h.gen hc, Nat.le_trans h.seq hc, h.wv, h.loose, h.ll, h.kept⟩
theorem M.WS.disk (h : M.WS a s T b) : M.LS a s.d T (b + 2) := by
  obtain ⟨V, g, q, p, C, h1, h2⟩ := h.wv
  refine ⟨h.ok, by have := h.ops; omega, V, g, q, p, C, h1, h2.lg, ?_, by rw [h2.seq]; have := h.seq; omega⟩
  have h3 := h2.gen
  have h4 := h.gen
  rcases h3 with e | e <;> rw [e] <;> omega
theorem M.WS.pl (h : M.WS a s T b) : s.pl < a.mn - 2 := let ⟨_, _, _, _, _, _, h2⟩ := h.wv; h2.place
theorem M.WS.used (h : M.WS a s T b) : s.used ≤ a.mn - 2 := let ⟨_, _, _, _, _, _, h2⟩ := h.wv; h2.used.2
/-- Only what is staged changes. -/
theorem M.WS.stg (h : M.WS a s T b) (x : Bool) {L : List (Int × Value)} (hL : M.Secs14 a L) (hl : L.length ≤ 16) : M.WS a { s with act := x, l := L } T b :=
  ⟨h.ok, h.ops, h.gen, h.seq, let ⟨V, g, q, p, C, h1, h2⟩ := h.wv; ⟨V, g, q, p, C, h1, h2.same rfl rfl rfl rfl rfl⟩, hL, hl, h.kept⟩
theorem M.WS.act (h : M.WS a s T b) (x : Bool) : M.WS a { s with act := x } T b := h.stg x h.loose h.ll
theorem M.WS.abort (h : M.WS a s T b) : M.WS a { s with act := false, l := [] } T b := h.stg false M.Secs14.nil (by simp)
theorem M.WS.uns (h : M.WS a s T b) (x : Bool) : M.WS a { s with uns := x } T b :=
  ⟨h.ok, h.ops, h.gen, h.seq, let ⟨V, g, q, p, C, h1, h2⟩ := h.wv; ⟨V, g, q, p, C, h1, h2.same rfl rfl rfl rfl rfl⟩, h.loose, h.ll, h.kept⟩
/-- The disk did something that is not seen. -/
theorem M.WS.still (h : M.WS a s T b) {d' : M.D} {n : Nat} (hw : M.Was a s.d d' n) (hs : ∀ V, M.Sees a s.d V → M.Sees a d' V) : M.WS a { s with d := d' } T (b + n) := by
  have h1 := hw.fl
  have h2 := hw.ops
  have h3 := h.ops
  have h4 := h.gen
  have h5 := h.seq
  refine ⟨hw.ok, ?_, ?_, ?_, let ⟨V, g, q, p, C, h1, h2⟩ := h.wv; ⟨V, g, q, p, C, hs V h1, h2.same rfl rfl rfl rfl rfl⟩, h.loose, h.ll, h.kept⟩
  · show d'.ops + 10000 * d'.fails.length ≤ _; omega
  · show s.gen + 2 * d'.fails.length ≤ _; omega
  · show s.seq + 300 * d'.fails.length ≤ _; omega
theorem M.WS.flush (h : M.WS a s T b) : M.WS a { s with d := M.flushD s.d, uns := if M.beginE s.d = 0 then false else s.uns } T (b + 1) ∧ (M.beginE s.d = 0 ∨ M.beginE s.d = 30) := by
  obtain ⟨V, g, q, p, C, h1, h2⟩ := h.wv
  have hf := h.ok.flush h1
  refine ⟨(h.still hf.1 (fun W hW => ?_)).uns _, hf.2.imp (fun e => e.1) (fun e => e.1)⟩
  have hf2 := h.ok.flush hW
  exact hf2.2.elim (fun e => e.2) (fun e => e.2.2)
theorem M.WS.flushF (h : M.WS a s T b) : (M.flushD s.d).fails.length ≤ s.d.fails.length ∧ (M.beginE s.d = 30 → (M.flushD s.d).fails.length < s.d.fails.length) := by
  obtain ⟨V, g, q, p, C, h1, h2⟩ := h.wv
  have hf := h.ok.flush h1
  exact ⟨hf.1.fl, fun e => hf.2.elim (fun x => by rw [x.1] at e; exact absurd e (by decide)) (fun x => x.2.1)⟩
theorem M.WS.read (h : M.WS a s T b) : M.WS a { s with d := M.beginD s.d } T (b + 1) := h.still h.ok.begin (fun _ hW => hW)

/-- What Commit leaves. -/
theorem M.WS.commit (h : M.WS a s T b) {lp : List (Nat × ByteArray)} (hl : s.l = M.vs14 lp) (hfit : ∀ p ∈ lp, M.gd a p.1 ∧ p.2.size = 64) (hr : lp.length ≠ 0 → M.rE (M.aF lp) (M.tF lp) ((s.seq : Nat) : Int) lp.length = 0) :
    (s.act = false ∧ M.wlCommitE a.fr a.mn s lp = 10 ∧ M.wlCommit a.fr a.mn s lp = s) ∨
    (s.act = true ∧ lp.length = 0 ∧ M.wlCommitE a.fr a.mn s lp = 0 ∧ M.wlCommit a.fr a.mn s lp = { s with act := false }) ∨
    (s.act = true ∧ lp.length ≠ 0 ∧ a.mn - 2 < s.used + lp.length + 1 ∧ M.wlCommitE a.fr a.mn s lp = 6 ∧ M.wlCommit a.fr a.mn s lp = s) ∨
    (s.act = true ∧ lp.length ≠ 0 ∧ s.used + lp.length + 1 ≤ a.mn - 2 ∧ M.wlCommitE a.fr a.mn s lp = 30 ∧ ∃ d', M.wlCommit a.fr a.mn s lp = { s with d := d' } ∧ M.WS a { s with d := d' } T (b + 100) ∧ d'.fails.length < s.d.fails.length) ∨
    (s.act = true ∧ lp.length ≠ 0 ∧ s.used + lp.length + 1 ≤ a.mn - 2 ∧ M.wlCommitE a.fr a.mn s lp = 0 ∧ ∃ s', M.wlCommit a.fr a.mn s lp = s' ∧ M.WS a s' (M.upd T lp) (b + 100) ∧ s'.act = false ∧ s'.l = [] ∧ s'.used = s.used + lp.length + 1 ∧ s'.uns = true ∧ s'.dk = s.dk ∧ s'.k = M.puts s.l s.k ∧ s'.d.fails.length ≤ s.d.fails.length) := by
  unfold M.wlCommitE M.wlCommit
  cases ha : s.act with
  | false => exact Or.inl ⟨rfl, by rw [if_pos rfl], by rw [if_pos rfl]⟩
  | true =>
    right
    rw [if_neg (show ¬ (true = false) by decide), if_neg (show ¬ (true = false) by decide)]
    by_cases h0 : lp.length = 0
    · exact Or.inl ⟨rfl, h0, by rw [if_pos h0], by rw [if_pos h0]⟩
    · right
      rw [if_neg h0, if_neg h0]
      by_cases hroom : s.used + lp.length + 1 ≤ a.mn - 2
      · right
        have eE : M.prE a.fr a.mn s lp = (M.prR a.fr a.mn s lp).1 := by unfold M.prE; rw [if_pos (by omega)]
        have eW : M.prW a.fr a.mn s lp = if (M.prR a.fr a.mn s lp).1 = 0 then M.wlPut a.fr a.mn s lp else { s with d := (M.prR a.fr a.mn s lp).2 } := by unfold M.prW; rw [if_pos (by omega)]
        rw [eE, eW]
        obtain ⟨V, g, q, p, C, h1, h2⟩ := h.wv
        obtain ⟨V', hsp, hput⟩ := h2.put lp (hr h0) hfit hroom hl (left := ((a.mn - 2 : Nat) : Int) - ((s.used : Nat) : Int) - (1 + ((lp.length : Nat) : Int))) (by omega)
        obtain ⟨hw, hcase⟩ := hsp s.d h.ok h1
        have hRd : M.prR a.fr a.mn s lp = M.steps14 (M.pbF (a.fr + 2) (a.mn - 2) s.pl ((M.recW s lp).extract 0 64) (M.pbO (M.recW s lp) (((a.mn - 2 : Nat) : Int) - ((s.used : Nat) : Int) - (1 + ((lp.length : Nat) : Int))))) s.d := rfl
        rw [← hRd] at hw hcase
        obtain ⟨R, hR⟩ : ∃ R, R = M.prR a.fr a.mn s lp := ⟨_, rfl⟩
        have g1 := hw.fl
        have g2 := hw.ops
        have g3 := h.ops
        have g4 := h.gen
        have g5 := h.seq
        rw [← hR] at hw hcase g1 g2 ⊢
        rcases hcase with ⟨e, hs⟩ | ⟨e, hf, U, hU, hG⟩
        · right
          refine ⟨rfl, h0, hroom, by rw [e], _, rfl, ?_, ?_⟩
          · rw [if_pos e, if_pos e]
            refine ⟨by show M.Ok14 a (M.prR a.fr a.mn s lp).2; rw [← hR]; exact hw.ok, ?_, ?_, ?_, ⟨V', g, q, p, C ++ [lp], by show M.Sees a (M.prR a.fr a.mn s lp).2 V'; rw [← hR]; exact hs, hput _ rfl rfl rfl rfl rfl⟩, M.Secs14.nil, by simp [M.wlPut], h.loose.puts h.kept⟩
            · show (M.prR a.fr a.mn s lp).2.ops + 10000 * (M.prR a.fr a.mn s lp).2.fails.length ≤ _; rw [← hR]; omega
            · show s.gen + 2 * (M.prR a.fr a.mn s lp).2.fails.length ≤ _; rw [← hR]; omega
            · show s.seq + 1 + 300 * (M.prR a.fr a.mn s lp).2.fails.length ≤ _; rw [← hR]; omega
          · rw [if_pos e, if_pos e]
            exact ⟨rfl, rfl, by show s.used + (lp.length + 1) = _; omega, rfl, rfl, rfl, by show (M.prR a.fr a.mn s lp).2.fails.length ≤ _; rw [← hR]; exact g1⟩
        · left
          refine ⟨rfl, h0, hroom, e, R.2, by rw [if_neg (by rw [e]; decide), if_neg (by rw [e]; decide), ← ha], ⟨hw.ok, ?_, ?_, ?_, ⟨U, g, q, p, C, hU, hG.same rfl rfl rfl rfl rfl⟩, h.loose, h.ll, h.kept⟩, hf⟩
          · show R.2.ops + 10000 * R.2.fails.length ≤ _; omega
          · show s.gen + 2 * R.2.fails.length ≤ _; omega
          · show s.seq + 300 * R.2.fails.length ≤ _; omega
      · left
        have eE : M.prE a.fr a.mn s lp = 6 := by unfold M.prE; rw [if_neg (by omega)]
        have eW : M.prW a.fr a.mn s lp = s := by unfold M.prW; rw [if_neg (by omega)]
        exact ⟨rfl, h0, by omega, by rw [eE], by rw [eE, if_neg (by decide), eW]⟩

/-- What Checkpoint leaves. -/
theorem M.WS.check (h : M.WS a s T b) (hb : b ≤ 500000) (hup : M.Rising s.k) {lk : List (Nat × ByteArray)} (hlk : s.k = M.vs14 lk) (hfit : ∀ x ∈ lk, M.gd a x.1 ∧ x.2.size = 64) {R : Int × M.D} (hR : M.steps14 (M.mvF lk a.fr a.mn (s.gen + 1) s.seq s.pl) s.d = R) :
    (R.1 = 0 ∧ M.WS a ⟨s.gen + 1, s.seq, s.pl, 0, s.act, false, R.2, s.l, [], s.dk⟩ T (b + 1000) ∧ R.2.fails.length ≤ s.d.fails.length) ∨ (R.1 = 30 ∧ M.WS a { s with d := R.2 } T (b + 1000) ∧ R.2.fails.length < s.d.fails.length) := by
  obtain ⟨V, g, q, p, C, h1, h2⟩ := h.wv
  have g3 := h.ops
  have g4 := h.gen
  have g5 := h.seq
  have hfew := a.few
  have hlen : lk.length ≤ a.N := by have := h.kept.few hup; rwa [hlk, M.vs14_len] at this
  obtain ⟨V', hsp, hck⟩ := h2.check lk hlk hup hfit (by omega) (by omega)
  obtain ⟨hw, hcase⟩ := hsp s.d h.ok h1
  rw [hR] at hw hcase
  have g1 := hw.fl
  have g2 := hw.ops
  rcases hcase with ⟨e, hs⟩ | ⟨e, hf, U, hU, g', q', p', C', hG⟩
  · refine Or.inl ⟨e, ⟨hw.ok, ?_, ?_, ?_, ⟨V', _, _, _, _, hs, hck _ rfl rfl rfl rfl rfl⟩, h.loose, h.ll, M.Secs14.nil⟩, g1⟩
    · show R.2.ops + 10000 * R.2.fails.length ≤ _; omega
    · show s.gen + 1 + 2 * R.2.fails.length ≤ _; omega
    · show s.seq + 300 * R.2.fails.length ≤ _; omega
  · refine Or.inr ⟨e, ⟨hw.ok, ?_, ?_, ?_, ⟨U, g', q', p', C', hU, hG.same rfl rfl rfl rfl rfl⟩, h.loose, h.ll, h.kept⟩, hf⟩
    · show R.2.ops + 10000 * R.2.fails.length ≤ _; omega
    · show s.gen + 2 * R.2.fails.length ≤ _; omega
    · show s.seq + 300 * R.2.fails.length ≤ _; omega
end

section
variable {s : M.Wl} {T : Nat → ByteArray} {b : Nat}
theorem M.has_find1 : ∀ (i : Int) (L : List (Int × Value)), M.has14 i L = (M.find i L).isSome
  | _, [] => rfl
  | i, p :: L => by
    show (p.1 == i || M.has14 i L) = _
    rw [M.has_find1 i L, M.find]
    by_cases e : p.1 = i
    · rw [if_pos e, beq_iff_eq.2 e]; rfl
    · rw [if_neg e, beq_eq_false_iff_ne.2 e]; rfl
/-- Stage. -/
theorem M.WS.stage1 (h : M.WS a s T b) (hr : M.Rising s.l) (i : Int) (t : ByteArray) : M.WS a (M.wlStage a.fr a.mn s i t) T b := by
  unfold M.wlStage
  by_cases e : M.wlStageE a.fr a.mn s i t = 0
  · rw [if_pos e]
    unfold M.wlStageE at e
    split at e
    · exact absurd e (by decide)
    · split at e
      · exact absurd e (by decide)
      · rename_i hg
        split at e
        · exact absurd e (by decide)
        · rename_i ht
          split at e
          · exact absurd e (by decide)
          · rename_i h16
            have hg' : M.guards s.d.S.length a.fr a.mn i = true := by simpa using hg
            rw [h.ok.len] at hg'
            unfold M.guards at hg'
            simp at hg'
            have hgd : M.gd a i.toNat := by unfold M.gd; omega
            have hin : M.Secs14 a (M.ins i (.string t) s.l) := by
              rw [show i = ((i.toNat : Nat) : Int) by omega]
              exact h.loose.ins hgd (by omega)
            have hact : ({ s with l := M.ins i (.string t) s.l } : M.Wl) = { s with act := s.act, l := M.ins i (.string t) s.l } := rfl
            rw [hact]
            refine h.stg s.act hin ?_
            rw [M.length_ins i _ hr]
            have hll := h.ll
            split
            · omega
            · rename_i hf
              by_cases h15 : s.l.length = 16
              · exfalso
                apply h16
                refine ⟨by omega, ?_⟩
                rw [M.has_find1]
                simpa using hf
              · omega
  · rw [if_neg e]
    exact h
end
end Go.Proofs.YtmgchfjfkdkaoaaGreatDoor
namespace Go.Proofs.YtmgchfjfkdkaoaaGreatDoor
open Go.RowKit Go.Maps

variable {a : M.Geo}
theorem M.LS.of {d d' : M.D} {T V : Nat → ByteArray} {b n g q p : Nat} {C : List (List (Nat × ByteArray))} (h : M.LS a d T b) (hw : M.Was a d d' n) (hn : n ≤ 10000) (hf : d'.fails.length < d.fails.length) (hV : M.Sees a d' V) (hL : M.Lg a V T g q p C) (hg : g + 2 * d.fails.length ≤ b + 2) (hq : q + C.length + 300 * d.fails.length ≤ b + 300) : M.LS a d' T b := by
  have h1 := hw.ops
  have h2 := h.ops
  exact ⟨hw.ok, by omega, V, g, q, p, C, hV, hL, by omega, by omega⟩
/-- What Open leaves where da call failed; and where none did. -/
def OpenN (a : M.Geo) (w w' : World) (da : Nat) (P : Nat → Prop) (d : M.D) (T : Nat → ByteArray) (b : Nat) (e : Ending) : Prop :=
  e = .returned (.tuple #[.pointer none, .int .i64 30]) ∧ ∃ d', Disk w' da (M.plus P w.heap.size) d' ∧ M.LS a d' T b ∧ d'.fails.length < d.fails.length
def OpenY (a : M.Geo) (w w' : World) (da : Nat) (P : Nat → Prop) (d : M.D) (T : Nat → ByteArray) (b : Nat) (e : Ending) : Prop :=
  ∃ wb s, e = .returned (.tuple #[.pointer (some ⟨wb, 0, none⟩), .int .i64 0]) ∧ Wal w' wb (M.plus P w.heap.size) a.fr a.mn s ∧ M.WS a s T (b + 5000) ∧ s.act = false ∧ s.l = [] ∧ s.k = [] ∧ s.used = 0 ∧ s.uns = false ∧ s.dk = da ∧ s.d.fails.length ≤ d.fails.length

theorem open15_any (w : World) {da b : Nat} {P : Nat → Prop} {d : M.D} {T : Nat → ByteArray} (h : Disk w da P d) (hlow : ∀ k, P k → k < w.heap.size) (hE : Env10 w) (hpe : ¬ P 0) (hET : ErrT w) (hPE : ¬ P 1) (ok : M.LS a d T b) (hb : b ≤ 500000) :
    Calls Tryz.prog 16 #[.pointer (some ⟨da, 0, none⟩), .int .i64 (a.fr : Nat), .int .i64 (a.mn : Nat)] w fun e w' => (OpenN a w w' da P d T b e ∨ OpenY a w w' da P d T b e) ∧ Kept P w w' := by
  obtain ⟨V, g, q, p, C, hV, hL, hg, hq⟩ := ok.lg
  have hops := ok.ops
  have hlen := ok.ok.len
  obtain ⟨z1, z2, z3, z4⟩ := a.facts
  have hin := h.inv
  have hz : ∀ k, k < a.N → (V k).size = 64 := fun k hk => by rw [← hV k hk]; exact hin.seen (by omega)
  have hz0 := hz a.fr (by omega)
  have hz1 := hz (a.fr + 1) (by omega)
  obtain ⟨s, E, d1, hG, w1, hV1, hc⟩ := M.heads15 ok.ok hV
  rcases hc with ⟨rfl, rfl⟩ | ⟨rfl, hf⟩
  · have hN := hL.newer (by omega) (by omega)
    obtain ⟨E2, d2, u, l, hsc, w2, hV2, hc2, hgd⟩ := hL.told w1.ok hV1
    have ho1 := w1.ops
    have ho2 := w2.ops
    have hf1 := w1.fl
    have hf2 := w2.fl
    rcases hc2 with ⟨rfl, ha, hl⟩ | ⟨rfl, hf⟩
    · obtain ⟨V', hsp, hmk⟩ := hL.opens (q1 := q + C.length + a.mn) (by omega) (by omega) rfl
      have hsp2 := hsp d2 w2.ok hV2
      have hR : M.steps14 (M.mvR (M.readyF (a.fr + 2) (a.mn - 2) p 0 (q + l.length + a.mn)) (M.allSecs l) a.fr a.mn (g + 1) (q + l.length + a.mn) 0) d2 = M.steps14 (M.mvR (M.readyF (a.fr + 2) (a.mn - 2) p 0 (q + C.length + a.mn)) C.flatten a.fr a.mn (g + 1) (q + C.length + a.mn) 0) d2 := by rw [ha, hl]
      obtain ⟨R, hRd⟩ : ∃ R, R = M.steps14 (M.mvR (M.readyF (a.fr + 2) (a.mn - 2) p 0 (q + C.length + a.mn)) C.flatten a.fr a.mn (g + 1) (q + C.length + a.mn) 0) d2 := ⟨_, rfl⟩
      rw [← hRd] at hsp2 hR
      clear hsp hRd
      obtain ⟨w3, hc3⟩ := hsp2
      have ho3 := w3.ops
      have hf3 := w3.fl
      have hroom := hL.room
      have htl := M.tot_len C
      have htf := M.tot_flat C
      have hl9 : l.length ≤ 1000 := by omega
      have hs9 : (M.allSecs l).length ≤ 1000 := by rw [ha]; omega
      have hp9 : ∀ x ∈ M.allSecs l, x.1 ≤ 1000 := fun x hx => by
        rw [ha] at hx
        obtain ⟨c, hc, hx2⟩ := List.mem_flatten.1 hx
        have := M.gd44 (hL.fit c hc x hx2).1
        omega
      rcases hc3 with ⟨hR0, hV3⟩ | ⟨hR0, hf, U, hU, g', q', p', C', hL', hg', hq'⟩
      · refine (open_good g q p a.fr a.mn w h hlow (by omega) (by omega) (by omega) (by omega) (by omega) hE hpe hG hz0 hz1 (by omega) hN hL.pl (by omega) (by omega) hsc hgd hl9 hs9 hp9 (by omega) hET hPE hR hR0).mono ?_
        rintro e w' ⟨x, e1, e2, e3⟩
        refine ⟨Or.inr ⟨x, _, e1, e2, ⟨w3.ok, ?_, ?_, ?_, ⟨V', g + 1, q + C.length + a.mn, 0, [], hV3, hmk ⟨g + 1, q + l.length + a.mn, 0, 0, false, false, R.2, [], [], da⟩ rfl (by show q + l.length + a.mn = _; rw [hl]) rfl rfl rfl⟩, M.Secs14.nil, by simp, M.Secs14.nil⟩, rfl, rfl, rfl, rfl, rfl, rfl, by show R.2.fails.length ≤ _; omega⟩, e3⟩
        · show R.2.ops + 10000 * R.2.fails.length ≤ _; omega
        · show g + 1 + 2 * R.2.fails.length ≤ _; omega
        · show q + l.length + a.mn + 300 * R.2.fails.length ≤ _; omega
      · refine (open_bad g q p a.fr a.mn w h hlow (by omega) (by omega) (by omega) (by omega) (by omega) hE hpe hG hz0 hz1 (by omega) hN hL.pl (by omega) (by omega) hsc hgd hl9 hs9 hp9 (by omega) hET hPE hR (by rw [hR0]; decide)).mono ?_
        rintro e w' ⟨e1, e2, e3⟩
        exact ⟨Or.inl ⟨by rw [e1, hR0], _, e2, ok.of ((w1.trans w2).trans w3) (by omega) (by omega) hU hL' (by omega) (by omega), by omega⟩, e3⟩
    · refine (open_err2 g q p a.fr a.mn w h hlow (by omega) (by omega) (by omega) (by omega) (by omega) hE hpe hG hz0 hz1 (by omega) hN hL.pl (by omega) (by omega) hsc (by decide) hgd).mono ?_
      rintro e w' ⟨e1, e2, e3⟩
      exact ⟨Or.inl ⟨e1, _, e2.mono (fun _ _ e => Or.inl e), ok.of (w1.trans w2) (by omega) (by omega) hV2 hL (by omega) (by omega), by omega⟩, e3⟩
  · refine (open_err1 a.fr a.mn w h hlow (by omega) (by omega) (by omega) (by omega) (by omega) hG (by decide)).mono ?_
    rintro e w' ⟨e1, e2, e3⟩
    exact ⟨Or.inl ⟨e1, _, e2.mono (fun _ _ e => Or.inl e), ok.of w1 (by omega) hf hV1 hL (by omega) (by omega), hf⟩, e3⟩
end Go.Proofs.YtmgchfjfkdkaoaaGreatDoor
namespace Go.Proofs.YtmgchfjfkdkaoaaGreatDoor
open Go.RowKit Go.Maps

variable {a : M.Geo}
/-- What is read of a sector: what is staged, or what was. -/
def M.now (s : M.Wl) (T : Nat → ByteArray) (k : Nat) : ByteArray := match M.find (k : Int) s.l with
  | some (.string t) => t
  | _ => T k
theorem M.now_nil {s : M.Wl} (T : Nat → ByteArray) (h : s.l = []) : M.now s T = T := by
  funext k
  unfold M.now
  rw [h]
  rfl
theorem M.now_some {s : M.Wl} {T : Nat → ByteArray} {k : Nat} {t : ByteArray} (h : M.find (k : Int) s.l = some (.string t)) : M.now s T k = t := by
  unfold M.now
  rw [h]
theorem M.now_none {s : M.Wl} {T : Nat → ByteArray} {k : Nat} (h : M.find (k : Int) s.l = none) : M.now s T k = T k := by
  unfold M.now
  rw [h]
theorem M.find_seen0 (k : Nat) : ∀ lp : List (Nat × ByteArray), M.Rising (M.vs14 lp) → M.find (k : Int) (M.vs14 lp) = (M.seen0 lp k).map Value.string
  | [], _ => rfl
  | p :: L, h => by
    obtain ⟨h1, h2⟩ := List.pairwise_cons.1 (show List.Pairwise _ (((p.1 : Int), Value.string p.2) :: M.vs14 L) from h)
    show (if (p.1 : Int) = (k : Int) then some (Value.string p.2) else M.find (k : Int) (M.vs14 L)) = _
    rw [M.seen0_cons]
    by_cases e : p.1 = k
    · have hn : M.seen0 L k = none := M.seen_fold_no none (fun x hx ex => by
        have hm : ((x.1 : Int), Value.string x.2) ∈ M.vs14 L := List.mem_map.2 ⟨x, hx, rfl⟩
        have := h1 _ hm
        simp only at this
        omega)
      rw [if_pos (by omega), hn, if_pos e]
      rfl
    · rw [if_neg (by omega), if_neg e, M.find_seen0 k L h2]
      cases M.seen0 L k <;> rfl
theorem M.upd_now {s : M.Wl} {lp : List (Nat × ByteArray)} (T : Nat → ByteArray) (hl : s.l = M.vs14 lp) (hr : M.Rising s.l) : M.upd T lp = M.now s T := by
  funext k
  have h := M.find_seen0 k lp (by rw [← hl]; exact hr)
  rw [← hl] at h
  unfold M.upd M.now
  rw [h]
  cases M.seen0 lp k <;> rfl

theorem WalSh {y : World} {b fr mn : Nat} {P : Nat → Prop} {s : M.Wl} (h : Wal y b P fr mn s) : M.Rising s.l ∧ M.Rising s.k := by
  obtain ⟨a, ra, rr, sb, PD, PS, h, -, -, -, -, -⟩ := h
  obtain ⟨lo, so, h, -, -, -⟩ := h.sh
  exact ⟨h.loose.up, h.stays.up⟩

/-- A wal in memory on such a disk: T is what was committed. -/
structure WA (a : M.Geo) (y : World) (wb : Nat) (P : Nat → Prop) (s : M.Wl) (T : Nat → ByteArray) (n : Nat) : Prop where
  wal : Wal y wb P a.fr a.mn s
  ws : M.WS a s T n
  calm : s.d.fails = []
section
variable {y z : World} {wb n : Nat} {P Q : Nat → Prop} {s : M.Wl} {T : Nat → ByteArray}
theorem WA.kept (h : WA a y wb P s T n) (hk : Kept Q y z) (hpq : ∀ j, P j → ¬ Q j) : WA a z wb P s T n := ⟨h.wal.kept hk hpq, h.ws, h.calm⟩
theorem WA.mono (h : WA a y wb P s T n) (hpq : ∀ j, j < y.heap.size → P j → Q j) : WA a y wb Q s T n := ⟨h.wal.mono hpq, h.ws, h.calm⟩
theorem WA.more (h : WA a y wb P s T n) {m : Nat} (hm : n ≤ m) : WA a y wb P s T m := ⟨h.wal, h.ws.more hm, h.calm⟩
theorem M.none_less {l m : List Int} (h : l.length ≤ m.length) (hm : m = []) : l = [] := List.eq_nil_of_length_eq_zero (by rw [hm] at h; simpa using h)

theorem WA.begin (h : WA a y wb P s T n) : Calls Tryz.prog 25 #[.pointer (some ⟨wb, 0, none⟩)] y fun e z => e = .returned (.int .i64 (if s.act = true then 10 else 0)) ∧ WA a z wb P { s with act := true } T n ∧ Kept P y z :=
  (begin14_any h.wal).mono fun _ _ ⟨e1, e2, e3⟩ => ⟨e1, ⟨e2, h.ws.act true, h.calm⟩, e3⟩
theorem WA.stage (h : WA a y wb P s T n) (i : Int) (t : ByteArray) (hw : (Lit.int .i64 i).wf = true) : Calls Tryz.prog 41 #[.pointer (some ⟨wb, 0, none⟩), .int .i64 i, .string t] y fun e z => e = .returned (.int .i64 (M.wlStageE a.fr a.mn s i t)) ∧ WA a z wb (fun j => P j ∨ y.heap.size ≤ j) (M.wlStage a.fr a.mn s i t) T n ∧ Kept P y z := by
  have f := a.facts
  refine (stage14_any h.wal i t hw (by omega) (by omega) (by have := h.ws.ll; omega)).mono ?_
  rintro e z ⟨e1, e2, e3⟩
  refine ⟨e1, ⟨e2, h.ws.stage1 (WalSh h.wal).1 i t, ?_⟩, e3⟩
  unfold M.wlStage
  split
  · exact h.calm
  · exact h.calm
theorem WA.flush (h : WA a y wb P s T n) (hn : n ≤ 500000) : Calls Tryz.prog 14 #[.pointer (some ⟨wb, 0, none⟩)] y fun e z => e = .returned (.int .i64 0) ∧ WA a z wb (fun j => P j ∨ y.heap.size ≤ j) { s with d := M.flushD s.d, uns := false } T (n + 1) ∧ (M.flushD s.d).L = [] ∧ Kept P y z := by
  have hops := h.ws.ops
  have he : M.beginE s.d = 0 := h.ws.flush.2.elim id (fun e => by have := h.ws.flushF.2 e; rw [h.calm] at this; exact absurd this (by simp))
  have hf := h.ws.flush.1
  have hL : (M.flushD s.d).L = [] := by unfold M.flushD; rw [if_pos he]
  have hF := h.ws.flushF.1
  rw [he, if_pos rfl] at hf
  refine (flush15_any h.wal (by omega)).mono ?_
  rintro e z ⟨e1, e2, e3⟩
  rw [he, if_pos rfl] at e2
  rw [he] at e1
  exact ⟨e1, ⟨e2, hf, M.none_less hF h.calm⟩, hL, e3⟩
theorem WA.read (h : WA a y wb P s T n) (hn : n ≤ 500000) (k : Nat) (hk : M.gd a k) : Calls Tryz.prog 42 #[.pointer (some ⟨wb, 0, none⟩), .int .i64 (k : Nat)] y fun e z => e = .returned (.tuple #[.string (M.now s T k), .int .i64 0]) ∧ ∃ d', WA a z wb (fun j => P j ∨ y.heap.size ≤ j) { s with d := d' } T (n + 1) ∧ Kept P y z := by
  have f := a.facts
  have hk9 := M.gd44 hk
  have hops := h.ws.ops
  have hw : (Lit.int .i64 (k : Nat)).wf = true := WalkArith.wf_i64 (by omega)
  cases hl : M.find (k : Int) s.l with
  | some v =>
    obtain ⟨k', t, e1, e2, e3⟩ := h.ws.loose _ (M.find_mem hl)
    obtain rfl : v = .string t := (Prod.mk.inj e1).2
    have hg : M.get13 (k : Nat) s.l s.k = some (.string t) := by unfold M.get13; rw [hl]; rfl
    refine (read14_found h.wal (k : Nat) t hw hg).mono ?_
    rintro e z ⟨e1, rfl⟩
    rw [M.now_some hl]
    exact ⟨e1, s.d, (h.mono (fun _ _ e => Or.inl e)).more (Nat.le_succ _), Kept.refl _ _⟩
  | none =>
    rw [M.now_none hl]
    obtain ⟨V, g, q, p, C, v1, v2⟩ := h.ws.wv
    rcases v2.kept k hk with e | ⟨e, eV⟩
    · have hg : M.get13 (k : Nat) s.l s.k = some (.string (T k)) := by unfold M.get13; rw [hl]; exact e
      refine (read14_found h.wal (k : Nat) (T k) hw hg).mono ?_
      rintro e z ⟨e1, rfl⟩
      exact ⟨e1, s.d, (h.mono (fun _ _ e => Or.inl e)).more (Nat.le_succ _), Kept.refl _ _⟩
    · have hg : M.get13 (k : Nat) s.l s.k = none := by unfold M.get13; rw [hl]; exact e
      rcases h.ws.ok.read v1 k hk9 with ⟨x1, x2⟩ | ⟨_, x2⟩
      · refine (read14_disk h.wal (k : Nat) hw hg (by omega)).mono ?_
        rintro e z ⟨e1, e2, e3⟩
        rw [x1, x2, eV] at e1
        exact ⟨e1, M.beginD s.d, ⟨e2, h.ws.read, M.none_less (M.begin_len s.d) h.calm⟩, e3⟩
      · rw [h.calm] at x2
        exact absurd x2 (by simp)
/-- Commit: nothing begun; nothing staged; no room; or all that is staged counts. -/
theorem WA.commit (h : WA a y wb P s T n) (hn : n ≤ 500000) (hE : ErrT y) (hP : ¬ P 1) : Calls Tryz.prog 26 #[.pointer (some ⟨wb, 0, none⟩)] y fun e z => Kept P y z ∧
    ((s.act = false ∧ e = .returned (.int .i64 10) ∧ WA a z wb (fun j => P j ∨ y.heap.size ≤ j) s T n) ∨
     (s.act = true ∧ s.l = [] ∧ e = .returned (.int .i64 0) ∧ WA a z wb (fun j => P j ∨ y.heap.size ≤ j) { s with act := false } T n) ∨
     (s.act = true ∧ s.l ≠ [] ∧ a.mn - 2 < s.used + s.l.length + 1 ∧ e = .returned (.int .i64 6) ∧ WA a z wb (fun j => P j ∨ y.heap.size ≤ j) s T n) ∨
     (s.act = true ∧ s.l ≠ [] ∧ s.used + s.l.length + 1 ≤ a.mn - 2 ∧ e = .returned (.int .i64 0) ∧ ∃ s', WA a z wb (fun j => P j ∨ y.heap.size ≤ j) s' (M.now s T) (n + 100) ∧ s'.act = false ∧ s'.l = [] ∧ s'.used = s.used + s.l.length + 1 ∧ s'.uns = true ∧ s'.dk = s.dk)) := by
  have f := a.facts
  obtain ⟨lp, e1, e2, e3⟩ := h.ws.loose.list
  have hr := WalSh h.wal
  have hkl := h.ws.kept.few hr.2
  have hr1 := hr.1
  rw [e1] at hr1
  have hll := h.ws.ll
  have hseq := h.ws.seq
  have hops := h.ws.ops
  have hrE : lp.length ≠ 0 → M.rE (M.aF lp) (M.tF lp) ((s.seq : Nat) : Int) lp.length = 0 := fun h0 => M.rE14 (by omega) (by omega) (by omega) hr1 e3
  have hnil : lp.length = 0 → s.l = [] := fun h0 => List.eq_nil_of_length_eq_zero (by omega)
  have hnn : lp.length ≠ 0 → s.l ≠ [] := fun h0 e => h0 (by rw [e2, e]; rfl)
  have hnow := M.upd_now T e1 hr.1
  refine (commit14_any h.wal lp e1 (fun p hp => by have := M.gd44 (e3 p hp).1; omega) hrE (by omega) (by omega) (by omega) h.ws.pl h.ws.used (by omega) (by omega) (by omega) ⟨hE, hP⟩).mono ?_
  rintro e z ⟨f1, f2, f3⟩
  refine ⟨f3, ?_⟩
  rcases h.ws.commit e1 e3 hrE with ⟨c1, c2, c3⟩ | ⟨c1, c2, c3, c4⟩ | ⟨c1, c2, c3, c4, c5⟩ | ⟨_, _, _, _, d', _, _, c1⟩ | ⟨c1, c2, c3, c4, s', c5, c6, c7, c8, c9, c10, c11, c12, c13⟩
  · rw [c2] at f1
    rw [c3] at f2
    exact Or.inl ⟨c1, f1, f2, h.ws, h.calm⟩
  · rw [c3] at f1
    rw [c4] at f2
    exact Or.inr (Or.inl ⟨c1, hnil c2, f1, f2, h.ws.act false, h.calm⟩)
  · rw [c4] at f1
    rw [c5] at f2
    exact Or.inr (Or.inr (Or.inl ⟨c1, hnn c2, by omega, f1, f2, h.ws, h.calm⟩))
  · rw [h.calm] at c1
    exact absurd c1 (by simp)
  · rw [c4] at f1
    rw [c5] at f2
    rw [hnow] at c6
    exact Or.inr (Or.inr (Or.inr ⟨c1, hnn c2, by omega, f1, s', ⟨f2, c6, M.none_less c13 h.calm⟩, c7, c8, by rw [c9, e2], c10, c11⟩))
/-- Checkpoint. -/
theorem WA.check (h : WA a y wb P s T n) (hn : n ≤ 500000) (hE : ErrT y) (hP : ¬ P 1) : Calls Tryz.prog 27 #[.pointer (some ⟨wb, 0, none⟩)] y fun e z => e = .returned (.int .i64 0) ∧ Kept P y z ∧
    ∃ s', WA a z wb (fun j => P j ∨ y.heap.size ≤ j) s' T (n + 1000) ∧ s'.act = s.act ∧ s'.l = s.l ∧ s'.used = 0 ∧ s'.uns = false ∧ s'.k = [] ∧ s'.dk = s.dk := by
  have f := a.facts
  obtain ⟨lk, e1, e2, e3⟩ := h.ws.kept.list
  have hr := WalSh h.wal
  have hkl := h.ws.kept.few hr.2
  have hseq := h.ws.seq
  have hops := h.ws.ops
  have hgen := h.ws.gen
  have hpl := h.ws.pl
  rcases h.ws.check hn hr.2 e1 e3 rfl with ⟨c1, c2, c3⟩ | ⟨_, _, c1⟩
  · refine (checkpoint14_good h.wal lk e1 (fun p hp => by have := M.gd44 (e3 p hp).1; omega) (by omega) hE hP rfl c1 (by omega) (by omega) (by omega) (by omega) (by omega) (by omega) (by omega)).mono ?_
    rintro e z ⟨f1, f2, f3⟩
    exact ⟨f1, f3, _, ⟨f2, c2, M.none_less c3 h.calm⟩, rfl, rfl, rfl, rfl, rfl, rfl⟩
  · rw [h.calm] at c1
    exact absurd c1 (by simp)
end

/-- The machine goes down where nothing waits: nothing is lost. -/
theorem M.LS.restart {d : M.D} {T : Nat → ByteArray} {n : Nat} (h : M.LS a d T n) (hL : d.L = []) (f : Nat → Bool) : M.LS a (M.restartD d f) T n ∧ (M.restartD d f).fails = [] := by
  obtain ⟨V, g, q, p, C, h1, h2, h3, h4⟩ := h.lg
  have hops := h.ops
  have hS : (M.restartD d f).S = d.S := by unfold M.restartD; rw [hL]; rfl
  refine ⟨⟨⟨rfl, rfl, by rw [hS]; exact h.ok.len⟩, ?_, V, g, q, p, C, fun k hk => ?_, h2, ?_, ?_⟩, rfl⟩
  · show d.ops + 10000 * 0 ≤ n; omega
  · rw [hS]
    have := h1 k hk
    rw [hL] at this
    exact this
  · show g + 2 * 0 ≤ n; omega
  · show q + C.length + 300 * 0 ≤ n; omega
/-- A log is opened on such a disk. -/
theorem open_calm {y : World} {da n : Nat} {P : Nat → Prop} {d : M.D} {T : Nat → ByteArray} (h : Disk y da P d) (hlow : ∀ k, P k → k < y.heap.size) (hE : Env10 y) (hpe : ¬ P 0) (hET : ErrT y) (hPE : ¬ P 1) (ok : M.LS a d T n) (hc : d.fails = []) (hn : n ≤ 500000) :
    Calls Tryz.prog 16 #[.pointer (some ⟨da, 0, none⟩), .int .i64 (a.fr : Nat), .int .i64 (a.mn : Nat)] y fun e z => ∃ wb s, e = .returned (.tuple #[.pointer (some ⟨wb, 0, none⟩), .int .i64 0]) ∧ WA a z wb (fun j => P j ∨ y.heap.size ≤ j) s T (n + 5000) ∧ s.act = false ∧ s.l = [] ∧ s.k = [] ∧ s.used = 0 ∧ s.uns = false ∧ s.dk = da ∧ Kept P y z := by
  refine (open15_any y h hlow hE hpe hET hPE ok hn).mono ?_
  rintro e z ⟨(⟨e1, d', e2, e3, e4⟩ | ⟨wb, s, e1, e2, e3, e4, e5, e6, e7, e8, e9, e10⟩), hk⟩
  · rw [hc] at e4
    exact absurd e4 (by simp)
  · exact ⟨wb, s, e1, ⟨e2, e3, M.none_less e10 hc⟩, e4, e5, e6, e7, e8, e9, hk⟩
end Go.Proofs.YtmgchfjfkdkaoaaGreatDoor
