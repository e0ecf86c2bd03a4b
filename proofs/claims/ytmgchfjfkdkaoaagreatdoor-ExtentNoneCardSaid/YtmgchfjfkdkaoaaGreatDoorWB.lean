/-
  The wal and its log side by side: what a record, a checkpoint, an opening leave, whatever calls fail. Mathematics.
-/
import Derived.Test.YtmgchfjfkdkaoaaGreatDoorWA
import Derived.Test.YtmgchfjfkdkaoaaGreatDoorPS
import Derived.Test.YtmgchfjfkdkaoaaGreatDoorPI
import Derived.Test.YtmgchfjfkdkaoaaGreatDoorPM
namespace Go.Proofs.YtmgchfjfkdkaoaaGreatDoor
open Go.RowKit

variable {a : M.Geo}
/-- A log's own words, and what stands on the disk; T is seen. -/
structure M.WV (a : M.Geo) (s : M.Wl) (V T : Nat → ByteArray) (g q p : Nat) (C : List (List (Nat × ByteArray))) : Prop where
  lg : M.Lg a V T g q p C
  gen : g = s.gen ∨ g = s.gen + 1
  pl : (p + M.tot C) % (a.mn - 2) = s.pl
  seq : q + C.length = s.seq
  used : M.tot C ≤ s.used ∧ s.used ≤ a.mn - 2
  keep : 0 < s.used → M.gQ (V (a.fr + 2 + (s.pl + (a.mn - 2) - s.used) % (a.mn - 2))) < ((s.seq : Nat) : Int)
  kept : ∀ k : Nat, M.gd a k → M.find (k : Int) s.k = some (.string (T k)) ∨ (M.find (k : Int) s.k = none ∧ V k = T k)
section
variable {s : M.Wl} {V U T : Nat → ByteArray} {g q p : Nat} {C : List (List (Nat × ByteArray))}
theorem M.WV.same (h : M.WV a s V T g q p C) {s' : M.Wl} (h1 : s'.gen = s.gen) (h2 : s'.pl = s.pl) (h3 : s'.seq = s.seq) (h4 : s'.used = s.used) (h5 : s'.k = s.k) : M.WV a s' V T g q p C :=
  ⟨h.lg, by rw [h1]; exact h.gen, by rw [h2]; exact h.pl, by rw [h3]; exact h.seq, by rw [h4]; exact h.used, by rw [h2, h3, h4]; exact h.keep, by rw [h5]; exact h.kept⟩
theorem M.WV.place (h : M.WV a s V T g q p C) : s.pl < a.mn - 2 := by have := a.lo; rw [← h.pl]; exact Nat.mod_lt _ (by omega)
/-- At the next record's place there is none. -/
theorem M.WV.stop (h : M.WV a s V T g q p C) : M.szE (V (a.fr + 2 + s.pl)) ((s.seq : Nat) : Int) ≠ 0 := by
  rcases h.lg.stop with e | e
  · intro hz
    have hu : s.used = a.mn - 2 := by have := h.used; omega
    have hk := h.keep (by have := a.facts; omega)
    have hp := h.place
    rw [hu, Nat.add_sub_cancel, Nat.mod_eq_of_lt hp] at hk
    have := (M.szE_ok hz).2.1
    omega
  · rw [h.pl, h.seq] at e
    exact e
/-- The log's sectors but those between its records are as they were. -/
theorem M.WV.keepU (h : M.WV a s V T g q p C) (h1 : U a.fr = V a.fr) (h2 : U (a.fr + 1) = V (a.fr + 1)) (h3 : ∀ j, j ≤ M.tot C → j ≤ a.mn - 3 → U (a.fr + 2 + (p + j) % (a.mn - 2)) = V (a.fr + 2 + (p + j) % (a.mn - 2))) (h4 : 0 < s.used → U (a.fr + 2 + (s.pl + (a.mn - 2) - s.used) % (a.mn - 2)) = V (a.fr + 2 + (s.pl + (a.mn - 2) - s.used) % (a.mn - 2))) (h5 : ∀ k, M.gd a k → U k = V k ∨ U k = T k) : M.WV a s U T g q p C := by
  refine ⟨h.lg.keep h1 h2 h3 h5, h.gen, h.pl, h.seq, h.used, fun hu => by rw [h4 hu]; exact h.keep hu, fun k hk => ?_⟩
  rcases h.kept k hk with e | ⟨e1, e2⟩
  · exact Or.inl e
  · exact Or.inr ⟨e1, (h5 k hk).elim (fun x => x.trans e2) id⟩
theorem M.WV.other (h : M.WV a s V T g q p C) (h1 : ∀ k, ¬ M.gd a k → U k = V k) (h5 : ∀ k, M.gd a k → U k = V k ∨ U k = T k) : M.WV a s U T g q p C :=
  h.keepU (h1 a.fr (by have := a.facts; unfold M.gd; omega)) (h1 (a.fr + 1) (by have := a.facts; unfold M.gd; omega)) (fun j _ _ => h1 _ (by have := a.facts; have := M.mod_lt (p + j) (m := a.mn - 2) (by omega); unfold M.gd; omega)) (fun _ => h1 _ (by have := a.facts; have := M.mod_lt (s.pl + (a.mn - 2) - s.used) (m := a.mn - 2) (by omega); unfold M.gd; omega)) h5

theorem M.seen0_cons (p : Nat × ByteArray) (L : List (Nat × ByteArray)) (k : Nat) : M.seen0 (p :: L) k = (M.seen0 L k).or (if p.1 = k then some p.2 else none) := M.fold_or k L _
theorem M.find_puts (k : Nat) : ∀ (lp : List (Nat × ByteArray)) (K : List (Int × Value)), M.find (k : Int) (M.puts (M.vs14 lp) K) = ((M.seen0 lp k).map Value.string).or (M.find (k : Int) K)
  | [], K => rfl
  | p :: lp, K => by
    show M.find (k : Int) (M.puts (M.vs14 lp) (M.ins (p.1 : Int) (.string p.2) K)) = _
    rw [M.find_puts k lp, M.seen0_cons]
    by_cases e : p.1 = k
    · rw [if_pos e, e, M.find_ins_same]
      cases M.seen0 lp k <;> rfl
    · rw [if_neg e, M.find_ins_other _ (by omega)]
      cases M.seen0 lp k <;> rfl
/-- The sectors behind a record's first one. -/
theorem M.piece_o (r : ByteArray) (left : Int) (n : Nat) (hr : r.size = 64 * (n + 1)) : (M.pbO r left).size = 64 * (n + if 0 < left then 1 else 0) ∧ (∀ j, j < n → M.piece (M.pbO r left) j = M.piece r (j + 1)) ∧ (0 < left → M.piece (M.pbO r left) n = M.zeros 64) := by
  have h1 : (r.extract 64 r.size).size = 64 * n := by rw [ByteArray.size_extract]; omega
  have h2 : ∀ j, j < n → (r.extract 64 r.size).extract (64 * j) (64 * j + 64) = r.extract (64 * (j + 1)) (64 * (j + 1) + 64) := fun j hj => by
    rw [ByteArray.extract_extract, show min (64 + (64 * j + 64)) r.size = 64 * (j + 1) + 64 by omega, show 64 + 64 * j = 64 * (j + 1) by omega]
  have hzs : (M.zeros 64).size = 64 := M.zeros_size 64
  unfold M.pbO M.piece
  obtain ⟨z, hz⟩ : ∃ z, z = M.zeros 64 := ⟨_, rfl⟩
  obtain ⟨x, hx⟩ : ∃ x, x = r.extract 64 r.size := ⟨_, rfl⟩
  rw [← hz] at hzs ⊢
  rw [← hx] at h1 h2 ⊢
  clear hz hx
  by_cases hl : 0 < left
  · simp only [if_pos hl]
    have e1 : (x ++ z).size = 64 * (n + 1) := by rw [ByteArray.size_append, h1, hzs]; omega
    have e2 : ∀ j, j < n → (x ++ z).extract (64 * j) (64 * j + 64) = r.extract (64 * (j + 1)) (64 * (j + 1) + 64) := fun j hj => by
      rw [← h2 j hj, ByteArray.extract_append, h1]
      have e : z.extract (64 * j - 64 * n) (64 * j + 64 - 64 * n) = (⟨#[]⟩ : ByteArray) := by
        rw [show 64 * j - 64 * n = 0 by omega, show 64 * j + 64 - 64 * n = 0 by omega]
        apply M.ba_ext
        rw [M.ex_list]
        rfl
      rw [e, M.app_nil]
    have e3 : (x ++ z).extract (64 * n) (64 * n + 64) = z := M.ex_mid (x ++ z) x z (⟨#[]⟩ : ByteArray) (64 * n) (64 * n + 64) (by rw [M.app_nil]) h1.symm (by rw [h1, hzs])
    exact ⟨e1, e2, fun _ => e3⟩
  · simp only [if_neg hl]
    exact ⟨by omega, h2, fun e => absurd e hl⟩

set_option maxHeartbeats 8000000 in
/-- A record is put behind the others. -/
theorem M.WV.put (h : M.WV a s V T g q p C) (lp : List (Nat × ByteArray)) (hr : M.rE (M.aF lp) (M.tF lp) ((s.seq : Nat) : Int) lp.length = 0) (hfit : ∀ x ∈ lp, M.gd a x.1 ∧ x.2.size = 64) (hroom : s.used + lp.length + 1 ≤ a.mn - 2) (hsl : s.l = M.vs14 lp) {left : Int} (hleft : left = ((a.mn - 2 : Nat) : Int) - ((s.used : Nat) : Int) - (1 + ((lp.length : Nat) : Int))) :
    ∃ V', M.Sp a (M.steps14 (M.pbF (a.fr + 2) (a.mn - 2) s.pl ((M.recW s lp).extract 0 64) (M.pbO (M.recW s lp) left))) 30 V V' (fun U => M.WV a s U T g q p C) ∧
      ∀ s' : M.Wl, s'.gen = s.gen → s'.seq = s.seq + 1 → s'.pl = (s.pl + (lp.length + 1)) % (a.mn - 2) → s'.used = s.used + (lp.length + 1) → s'.k = M.puts s.l s.k → M.WV a s' V' (M.upd T lp) g q p (C ++ [lp]) := by
  obtain ⟨hq, h16, hall⟩ := M.rE_ok _ _ hr
  obtain ⟨n, hn⟩ : ∃ n, n = lp.length := ⟨_, rfl⟩
  obtain ⟨r, hrr⟩ : ∃ r, r = M.recW s lp := ⟨_, rfl⟩
  have hrs : r.size = 64 * (n + 1) := by rw [hrr, hn]; exact M.rec_size _ _ _ _ h16.2 (fun i hi => (hall i hi).2)
  have hz := M.size_rec ((s.seq : Nat) : Int) hr
  rw [Int.toNat_natCast] at hz
  have hgq : M.gQ (r.extract 0 64) = ((s.seq : Nat) : Int) := by rw [hrr]; exact (M.szE_ok hz.1).2.1
  obtain ⟨o1, o2, o3⟩ := M.piece_o r left n hrs
  obtain ⟨o, ho⟩ : ∃ o, o = M.pbO r left := ⟨_, rfl⟩
  obtain ⟨cnt, hc⟩ : ∃ c, c = n + if 0 < left then 1 else 0 := ⟨_, rfl⟩
  have hpl := h.place
  have htot := h.used
  have hplm := h.pl
  have hp0 := h.lg.pl
  obtain ⟨x1, x2, x3, x4⟩ := a.facts
  have hsh : ∀ j, (p + M.tot C + j) % (a.mn - 2) = (s.pl + j) % (a.mn - 2) := fun j => by rw [← hplm, Nat.mod_add_mod]
  have hA := M.mod2 (s.pl + 1) (a.mn - 2) (by omega)
  have hPT := M.mod2 (p + M.tot C) (a.mn - 2) (by omega)
  rw [← hrr, ← ho]
  rw [← ho] at o1 o2 o3
  rw [← hc] at o1
  rw [← hn] at hroom hleft h16
  have hcb : 1 ≤ cnt ∧ cnt + s.used ≤ a.mn - 3 ∧ n ≤ cnt ∧ (0 < left → cnt = n + 1) := by rw [hc]; split <;> omega
  have hfs : (r.extract 0 64).size = 64 := by rw [ByteArray.size_extract]; omega
  obtain ⟨f, hf⟩ : ∃ f, f = r.extract 0 64 := ⟨_, rfl⟩
  rw [← hf] at hgq hfs ⊢
  obtain ⟨V1, hV1⟩ : ∃ x, x = M.upd V (M.lay12 (a.fr + 2) (a.mn - 2) ((s.pl + 1) % (a.mn - 2)) cnt o) := ⟨_, rfl⟩
  obtain ⟨l1, l2⟩ := M.upd_lay (a := a) V ((s.pl + 1) % (a.mn - 2)) cnt o (by omega)
  rw [← hV1] at l1 l2
  have hG : ∀ W, (∀ k, (∀ i, i < cnt → k ≠ a.fr + 2 + ((s.pl + 1) % (a.mn - 2) + i) % (a.mn - 2)) → W k = V k) → M.WV a s W T g q p C := fun W hW => by
    refine h.keepU (hW a.fr (fun i _ => by omega)) (hW (a.fr + 1) (fun i _ => by omega)) (fun j hj hj2 => hW _ (fun i hi => ?_)) (fun hu => hW _ (fun i hi => ?_)) (fun k hk => Or.inl (hW k (fun i _ => ?_)))
    · have y1 := M.mod2 (p + j) (a.mn - 2) (by omega)
      have y2 := M.mod2 ((s.pl + 1) % (a.mn - 2) + i) (a.mn - 2) (by omega)
      omega
    · have y1 := M.mod2 (s.pl + (a.mn - 2) - s.used) (a.mn - 2) (by omega)
      have y2 := M.mod2 ((s.pl + 1) % (a.mn - 2) + i) (a.mn - 2) (by omega)
      omega
    · have y2 := M.mod_lt ((s.pl + 1) % (a.mn - 2) + i) (m := a.mn - 2) (by omega)
      unfold M.gd at hk; omega
  have hG1 : M.WV a s V1 T g q p C := hG V1 l2
  obtain ⟨V2, hV2⟩ : ∃ x, x = M.upd V1 [(a.fr + 2 + s.pl, f)] := ⟨_, rfl⟩
  have hone : ∀ k, V2 k = if a.fr + 2 + s.pl = k then f else V1 k := fun k => by rw [hV2]; exact M.upd_one V1 (a.fr + 2 + s.pl, f) k
  refine ⟨V2, ?_, ?_⟩
  · have s1 := M.Sp.lput (a := a) (V := V) (G := fun U => M.WV a s U T g q p C) ((s.pl + 1) % (a.mn - 2)) cnt o (by omega) o1 (by omega) (by omega) hG
    rw [← hV1] at s1
    have s2 := M.Sp.flush (a := a) (V := V1) (G := fun U => M.WV a s U T g q p C) hG1
    have s3 : M.Sp a (fun d => M.lput d (a.fr + 2) (a.mn - 2) (s.pl : Nat) f) 1 V1 V2 (fun U => M.WV a s U T g q p C) := by
      rw [hV2]
      refine (M.Sp.one (a := a) (a.fr + 2 + s.pl, f) (by show a.fr + 2 + s.pl < a.N; omega) hfs hG1).eq (fun d => ?_)
      unfold M.lput
      rw [if_neg (by omega), if_neg (by omega), Int.toNat_natCast, show f.size / 64 = 1 by omega]
      have e : M.lay12 (a.fr + 2) (a.mn - 2) s.pl 1 f = [(a.fr + 2 + s.pl, f)] := by
        unfold M.lay12
        have e2 : M.piece f 0 = f := by unfold M.piece; rw [show 64 * 0 + 64 = f.size by omega]; exact ByteArray.extract_zero_size
        simp [e2, Nat.mod_eq_of_lt hpl]
      rw [e]
    exact (s1.cons (s2.cons (s3.cons (M.Sp.nil (a := a) V2 _)))).more (by omega)
  · intro s' g1 g2 g3 g4 g5
    rw [← hn] at g3 g4
    have hgd : ∀ k, M.gd a k → V2 k = V k := fun k hk => by
      rw [hone, if_neg (by unfold M.gd at hk; omega), l2 k (fun i _ => by
        have y2 := M.mod_lt ((s.pl + 1) % (a.mn - 2) + i) (m := a.mn - 2) (by omega)
        unfold M.gd at hk; omega)]
    have hch : ∀ j, j < n + 1 → V2 (a.fr + 2 + (p + M.tot C + j) % (a.mn - 2)) = M.piece r j := fun j hj => by
      rw [hone, hsh]
      by_cases e : j = 0
      · subst e
        rw [show (s.pl + 0) % (a.mn - 2) = s.pl from Nat.mod_eq_of_lt hpl, if_pos rfl, hf]
        rfl
      · have e1 := l1 (j - 1) (by omega)
        have e2 := o2 (j - 1) (by omega)
        have y1 := M.mod2 (s.pl + j) (a.mn - 2) (by omega)
        rw [if_neg (by omega), show a.fr + 2 + (s.pl + j) % (a.mn - 2) = a.fr + 2 + ((s.pl + 1) % (a.mn - 2) + (j - 1)) % (a.mn - 2) by rw [Nat.mod_add_mod, show s.pl + 1 + (j - 1) = s.pl + j by omega], e1, e2, show j - 1 + 1 = j by omega]
    have hkeep : M.gQ (V2 (a.fr + 2 + (s'.pl + (a.mn - 2) - s'.used) % (a.mn - 2))) < ((s'.seq : Nat) : Int) := by
      rw [g2, g3, g4, hone]
      have y1 := M.mod2 (s.pl + (n + 1)) (a.mn - 2) (by omega)
      have y2 := M.mod2 ((s.pl + (n + 1)) % (a.mn - 2) + (a.mn - 2) - (s.used + (n + 1))) (a.mn - 2) (by omega)
      have y3 := M.mod2 (s.pl + (a.mn - 2) - s.used) (a.mn - 2) (by omega)
      by_cases e : s.used = 0
      · rw [if_pos (by omega), hgq]
        omega
      · rw [if_neg (by omega), show ((s.pl + (n + 1)) % (a.mn - 2) + (a.mn - 2) - (s.used + (n + 1))) % (a.mn - 2) = (s.pl + (a.mn - 2) - s.used) % (a.mn - 2) by omega, l2 _ (fun i hi => by
          have y4 := M.mod2 ((s.pl + 1) % (a.mn - 2) + i) (a.mn - 2) (by omega)
          omega)]
        have := h.keep (by omega)
        omega
    have hrec : M.recOf (q + C.length) lp = r := by rw [h.seq, hrr]; rfl
    have hT : M.tot (C ++ [lp]) = M.tot C + (n + 1) := by rw [M.tot_snoc, hn]
    have hL : (C ++ [lp]).length = C.length + 1 := by simp
    have h10 : ∀ m, V2 (a.fr + m % 2) = V (a.fr + m % 2) := fun m => by rw [hone, if_neg (by omega), l2 _ (fun i _ => by omega)]
    refine ⟨⟨by rw [h10]; exact h.lg.head, by rw [h10]; exact h.lg.old, h.lg.pl, ?_, by rw [hT]; omega, ?_, ?_, ?_⟩, by rw [g1]; exact h.gen, by rw [hT, g3, ← Nat.add_assoc, hsh], by rw [hL, g2, ← h.seq]; omega, by rw [hT, g4]; omega, fun _ => hkeep, ?_⟩
    · refine M.chain_snoc C p q lp (M.chain_keep C p q h.lg.ch (fun j hj => ?_)) (by rw [h.seq]; exact hr) (fun j hj => by rw [hrec]; exact hch j (by omega))
      have y1 := M.mod2 (p + j) (a.mn - 2) (by omega)
      rw [hone, if_neg (by omega), l2 _ (fun i hi => by
        have y4 := M.mod2 ((s.pl + 1) % (a.mn - 2) + i) (a.mn - 2) (by omega)
        omega)]
    · have y1 := M.mod2 (s.pl + (n + 1)) (a.mn - 2) (by omega)
      by_cases e : M.tot C + (n + 1) = a.mn - 2
      · exact Or.inl (by rw [hT]; exact e)
      · right
        rw [hT, hL, show q + (C.length + 1) = s'.seq by rw [g2, ← h.seq]; omega, show (p + (M.tot C + (n + 1))) % (a.mn - 2) = s'.pl by rw [g3, ← Nat.add_assoc, hsh]]
        by_cases hl : 0 < left
        · have e1 := l1 n (by omega)
          rw [o3 hl] at e1
          rw [hone, if_neg (by rw [g3]; omega), show a.fr + 2 + s'.pl = a.fr + 2 + ((s.pl + 1) % (a.mn - 2) + n) % (a.mn - 2) by rw [g3, Nat.mod_add_mod, show s.pl + 1 + n = s.pl + (n + 1) by omega], e1, (M.szE_zero _).1]
          decide
        · intro hz
          have hk := hkeep
          rw [show s'.used = a.mn - 2 by rw [g4]; omega, Nat.add_sub_cancel, Nat.mod_eq_of_lt (by rw [g3]; exact M.mod_lt _ (by omega))] at hk
          have := (M.szE_ok hz).2.1
          omega
    · intro c hc2 x hx
      rcases List.mem_append.1 hc2 with hc2 | hc2
      · exact h.lg.fit c hc2 x hx
      · rw [List.mem_singleton] at hc2
        subst hc2
        exact hfit x hx
    · intro k hk
      rw [List.flatten_append, M.upd_app]
      simp only [List.flatten_cons, List.flatten_nil, List.append_nil]
      refine M.upd_congr ?_ lp
      rw [M.upd_congr (hgd k hk)]
      exact h.lg.data k hk
    · intro k hk
      rw [g5, hsl, M.find_puts]
      unfold M.upd
      cases e : M.seen0 lp k with
      | some x => exact Or.inl rfl
      | none =>
        rw [hgd k hk]
        exact h.kept k hk
end
end Go.Proofs.YtmgchfjfkdkaoaaGreatDoor
