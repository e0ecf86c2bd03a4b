/-
  What a log of the law keeps, step by step: mathematics.
-/
import Derived.Test.YtncbbejmibddcaaGreatDoorNP
import Derived.Test.YtncbbejmibddcaaGreatDoorNR
import Derived.Test.YtncbbejmibddcaaGreatDoorNK
namespace Go.Proofs.YtncbbejmibddcaaGreatDoor
open Go.RowKit Go.Maps

/-- Sectors over places. -/
def M.Secs14 (L : List (Int × Value)) : Prop := ∀ p ∈ L, ∃ (k : Nat) (t : ByteArray), p = ((k : Int), .string t) ∧ k < 44 ∧ t.size = 64
theorem M.Secs14.nil : M.Secs14 [] := fun _ h => by cases h
theorem M.Secs14.list : ∀ {L : List (Int × Value)}, M.Secs14 L → ∃ lp, L = M.vs14 lp ∧ lp.length = L.length ∧ ∀ p ∈ lp, p.1 < 44 ∧ p.2.size = 64
  | [], _ => ⟨[], rfl, rfl, fun _ h => by cases h⟩
  | p :: L, h => by
    obtain ⟨lp, h1, h2, h3⟩ := M.Secs14.list (L := L) (fun q hq => h q (List.mem_cons_of_mem _ hq))
    obtain ⟨k, t, e1, e2, e3⟩ := h p (List.mem_cons_self ..)
    refine ⟨(k, t) :: lp, by rw [e1, h1]; rfl, by simp [h2], fun q hq => ?_⟩
    rcases List.mem_cons.1 hq with rfl | hq
    · exact ⟨e2, e3⟩
    · exact h3 q hq
theorem M.Secs14.ins {L : List (Int × Value)} {i : Int} {t : ByteArray} (h : M.Secs14 L) (h0 : 0 ≤ i) (h1 : i < 44) (ht : t.size = 64) : M.Secs14 (M.ins i (.string t) L) := by
  intro p hp
  rcases M.mem_ins hp with rfl | hp
  · exact ⟨i.toNat, t, by rw [Int.toNat_of_nonneg h0], by omega, ht⟩
  · exact h p hp
theorem M.Secs14.puts : ∀ {L K : List (Int × Value)}, M.Secs14 L → M.Secs14 K → M.Secs14 (M.puts L K)
  | [], _, _, h => h
  | p :: L, K, hL, hK => by
    obtain ⟨k, t, e1, e2, e3⟩ := hL p (List.mem_cons_self ..)
    show M.Secs14 (M.puts L (M.ins p.1 p.2 K))
    refine M.Secs14.puts (fun q hq => hL q (List.mem_cons_of_mem _ hq)) ?_
    rw [e1]
    exact hK.ins (by omega) (by omega) e3

theorem M.rE14 {lp : List (Nat × ByteArray)} {q : Nat} (h1 : 1 ≤ lp.length) (h16 : lp.length ≤ 16) (hq : q < 281474976710656) (hr : M.Rising (M.vs14 lp)) (hl : ∀ p ∈ lp, p.1 < 44 ∧ p.2.size = 64) : M.rE (M.aF lp) (M.tF lp) (q : Nat) lp.length = 0 := by
  have hat : ∀ i, i < lp.length → ∃ p, lp[i]? = some p ∧ p ∈ lp := fun i hi => ⟨lp[i]'hi, List.getElem?_eq_getElem _, List.getElem_mem hi⟩
  have hlt : ∀ k i, k < i → i < lp.length → M.aF lp k < M.aF lp i := by
    intro k i hki hi
    have e := List.pairwise_iff_getElem.1 hr k i (by rw [M.vs14_len]; omega) (by rw [M.vs14_len]; exact hi) hki
    rw [M.vs14_at, M.vs14_at] at e
    obtain ⟨f1, _⟩ := M.aF_at (List.getElem?_eq_getElem (show k < lp.length by omega))
    obtain ⟨f2, _⟩ := M.aF_at (List.getElem?_eq_getElem hi)
    rw [f1, f2]
    exact e
  have hsec : ∀ i, i < lp.length → M.secE (M.aF lp) (M.tF lp) i = 0 := by
    intro i hi
    obtain ⟨p, e, hp⟩ := hat i hi
    obtain ⟨f1, f2⟩ := M.aF_at e
    obtain ⟨g1, g2⟩ := hl p hp
    have ht : M.twice (M.aF lp) i = false := by
      cases hc : M.twice (M.aF lp) i with
      | false => rfl
      | true =>
        obtain ⟨k, hk, he⟩ := (M.twice_iff _ _).1 hc
        have := hlt k i hk hi
        omega
    unfold M.secE
    rw [if_neg (by rw [f1]; omega), if_neg (by rw [f2]; omega), if_neg (by rw [ht]; decide)]
  have hfirst : ∀ k, k ≤ lp.length → M.firstE (M.aF lp) (M.tF lp) k = 0 := by
    intro k
    induction k with
    | zero => intro _; rfl
    | succ k ih => intro hk; rw [M.firstE_next _ _ _ (ih (by omega)), hsec k (by omega)]
  unfold M.rE M.chk
  rw [if_neg (by omega), if_neg (by omega), if_neg (by omega)]
  exact hfirst _ (Nat.le_refl _)

/-- What the law's log and the document's keep behind n steps. -/
structure M.WOk (s : M.Wl) (r : M.W) (n : Nat) : Prop where
  still : M.Still s.d 10 24
  len : s.d.S.length = 44
  ops : s.d.ops ≤ 1000 + 5000 * n
  gen : s.gen ≤ 2 + n
  seq : s.seq ≤ 100 + n
  pl : s.pl < 22
  used : s.used ≤ 22
  loose : M.Secs14 s.l
  ll : s.l.length ≤ 16
  kept : M.Secs14 s.k
  kl : s.k.length ≤ 16 * n
  fit : M.WFit r 44 10 24

section
variable {s : M.Wl} {r : M.W} {n : Nat}
theorem M.WOk.next (h : M.WOk s r n) : M.WOk s r (n + 1) :=
  ⟨h.still, h.len, by have := h.ops; omega, by have := h.gen; omega, by have := h.seq; omega, h.pl, h.used, h.loose, h.ll, h.kept, by have := h.kl; omega, h.fit⟩
theorem M.WOk.ref {r' : M.W} (h : M.WOk s r n) (hf : M.WFit r' 44 10 24) : M.WOk s r' n := ⟨h.still, h.len, h.ops, h.gen, h.seq, h.pl, h.used, h.loose, h.ll, h.kept, h.kl, hf⟩
theorem M.WOk.act (h : M.WOk s r n) (x : Bool) : M.WOk { s with act := x } r n := ⟨h.still, h.len, h.ops, h.gen, h.seq, h.pl, h.used, h.loose, h.ll, h.kept, h.kl, h.fit⟩
theorem M.WOk.abort (h : M.WOk s r n) : M.WOk { s with act := false, l := [] } r n := ⟨h.still, h.len, h.ops, h.gen, h.seq, h.pl, h.used, M.Secs14.nil, by simp, h.kept, h.kl, h.fit⟩
theorem M.WOk.still12 (h : M.WOk s r n) : M.Still s.d (10 + 2) (24 - 2) := ⟨h.still.calm, by have := h.still.room; omega, by omega⟩
theorem M.WOk.stage (h : M.WOk s r n) (hr : M.Rising s.l) (i : Int) (t : ByteArray) : M.WOk (M.wlStage 10 24 s i t) r n := by
  unfold M.wlStage
  by_cases hE : M.wlStageE 10 24 s i t = 0
  · rw [if_pos hE]
    unfold M.wlStageE at hE
    split at hE
    · omega
    · split at hE
      · omega
      · rename_i hg
        split at hE
        · omega
        · rename_i hz
          split at hE
          · omega
          · rename_i h16
            have hg' : M.guards s.d.S.length 10 24 i = true := by simpa using hg
            unfold M.guards at hg'
            rw [h.len] at hg'
            have h0 : 0 ≤ i ∧ i < 44 := by
              simp only [Bool.and_eq_true, decide_eq_true_eq] at hg'
              exact ⟨hg'.1, by have := hg'.2.1; omega⟩
            refine ⟨h.still, h.len, h.ops, h.gen, h.seq, h.pl, h.used, h.loose.ins h0.1 h0.2 (by omega), ?_, h.kept, h.kl, h.fit⟩
            show (M.ins i (.string t) s.l).length ≤ 16
            rw [M.length_ins i _ hr]
            have := h.ll
            split
            · omega
            · rename_i hf
              by_cases h15 : s.l.length = 16
              · exfalso
                apply h16
                refine ⟨by omega, ?_⟩
                cases hh : M.has14 i s.l with
                | false => rfl
                | true =>
                  obtain ⟨p, hp, hpi⟩ := List.any_eq_true.1 hh
                  have hpi : p.1 = i := by simpa using hpi
                  have := M.find_of_mem hr hp
                  rw [hpi] at this
                  rw [this] at hf
                  simp at hf
              · omega
  · rw [if_neg hE]
    exact h
theorem M.WOk.put (h : M.WOk s r n) {lp : List (Nat × ByteArray)} (hr : M.rE (M.aF lp) (M.tF lp) (s.seq : Nat) lp.length = 0) (hu : s.used + lp.length + 1 ≤ 22) (x : Bool) : M.WOk { M.wlPut 10 24 s lp with act := x } r (n + 1) := by
  obtain ⟨_, h16, hall⟩ := M.rE_ok _ _ hr
  have hrs := M.rec_size (M.aF lp) (M.tF lp) s.seq lp.length h16.2 (fun i hi => (hall i hi).2)
  obtain ⟨a1, a2, a3, a4, -, -⟩ := M.put_still (p := s.pl) (n := lp.length + 1) h.still12 hrs (by omega)
  unfold M.wlPut
  refine ⟨⟨a2.calm, ?_, by omega⟩, ?_, ?_, ?_, ?_, ?_, ?_, M.Secs14.nil, by simp, h.loose.puts h.kept, ?_, h.fit⟩
  · show 10 + 24 ≤ (M.wr (M.lay12 (10 + 2) (24 - 2) s.pl (lp.length + 1) (M.rec (M.aF lp) (M.tF lp) s.seq lp.length)) s.d).2.S.length
    rw [a3, h.len]
    omega
  · show (M.wr (M.lay12 (10 + 2) (24 - 2) s.pl (lp.length + 1) (M.rec (M.aF lp) (M.tF lp) s.seq lp.length)) s.d).2.S.length = 44
    rw [a3, h.len]
  · show (M.wr (M.lay12 (10 + 2) (24 - 2) s.pl (lp.length + 1) (M.rec (M.aF lp) (M.tF lp) s.seq lp.length)) s.d).2.ops ≤ _
    rw [a4]
    have := h.ops
    omega
  · have := h.gen; show s.gen ≤ _; omega
  · have := h.seq; show s.seq + 1 ≤ _; omega
  · show (s.pl + (lp.length + 1)) % (24 - 2) < 22; omega
  · show s.used + (lp.length + 1) ≤ 22; omega
  · show (M.puts s.l s.k).length ≤ _
    have := M.puts_len s.l s.k
    have := h.ll
    have := h.kl
    omega
theorem M.WOk.commit (h : M.WOk s r n) {lp : List (Nat × ByteArray)} (hr : lp.length ≠ 0 → M.rE (M.aF lp) (M.tF lp) (s.seq : Nat) lp.length = 0) : M.WOk (M.wlCommit 10 24 s lp) r (n + 1) := by
  unfold M.wlCommit
  split
  · exact h.next
  · split
    · exact (h.act false).next
    · rename_i h0
      split
      · rename_i hu
        exact h.put (hr h0) (by omega) false
      · exact h.next
theorem M.WOk.flush (h : M.WOk s r n) : M.WOk { s with d := M.flushD s.d, uns := if M.beginE s.d = 0 then false else s.uns } r (n + 1) := by
  obtain ⟨a1, a2, a3, a4, -, -⟩ := M.flush_still h.still
  exact ⟨a2, by show (M.flushD s.d).S.length = 44; rw [a3, h.len], by show (M.flushD s.d).ops ≤ _; have := h.ops; omega, by have := h.gen; show s.gen ≤ _; omega, by have := h.seq; show s.seq ≤ _; omega, h.pl, h.used, h.loose, h.ll, h.kept, by have := h.kl; show s.k.length ≤ _; omega, h.fit⟩
theorem M.WOk.check (h : M.WOk s r n) (hn : n ≤ 200) {d' : M.D} (h1 : M.Still d' 10 24) (h2 : d'.S.length = s.d.S.length) (h3 : d'.ops ≤ s.d.ops + s.k.length + 10) : M.WOk ⟨s.gen + 1, s.seq, s.pl, 0, s.act, false, d', s.l, []⟩ r (n + 1) :=
  ⟨h1, by rw [← h.len, ← h2], by have := h.ops; have := h.kl; show d'.ops ≤ _; omega, by have := h.gen; show s.gen + 1 ≤ _; omega, by have := h.seq; show s.seq ≤ _; omega, h.pl, by simp, h.loose, h.ll, M.Secs14.nil, by simp, h.fit⟩
end
end Go.Proofs.YtncbbejmibddcaaGreatDoor
