/-
  The log on a disk, as what is seen of its sectors: mathematics. No function of the program is walked in this text.
-/
import Derived.Test.YtigmcnnplnfakaaGreatDoorNJ
import Derived.Test.YtigmcnnplnfakaaGreatDoorPQ
import Derived.Test.YtigmcnnplnfakaaGreatDoorPL
namespace Go.Proofs.YtigmcnnplnfakaaGreatDoor
open Go.RowKit

/-- A transaction's record, with a number. -/
def M.recOf (q : Nat) (c : List (Nat × ByteArray)) : ByteArray := M.rec (M.aF c) (M.tF c) q c.length
/-- Records one behind the other, from a place and a number on. -/
def M.chain (V : Nat → ByteArray) : Nat → Nat → List (List (Nat × ByteArray)) → Prop
  | _, _, [] => True
  | p, q, c :: C => (M.rE (M.aF c) (M.tF c) (q : Nat) c.length = 0 ∧ ∀ j, j < c.length + 1 → V (12 + (p + j) % 22) = M.piece (M.recOf q c) j) ∧ M.chain V (p + (c.length + 1)) (q + 1) C
/-- How many sectors they have. -/
def M.tot : List (List (Nat × ByteArray)) → Nat
  | [] => 0
  | c :: C => (c.length + 1) + M.tot C
theorem M.tot_snoc : ∀ (C : List (List (Nat × ByteArray))) (c : List (Nat × ByteArray)), M.tot (C ++ [c]) = M.tot C + (c.length + 1)
  | [], c => by simp [M.tot]
  | a :: C, c => by
    show (a.length + 1) + M.tot (C ++ [c]) = (a.length + 1) + M.tot C + (c.length + 1)
    rw [M.tot_snoc C c]
    omega
theorem M.tot_len : ∀ C : List (List (Nat × ByteArray)), C.length ≤ M.tot C
  | [] => Nat.le_refl _
  | c :: C => by
    have := M.tot_len C
    show C.length + 1 ≤ (c.length + 1) + M.tot C
    omega
theorem M.tot_flat : ∀ C : List (List (Nat × ByteArray)), C.flatten.length ≤ M.tot C
  | [] => Nat.le_refl _
  | c :: C => by
    have := M.tot_flat C
    rw [List.flatten_cons, List.length_append]
    show _ ≤ (c.length + 1) + M.tot C
    omega
section
variable {V U : Nat → ByteArray}
theorem M.chain_snoc : ∀ (C : List (List (Nat × ByteArray))) (p q : Nat) (c : List (Nat × ByteArray)), M.chain V p q C → M.rE (M.aF c) (M.tF c) ((q + C.length : Nat) : Int) c.length = 0 → (∀ j, j < c.length + 1 → V (12 + (p + M.tot C + j) % 22) = M.piece (M.recOf (q + C.length) c) j) → M.chain V p q (C ++ [c])
  | [], p, q, c, _, h1, h2 => ⟨⟨h1, h2⟩, trivial⟩
  | a :: C, p, q, c, h, h1, h2 => by
    refine ⟨h.1, M.chain_snoc C _ _ c h.2 ?_ ?_⟩
    · rw [show q + 1 + C.length = q + (a :: C).length by simp; omega]
      exact h1
    · intro j hj
      rw [show q + 1 + C.length = q + (a :: C).length by simp; omega, show p + (a.length + 1) + M.tot C = p + M.tot (a :: C) by show _ = p + ((a.length + 1) + M.tot C); omega]
      exact h2 j hj
theorem M.chain_keep : ∀ (C : List (List (Nat × ByteArray))) (p q : Nat), M.chain V p q C → (∀ j, j < M.tot C → U (12 + (p + j) % 22) = V (12 + (p + j) % 22)) → M.chain U p q C
  | [], _, _, _, _ => trivial
  | c :: C, p, q, h, hu => by
    refine ⟨⟨h.1.1, fun j hj => ?_⟩, M.chain_keep C _ _ h.2 (fun j hj => ?_)⟩
    · rw [hu j (by show j < (c.length + 1) + M.tot C; omega)]
      exact h.1.2 j hj
    · have := hu ((c.length + 1) + j) (by show _ < (c.length + 1) + M.tot C; omega)
      rwa [show p + ((c.length + 1) + j) = p + (c.length + 1) + j by omega] at this
/-- As functions. -/
def M.cA (C : List (List (Nat × ByteArray))) (i : Nat) : Nat → Int := M.aF (C.getD i [])
def M.cT (C : List (List (Nat × ByteArray))) (i : Nat) : Nat → ByteArray := M.tF (C.getD i [])
def M.cN (C : List (List (Nat × ByteArray))) (i : Nat) : Nat := (C.getD i []).length
theorem M.us_cons (c : List (Nat × ByteArray)) (C : List (List (Nat × ByteArray))) : ∀ i, M.us (M.cN (c :: C)) (i + 1) = (c.length + 1) + M.us (M.cN C) i
  | 0 => by show 0 + (c.length + 1) = (c.length + 1) + 0; omega
  | i + 1 => by
    have := M.us_cons c C i
    show M.us (M.cN (c :: C)) (i + 1) + (M.cN (c :: C) (i + 1) + 1) = (c.length + 1) + (M.us (M.cN C) i + (M.cN C i + 1))
    rw [this, show M.cN (c :: C) (i + 1) = M.cN C i from rfl]
    omega
theorem M.us_tot : ∀ C : List (List (Nat × ByteArray)), M.us (M.cN C) C.length = M.tot C
  | [] => rfl
  | c :: C => by rw [List.length_cons, M.us_cons, M.us_tot C]; rfl
theorem M.chain_at : ∀ (C : List (List (Nat × ByteArray))) (p q : Nat), M.chain V p q C → ∀ i, i < C.length → M.rE (M.cA C i) (M.cT C i) ((q + i : Nat) : Int) (M.cN C i) = 0 ∧ ∀ j, j < M.cN C i + 1 → V (12 + (p + M.us (M.cN C) i + j) % 22) = M.piece (M.rec (M.cA C i) (M.cT C i) (q + i) (M.cN C i)) j
  | [], _, _, _, i, hi => absurd hi (by simp)
  | c :: C, p, q, h, 0, _ => h.1
  | c :: C, p, q, h, i + 1, hi => by
    have := M.chain_at C (p + (c.length + 1)) (q + 1) h.2 i (by simpa using hi)
    rw [M.us_cons, show q + (i + 1) = q + 1 + i by omega, show p + (c.length + 1 + M.us (M.cN C) i) = p + (c.length + 1) + M.us (M.cN C) i by omega]
    exact this
theorem M.chain_fun {d : M.D} {C : List (List (Nat × ByteArray))} {p q : Nat} (hV : M.Sees d V) (h : M.chain V p q C) (ht : M.tot C ≤ 22) : M.Chain (M.cA C) (M.cT C) (M.cN C) d 12 22 p (q : Nat) C.length := by
  refine ⟨fun i hi => ?_, fun i hi j hj => ?_, by rw [M.us_tot]; exact ht⟩
  · rw [show (q : Int) + (i : Nat) = ((q + i : Nat) : Int) by omega]
    exact (M.chain_at C p q h i hi).1
  · rw [hV _ (by omega), show ((q : Int) + (i : Nat)).toNat = q + i by omega]
    exact (M.chain_at C p q h i hi).2 j hj
theorem M.recSecs_of {q : Nat} {c : List (Nat × ByteArray)} (h : M.rE (M.aF c) (M.tF c) (q : Nat) c.length = 0) : M.getE (M.recOf q c) = 0 ∧ M.gN (M.recOf q c) = c.length ∧ (∀ i, i < c.length → M.gA (M.recOf q c) i = M.aF c i) ∧ M.recSecs (M.recOf q c) = c := by
  obtain ⟨g1, g2, _, g4, g5⟩ := M.get_rec (q : Nat) h
  rw [Int.toNat_natCast] at g1 g2 g4 g5
  refine ⟨g1, g2, g4, ?_⟩
  unfold M.recSecs
  show (List.range (M.gN (M.rec (M.aF c) (M.tF c) q c.length))).map _ = c
  rw [g2]
  refine List.ext_getElem? (fun i => ?_)
  by_cases hi : i < c.length
  · rw [List.getElem?_map, List.getElem?_range hi, List.getElem?_eq_getElem hi]
    obtain ⟨f1, f2⟩ := M.aF_at (List.getElem?_eq_getElem hi)
    show some ((M.gA (M.rec (M.aF c) (M.tF c) q c.length) i).toNat, M.gT (M.rec (M.aF c) (M.tF c) q c.length) i) = some c[i]
    rw [g4 i hi, g5 i hi, f1, f2, Int.toNat_natCast]
  · rw [List.getElem?_eq_none (by simp; omega), List.getElem?_eq_none (by omega)]
theorem M.recs_at {C : List (List (Nat × ByteArray))} {p q : Nat} (h : M.chain V p q C) : ∀ m, m ≤ C.length → M.allSecs (M.recs (M.cA C) (M.cT C) (M.cN C) 22 p (q : Nat) m) = (C.take m).flatten ∧ ∀ x ∈ M.recs (M.cA C) (M.cT C) (M.cN C) 22 p (q : Nat) m, ∃ c ∈ C, M.gN x.s = c.length ∧ ∀ i, i < c.length → M.gA x.s i = M.aF c i
  | 0, _ => ⟨by simp [M.recs, M.allSecs], fun x hx => by simp [M.recs] at hx⟩
  | m + 1, hm => by
    obtain ⟨i1, i2⟩ := M.recs_at h m (by omega)
    have hc := (M.chain_at C p q h m (by omega)).1
    have eg : C.getD m [] = C[m] := by simp [show m < C.length by omega]
    have hs := M.recSecs_of (q := q + m) (c := C[m]) (by rw [← eg]; exact hc)
    have es : M.rec (M.cA C m) (M.cT C m) ((q : Int) + (m : Nat)).toNat (M.cN C m) = M.recOf (q + m) C[m] := by
      rw [show ((q : Int) + (m : Nat)).toNat = q + m by omega, ← eg]
      rfl
    constructor
    · rw [M.recs_succ, M.allSecs_snoc, i1, List.take_succ_eq_append_getElem (by omega), List.flatten_append]
      simp only [es, hs.2.2.2, List.flatten_cons, List.flatten_nil, List.append_nil]
    · intro x hx
      rw [M.recs_succ] at hx
      rcases List.mem_append.1 hx with hx | hx
      · exact i2 x hx
      · rw [List.mem_singleton] at hx
        subst hx
        refine ⟨C[m], List.getElem_mem _, ?_, ?_⟩
        · simp only [es]
          exact hs.2.1
        · simp only [es]
          exact hs.2.2.1
end
/-- A sector that transactions may have. -/
def M.gd (k : Nat) : Prop := k < 10 ∨ (34 ≤ k ∧ k < 44)
/-- The log on the disk: its head, and the records from it on; what they and the disk say is T. -/
structure M.Lg (V T : Nat → ByteArray) (g q p : Nat) (C : List (List (Nat × ByteArray))) : Prop where
  head : V (10 + g % 2) = M.hwhole ⟨(g : Nat), (q : Nat), (p : Nat)⟩
  old : (M.hget (V (10 + (g + 1) % 2))).2 = 0 → (M.hget (V (10 + (g + 1) % 2))).1.g < (g : Nat)
  pl : p < 22
  ch : M.chain V p q C
  room : M.tot C ≤ 22
  stop : M.tot C = 22 ∨ M.szE (V (12 + (p + M.tot C) % 22)) ((q + C.length : Nat) : Int) ≠ 0
  fit : ∀ c ∈ C, ∀ x ∈ c, M.gd x.1 ∧ x.2.size = 64
  data : ∀ k, M.gd k → M.upd V C.flatten k = T k
section
variable {V U T : Nat → ByteArray} {g q p : Nat} {C : List (List (Nat × ByteArray))}
theorem M.may14 {g q p : Nat} (h1 : g ≤ 1000000000) (h2 : q ≤ 1000000000) (h3 : p ≤ 200) : M.hmay ⟨(g : Nat), (q : Nat), (p : Nat)⟩ = true := by
  rw [M.hmay_iff]
  refine ⟨⟨?_, ?_⟩, ⟨?_, ?_⟩, ?_, ?_⟩ <;> simp only <;> omega
theorem M.Lg.newer (h : M.Lg V T g q p C) (h1 : g ≤ 1000000000) (h2 : q ≤ 1000000000) : M.hnewer (V 10) (V 11) = (⟨(g : Nat), (q : Nat), (p : Nat)⟩, 0) := by
  have hw := M.hget_whole ⟨(g : Nat), (q : Nat), (p : Nat)⟩ (M.may14 h1 h2 (by have := h.pl; omega))
  have h3 := h.head
  have h4 := h.old
  unfold M.hnewer
  rcases Nat.mod_two_eq_zero_or_one g with e | e
  · have e1 : (g + 1) % 2 = 1 := by omega
    rw [e] at h3
    rw [e1] at h4
    have h3' : V 10 = M.hwhole ⟨(g : Nat), (q : Nat), (p : Nat)⟩ := h3
    have h4' : (M.hget (V 11)).2 = 0 → (M.hget (V 11)).1.g < (g : Nat) := h4
    rw [h3', hw, if_neg (fun x => x.1 rfl), if_neg (fun x => x.elim (fun x => x rfl) (fun x => by have := h4' x.1; have := x.2; simp only at this; omega))]
  · have e1 : (g + 1) % 2 = 0 := by omega
    rw [e] at h3
    rw [e1] at h4
    have h3' : V 11 = M.hwhole ⟨(g : Nat), (q : Nat), (p : Nat)⟩ := h3
    have h4' : (M.hget (V 10)).2 = 0 → (M.hget (V 10)).1.g < (g : Nat) := h4
    rw [h3', hw, if_neg (fun x => x.2 rfl), if_pos (Classical.byCases (fun x : (M.hget (V 10)).2 = 0 => Or.inr ⟨rfl, by have := h4' x; simp only; omega⟩) (fun x => Or.inl x))]
theorem M.upd_mix {L : List (Nat × ByteArray)} {k : Nat} {t : ByteArray} (h : M.upd V L k = t) (hu : U k = V k ∨ U k = t) : M.upd U L k = t := by
  unfold M.upd at h ⊢
  cases e : M.seen0 L k with
  | none =>
    rw [e] at h
    exact hu.elim (fun x => x.trans h) id
  | some x =>
    rw [e] at h
    exact h
/-- What lies in the log's sectors is as it was. -/
theorem M.Lg.keep (h : M.Lg V T g q p C) (h1 : U 10 = V 10) (h2 : U 11 = V 11) (h3 : ∀ j, j ≤ M.tot C → j ≤ 21 → U (12 + (p + j) % 22) = V (12 + (p + j) % 22)) (h4 : ∀ k, M.gd k → U k = V k ∨ U k = T k) : M.Lg U T g q p C := by
  have ho : ∀ m, U (10 + m % 2) = V (10 + m % 2) := fun m => by
    rcases Nat.mod_two_eq_zero_or_one m with e | e <;> rw [e]
    · exact h1
    · exact h2
  have hr := h.room
  refine ⟨by rw [ho]; exact h.head, by rw [ho]; exact h.old, h.pl, M.chain_keep C p q h.ch (fun j hj => h3 j (by omega) (by omega)), h.room, ?_, h.fit, fun k hk => M.upd_mix (h.data k hk) (h4 k hk)⟩
  by_cases e : M.tot C = 22
  · exact Or.inl e
  · rw [h3 (M.tot C) (Nat.le_refl _) (by omega)]
    exact h.stop
/-- What lies in the log's sectors is as it was; of the others so many are written anew. -/
theorem M.Lg.other (h : M.Lg V T g q p C) (h1 : ∀ k, ¬ M.gd k → U k = V k) (h4 : ∀ k, M.gd k → U k = V k ∨ U k = T k) : M.Lg U T g q p C :=
  h.keep (h1 10 (by unfold M.gd; omega)) (h1 11 (by unfold M.gd; omega)) (fun j _ _ => h1 _ (by unfold M.gd; omega)) h4
theorem M.gd_guards {k : Nat} : M.gd k → M.guards 44 10 24 (k : Int) = true := by
  intro h
  unfold M.gd at h
  unfold M.guards
  simp
  omega
/-- A scan of it tells its records, or a call fails. -/
theorem M.Lg.told (h : M.Lg V T g q p C) {d : M.D} (hd : M.Ok14 d) (hV : M.Sees d V) :
    ∃ E d' u l, M.scan M.dR 12 22 p (q : Nat) 2000 23 d 0 [] = (E, d', u, l) ∧ M.Was d d' 391 ∧ M.Sees d' V ∧ ((E = 0 ∧ M.allSecs l = C.flatten ∧ l.length = C.length) ∨ (E = 30 ∧ d'.fails.length < d.fails.length)) ∧ ∀ x ∈ l, M.getE x.s = 0 → ∀ i, i < M.gN x.s → M.guards d.S.length 10 24 (M.gA x.s i) = true := by
  obtain ⟨E, d', u, l, e, hu, ho, hf, hc, r, hr⟩ := M.Up.chain (M.chain_fun hV h.ch h.room) hd.dn hd.da (by rw [hd.len]; omega) (by omega) 2000 (by omega) (by
    rw [M.us_tot, hV _ (by omega), show (q : Int) + (C.length : Nat) = ((q + C.length : Nat) : Int) by omega]
    exact h.stop)
  obtain ⟨a1, a2⟩ := M.recs_at h.ch C.length (Nat.le_refl _)
  refine ⟨E, d', u, l, e, ⟨⟨hu.dn, hu.da, by rw [hu.S, hd.len]⟩, ho, hf⟩, fun k hk => by rw [hu.S, hu.L]; exact hV k hk, hc.imp (fun ⟨x, y⟩ => ⟨x, by rw [y, a1, List.take_length], by rw [y, M.recs_len]⟩) id, fun x hx _ i hi => ?_⟩
  obtain ⟨c, hc, hn, ha⟩ := a2 x (by rw [hr]; exact List.mem_append_left _ hx)
  rw [hd.len, ha i (by omega)]
  have hi' : i < c.length := by omega
  obtain ⟨f1, _⟩ := M.aF_at (List.getElem?_eq_getElem hi')
  rw [f1]
  exact M.gd_guards (h.fit c hc _ (List.getElem_mem hi')).1
/-- The heads are read, or a call fails. -/
theorem M.heads15 {d : M.D} (hd : M.Ok14 d) (hV : M.Sees d V) :
    ∃ s E d', M.gread d 10 24 0 2 = (s, E, d') ∧ M.Was d d' 2 ∧ M.Sees d' V ∧ ((E = 0 ∧ s = V 10 ++ V 11) ∨ (E = 30 ∧ d'.fails.length < d.fails.length)) := by
  have hw : M.within 0 2 (24 : Nat) = true := by simp [M.within]
  have b1 := hd.begin
  have b2 := b1.ok.begin
  have e0 : M.gread d 10 24 0 2 = M.rd 2 d 10 ⟨#[]⟩ := by unfold M.gread; rw [if_pos hw]; rfl
  rw [e0, M.rd]
  rcases hd.read hV 10 (by omega) with ⟨e1, e2⟩ | ⟨e1, e2⟩
  · rw [if_pos (by exact e1), M.rd]
    rcases b1.ok.read hV.begin 11 (by omega) with ⟨e3, e4⟩ | ⟨e3, e4⟩
    · rw [if_pos (by exact e3), M.rd]
      refine ⟨_, _, _, rfl, b1.trans b2, hV.begin.begin, Or.inl ⟨rfl, ?_⟩⟩
      show (⟨#[]⟩ : ByteArray) ++ M.readS d ((10 : Nat) : Int) ++ M.readS (M.beginD d) ((11 : Nat) : Int) = _
      rw [e2, e4, M.nil_app14]
    · rw [if_neg (by show ¬ M.readE _ ((11 : Nat) : Int) = 0; rw [e3]; decide)]
      exact ⟨_, _, _, rfl, b1.trans b2, hV.begin.begin, Or.inr ⟨e3, Nat.lt_of_lt_of_le e4 b1.fl⟩⟩
  · rw [if_neg (by show ¬ M.readE _ ((10 : Nat) : Int) = 0; rw [e1]; decide)]
    exact ⟨_, _, _, rfl, b1.more (by omega), hV.begin, Or.inr ⟨e1, e2⟩⟩
end
end Go.Proofs.YtigmcnnplnfakaaGreatDoor
