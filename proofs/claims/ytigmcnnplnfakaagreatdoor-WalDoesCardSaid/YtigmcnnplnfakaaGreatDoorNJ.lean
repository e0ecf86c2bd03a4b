/-
  Steps over a disk, one by one, up to the first that fails: mathematics. Views: what is seen of a disk whose calls may fail, step by step. No function of the program is walked in this text.
-/
import Derived.Test.YtigmcnnplnfakaaGreatDoorNG
import Derived.Test.YtigmcnnplnfakaaGreatDoorNI
namespace Go.Proofs.YtigmcnnplnfakaaGreatDoor
open Go.RowKit

/-- Steps over a disk, one by one, up to the first that fails. -/
def M.steps14 : List (M.D → Int × M.D) → M.D → Int × M.D
  | [], d => (0, d)
  | f :: fs, d => if (f d).1 = 0 then M.steps14 fs (f d).2 else f d
theorem M.steps14_ok : ∀ (fs : List (M.D → Int × M.D)) (E : Nat → Int) (dk : Nat → M.D), (∀ k f, fs[k]? = some f → f (dk k) = (E k, dk (k + 1))) → (∀ k, k < fs.length → E k = 0) → M.steps14 fs (dk 0) = (0, dk fs.length)
  | [], _, _, _, _ => rfl
  | f :: fs, E, dk, h, hz => by
    have h0 := h 0 f rfl
    have e0 := hz 0 (by simp)
    show (if (f (dk 0)).1 = 0 then M.steps14 fs (f (dk 0)).2 else f (dk 0)) = _
    rw [h0, if_pos e0]
    exact M.steps14_ok fs (fun k => E (k + 1)) (fun k => dk (k + 1)) (fun k g hk => h (k + 1) g hk) (fun k hk => hz (k + 1) (by simpa using hk))
theorem M.steps14_no : ∀ (m : Nat) (fs : List (M.D → Int × M.D)) (E : Nat → Int) (dk : Nat → M.D), (∀ k f, fs[k]? = some f → f (dk k) = (E k, dk (k + 1))) → m < fs.length → (∀ k, k < m → E k = 0) → E m ≠ 0 → M.steps14 fs (dk 0) = (E m, dk (m + 1))
  | _, [], _, _, _, hm, _, _ => absurd hm (by simp)
  | 0, f :: fs, E, dk, h, _, _, hE => by
    have h0 := h 0 f rfl
    show (if (f (dk 0)).1 = 0 then M.steps14 fs (f (dk 0)).2 else f (dk 0)) = _
    rw [h0, if_neg hE]
  | m + 1, f :: fs, E, dk, h, hm, hz, hE => by
    have h0 := h 0 f rfl
    have e0 := hz 0 (by omega)
    show (if (f (dk 0)).1 = 0 then M.steps14 fs (f (dk 0)).2 else f (dk 0)) = _
    rw [h0, if_pos e0]
    exact M.steps14_no m fs (fun k => E (k + 1)) (fun k => dk (k + 1)) (fun k g hk => h (k + 1) g hk) (by simpa using hm) (fun k hk => hz (k + 1) (by omega)) hE
theorem first_err14 (E : Nat → Int) : ∀ n : Nat, (∀ k, k < n → E k = 0) ∨ ∃ m, m < n ∧ E m ≠ 0 ∧ ∀ k, k < m → E k = 0
  | 0 => Or.inl fun k hk => absurd hk (by omega)
  | n + 1 => by
    rcases first_err14 E n with h | ⟨m, h1, h2, h3⟩
    · by_cases e : E n = 0
      · exact Or.inl fun k hk => (Nat.lt_or_eq_of_le (Nat.le_of_lt_succ hk)).elim (h k) (fun ek => by rw [ek]; exact e)
      · exact Or.inr ⟨n, by omega, e, h⟩
    · exact Or.inr ⟨m, by omega, h2, h3⟩

theorem M.flushD_ops14 (d : M.D) : (M.flushD d).ops = d.ops + 1 := by unfold M.flushD; split <;> rfl
theorem M.wr_ops14 : ∀ (L : List (Nat × ByteArray)) (d : M.D), (M.wr L d).2.ops ≤ d.ops + L.length
  | [], d => Nat.le_refl _
  | p :: L, d => by
    unfold M.wr
    split
    · have := M.wr_ops14 L (M.writeD d p.1 p.2)
      rw [M.writeD_ops] at this
      simp only [List.length_cons]
      omega
    · show (M.writeD d p.1 p.2).ops ≤ _
      rw [M.writeD_ops]
      simp only [List.length_cons]
      omega
theorem M.headW_ops14 (d : M.D) (fr mn g q k : Nat) (hm : 2 ≤ mn) : (M.headW d fr mn g q k).2.ops ≤ d.ops + 1 := by
  rw [M.headW_wr d fr mn g q k hm]
  exact M.wr_ops14 _ d
/-- A flush as a step. -/
def M.fl14 (d : M.D) : Int × M.D := (M.beginE d, M.flushD d)
theorem M.steps14_ops (c : Nat) : ∀ (fs : List (M.D → Int × M.D)) (d : M.D), (∀ f ∈ fs, ∀ dk, (f dk).2.ops ≤ dk.ops + c) → (M.steps14 fs d).2.ops ≤ d.ops + c * fs.length
  | [], d, _ => Nat.le_add_right _ _
  | f :: fs, d, h => by
    have h1 := h f (List.mem_cons_self ..) d
    have h2 := M.steps14_ops c fs (f d).2 (fun g hg => h g (List.mem_cons_of_mem _ hg))
    have e : c * (f :: fs).length = c * fs.length + c := by rw [List.length_cons, Nat.mul_add, Nat.mul_one]
    show (if (f d).1 = 0 then M.steps14 fs (f d).2 else f d).2.ops ≤ _
    rw [e]
    split
    · omega
    · omega
end Go.Proofs.YtigmcnnplnfakaaGreatDoor
namespace Go.Proofs.YtigmcnnplnfakaaGreatDoor
open Go.RowKit

/-- A disk of the law: 44 sectors, never down. -/
structure M.Ok14 (d : M.D) : Prop where
  dn : d.dn = false
  da : d.da = 0
  len : d.S.length = 44
/-- What is seen of its sectors. -/
def M.Sees (d : M.D) (V : Nat → ByteArray) : Prop := ∀ k, k < 44 → M.seen d.S d.L k = V k
theorem M.Sees.congr {d : M.D} {V U : Nat → ByteArray} (h : M.Sees d V) (e : ∀ k, k < 44 → V k = U k) : M.Sees d U := fun k hk => (h k hk).trans (e k hk)
/-- One disk behind another, so many calls later. -/
structure M.Was (d d' : M.D) (n : Nat) : Prop where
  ok : M.Ok14 d'
  ops : d'.ops ≤ d.ops + n
  fl : d'.fails.length ≤ d.fails.length
theorem M.Was.trans {d e f : M.D} {n m : Nat} (h : M.Was d e n) (k : M.Was e f m) : M.Was d f (n + m) := ⟨k.ok, by have := h.ops; have := k.ops; omega, Nat.le_trans k.fl h.fl⟩
theorem M.Was.more {d e : M.D} {n m : Nat} (h : M.Was d e n) (hm : n ≤ m) : M.Was d e m := ⟨h.ok, by have := h.ops; omega, h.fl⟩
theorem M.Was.refl {d : M.D} (h : M.Ok14 d) : M.Was d d 0 := ⟨h, Nat.le_refl _, Nat.le_refl _⟩
theorem M.Ok14.up {d : M.D} (h : M.Ok14 d) : M.Up d d.S d.L := ⟨h.dn, h.da, rfl, rfl⟩
theorem M.Ok14.begin {d : M.D} (h : M.Ok14 d) : M.Was d (M.beginD d) 1 := ⟨⟨h.up.begin.dn, h.da, h.len⟩, Nat.le_refl _, M.begin_len d⟩

/-- What is seen behind writes. -/
def M.upd (V : Nat → ByteArray) (L : List (Nat × ByteArray)) : Nat → ByteArray := fun k => (M.seen0 L k).getD (V k)
theorem M.fold_or (k : Nat) : ∀ (K : List (Nat × ByteArray)) (o : Option ByteArray), K.foldl (fun o p => if p.1 = k then some p.2 else o) o = (M.seen0 K k).or o
  | [], o => by simp [M.seen0]
  | y :: K, o => by
    have e : M.seen0 (y :: K) k = (M.seen0 K k).or (if y.1 = k then some y.2 else none) := M.fold_or k K _
    rw [List.foldl_cons, M.fold_or k K, e]
    by_cases h : y.1 = k
    · rw [if_pos h, if_pos h]
      cases M.seen0 K k <;> rfl
    · rw [if_neg h, if_neg h]
      cases M.seen0 K k <;> rfl
theorem M.seen0_app (L K : List (Nat × ByteArray)) (k : Nat) : M.seen0 (L ++ K) k = (M.seen0 K k).or (M.seen0 L k) := by
  show (L ++ K).foldl _ none = _
  rw [List.foldl_append]
  exact M.fold_or k K _
theorem M.seen_app (S : List ByteArray) (L K : List (Nat × ByteArray)) (k : Nat) : M.seen S (L ++ K) k = M.upd (fun j => M.seen S L j) K k := by
  unfold M.seen M.upd
  rw [M.seen0_app]
  cases M.seen0 K k <;> rfl
theorem M.upd_nil (V : Nat → ByteArray) : M.upd V [] = V := rfl
theorem M.upd_app (V : Nat → ByteArray) (L K : List (Nat × ByteArray)) : M.upd V (L ++ K) = M.upd (M.upd V L) K := by
  funext k
  unfold M.upd
  rw [M.seen0_app]
  cases M.seen0 K k <;> rfl
theorem M.upd_one (V : Nat → ByteArray) (p : Nat × ByteArray) (k : Nat) : M.upd V [p] k = if p.1 = k then p.2 else V k := by
  unfold M.upd
  rw [show ([p] : List (Nat × ByteArray)) = [] ++ [p] from rfl, M.seen0_snoc, M.seen0_nil]
  split <;> rfl
theorem M.upd_out {V : Nat → ByteArray} {L : List (Nat × ByteArray)} {k : Nat} (h : ∀ x ∈ L, x.1 ≠ k) : M.upd V L k = V k := by
  have e : M.seen0 L k = none := M.seen_fold_no none h
  unfold M.upd
  rw [e]
  rfl
theorem M.upd_in {V : Nat → ByteArray} {L : List (Nat × ByteArray)} {k : Nat} {v : ByteArray} (h : ∀ x ∈ L, x.1 = k → x.2 = v) (h2 : ∃ x ∈ L, x.1 = k) : M.upd V L k = v := by
  have e : M.seen0 L k = some v := M.seen_fold none h (Or.inl h2)
  unfold M.upd
  rw [e]
  rfl
theorem M.upd_congr {V U : Nat → ByteArray} {k : Nat} (h : V k = U k) (L : List (Nat × ByteArray)) : M.upd V L k = M.upd U L k := by
  unfold M.upd
  rw [h]

section
variable {d : M.D} {V : Nat → ByteArray}
theorem M.Ok14.write (h : M.Ok14 d) (hV : M.Sees d V) (p : Nat × ByteArray) (h1 : p.1 < 44) (h2 : p.2.size = 64) :
    M.Was d (M.writeD d p.1 p.2) 1 ∧ ((M.writeE d p.1 p.2 = 0 ∧ M.Sees (M.writeD d p.1 p.2) (M.upd V [p])) ∨ (M.writeE d p.1 p.2 = 30 ∧ (M.writeD d p.1 p.2).fails.length < d.fails.length ∧ M.Sees (M.writeD d p.1 p.2) V)) := by
  have hw : M.wrong d.S.length (p.1 : Int) p.2 = 0 := by
    have hb : M.hasB d.S.length (p.1 : Int) = true := by rw [h.len]; unfold M.hasB; simp; omega
    unfold M.wrong
    rw [if_pos hb, if_pos h2]
  have hb := h.begin
  rcases M.begin_30 h.dn h.da with e | ⟨e, f⟩
  · have hl : M.lays d (p.1 : Int) p.2 = true := by unfold M.lays; rw [hw, e]; rfl
    have hd : M.writeD d (p.1 : Int) p.2 = { M.beginD d with L := d.L ++ [p] } := by
      unfold M.writeD
      rw [if_pos hl, Int.toNat_natCast]
    rw [hd]
    refine ⟨⟨⟨hb.ok.dn, hb.ok.da, hb.ok.len⟩, hb.ops, hb.fl⟩, Or.inl ⟨?_, fun k hk => ?_⟩⟩
    · unfold M.writeE M.or2
      rw [e, if_pos rfl, hw]
    · show M.seen d.S (d.L ++ [p]) k = _
      rw [M.seen_app]
      exact M.upd_congr (hV k hk) _
  · have hl : M.lays d (p.1 : Int) p.2 = false := by
      unfold M.lays
      rw [hw, e, hb.ok.dn]
      rfl
    have hd : M.writeD d (p.1 : Int) p.2 = M.beginD d := by
      unfold M.writeD
      rw [if_neg (by rw [hl]; decide)]
    rw [hd]
    refine ⟨hb, Or.inr ⟨?_, f, hV⟩⟩
    unfold M.writeE M.or2
    rw [e, if_neg (by decide)]
theorem M.Ok14.flush (h : M.Ok14 d) (hV : M.Sees d V) :
    M.Was d (M.flushD d) 1 ∧ ((M.beginE d = 0 ∧ M.Sees (M.flushD d) V) ∨ (M.beginE d = 30 ∧ (M.flushD d).fails.length < d.fails.length ∧ M.Sees (M.flushD d) V)) := by
  have hb := h.begin
  unfold M.flushD
  rcases M.begin_30 h.dn h.da with e | ⟨e, f⟩
  · rw [if_pos e]
    refine ⟨⟨⟨hb.ok.dn, hb.ok.da, ?_⟩, hb.ops, hb.fl⟩, Or.inl ⟨e, fun k hk => ?_⟩⟩
    · show (M.rounds _ _ _ _).length = 44
      rw [M.rounds_len, h.len]
    · have e1 := M.rounds_all d.S d.L k (by rw [h.len]; exact hk) d.L.length (Nat.le_refl _)
      rw [List.take_length] at e1
      rw [← hV k hk]
      show (M.seen0 [] k).getD ((M.rounds (fun _ => true) d.S d.L d.L.length).getD k ByteArray.empty) = _
      rw [M.seen0_nil, List.getD_eq_getElem?_getD, e1]
      rfl
  · rw [if_neg (by rw [e]; decide)]
    exact ⟨hb, Or.inr ⟨e, f, hV⟩⟩
theorem M.Ok14.read (h : M.Ok14 d) (hV : M.Sees d V) (k : Nat) (hk : k < 44) :
    (M.readE d (k : Nat) = 0 ∧ M.readS d (k : Nat) = V k) ∨ (M.readE d (k : Nat) = 30 ∧ (M.beginD d).fails.length < d.fails.length) := by
  have hb : M.hasB d.S.length (k : Int) = true := by rw [h.len]; unfold M.hasB; simp; omega
  unfold M.readE M.readS
  rcases M.begin_30 h.dn h.da with e | ⟨e, f⟩
  · left
    rw [if_pos e, if_pos hb, if_pos e, if_pos hb, Int.toNat_natCast]
    exact ⟨rfl, hV k hk⟩
  · right
    rw [if_neg (by rw [e]; decide)]
    exact ⟨e, f⟩
theorem M.Sees.begin (h : M.Sees d V) : M.Sees (M.beginD d) V := h
end

/-- What a step does: it goes well and V' is seen, or a call fails. -/
def M.Sp (f : M.D → Int × M.D) (n : Nat) (V V' : Nat → ByteArray) (G : (Nat → ByteArray) → Prop) : Prop :=
  ∀ d, M.Ok14 d → M.Sees d V → M.Was d (f d).2 n ∧ (((f d).1 = 0 ∧ M.Sees (f d).2 V') ∨ ((f d).1 = 30 ∧ (f d).2.fails.length < d.fails.length ∧ ∃ U, M.Sees (f d).2 U ∧ G U))
section
variable {f : M.D → Int × M.D} {fs : List (M.D → Int × M.D)} {n m : Nat} {V V1 V2 : Nat → ByteArray} {G G' : (Nat → ByteArray) → Prop}
theorem M.Sp.nil (V : Nat → ByteArray) (G : (Nat → ByteArray) → Prop) : M.Sp (M.steps14 []) 0 V V G := fun _ h hV => ⟨M.Was.refl h, Or.inl ⟨rfl, hV⟩⟩
theorem M.Sp.cons (h1 : M.Sp f n V V1 G) (h2 : M.Sp (M.steps14 fs) m V1 V2 G) : M.Sp (M.steps14 (f :: fs)) (n + m) V V2 G := by
  intro d hd hV
  obtain ⟨a1, a2⟩ := h1 d hd hV
  show M.Was d (if (f d).1 = 0 then M.steps14 fs (f d).2 else f d).2 (n + m) ∧ _
  rcases a2 with ⟨e, hV1⟩ | ⟨e, hf, hU⟩
  · have ee : M.steps14 (f :: fs) d = M.steps14 fs (f d).2 := by show (if (f d).1 = 0 then M.steps14 fs (f d).2 else f d) = _; rw [if_pos e]
    obtain ⟨b1, b2⟩ := h2 _ a1.ok hV1
    rw [if_pos e, ee]
    exact ⟨a1.trans b1, b2.imp id (fun ⟨x, y, z⟩ => ⟨x, Nat.lt_of_lt_of_le y a1.fl, z⟩)⟩
  · have ee : M.steps14 (f :: fs) d = f d := by show (if (f d).1 = 0 then M.steps14 fs (f d).2 else f d) = _; rw [if_neg (by rw [e]; decide)]
    rw [if_neg (by rw [e]; decide), ee]
    exact ⟨a1.more (Nat.le_add_right _ _), Or.inr ⟨e, hf, hU⟩⟩
theorem M.Sp.mono (h : M.Sp f n V V1 G) (hg : ∀ U, G U → G' U) : M.Sp f n V V1 G' := fun d hd hV =>
  ⟨(h d hd hV).1, (h d hd hV).2.imp id (fun ⟨a, b, U, c, e⟩ => ⟨a, b, U, c, hg U e⟩)⟩
theorem M.Sp.to (h : M.Sp f n V V1 G) (e : ∀ k, k < 44 → V1 k = V2 k) : M.Sp f n V V2 G := fun d hd hV =>
  ⟨(h d hd hV).1, (h d hd hV).2.imp (fun ⟨a, b⟩ => ⟨a, b.congr e⟩) id⟩
theorem M.Sp.more (h : M.Sp f n V V1 G) (hm : n ≤ m) : M.Sp f m V V1 G := fun d hd hV => ⟨(h d hd hV).1.more hm, (h d hd hV).2⟩
theorem M.Sp.flush (hG : G V) : M.Sp M.fl14 1 V V G := by
  intro d hd hV
  obtain ⟨h1, h2⟩ := hd.flush hV
  exact ⟨h1, h2.imp id (fun ⟨a, b, c⟩ => ⟨a, b, V, c, hG⟩)⟩
theorem M.Sp.wr : ∀ (L : List (Nat × ByteArray)) (V : Nat → ByteArray), (∀ x ∈ L, x.1 < 44 ∧ x.2.size = 64) → (∀ j, j < L.length → G (M.upd V (L.take j))) → M.Sp (M.wr L) L.length V (M.upd V L) G
  | [], V, _, _ => fun d h hV => ⟨M.Was.refl h, Or.inl ⟨rfl, hV⟩⟩
  | p :: L, V, hL, hG => by
    intro d hd hV
    obtain ⟨p1, p2⟩ := hL p (List.mem_cons_self ..)
    obtain ⟨a1, a2⟩ := hd.write hV p p1 p2
    have ih := M.Sp.wr L (M.upd V [p]) (fun x hx => hL x (List.mem_cons_of_mem _ hx)) (fun j hj => by
      have := hG (j + 1) (by simp; omega)
      rw [List.take_succ_cons, show p :: L.take j = [p] ++ L.take j from rfl, M.upd_app] at this
      exact this)
    rcases a2 with ⟨e, hV1⟩ | ⟨e, hf, hU⟩
    · have ee : M.wr (p :: L) d = M.wr L (M.writeD d p.1 p.2) := by rw [M.wr, if_pos e]
      obtain ⟨b1, b2⟩ := ih _ a1.ok hV1
      rw [ee, show p :: L = [p] ++ L from rfl, M.upd_app]
      exact ⟨(a1.trans b1).more (by simp; omega), b2.imp id (fun ⟨x, y, z⟩ => ⟨x, Nat.lt_of_lt_of_le y a1.fl, z⟩)⟩
    · have ee : M.wr (p :: L) d = (M.writeE d p.1 p.2, M.writeD d p.1 p.2) := by rw [M.wr, if_neg (by rw [e]; decide)]
      rw [ee]
      exact ⟨a1.more (by simp), Or.inr ⟨e, hf, V, hU, hG 0 (by simp)⟩⟩
/-- One sector. -/
theorem M.Sp.one (p : Nat × ByteArray) (h1 : p.1 < 44) (h2 : p.2.size = 64) (hG : G V) : M.Sp (M.wr [p]) 1 V (M.upd V [p]) G :=
  M.Sp.wr [p] V (fun x hx => by rw [List.mem_singleton] at hx; subst hx; exact ⟨h1, h2⟩) (fun j hj => by
    have : j = 0 := by simpa using hj
    subst this
    exact hG)
theorem M.Sp.eq {g : M.D → Int × M.D} (h : M.Sp f n V V1 G) (e : ∀ d, g d = f d) : M.Sp g n V V1 G := fun d hd hV => by
  rw [e d]
  exact h d hd hV
theorem M.Sp.head (g q k : Nat) (hG : G V) : M.Sp (fun d => M.headW d 10 24 g q k) 1 V (M.upd V [(10 + g % 2, M.hwhole ⟨(g : Nat), (q : Nat), (k : Nat)⟩)]) G :=
  (M.Sp.one (10 + g % 2, M.hwhole ⟨(g : Nat), (q : Nat), (k : Nat)⟩) (by show 10 + g % 2 < 44; omega) (M.hwhole_size _) hG).eq (fun d => M.headW_wr d 10 24 g q k (by omega))
theorem M.Sp.blank (fr mn p : Nat) (hp : p < mn) (h44 : fr + p < 44) (hG : G V) : M.Sp (fun d => M.gwrite d fr mn (p : Nat) (M.zeros 64)) 1 V (M.upd V [(fr + p, M.zeros 64)]) G := by
  refine (M.Sp.one (fr + p, M.zeros 64) h44 (M.zeros_size _) hG).eq (fun d => ?_)
  rw [M.gwrite_one d fr mn p (M.zeros 64) hp (M.zeros_size _), M.wr]
  split
  · rename_i e
    simp only at e
    rw [e]
    rfl
  · rfl
theorem M.Sp.lput (p n : Nat) (s : ByteArray) (hp : p < 22) (hs : s.size = 64 * n) (h0 : 0 < n) (hn : n ≤ 22) (hG : ∀ U, (∀ k, (∀ i, i < n → k ≠ 12 + (p + i) % 22) → U k = V k) → G U) :
    M.Sp (fun d => M.lput d 12 22 (p : Nat) s) n V (M.upd V (M.lay12 12 22 p n s)) G := by
  have hl : (M.lay12 12 22 p n s).length = n := M.lay12_len 12 22 p n s
  have := M.Sp.wr (G := G) (M.lay12 12 22 p n s) V (fun x hx => by
    obtain ⟨i, hi, rfl⟩ := M.lay12_mem hx
    exact ⟨by show 12 + (p + i) % 22 < 44; omega, M.piece_of s n i hs hi⟩) (fun j hj => hG _ (fun k hk => M.upd_out (fun x hx => by
      obtain ⟨i, hi, rfl⟩ := M.lay12_mem (List.mem_of_mem_take hx)
      exact fun e => hk i hi e.symm)))
  rw [hl] at this
  refine this.eq (fun d => ?_)
  show M.lput d 12 22 (p : Nat) s = _
  unfold M.lput
  rw [if_neg (by omega), if_neg (by omega), Int.toNat_natCast, show s.size / 64 = n by omega]
end
/-- What is seen where a record's sectors were laid, and elsewhere. -/
theorem M.upd_lay (V : Nat → ByteArray) (p n : Nat) (s : ByteArray) (hn : n ≤ 22) : (∀ i, i < n → M.upd V (M.lay12 12 22 p n s) (12 + (p + i) % 22) = M.piece s i) ∧ ∀ k, (∀ i, i < n → k ≠ 12 + (p + i) % 22) → M.upd V (M.lay12 12 22 p n s) k = V k := by
  constructor
  · intro i hi
    refine M.upd_in (fun x hx e => ?_) ⟨_, M.lay12_has hi, rfl⟩
    obtain ⟨j, hj, rfl⟩ := M.lay12_mem hx
    have := M.mod_inj (p := p) (i := j) (j := i) (mn := 22) (by omega) (by omega) (by simp only at e; omega)
    rw [this]
  · intro k hk
    refine M.upd_out (fun x hx => ?_)
    obtain ⟨i, hi, rfl⟩ := M.lay12_mem hx
    exact fun e => hk i hi e.symm
/-- The place of the next log's first record is looked at, and made noughts if it is like one. -/
def M.readyF (fr m2 k a q : Nat) (d : M.D) : Int × M.D :=
  if (M.gread d fr m2 (a : Nat) 1).2.1 ≠ 0 then ((M.gread d fr m2 (a : Nat) 1).2.1, (M.gread d fr m2 (a : Nat) 1).2.2)
  else if M.szE (M.gread d fr m2 (a : Nat) 1).1 (q : Nat) ≠ 0 then (0, (M.gread d fr m2 (a : Nat) 1).2.2)
  else M.steps14 [fun d => M.gwrite d fr m2 (k : Nat) (M.zeros 64), M.fl14, fun d => M.gwrite d fr m2 (a : Nat) (M.zeros 64), M.fl14] (M.gread d fr m2 (a : Nat) 1).2.2
theorem M.gread_one (d : M.D) (fr mn a : Nat) (ha : a < mn) : M.gread d fr mn (a : Nat) 1 = if M.readE d ((fr + a : Nat) : Int) = 0 then (M.readS d ((fr + a : Nat) : Int), 0, M.beginD d) else (⟨#[]⟩, M.readE d ((fr + a : Nat) : Int), M.beginD d) := by
  have hw : M.within (a : Int) 1 (mn : Nat) = true := by unfold M.within; simp; omega
  unfold M.gread
  rw [if_pos hw, Int.toNat_natCast]
  show M.rd 1 d (fr + a) ⟨#[]⟩ = _
  rw [M.rd, M.rd, M.nil_app14]
theorem M.Sp.ready {V : Nat → ByteArray} {G : (Nat → ByteArray) → Prop} (k q : Nat) (hk : k < 22) (hG : G V) (hG1 : M.szE (V 12) (q : Nat) = 0 → G (M.upd V [(12 + k, M.zeros 64)])) (hG2 : M.szE (V 12) (q : Nat) = 0 → G (M.upd (M.upd V [(12 + k, M.zeros 64)]) [(12 + 0, M.zeros 64)])) :
    M.Sp (M.readyF 12 22 k 0 q) 5 V (if M.szE (V 12) (q : Nat) ≠ 0 then V else M.upd (M.upd V [(12 + k, M.zeros 64)]) [(12 + 0, M.zeros 64)]) G := by
  intro d hd hV
  have hg := M.gread_one d 12 22 0 (by omega)
  have hb := hd.begin
  unfold M.readyF
  rcases hd.read hV 12 (by omega) with ⟨e1, e2⟩ | ⟨e1, e2⟩
  · rw [if_pos e1, e2] at hg
    rw [hg, if_neg (fun e => e rfl)]
    by_cases hz : M.szE (V 12) (q : Nat) ≠ 0
    · rw [if_pos hz, if_pos hz]
      exact ⟨hb.more (by omega), Or.inl ⟨rfl, hV⟩⟩
    · rw [if_neg hz, if_neg hz]
      have hz0 : M.szE (V 12) (q : Nat) = 0 := Classical.byContradiction hz
      have hs := (M.Sp.blank 12 22 k hk (by omega) hG).cons ((M.Sp.flush (hG1 hz0)).cons ((M.Sp.blank 12 22 0 (by omega) (by omega) (hG1 hz0)).cons ((M.Sp.flush (hG2 hz0)).cons (M.Sp.nil _ G))))
      obtain ⟨b1, b2⟩ := hs _ hb.ok hV.begin
      exact ⟨hb.trans b1, b2.imp id (fun ⟨x, y, z⟩ => ⟨x, Nat.lt_of_lt_of_le y hb.fl, z⟩)⟩
  · rw [if_neg (by rw [e1]; decide)] at hg
    rw [hg, if_pos (by show M.readE d _ ≠ 0; rw [e1]; decide)]
    exact ⟨hb.more (by omega), Or.inr ⟨e1, e2, V, hV, hG⟩⟩
end Go.Proofs.YtigmcnnplnfakaaGreatDoor
