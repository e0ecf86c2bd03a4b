/-
  Views: what is seen of a disk whose calls may fail, step by step. No function of the program is walked in this text. The log on a disk, as what is seen of its sectors: mathematics. No function of the program is walked in this text.
-/
import Derived.Test.YtmgchfjfkdkaoaaGreatDoorNJ
import Derived.Test.YtmgchfjfkdkaoaaGreatDoorPQ
import Derived.Test.YtmgchfjfkdkaoaaGreatDoorPL
namespace Go.Proofs.YtmgchfjfkdkaoaaGreatDoor
open Go.RowKit

/-- Where a log lies on a disk: how many sectors the disk has, the log's first one, how many it has. -/
structure M.Geo where
  N : Nat
  fr : Nat
  mn : Nat
  lo : 24 ≤ mn
  hi : mn ≤ 200
  room : fr + mn ≤ N
  few : N ≤ 800
theorem M.Geo.facts (a : M.Geo) : 24 ≤ a.mn ∧ a.mn ≤ 200 ∧ a.fr + a.mn ≤ a.N ∧ a.N ≤ 800 := ⟨a.lo, a.hi, a.room, a.few⟩
theorem M.mod2 (x m : Nat) (h : x < 2 * m) : (x % m = x ∧ x < m) ∨ (x % m + m = x ∧ m ≤ x) := by
  by_cases e : x < m
  · exact Or.inl ⟨Nat.mod_eq_of_lt e, e⟩
  · right
    have h1 : m ≤ x := Nat.le_of_not_lt e
    rw [Nat.mod_eq_sub_mod h1, Nat.mod_eq_of_lt (by omega)]
    omega
theorem M.mod_lt (x : Nat) {m : Nat} (h : 0 < m) : x % m < m := Nat.mod_lt _ h
variable {a : M.Geo}
/-- A disk with a log somewhere on it, never down. -/
structure M.Ok14 (a : M.Geo) (d : M.D) : Prop where
  dn : d.dn = false
  da : d.da = 0
  len : d.S.length = a.N
/-- What is seen of its sectors. -/
def M.Sees (a : M.Geo) (d : M.D) (V : Nat → ByteArray) : Prop := ∀ k, k < a.N → M.seen d.S d.L k = V k
theorem M.Sees.congr {d : M.D} {V U : Nat → ByteArray} (h : M.Sees a d V) (e : ∀ k, k < a.N → V k = U k) : M.Sees a d U := fun k hk => (h k hk).trans (e k hk)
/-- One disk behind another, so many calls later. -/
structure M.Was (a : M.Geo) (d d' : M.D) (n : Nat) : Prop where
  ok : M.Ok14 a d'
  ops : d'.ops ≤ d.ops + n
  fl : d'.fails.length ≤ d.fails.length
theorem M.Was.trans {d e f : M.D} {n m : Nat} (h : M.Was a d e n) (k : M.Was a e f m) : M.Was a d f (n + m) := ⟨k.ok, by have := h.ops; have := k.ops; omega, Nat.le_trans k.fl h.fl⟩
theorem M.Was.more {d e : M.D} {n m : Nat} (h : M.Was a d e n) (hm : n ≤ m) : M.Was a d e m := ⟨h.ok, by have := h.ops; omega, h.fl⟩
theorem M.Was.refl {d : M.D} (h : M.Ok14 a d) : M.Was a d d 0 := ⟨h, Nat.le_refl _, Nat.le_refl _⟩
theorem M.Ok14.up {d : M.D} (h : M.Ok14 a d) : M.Up d d.S d.L := ⟨h.dn, h.da, rfl, rfl⟩
theorem M.Ok14.begin {d : M.D} (h : M.Ok14 a d) : M.Was a d (M.beginD d) 1 := ⟨⟨h.up.begin.dn, h.da, h.len⟩, Nat.le_refl _, M.begin_len d⟩

/-- What is seen behind writes. -/
def M.upd (V : Nat → ByteArray) (L : List (Nat × ByteArray)) : Nat → ByteArray := fun k => (M.seen0 L k).getD (V k)
theorem M.fold_or (k : Nat) : ∀ (K : List (Nat × ByteArray)) (o : Option ByteArray), K.foldl (fun o p => if p.1 = k then some p.2 else o) o = (M.seen0 K k).or o
  | [], o => by simp [M.seen0]
  | y :: K, o => by
    have e : M.seen0 (y :: K) k = (M.seen0 K k).or (if y.1 = k then some y.2 else none) := M.fold_or k K _
    rw [List.foldl_cons, M.fold_or k K, e]
    by_cases h : y.1 = k
    · rw [if_pos h, if_pos h]
      cases M.seen0 K k <;> rfl
    · rw [if_neg h, if_neg h]
      cases M.seen0 K k <;> rfl
theorem M.seen0_app (L K : List (Nat × ByteArray)) (k : Nat) : M.seen0 (L ++ K) k = (M.seen0 K k).or (M.seen0 L k) := by
  show (L ++ K).foldl _ none = _
  rw [List.foldl_append]
  exact M.fold_or k K _
theorem M.seen_app (S : List ByteArray) (L K : List (Nat × ByteArray)) (k : Nat) : M.seen S (L ++ K) k = M.upd (fun j => M.seen S L j) K k := by
  unfold M.seen M.upd
  rw [M.seen0_app]
  cases M.seen0 K k <;> rfl
theorem M.upd_nil (V : Nat → ByteArray) : M.upd V [] = V := rfl
theorem M.upd_app (V : Nat → ByteArray) (L K : List (Nat × ByteArray)) : M.upd V (L ++ K) = M.upd (M.upd V L) K := by
  funext k
  unfold M.upd
  rw [M.seen0_app]
  cases M.seen0 K k <;> rfl
theorem M.upd_one (V : Nat → ByteArray) (p : Nat × ByteArray) (k : Nat) : M.upd V [p] k = if p.1 = k then p.2 else V k := by
  unfold M.upd
  rw [show ([p] : List (Nat × ByteArray)) = [] ++ [p] from rfl, M.seen0_snoc, M.seen0_nil]
  split <;> rfl
theorem M.upd_out {V : Nat → ByteArray} {L : List (Nat × ByteArray)} {k : Nat} (h : ∀ x ∈ L, x.1 ≠ k) : M.upd V L k = V k := by
  have e : M.seen0 L k = none := M.seen_fold_no none h
  unfold M.upd
  rw [e]
  rfl
theorem M.upd_in {V : Nat → ByteArray} {L : List (Nat × ByteArray)} {k : Nat} {v : ByteArray} (h : ∀ x ∈ L, x.1 = k → x.2 = v) (h2 : ∃ x ∈ L, x.1 = k) : M.upd V L k = v := by
  have e : M.seen0 L k = some v := M.seen_fold none h (Or.inl h2)
  unfold M.upd
  rw [e]
  rfl
theorem M.upd_congr {V U : Nat → ByteArray} {k : Nat} (h : V k = U k) (L : List (Nat × ByteArray)) : M.upd V L k = M.upd U L k := by
  unfold M.upd
  rw [h]

section
variable {d : M.D} {V : Nat → ByteArray}
theorem M.Ok14.write (h : M.Ok14 a d) (hV : M.Sees a d V) (p : Nat × ByteArray) (h1 : p.1 < a.N) (h2 : p.2.size = 64) :
    M.Was a d (M.writeD d p.1 p.2) 1 ∧ ((M.writeE d p.1 p.2 = 0 ∧ M.Sees a (M.writeD d p.1 p.2) (M.upd V [p])) ∨ (M.writeE d p.1 p.2 = 30 ∧ (M.writeD d p.1 p.2).fails.length < d.fails.length ∧ M.Sees a (M.writeD d p.1 p.2) V)) := by
  have hw : M.wrong d.S.length (p.1 : Int) p.2 = 0 := by
    have hb : M.hasB d.S.length (p.1 : Int) = true := by rw [h.len]; unfold M.hasB; simp; omega
    unfold M.wrong
    rw [if_pos hb, if_pos h2]
  have hb := h.begin
  rcases M.begin_30 h.dn h.da with e | ⟨e, f⟩
  · have hl : M.lays d (p.1 : Int) p.2 = true := by unfold M.lays; rw [hw, e]; rfl
    have hd : M.writeD d (p.1 : Int) p.2 = { M.beginD d with L := d.L ++ [p] } := by
      unfold M.writeD
      rw [if_pos hl, Int.toNat_natCast]
    rw [hd]
    refine ⟨⟨⟨hb.ok.dn, hb.ok.da, hb.ok.len⟩, hb.ops, hb.fl⟩, Or.inl ⟨?_, fun k hk => ?_⟩⟩
    · unfold M.writeE M.or2
      rw [e, if_pos rfl, hw]
    · show M.seen d.S (d.L ++ [p]) k = _
      rw [M.seen_app]
      exact M.upd_congr (hV k hk) _
  · have hl : M.lays d (p.1 : Int) p.2 = false := by
      unfold M.lays
      rw [hw, e, hb.ok.dn]
      rfl
    have hd : M.writeD d (p.1 : Int) p.2 = M.beginD d := by
      unfold M.writeD
      rw [if_neg (by rw [hl]; decide)]
    rw [hd]
    refine ⟨hb, Or.inr ⟨?_, f, hV⟩⟩
    unfold M.writeE M.or2
    rw [e, if_neg (by decide)]
theorem M.Ok14.flush (h : M.Ok14 a d) (hV : M.Sees a d V) :
    M.Was a d (M.flushD d) 1 ∧ ((M.beginE d = 0 ∧ M.Sees a (M.flushD d) V) ∨ (M.beginE d = 30 ∧ (M.flushD d).fails.length < d.fails.length ∧ M.Sees a (M.flushD d) V)) := by
  have hb := h.begin
  unfold M.flushD
  rcases M.begin_30 h.dn h.da with e | ⟨e, f⟩
  · rw [if_pos e]
    refine ⟨⟨⟨hb.ok.dn, hb.ok.da, ?_⟩, hb.ops, hb.fl⟩, Or.inl ⟨e, fun k hk => ?_⟩⟩
    · show (M.rounds _ _ _ _).length = a.N
      rw [M.rounds_len, h.len]
    · have e1 := M.rounds_all d.S d.L k (by rw [h.len]; exact hk) d.L.length (Nat.le_refl _)
      rw [List.take_length] at e1
      rw [← hV k hk]
      show (M.seen0 [] k).getD ((M.rounds (fun _ => true) d.S d.L d.L.length).getD k ByteArray.empty) = _
      rw [M.seen0_nil, List.getD_eq_getElem?_getD, e1]
      rfl
  · rw [if_neg (by rw [e]; decide)]
    exact ⟨hb, Or.inr ⟨e, f, hV⟩⟩
theorem M.Ok14.read (h : M.Ok14 a d) (hV : M.Sees a d V) (k : Nat) (hk : k < a.N) :
    (M.readE d (k : Nat) = 0 ∧ M.readS d (k : Nat) = V k) ∨ (M.readE d (k : Nat) = 30 ∧ (M.beginD d).fails.length < d.fails.length) := by
  have hb : M.hasB d.S.length (k : Int) = true := by rw [h.len]; unfold M.hasB; simp; omega
  unfold M.readE M.readS
  rcases M.begin_30 h.dn h.da with e | ⟨e, f⟩
  · left
    rw [if_pos e, if_pos hb, if_pos e, if_pos hb, Int.toNat_natCast]
    exact ⟨rfl, hV k hk⟩
  · right
    rw [if_neg (by rw [e]; decide)]
    exact ⟨e, f⟩
theorem M.Sees.begin (h : M.Sees a d V) : M.Sees a (M.beginD d) V := h
end

/-- What a step does: it goes well and V' is seen, or a call fails. -/
def M.Sp (a : M.Geo) (f : M.D → Int × M.D) (n : Nat) (V V' : Nat → ByteArray) (G : (Nat → ByteArray) → Prop) : Prop :=
  ∀ d, M.Ok14 a d → M.Sees a d V → M.Was a d (f d).2 n ∧ (((f d).1 = 0 ∧ M.Sees a (f d).2 V') ∨ ((f d).1 = 30 ∧ (f d).2.fails.length < d.fails.length ∧ ∃ U, M.Sees a (f d).2 U ∧ G U))
section
variable {f : M.D → Int × M.D} {fs : List (M.D → Int × M.D)} {n m : Nat} {V V1 V2 : Nat → ByteArray} {G G' : (Nat → ByteArray) → Prop}
theorem M.Sp.nil (V : Nat → ByteArray) (G : (Nat → ByteArray) → Prop) : M.Sp a (M.steps14 []) 0 V V G := fun _ h hV => ⟨M.Was.refl h, Or.inl ⟨rfl, hV⟩⟩
theorem M.Sp.cons (h1 : M.Sp a f n V V1 G) (h2 : M.Sp a (M.steps14 fs) m V1 V2 G) : M.Sp a (M.steps14 (f :: fs)) (n + m) V V2 G := by
  intro d hd hV
  obtain ⟨a1, a2⟩ := h1 d hd hV
  show M.Was a d (if (f d).1 = 0 then M.steps14 fs (f d).2 else f d).2 (n + m) ∧ _
  rcases a2 with ⟨e, hV1⟩ | ⟨e, hf, hU⟩
  · have ee : M.steps14 (f :: fs) d = M.steps14 fs (f d).2 := by show (if (f d).1 = 0 then M.steps14 fs (f d).2 else f d) = _; rw [if_pos e]
    obtain ⟨b1, b2⟩ := h2 _ a1.ok hV1
    rw [if_pos e, ee]
    exact ⟨a1.trans b1, b2.imp id (fun ⟨x, y, z⟩ => ⟨x, Nat.lt_of_lt_of_le y a1.fl, z⟩)⟩
  · have ee : M.steps14 (f :: fs) d = f d := by show (if (f d).1 = 0 then M.steps14 fs (f d).2 else f d) = _; rw [if_neg (by rw [e]; decide)]
    rw [if_neg (by rw [e]; decide), ee]
    exact ⟨a1.more (Nat.le_add_right _ _), Or.inr ⟨e, hf, hU⟩⟩
theorem M.Sp.mono (h : M.Sp a f n V V1 G) (hg : ∀ U, G U → G' U) : M.Sp a f n V V1 G' := fun d hd hV =>
  ⟨(h d hd hV).1, (h d hd hV).2.imp id (fun ⟨a, b, U, c, e⟩ => ⟨a, b, U, c, hg U e⟩)⟩
theorem M.Sp.to (h : M.Sp a f n V V1 G) (e : ∀ k, k < a.N → V1 k = V2 k) : M.Sp a f n V V2 G := fun d hd hV =>
  ⟨(h d hd hV).1, (h d hd hV).2.imp (fun ⟨a, b⟩ => ⟨a, b.congr e⟩) id⟩
theorem M.Sp.more (h : M.Sp a f n V V1 G) (hm : n ≤ m) : M.Sp a f m V V1 G := fun d hd hV => ⟨(h d hd hV).1.more hm, (h d hd hV).2⟩
theorem M.Sp.flush (hG : G V) : M.Sp a M.fl14 1 V V G := by
  intro d hd hV
  obtain ⟨h1, h2⟩ := hd.flush hV
  exact ⟨h1, h2.imp id (fun ⟨a, b, c⟩ => ⟨a, b, V, c, hG⟩)⟩
theorem M.Sp.wr : ∀ (L : List (Nat × ByteArray)) (V : Nat → ByteArray), (∀ x ∈ L, x.1 < a.N ∧ x.2.size = 64) → (∀ j, j < L.length → G (M.upd V (L.take j))) → M.Sp a (M.wr L) L.length V (M.upd V L) G
  | [], V, _, _ => fun d h hV => ⟨M.Was.refl h, Or.inl ⟨rfl, hV⟩⟩
  | p :: L, V, hL, hG => by
    intro d hd hV
    obtain ⟨p1, p2⟩ := hL p (List.mem_cons_self ..)
    obtain ⟨a1, a2⟩ := hd.write hV p p1 p2
    have ih := M.Sp.wr L (M.upd V [p]) (fun x hx => hL x (List.mem_cons_of_mem _ hx)) (fun j hj => by
      have := hG (j + 1) (by simp; omega)
      rw [List.take_succ_cons, show p :: L.take j = [p] ++ L.take j from rfl, M.upd_app] at this
      exact this)
    rcases a2 with ⟨e, hV1⟩ | ⟨e, hf, hU⟩
    · have ee : M.wr (p :: L) d = M.wr L (M.writeD d p.1 p.2) := by rw [M.wr, if_pos e]
      obtain ⟨b1, b2⟩ := ih _ a1.ok hV1
      rw [ee, show p :: L = [p] ++ L from rfl, M.upd_app]
      exact ⟨(a1.trans b1).more (by simp; omega), b2.imp id (fun ⟨x, y, z⟩ => ⟨x, Nat.lt_of_lt_of_le y a1.fl, z⟩)⟩
    · have ee : M.wr (p :: L) d = (M.writeE d p.1 p.2, M.writeD d p.1 p.2) := by rw [M.wr, if_neg (by rw [e]; decide)]
      rw [ee]
      exact ⟨a1.more (by simp), Or.inr ⟨e, hf, V, hU, hG 0 (by simp)⟩⟩
/-- One sector. -/
theorem M.Sp.one (p : Nat × ByteArray) (h1 : p.1 < a.N) (h2 : p.2.size = 64) (hG : G V) : M.Sp a (M.wr [p]) 1 V (M.upd V [p]) G :=
  M.Sp.wr [p] V (fun x hx => by rw [List.mem_singleton] at hx; subst hx; exact ⟨h1, h2⟩) (fun j hj => by
    have : j = 0 := by simpa using hj
    subst this
    exact hG)
theorem M.Sp.eq {g : M.D → Int × M.D} (h : M.Sp a f n V V1 G) (e : ∀ d, g d = f d) : M.Sp a g n V V1 G := fun d hd hV => by
  rw [e d]
  exact h d hd hV
theorem M.Sp.head (g q k : Nat) (hG : G V) : M.Sp a (fun d => M.headW d a.fr a.mn g q k) 1 V (M.upd V [(a.fr + g % 2, M.hwhole ⟨(g : Nat), (q : Nat), (k : Nat)⟩)]) G :=
  (M.Sp.one (a.fr + g % 2, M.hwhole ⟨(g : Nat), (q : Nat), (k : Nat)⟩) (by show a.fr + g % 2 < a.N; have := a.facts; omega) (M.hwhole_size _) hG).eq (fun d => M.headW_wr d a.fr a.mn g q k (by have := a.lo; omega))
theorem M.Sp.blank (fr mn p : Nat) (hp : p < mn) (h44 : fr + p < a.N) (hG : G V) : M.Sp a (fun d => M.gwrite d fr mn (p : Nat) (M.zeros 64)) 1 V (M.upd V [(fr + p, M.zeros 64)]) G := by
  refine (M.Sp.one (fr + p, M.zeros 64) h44 (M.zeros_size _) hG).eq (fun d => ?_)
  rw [M.gwrite_one d fr mn p (M.zeros 64) hp (M.zeros_size _), M.wr]
  split
  · rename_i e
    simp only at e
    rw [e]
    rfl
  · rfl
theorem M.Sp.lput (p n : Nat) (s : ByteArray) (hp : p < a.mn - 2) (hs : s.size = 64 * n) (h0 : 0 < n) (hn : n ≤ a.mn - 2) (hG : ∀ U, (∀ k, (∀ i, i < n → k ≠ a.fr + 2 + (p + i) % (a.mn - 2)) → U k = V k) → G U) :
    M.Sp a (fun d => M.lput d (a.fr + 2) (a.mn - 2) (p : Nat) s) n V (M.upd V (M.lay12 (a.fr + 2) (a.mn - 2) p n s)) G := by
  obtain ⟨f1, f2, f3, f4⟩ := a.facts
  have hl : (M.lay12 (a.fr + 2) (a.mn - 2) p n s).length = n := M.lay12_len (a.fr + 2) (a.mn - 2) p n s
  have := M.Sp.wr (G := G) (M.lay12 (a.fr + 2) (a.mn - 2) p n s) V (fun x hx => by
    obtain ⟨i, hi, rfl⟩ := M.lay12_mem hx
    exact ⟨by show a.fr + 2 + (p + i) % (a.mn - 2) < a.N; have := M.mod_lt (p + i) (m := a.mn - 2) (by omega); omega, M.piece_of s n i hs hi⟩) (fun j hj => hG _ (fun k hk => M.upd_out (fun x hx => by
      obtain ⟨i, hi, rfl⟩ := M.lay12_mem (List.mem_of_mem_take hx)
      exact fun e => hk i hi e.symm)))
  rw [hl] at this
  refine this.eq (fun d => ?_)
  show M.lput d (a.fr + 2) (a.mn - 2) (p : Nat) s = _
  unfold M.lput
  rw [if_neg (by omega), if_neg (by omega), Int.toNat_natCast, show s.size / 64 = n by omega]
end
/-- What is seen where a record's sectors were laid, and elsewhere. -/
theorem M.upd_lay (V : Nat → ByteArray) (p n : Nat) (s : ByteArray) (hn : n ≤ a.mn - 2) : (∀ i, i < n → M.upd V (M.lay12 (a.fr + 2) (a.mn - 2) p n s) (a.fr + 2 + (p + i) % (a.mn - 2)) = M.piece s i) ∧ ∀ k, (∀ i, i < n → k ≠ a.fr + 2 + (p + i) % (a.mn - 2)) → M.upd V (M.lay12 (a.fr + 2) (a.mn - 2) p n s) k = V k := by
  constructor
  · intro i hi
    refine M.upd_in (fun x hx e => ?_) ⟨_, M.lay12_has hi, rfl⟩
    obtain ⟨j, hj, rfl⟩ := M.lay12_mem hx
    have := M.mod_inj (p := p) (i := j) (j := i) (mn := a.mn - 2) (by omega) (by omega) (by simp only at e; omega)
    rw [this]
  · intro k hk
    refine M.upd_out (fun x hx => ?_)
    obtain ⟨i, hi, rfl⟩ := M.lay12_mem hx
    exact fun e => hk i hi e.symm
theorem M.gread_one (d : M.D) (fr mn a : Nat) (ha : a < mn) : M.gread d fr mn (a : Nat) 1 = if M.readE d ((fr + a : Nat) : Int) = 0 then (M.readS d ((fr + a : Nat) : Int), 0, M.beginD d) else (⟨#[]⟩, M.readE d ((fr + a : Nat) : Int), M.beginD d) := by
  have hw : M.within (a : Int) 1 (mn : Nat) = true := by unfold M.within; simp; omega
  unfold M.gread
  rw [if_pos hw, Int.toNat_natCast]
  show M.rd 1 d (fr + a) ⟨#[]⟩ = _
  rw [M.rd, M.rd, M.nil_app14]
theorem M.Sp.ready {V : Nat → ByteArray} {G : (Nat → ByteArray) → Prop} (k q : Nat) (hk : k < a.mn - 2) (hG : G V) (hG1 : M.szE (V (a.fr + 2)) (q : Nat) = 0 → G (M.upd V [(a.fr + 2 + k, M.zeros 64)])) (hG2 : M.szE (V (a.fr + 2)) (q : Nat) = 0 → G (M.upd (M.upd V [(a.fr + 2 + k, M.zeros 64)]) [(a.fr + 2 + 0, M.zeros 64)])) :
    M.Sp a (M.readyF (a.fr + 2) (a.mn - 2) k 0 q) 5 V (if M.szE (V (a.fr + 2)) (q : Nat) ≠ 0 then V else M.upd (M.upd V [(a.fr + 2 + k, M.zeros 64)]) [(a.fr + 2 + 0, M.zeros 64)]) G := by
  intro d hd hV
  obtain ⟨f1, f2, f3, f4⟩ := a.facts
  have hg := M.gread_one d (a.fr + 2) (a.mn - 2) 0 (by omega)
  have hb := hd.begin
  unfold M.readyF
  rcases hd.read hV (a.fr + 2) (by omega) with ⟨e1, e2⟩ | ⟨e1, e2⟩
  · rw [if_pos e1, e2] at hg
    rw [hg, if_neg (fun e => e rfl)]
    by_cases hz : M.szE (V (a.fr + 2)) (q : Nat) ≠ 0
    · rw [if_pos hz, if_pos hz]
      exact ⟨hb.more (by omega), Or.inl ⟨rfl, hV⟩⟩
    · rw [if_neg hz, if_neg hz]
      have hz0 : M.szE (V (a.fr + 2)) (q : Nat) = 0 := Classical.byContradiction hz
      have hs := (M.Sp.blank (a := a) (a.fr + 2) (a.mn - 2) k hk (by omega) hG).cons ((M.Sp.flush (hG1 hz0)).cons ((M.Sp.blank (a.fr + 2) (a.mn - 2) 0 (by omega) (by omega) (hG1 hz0)).cons ((M.Sp.flush (hG2 hz0)).cons (M.Sp.nil _ G))))
      obtain ⟨b1, b2⟩ := hs _ hb.ok hV.begin
      exact ⟨hb.trans b1, b2.imp id (fun ⟨x, y, z⟩ => ⟨x, Nat.lt_of_lt_of_le y hb.fl, z⟩)⟩
  · rw [if_neg (by rw [e1]; decide)] at hg
    rw [hg, if_pos (by show M.readE d _ ≠ 0; rw [e1]; decide)]
    exact ⟨hb.more (by omega), Or.inr ⟨e1, e2, V, hV, hG⟩⟩
end Go.Proofs.YtmgchfjfkdkaoaaGreatDoor
namespace Go.Proofs.YtmgchfjfkdkaoaaGreatDoor
open Go.RowKit

variable {a : M.Geo}
/-- A transaction's record, with a number. -/
def M.recOf (q : Nat) (c : List (Nat × ByteArray)) : ByteArray := M.rec (M.aF c) (M.tF c) q c.length
/-- Records one behind the other, from a place and a number on. -/
def M.chain (a : M.Geo) (V : Nat → ByteArray) : Nat → Nat → List (List (Nat × ByteArray)) → Prop
  | _, _, [] => True
  | p, q, c :: C => (M.rE (M.aF c) (M.tF c) (q : Nat) c.length = 0 ∧ ∀ j, j < c.length + 1 → V (a.fr + 2 + (p + j) % (a.mn - 2)) = M.piece (M.recOf q c) j) ∧ M.chain a V (p + (c.length + 1)) (q + 1) C
/-- How many sectors they have. -/
def M.tot : List (List (Nat × ByteArray)) → Nat
  | [] => 0
  | c :: C => (c.length + 1) + M.tot C
theorem M.tot_snoc : ∀ (C : List (List (Nat × ByteArray))) (c : List (Nat × ByteArray)), M.tot (C ++ [c]) = M.tot C + (c.length + 1)
  | [], c => by simp [M.tot]
  | x :: C, c => by
    show (x.length + 1) + M.tot (C ++ [c]) = (x.length + 1) + M.tot C + (c.length + 1)
    rw [M.tot_snoc C c]
    omega
theorem M.tot_len : ∀ C : List (List (Nat × ByteArray)), C.length ≤ M.tot C
  | [] => Nat.le_refl _
  | c :: C => by
    have := M.tot_len C
    show C.length + 1 ≤ (c.length + 1) + M.tot C
    omega
theorem M.tot_flat : ∀ C : List (List (Nat × ByteArray)), C.flatten.length ≤ M.tot C
  | [] => Nat.le_refl _
  | c :: C => by
    have := M.tot_flat C
    rw [List.flatten_cons, List.length_append]
    show _ ≤ (c.length + 1) + M.tot C
    omega
section
variable {V U : Nat → ByteArray}
theorem M.chain_snoc : ∀ (C : List (List (Nat × ByteArray))) (p q : Nat) (c : List (Nat × ByteArray)), M.chain a V p q C → M.rE (M.aF c) (M.tF c) ((q + C.length : Nat) : Int) c.length = 0 → (∀ j, j < c.length + 1 → V (a.fr + 2 + (p + M.tot C + j) % (a.mn - 2)) = M.piece (M.recOf (q + C.length) c) j) → M.chain a V p q (C ++ [c])
  | [], p, q, c, _, h1, h2 => ⟨⟨h1, h2⟩, trivial⟩
  | x :: C, p, q, c, h, h1, h2 => by
    refine ⟨h.1, M.chain_snoc C _ _ c h.2 ?_ ?_⟩
    · rw [show q + 1 + C.length = q + (x :: C).length by simp; omega]
      exact h1
    · intro j hj
      rw [show q + 1 + C.length = q + (x :: C).length by simp; omega, show p + (x.length + 1) + M.tot C = p + M.tot (x :: C) by show _ = p + ((x.length + 1) + M.tot C); omega]
      exact h2 j hj
theorem M.chain_keep : ∀ (C : List (List (Nat × ByteArray))) (p q : Nat), M.chain a V p q C → (∀ j, j < M.tot C → U (a.fr + 2 + (p + j) % (a.mn - 2)) = V (a.fr + 2 + (p + j) % (a.mn - 2))) → M.chain a U p q C
  | [], _, _, _, _ => trivial
  | c :: C, p, q, h, hu => by
    refine ⟨⟨h.1.1, fun j hj => ?_⟩, M.chain_keep C _ _ h.2 (fun j hj => ?_)⟩
    · rw [hu j (by show j < (c.length + 1) + M.tot C; omega)]
      exact h.1.2 j hj
    · have := hu ((c.length + 1) + j) (by show _ < (c.length + 1) + M.tot C; omega)
      rwa [show p + ((c.length + 1) + j) = p + (c.length + 1) + j by omega] at this
/-- As functions. -/
def M.cA (C : List (List (Nat × ByteArray))) (i : Nat) : Nat → Int := M.aF (C.getD i [])
def M.cT (C : List (List (Nat × ByteArray))) (i : Nat) : Nat → ByteArray := M.tF (C.getD i [])
def M.cN (C : List (List (Nat × ByteArray))) (i : Nat) : Nat := (C.getD i []).length
theorem M.us_cons (c : List (Nat × ByteArray)) (C : List (List (Nat × ByteArray))) : ∀ i, M.us (M.cN (c :: C)) (i + 1) = (c.length + 1) + M.us (M.cN C) i
  | 0 => by show 0 + (c.length + 1) = (c.length + 1) + 0; omega
  | i + 1 => by
    have := M.us_cons c C i
    show M.us (M.cN (c :: C)) (i + 1) + (M.cN (c :: C) (i + 1) + 1) = (c.length + 1) + (M.us (M.cN C) i + (M.cN C i + 1))
    rw [this, show M.cN (c :: C) (i + 1) = M.cN C i from rfl]
    omega
theorem M.us_tot : ∀ C : List (List (Nat × ByteArray)), M.us (M.cN C) C.length = M.tot C
  | [] => rfl
  | c :: C => by rw [List.length_cons, M.us_cons, M.us_tot C]; rfl
theorem M.chain_at : ∀ (C : List (List (Nat × ByteArray))) (p q : Nat), M.chain a V p q C → ∀ i, i < C.length → M.rE (M.cA C i) (M.cT C i) ((q + i : Nat) : Int) (M.cN C i) = 0 ∧ ∀ j, j < M.cN C i + 1 → V (a.fr + 2 + (p + M.us (M.cN C) i + j) % (a.mn - 2)) = M.piece (M.rec (M.cA C i) (M.cT C i) (q + i) (M.cN C i)) j
  | [], _, _, _, i, hi => absurd hi (by simp)
  | c :: C, p, q, h, 0, _ => h.1
  | c :: C, p, q, h, i + 1, hi => by
    have := M.chain_at C (p + (c.length + 1)) (q + 1) h.2 i (by simpa using hi)
    rw [M.us_cons, show q + (i + 1) = q + 1 + i by omega, show p + (c.length + 1 + M.us (M.cN C) i) = p + (c.length + 1) + M.us (M.cN C) i by omega]
    exact this
theorem M.chain_fun {d : M.D} {C : List (List (Nat × ByteArray))} {p q : Nat} (hV : M.Sees a d V) (h : M.chain a V p q C) (ht : M.tot C ≤ a.mn - 2) : M.Chain (M.cA C) (M.cT C) (M.cN C) d (a.fr + 2) (a.mn - 2) p (q : Nat) C.length := by
  refine ⟨fun i hi => ?_, fun i hi j hj => ?_, by rw [M.us_tot]; exact ht⟩
  · rw [show (q : Int) + (i : Nat) = ((q + i : Nat) : Int) by omega]
    exact (M.chain_at C p q h i hi).1
  · rw [hV _ (by have := a.facts; have := M.mod_lt (p + M.us (M.cN C) i + j) (m := a.mn - 2) (by omega); omega), show ((q : Int) + (i : Nat)).toNat = q + i by omega]
    exact (M.chain_at C p q h i hi).2 j hj
theorem M.recSecs_of {q : Nat} {c : List (Nat × ByteArray)} (h : M.rE (M.aF c) (M.tF c) (q : Nat) c.length = 0) : M.getE (M.recOf q c) = 0 ∧ M.gN (M.recOf q c) = c.length ∧ (∀ i, i < c.length → M.gA (M.recOf q c) i = M.aF c i) ∧ M.recSecs (M.recOf q c) = c := by
  obtain ⟨g1, g2, _, g4, g5⟩ := M.get_rec (q : Nat) h
  rw [Int.toNat_natCast] at g1 g2 g4 g5
  refine ⟨g1, g2, g4, ?_⟩
  unfold M.recSecs
  show (List.range (M.gN (M.rec (M.aF c) (M.tF c) q c.length))).map _ = c
  rw [g2]
  refine List.ext_getElem? (fun i => ?_)
  by_cases hi : i < c.length
  · rw [List.getElem?_map, List.getElem?_range hi, List.getElem?_eq_getElem hi]
    obtain ⟨f1, f2⟩ := M.aF_at (List.getElem?_eq_getElem hi)
    show some ((M.gA (M.rec (M.aF c) (M.tF c) q c.length) i).toNat, M.gT (M.rec (M.aF c) (M.tF c) q c.length) i) = some c[i]
    rw [g4 i hi, g5 i hi, f1, f2, Int.toNat_natCast]
  · rw [List.getElem?_eq_none (by simp; omega), List.getElem?_eq_none (by omega)]
theorem M.recs_at {C : List (List (Nat × ByteArray))} {p q : Nat} (h : M.chain a V p q C) : ∀ m, m ≤ C.length → M.allSecs (M.recs (M.cA C) (M.cT C) (M.cN C) (a.mn - 2) p (q : Nat) m) = (C.take m).flatten ∧ ∀ x ∈ M.recs (M.cA C) (M.cT C) (M.cN C) (a.mn - 2) p (q : Nat) m, ∃ c ∈ C, M.gN x.s = c.length ∧ ∀ i, i < c.length → M.gA x.s i = M.aF c i
  | 0, _ => ⟨by simp [M.recs, M.allSecs], fun x hx => by simp [M.recs] at hx⟩
  | m + 1, hm => by
    obtain ⟨i1, i2⟩ := M.recs_at h m (by omega)
    have hc := (M.chain_at C p q h m (by omega)).1
    have eg : C.getD m [] = C[m] := by simp [show m < C.length by omega]
    have hs := M.recSecs_of (q := q + m) (c := C[m]) (by rw [← eg]; exact hc)
    have es : M.rec (M.cA C m) (M.cT C m) ((q : Int) + (m : Nat)).toNat (M.cN C m) = M.recOf (q + m) C[m] := by
      rw [show ((q : Int) + (m : Nat)).toNat = q + m by omega, ← eg]
      rfl
    constructor
    · rw [M.recs_succ, M.allSecs_snoc, i1, List.take_succ_eq_append_getElem (by omega), List.flatten_append]
      simp only [es, hs.2.2.2, List.flatten_cons, List.flatten_nil, List.append_nil]
    · intro x hx
      rw [M.recs_succ] at hx
      rcases List.mem_append.1 hx with hx | hx
      · exact i2 x hx
      · rw [List.mem_singleton] at hx
        subst hx
        refine ⟨C[m], List.getElem_mem _, ?_, ?_⟩
        · simp only [es]
          exact hs.2.1
        · simp only [es]
          exact hs.2.2.1
end
/-- A sector that transactions may have. -/
def M.gd (a : M.Geo) (k : Nat) : Prop := k < a.fr ∨ (a.fr + a.mn ≤ k ∧ k < a.N)
/-- The log on the disk: its head, and the records from it on; what they and the disk say is T. -/
structure M.Lg (a : M.Geo) (V T : Nat → ByteArray) (g q p : Nat) (C : List (List (Nat × ByteArray))) : Prop where
  head : V (a.fr + g % 2) = M.hwhole ⟨(g : Nat), (q : Nat), (p : Nat)⟩
  old : (M.hget (V (a.fr + (g + 1) % 2))).2 = 0 → (M.hget (V (a.fr + (g + 1) % 2))).1.g < (g : Nat)
  pl : p < a.mn - 2
  ch : M.chain a V p q C
  room : M.tot C ≤ a.mn - 2
  stop : M.tot C = a.mn - 2 ∨ M.szE (V (a.fr + 2 + (p + M.tot C) % (a.mn - 2))) ((q + C.length : Nat) : Int) ≠ 0
  fit : ∀ c ∈ C, ∀ x ∈ c, M.gd a x.1 ∧ x.2.size = 64
  data : ∀ k, M.gd a k → M.upd V C.flatten k = T k
section
variable {V U T : Nat → ByteArray} {g q p : Nat} {C : List (List (Nat × ByteArray))}
theorem M.may14 {g q p : Nat} (h1 : g ≤ 1000000000) (h2 : q ≤ 1000000000) (h3 : p ≤ 200) : M.hmay ⟨(g : Nat), (q : Nat), (p : Nat)⟩ = true := by
  rw [M.hmay_iff]
  refine ⟨⟨?_, ?_⟩, ⟨?_, ?_⟩, ?_, ?_⟩ <;> simp only <;> omega
theorem M.Lg.newer (h : M.Lg a V T g q p C) (h1 : g ≤ 1000000000) (h2 : q ≤ 1000000000) : M.hnewer (V a.fr) (V (a.fr + 1)) = (⟨(g : Nat), (q : Nat), (p : Nat)⟩, 0) := by
  have hw := M.hget_whole ⟨(g : Nat), (q : Nat), (p : Nat)⟩ (M.may14 h1 h2 (by have := h.pl; have := a.hi; omega))
  have h3 := h.head
  have h4 := h.old
  unfold M.hnewer
  rcases Nat.mod_two_eq_zero_or_one g with e | e
  · have e1 : (g + 1) % 2 = 1 := by omega
    rw [e] at h3
    rw [e1] at h4
    have h3' : V a.fr = M.hwhole ⟨(g : Nat), (q : Nat), (p : Nat)⟩ := h3
    have h4' : (M.hget (V (a.fr + 1))).2 = 0 → (M.hget (V (a.fr + 1))).1.g < (g : Nat) := h4
    rw [h3', hw, if_neg (fun x => x.1 rfl), if_neg (fun x => x.elim (fun x => x rfl) (fun x => by have := h4' x.1; have := x.2; simp only at this; omega))]
  · have e1 : (g + 1) % 2 = 0 := by omega
    rw [e] at h3
    rw [e1] at h4
    have h3' : V (a.fr + 1) = M.hwhole ⟨(g : Nat), (q : Nat), (p : Nat)⟩ := h3
    have h4' : (M.hget (V a.fr)).2 = 0 → (M.hget (V a.fr)).1.g < (g : Nat) := h4
    rw [h3', hw, if_neg (fun x => x.2 rfl), if_pos (Classical.byCases (fun x : (M.hget (V a.fr)).2 = 0 => Or.inr ⟨rfl, by have := h4' x; simp only; omega⟩) (fun x => Or.inl x))]
theorem M.upd_mix {L : List (Nat × ByteArray)} {k : Nat} {t : ByteArray} (h : M.upd V L k = t) (hu : U k = V k ∨ U k = t) : M.upd U L k = t := by
  unfold M.upd at h ⊢
  cases e : M.seen0 L k with
  | none =>
    rw [e] at h
    exact hu.elim (fun x => x.trans h) id
  | some x =>
    rw [e] at h
    exact h
/-- What lies in the log's sectors is as it was. -/
theorem M.Lg.keep (h : M.Lg a V T g q p C) (h1 : U a.fr = V a.fr) (h2 : U (a.fr + 1) = V (a.fr + 1)) (h3 : ∀ j, j ≤ M.tot C → j ≤ a.mn - 3 → U (a.fr + 2 + (p + j) % (a.mn - 2)) = V (a.fr + 2 + (p + j) % (a.mn - 2))) (h4 : ∀ k, M.gd a k → U k = V k ∨ U k = T k) : M.Lg a U T g q p C := by
  have ho : ∀ m, U (a.fr + m % 2) = V (a.fr + m % 2) := fun m => by
    rcases Nat.mod_two_eq_zero_or_one m with e | e <;> rw [e]
    · exact h1
    · exact h2
  have hr := h.room
  obtain ⟨f1, f2, f3, f4⟩ := a.facts
  refine ⟨by rw [ho]; exact h.head, by rw [ho]; exact h.old, h.pl, M.chain_keep C p q h.ch (fun j hj => h3 j (by omega) (by omega)), h.room, ?_, h.fit, fun k hk => M.upd_mix (h.data k hk) (h4 k hk)⟩
  by_cases e : M.tot C = a.mn - 2
  · exact Or.inl e
  · rw [h3 (M.tot C) (Nat.le_refl _) (by omega)]
    exact h.stop
/-- What lies in the log's sectors is as it was; of the others so many are written anew. -/
theorem M.Lg.other (h : M.Lg a V T g q p C) (h1 : ∀ k, ¬ M.gd a k → U k = V k) (h4 : ∀ k, M.gd a k → U k = V k ∨ U k = T k) : M.Lg a U T g q p C :=
  h.keep (h1 a.fr (by have := a.facts; unfold M.gd; omega)) (h1 (a.fr + 1) (by have := a.facts; unfold M.gd; omega)) (fun j _ _ => h1 _ (by have := a.facts; have := M.mod_lt (p + j) (m := a.mn - 2) (by omega); unfold M.gd; omega)) h4
theorem M.gd_guards {k : Nat} : M.gd a k → M.guards a.N a.fr a.mn (k : Int) = true := by
  intro h
  have := a.facts
  unfold M.gd at h
  unfold M.guards
  simp
  omega
/-- A scan of it tells its records, or a call fails. -/
theorem M.Lg.told (h : M.Lg a V T g q p C) {d : M.D} (hd : M.Ok14 a d) (hV : M.Sees a d V) :
    ∃ E d' u l, M.scan M.dR (a.fr + 2) (a.mn - 2) p (q : Nat) 2000 (a.mn - 2 + 1) d 0 [] = (E, d', u, l) ∧ M.Was a d d' 4000 ∧ M.Sees a d' V ∧ ((E = 0 ∧ M.allSecs l = C.flatten ∧ l.length = C.length) ∨ (E = 30 ∧ d'.fails.length < d.fails.length)) ∧ ∀ x ∈ l, M.getE x.s = 0 → ∀ i, i < M.gN x.s → M.guards d.S.length a.fr a.mn (M.gA x.s i) = true := by
  obtain ⟨f1, f2, f3, f4⟩ := a.facts
  obtain ⟨E, d', u, l, e, hu, ho, hf, hc, r, hr⟩ := M.Up.chain (M.chain_fun hV h.ch h.room) hd.dn hd.da (by rw [hd.len]; omega) (by omega) 2000 (by omega) (by
    rw [M.us_tot, hV _ (by have := M.mod_lt (p + M.tot C) (m := a.mn - 2) (by omega); omega), show (q : Int) + (C.length : Nat) = ((q + C.length : Nat) : Int) by omega]
    exact h.stop)
  obtain ⟨a1, a2⟩ := M.recs_at h.ch C.length (Nat.le_refl _)
  refine ⟨E, d', u, l, e, ⟨⟨hu.dn, hu.da, by rw [hu.S, hd.len]⟩, by omega, hf⟩, fun k hk => by rw [hu.S, hu.L]; exact hV k hk, hc.imp (fun ⟨x, y⟩ => ⟨x, by rw [y, a1, List.take_length], by rw [y, M.recs_len]⟩) id, fun x hx _ i hi => ?_⟩
  obtain ⟨c, hc, hn, ha⟩ := a2 x (by rw [hr]; exact List.mem_append_left _ hx)
  rw [hd.len, ha i (by omega)]
  have hi' : i < c.length := by omega
  obtain ⟨g1, _⟩ := M.aF_at (List.getElem?_eq_getElem hi')
  rw [g1]
  exact M.gd_guards (h.fit c hc _ (List.getElem_mem hi')).1
/-- The heads are read, or a call fails. -/
theorem M.heads15 {d : M.D} (hd : M.Ok14 a d) (hV : M.Sees a d V) :
    ∃ s E d', M.gread d a.fr a.mn 0 2 = (s, E, d') ∧ M.Was a d d' 2 ∧ M.Sees a d' V ∧ ((E = 0 ∧ s = V a.fr ++ V (a.fr + 1)) ∨ (E = 30 ∧ d'.fails.length < d.fails.length)) := by
  obtain ⟨f1, f2, f3, f4⟩ := a.facts
  have hw : M.within 0 2 (a.mn : Nat) = true := by unfold M.within; simp; omega
  have b1 := hd.begin
  have b2 := b1.ok.begin
  have e0 : M.gread d a.fr a.mn 0 2 = M.rd 2 d a.fr ⟨#[]⟩ := by unfold M.gread; rw [if_pos hw]; rfl
  rw [e0, M.rd]
  rcases hd.read hV a.fr (by omega) with ⟨e1, e2⟩ | ⟨e1, e2⟩
  · rw [if_pos (by exact e1), M.rd]
    rcases b1.ok.read hV.begin (a.fr + 1) (by omega) with ⟨e3, e4⟩ | ⟨e3, e4⟩
    · rw [if_pos (by exact e3), M.rd]
      refine ⟨_, _, _, rfl, b1.trans b2, hV.begin.begin, Or.inl ⟨rfl, ?_⟩⟩
      show (⟨#[]⟩ : ByteArray) ++ M.readS d ((a.fr : Nat) : Int) ++ M.readS (M.beginD d) ((a.fr + 1 : Nat) : Int) = _
      rw [e2, e4, M.nil_app14]
    · rw [if_neg (by show ¬ M.readE _ ((a.fr + 1 : Nat) : Int) = 0; rw [e3]; decide)]
      exact ⟨_, _, _, rfl, b1.trans b2, hV.begin.begin, Or.inr ⟨e3, Nat.lt_of_lt_of_le e4 b1.fl⟩⟩
  · rw [if_neg (by show ¬ M.readE _ ((a.fr : Nat) : Int) = 0; rw [e1]; decide)]
    exact ⟨_, _, _, rfl, b1.more (by omega), hV.begin, Or.inr ⟨e1, e2⟩⟩
end
end Go.Proofs.YtmgchfjfkdkaoaaGreatDoor
