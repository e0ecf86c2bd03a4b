/-
  A disk that never goes down, and of which calls may fail: what is read and scanned of it, and how few calls fail. No function of the program is walked in this text.
-/
import Derived.Test.YtmgchfjfkdkaoaaGreatDoorNH
namespace Go.Proofs.YtmgchfjfkdkaoaaGreatDoor
open Go.RowKit

/-- A disk that never goes down: each call answers, or fails by itself. -/
structure M.Up (d : M.D) (S : List ByteArray) (L : List (Nat × ByteArray)) : Prop where
  dn : d.dn = false
  da : d.da = 0
  S : d.S = S
  L : d.L = L
theorem M.Up.begin {d : M.D} {S : List ByteArray} {L : List (Nat × ByteArray)} (h : M.Up d S L) : M.Up (M.beginD d) S L := by
  refine ⟨?_, h.da, h.S, h.L⟩
  show (d.dn || decide (d.da = ((d.ops + 1 : Nat) : Int))) = false
  rw [h.dn, h.da]
  simp
  omega
/-- What is seen, whoever reads. -/
def M.cR (S : List ByteArray) (L : List (Nat × ByteArray)) : M.Rdr Unit := ⟨fun _ _ => 0, fun _ i => M.seen S L i.toNat, fun _ => ()⟩
theorem M.Up.read {d : M.D} {S : List ByteArray} {L : List (Nat × ByteArray)} (h : M.Up d S L) {k : Nat} (hk : k < S.length) : (M.readE d (k : Nat) = 0 ∧ M.readS d (k : Nat) = M.seen S L k) ∨ (M.readE d (k : Nat) = 30 ∧ d.fails ≠ []) := by
  have hb : M.hasB d.S.length (k : Int) = true := by rw [h.S]; unfold M.hasB; simp; omega
  have hda : ¬ d.da = ((d.ops + 1 : Nat) : Int) := by rw [h.da]; omega
  have hB : M.beginE d = if ((d.ops + 1 : Nat) : Int) ∈ d.fails then 30 else 0 := by
    unfold M.beginE
    rw [h.dn, if_neg (by simp), if_neg hda]
  unfold M.readE M.readS
  by_cases hf : ((d.ops + 1 : Nat) : Int) ∈ d.fails
  · right
    rw [if_pos hf] at hB
    rw [hB, if_neg (by decide)]
    exact ⟨rfl, fun e => by rw [e] at hf; cases hf⟩
  · left
    rw [if_neg hf] at hB
    rw [hB, if_pos rfl, if_pos hb, if_pos rfl, if_pos hb, h.S, h.L]
    exact ⟨rfl, by simp⟩
section
variable {S : List ByteArray} {L : List (Nat × ByteArray)} {fr mn : Nat}
/-- A reading of such a disk: as it is seen, or the error 30. -/
theorem M.Up.rdr (hm : 0 < mn) (hr : fr + mn ≤ S.length) (n : Nat) (d : M.D) (p : Nat) (acc : ByteArray) (h : M.Up d S L) :
    M.Up (M.rdr M.dR fr mn n d p acc).2.2 S L ∧ (((M.rdr M.dR fr mn n d p acc).2.1 = 0 ∧ (M.rdr M.dR fr mn n d p acc).1 = (M.rdr (M.cR S L) fr mn n () p acc).1) ∨ ((M.rdr M.dR fr mn n d p acc).2.1 = 30 ∧ d.fails ≠ [])) := by
  induction n generalizing d p acc with
  | zero => exact ⟨h, Or.inl ⟨rfl, rfl⟩⟩
  | succ n ih =>
    have hk : fr + p % mn < S.length := by have : p % mn < mn := Nat.mod_lt _ hm; omega
    have ec : (M.cR S L).E () ((fr + p % mn : Nat) : Int) = 0 := rfl
    rw [M.rdr, M.rdr, if_pos ec]
    rcases h.read hk with ⟨e1, e2⟩ | ⟨e1, e2⟩
    · have e1' : M.dR.E d ((fr + p % mn : Nat) : Int) = 0 := e1
      have e2' : M.dR.S d ((fr + p % mn : Nat) : Int) = (M.cR S L).S () ((fr + p % mn : Nat) : Int) := by
        show M.readS d _ = M.seen S L _
        rw [e2]; rfl
      rw [if_pos e1', e2']
      obtain ⟨i1, i2⟩ := ih (M.dR.B d) (p + 1) (acc ++ (M.cR S L).S () ((fr + p % mn : Nat) : Int)) h.begin
      refine ⟨i1, i2.imp id (fun ⟨j1, j2⟩ => ⟨j1, fun e => j2 ?_⟩)⟩
      show d.fails.erase _ = []
      rw [e]; rfl
    · have e1' : ¬ M.dR.E d ((fr + p % mn : Nat) : Int) = 0 := by show ¬ M.readE d _ = 0; rw [e1]; decide
      rw [if_neg e1']
      exact ⟨h.begin, Or.inr ⟨e1, e2⟩⟩
theorem M.cR_rdr (n p : Nat) (acc : ByteArray) : (M.rdr (M.cR S L) fr mn n () p acc).2.1 = 0 := by
  induction n generalizing p acc with
  | zero => rfl
  | succ n ih =>
    have e : (M.cR S L).E () ((fr + p % mn : Nat) : Int) = 0 := rfl
    rw [M.rdr, if_pos e]
    exact ih _ _
theorem M.rdr_fails (n : Nat) (d : M.D) (p : Nat) (acc : ByteArray) (h : d.fails = []) : (M.rdr M.dR fr mn n d p acc).2.2.fails = [] := by
  have hb : (M.dR.B d).fails = [] := by show d.fails.erase _ = []; rw [h]; rfl
  induction n generalizing d p acc with
  | zero => exact h
  | succ n ih =>
    have hb' : (M.dR.B (M.dR.B d)).fails = [] := by show (M.dR.B d).fails.erase _ = []; rw [hb]; rfl
    rw [M.rdr]
    split
    · exact ih _ _ _ hb hb'
    · exact hb
end
section
variable {S : List ByteArray} {L : List (Nat × ByteArray)} {fr mn : Nat}
theorem M.cR_next (p : Nat) (q : Int) (left : Nat) : (M.next (M.cR S L) fr mn () p q left).1 = 0 := by
  unfold M.next
  split
  · rfl
  · unfold M.next2
    rw [if_neg (fun e => e (M.cR_rdr 1 p ⟨#[]⟩))]
    split
    · rfl
    · unfold M.next3
      rw [if_neg (fun e => e (M.cR_rdr _ _ _))]
      split <;> rfl
theorem M.next2_ok {σ : Type} {X : M.Rdr σ} {f : ByteArray × Int × σ} (p : Nat) (q : Int) (left : Nat) (h : f.2.1 = 0) : M.next2 X fr mn f p q left = if M.szE f.1 q ≠ 0 ∨ (left : Int) < M.szN f.1 q then (0, 0, ⟨#[]⟩, f.2.2) else M.next3 (M.rdr X fr mn ((M.szN f.1 q).toNat - 1) f.2.2 (p + 1) ⟨#[]⟩) f.1 (M.szN f.1 q).toNat := by
  unfold M.next2
  rw [if_neg (fun e => e h)]
theorem M.next2_err {σ : Type} {X : M.Rdr σ} {f : ByteArray × Int × σ} (p : Nat) (q : Int) (left : Nat) (h : f.2.1 ≠ 0) : M.next2 X fr mn f p q left = (f.2.1, 0, ⟨#[]⟩, f.2.2) := by
  unfold M.next2
  rw [if_pos h]
theorem M.next3_ok {σ : Type} {o : ByteArray × Int × σ} (f : ByteArray) (n : Nat) (h : o.2.1 = 0) : M.next3 o f n = if M.getE (f ++ o.1) ≠ 0 then (0, 0, ⟨#[]⟩, o.2.2) else (0, n, f ++ o.1, o.2.2) := by
  unfold M.next3
  rw [if_neg (fun e => e h)]
theorem M.next3_err {σ : Type} {o : ByteArray × Int × σ} (f : ByteArray) (n : Nat) (h : o.2.1 ≠ 0) : M.next3 o f n = (o.2.1, 0, ⟨#[]⟩, o.2.2) := by
  unfold M.next3
  rw [if_pos h]
theorem M.Up.next (hm : 0 < mn) (hr : fr + mn ≤ S.length) {d : M.D} (h : M.Up d S L) (p : Nat) (q : Int) (left : Nat) :
    M.Up (M.next M.dR fr mn d p q left).2.2.2 S L ∧ (((M.next M.dR fr mn d p q left).1 = 0 ∧ (M.next M.dR fr mn d p q left).2.1 = (M.next (M.cR S L) fr mn () p q left).2.1 ∧ (M.next M.dR fr mn d p q left).2.2.1 = (M.next (M.cR S L) fr mn () p q left).2.2.1) ∨ ((M.next M.dR fr mn d p q left).1 = 30 ∧ d.fails ≠ [])) := by
  unfold M.next
  by_cases hl : left = 0
  · rw [if_pos hl, if_pos hl]
    exact ⟨h, Or.inl ⟨rfl, rfl, rfl⟩⟩
  · rw [if_neg hl, if_neg hl]
    obtain ⟨f1, f2⟩ := M.Up.rdr hm hr 1 d p ⟨#[]⟩ h
    have c1 := M.cR_rdr (S := S) (L := L) (fr := fr) (mn := mn) 1 p ⟨#[]⟩
    have hff := M.rdr_fails (fr := fr) (mn := mn) 1 d p ⟨#[]⟩
    rw [M.next2_ok p q left c1]
    obtain ⟨fc, hfc⟩ : ∃ fc, fc = M.rdr (M.cR S L) fr mn 1 () p ⟨#[]⟩ := ⟨_, rfl⟩
    obtain ⟨f, hf⟩ : ∃ f, f = M.rdr M.dR fr mn 1 d p ⟨#[]⟩ := ⟨_, rfl⟩
    rw [← hfc] at f2 c1 ⊢
    rw [← hf] at f1 f2 hff ⊢
    clear hfc hf
    rcases f2 with ⟨f2, f3⟩ | ⟨f2, f3⟩
    · rw [M.next2_ok p q left f2, f3]
      by_cases h2 : M.szE fc.1 q ≠ 0 ∨ (left : Int) < M.szN fc.1 q
      · rw [if_pos h2, if_pos h2]
        exact ⟨f1, Or.inl ⟨rfl, rfl, rfl⟩⟩
      · rw [if_neg h2, if_neg h2]
        obtain ⟨g1, g2⟩ := M.Up.rdr hm hr ((M.szN fc.1 q).toNat - 1) f.2.2 (p + 1) ⟨#[]⟩ f1
        have c2 := M.cR_rdr (S := S) (L := L) (fr := fr) (mn := mn) ((M.szN fc.1 q).toNat - 1) (p + 1) ⟨#[]⟩
        have hu : fc.2.2 = () := rfl
        rw [hu, M.next3_ok _ _ c2]
        obtain ⟨gc, hgc⟩ : ∃ gc, gc = M.rdr (M.cR S L) fr mn ((M.szN fc.1 q).toNat - 1) () (p + 1) ⟨#[]⟩ := ⟨_, rfl⟩
        obtain ⟨g, hg⟩ : ∃ g, g = M.rdr M.dR fr mn ((M.szN fc.1 q).toNat - 1) f.2.2 (p + 1) ⟨#[]⟩ := ⟨_, rfl⟩
        rw [← hgc] at g2 ⊢
        rw [← hg] at g1 g2 ⊢
        clear hgc hg
        rcases g2 with ⟨g2, g3⟩ | ⟨g2, g3⟩
        · rw [M.next3_ok _ _ g2, g3]
          split
          · exact ⟨g1, Or.inl ⟨rfl, rfl, rfl⟩⟩
          · exact ⟨g1, Or.inl ⟨rfl, rfl, rfl⟩⟩
        · rw [M.next3_err _ _ (by rw [g2]; decide)]
          exact ⟨g1, Or.inr ⟨g2, fun e => g3 (hff e)⟩⟩
    · rw [M.next2_err p q left (by rw [f2]; decide)]
      exact ⟨f1, Or.inr ⟨f2, f3⟩⟩
theorem M.next_fails {d : M.D} (p : Nat) (q : Int) (left : Nat) (h : d.fails = []) : (M.next M.dR fr mn d p q left).2.2.2.fails = [] := by
  unfold M.next
  split
  · exact h
  · have h1 := M.rdr_fails (fr := fr) (mn := mn) 1 d p ⟨#[]⟩ h
    unfold M.next2
    split
    · exact h1
    · split
      · exact h1
      · have h2 := M.rdr_fails (fr := fr) (mn := mn) ((M.szN (M.rdr M.dR fr mn 1 d p ⟨#[]⟩).1 q).toNat - 1) (M.rdr M.dR fr mn 1 d p ⟨#[]⟩).2.2 (p + 1) ⟨#[]⟩ h1
        unfold M.next3
        split
        · exact h2
        · split
          · exact h2
          · exact h2
end
section
variable {σ : Type} {X : M.Rdr σ} {fr mn p0 : Nat} {q0 : Int}
theorem M.scan_more (most k : Nat) (d : σ) (u : Nat) (l : List M.Rec) : u ≤ (M.scan X fr mn p0 q0 most k d u l).2.2.1 ∧ ∃ r, (M.scan X fr mn p0 q0 most k d u l).2.2.2 = l ++ r := by
  induction k generalizing d u l with
  | zero => exact ⟨Nat.le_refl _, [], by simp [M.scan]⟩
  | succ k ih =>
    rw [M.scan]
    unfold M.scanE
    split
    · exact ⟨Nat.le_refl _, [], by simp⟩
    · split
      · obtain ⟨i1, r, i2⟩ := ih (M.next X fr mn d ((p0 + u) % mn) (q0 + (l.length : Nat)) (mn - u)).2.2.2 (u + (M.next X fr mn d ((p0 + u) % mn) (q0 + (l.length : Nat)) (mn - u)).2.1) (l ++ [⟨q0 + (l.length : Nat), (p0 + u) % mn, (M.next X fr mn d ((p0 + u) % mn) (q0 + (l.length : Nat)) (mn - u)).2.2.1⟩])
        exact ⟨Nat.le_trans (Nat.le_add_right _ _) i1, _, by rw [i2, List.append_assoc]⟩
      · exact ⟨Nat.le_add_right _ _, _, rfl⟩
end
section
variable {S : List ByteArray} {L : List (Nat × ByteArray)} {fr mn p0 : Nat} {q0 : Int}
theorem M.cR_scan (most k u : Nat) (l : List M.Rec) : (M.scan (M.cR S L) fr mn p0 q0 most k () u l).1 = 0 := by
  induction k generalizing u l with
  | zero => rfl
  | succ k ih =>
    have h1 := M.cR_next (S := S) (L := L) (fr := fr) (mn := mn) ((p0 + u) % mn) (q0 + (l.length : Nat)) (mn - u)
    rw [M.scan]
    unfold M.scanE
    split
    · exact h1
    · split
      · exact ih _ _
      · rfl
/-- A scan of a disk that never goes down: as if no call failed, or its front with the error 30. -/
theorem M.Up.scan (hm : 0 < mn) (hr : fr + mn ≤ S.length) (most k : Nat) (d : M.D) (u : Nat) (l : List M.Rec) (h : M.Up d S L) :
    M.Up (M.scan M.dR fr mn p0 q0 most k d u l).2.1 S L ∧ (((M.scan M.dR fr mn p0 q0 most k d u l).1 = 0 ∧ (M.scan M.dR fr mn p0 q0 most k d u l).2.2 = (M.scan (M.cR S L) fr mn p0 q0 most k () u l).2.2) ∨
      ((M.scan M.dR fr mn p0 q0 most k d u l).1 = 30 ∧ d.fails ≠ [] ∧ (M.scan M.dR fr mn p0 q0 most k d u l).2.2.1 ≤ (M.scan (M.cR S L) fr mn p0 q0 most k () u l).2.2.1 ∧ ∃ r, (M.scan (M.cR S L) fr mn p0 q0 most k () u l).2.2.2 = (M.scan M.dR fr mn p0 q0 most k d u l).2.2.2 ++ r)) := by
  induction k generalizing d u l with
  | zero => exact ⟨h, Or.inl ⟨rfl, rfl⟩⟩
  | succ k ih =>
    obtain ⟨n1, n2⟩ := h.next hm hr ((p0 + u) % mn) (q0 + (l.length : Nat)) (mn - u)
    have c1 := M.cR_next (S := S) (L := L) (fr := fr) (mn := mn) ((p0 + u) % mn) (q0 + (l.length : Nat)) (mn - u)
    have hmore := M.scan_more (X := M.cR S L) (fr := fr) (mn := mn) (p0 := p0) (q0 := q0) most (k + 1) () u l
    rcases n2 with ⟨e1, e2, e3⟩ | ⟨e1, e2⟩
    · rw [M.scan, M.scan]
      unfold M.scanE
      rw [e1, e2, e3, c1]
      split
      · exact ⟨n1, Or.inl ⟨rfl, rfl⟩⟩
      · split
        · obtain ⟨i1, i2⟩ := ih (M.next M.dR fr mn d ((p0 + u) % mn) (q0 + (l.length : Nat)) (mn - u)).2.2.2 (u + (M.next (M.cR S L) fr mn () ((p0 + u) % mn) (q0 + (l.length : Nat)) (mn - u)).2.1) (l ++ [⟨q0 + (l.length : Nat), (p0 + u) % mn, (M.next (M.cR S L) fr mn () ((p0 + u) % mn) (q0 + (l.length : Nat)) (mn - u)).2.2.1⟩]) n1
          exact ⟨i1, i2.imp id (fun ⟨j1, j2, j3⟩ => ⟨j1, fun e => j2 (M.next_fails _ _ _ e), j3⟩)⟩
        · exact ⟨n1, Or.inl ⟨rfl, rfl⟩⟩
    · have hR : M.scan M.dR fr mn p0 q0 most (k + 1) d u l = (30, (M.next M.dR fr mn d ((p0 + u) % mn) (q0 + (l.length : Nat)) (mn - u)).2.2.2, u, l) := by
        rw [M.scan]
        unfold M.scanE
        rw [e1, if_pos (Or.inl (by decide))]
      rw [hR]
      exact ⟨n1, Or.inr ⟨rfl, e2, hmore.1, hmore.2⟩⟩
end

/-! How many calls may still fail. -/
theorem M.begin_len (d : M.D) : (M.beginD d).fails.length ≤ d.fails.length := List.length_erase_le
theorem M.begin_30 {d : M.D} (h1 : d.dn = false) (h2 : d.da = 0) : (M.beginE d = 0) ∨ (M.beginE d = 30 ∧ (M.beginD d).fails.length < d.fails.length) := by
  have hda : ¬ d.da = ((d.ops + 1 : Nat) : Int) := by rw [h2]; omega
  unfold M.beginE
  rw [h1, if_neg (by simp), if_neg hda]
  by_cases hf : ((d.ops + 1 : Nat) : Int) ∈ d.fails
  · right
    rw [if_pos hf]
    refine ⟨rfl, ?_⟩
    show (d.fails.erase _).length < _
    rw [List.length_erase_of_mem hf]
    have := List.length_pos_of_mem hf
    omega
  · left
    rw [if_neg hf]
section
variable {S : List ByteArray} {L : List (Nat × ByteArray)} {fr mn : Nat}
theorem M.Up.rdr_len (hm : 0 < mn) (hr : fr + mn ≤ S.length) (n : Nat) (d : M.D) (p : Nat) (acc : ByteArray) (h : M.Up d S L) :
    (M.rdr M.dR fr mn n d p acc).2.2.fails.length ≤ d.fails.length ∧ ((M.rdr M.dR fr mn n d p acc).2.1 ≠ 0 → (M.rdr M.dR fr mn n d p acc).2.2.fails.length < d.fails.length) := by
  induction n generalizing d p acc with
  | zero => exact ⟨Nat.le_refl _, fun e => absurd rfl e⟩
  | succ n ih =>
    have hb := M.begin_len d
    have hk : fr + p % mn < S.length := by have : p % mn < mn := Nat.mod_lt _ hm; omega
    rw [M.rdr]
    by_cases e1 : M.dR.E d ((fr + p % mn : Nat) : Int) = 0
    · rw [if_pos e1]
      obtain ⟨i1, i2⟩ := ih (M.dR.B d) (p + 1) (acc ++ M.dR.S d ((fr + p % mn : Nat) : Int)) h.begin
      exact ⟨Nat.le_trans i1 hb, fun e => Nat.lt_of_lt_of_le (i2 e) hb⟩
    · rw [if_neg e1]
      refine ⟨hb, fun _ => ?_⟩
      rcases M.begin_30 h.dn h.da with e0 | ⟨_, e0⟩
      · exfalso
        apply e1
        have hh : M.hasB d.S.length ((fr + p % mn : Nat) : Int) = true := by rw [h.S]; unfold M.hasB; simp; omega
        show M.readE d _ = 0
        unfold M.readE
        rw [if_pos e0, if_pos hh]
      · exact e0
theorem M.Up.next_len (hm : 0 < mn) (hr : fr + mn ≤ S.length) {d : M.D} (h : M.Up d S L) (p : Nat) (q : Int) (left : Nat) :
    (M.next M.dR fr mn d p q left).2.2.2.fails.length ≤ d.fails.length ∧ ((M.next M.dR fr mn d p q left).1 ≠ 0 → (M.next M.dR fr mn d p q left).2.2.2.fails.length < d.fails.length) := by
  unfold M.next
  split
  · exact ⟨Nat.le_refl _, fun e => absurd rfl e⟩
  · obtain ⟨r1, r2⟩ := h.rdr_len hm hr 1 d p ⟨#[]⟩
    have u1 := (M.Up.rdr hm hr 1 d p ⟨#[]⟩ h).1
    unfold M.next2
    split
    · rename_i e
      exact ⟨r1, fun _ => r2 e⟩
    · split
      · exact ⟨r1, fun e => absurd rfl e⟩
      · obtain ⟨s1, s2⟩ := u1.rdr_len hm hr ((M.szN (M.rdr M.dR fr mn 1 d p ⟨#[]⟩).1 q).toNat - 1) (M.rdr M.dR fr mn 1 d p ⟨#[]⟩).2.2 (p + 1) ⟨#[]⟩
        unfold M.next3
        split
        · rename_i e
          exact ⟨Nat.le_trans s1 r1, fun _ => Nat.lt_of_lt_of_le (s2 e) r1⟩
        · split
          · exact ⟨Nat.le_trans s1 r1, fun e => absurd rfl e⟩
          · exact ⟨Nat.le_trans s1 r1, fun e => absurd rfl e⟩
theorem M.Up.scan_len {p0 : Nat} {q0 : Int} (hm : 0 < mn) (hr : fr + mn ≤ S.length) (most k : Nat) (d : M.D) (u : Nat) (l : List M.Rec) (h : M.Up d S L) :
    (M.scan M.dR fr mn p0 q0 most k d u l).2.1.fails.length ≤ d.fails.length ∧ ((M.scan M.dR fr mn p0 q0 most k d u l).1 ≠ 0 → (M.scan M.dR fr mn p0 q0 most k d u l).2.1.fails.length < d.fails.length) := by
  induction k generalizing d u l with
  | zero => exact ⟨Nat.le_refl _, fun e => absurd rfl e⟩
  | succ k ih =>
    obtain ⟨r1, r2⟩ := h.next_len hm hr ((p0 + u) % mn) (q0 + (l.length : Nat)) (mn - u)
    have u1 := (h.next hm hr ((p0 + u) % mn) (q0 + (l.length : Nat)) (mn - u)).1
    rw [M.scan]
    unfold M.scanE
    split
    · exact ⟨r1, r2⟩
    · split
      · obtain ⟨i1, i2⟩ := ih (M.next M.dR fr mn d ((p0 + u) % mn) (q0 + (l.length : Nat)) (mn - u)).2.2.2 (u + (M.next M.dR fr mn d ((p0 + u) % mn) (q0 + (l.length : Nat)) (mn - u)).2.1) (l ++ [⟨q0 + (l.length : Nat), (p0 + u) % mn, (M.next M.dR fr mn d ((p0 + u) % mn) (q0 + (l.length : Nat)) (mn - u)).2.2.1⟩]) u1
        exact ⟨Nat.le_trans i1 r1, fun e => Nat.lt_of_lt_of_le (i2 e) r1⟩
      · exact ⟨r1, fun e => absurd rfl e⟩
theorem M.scan_ops14 {p0 : Nat} {q0 : Int} (most k : Nat) (d : M.D) (u : Nat) (l : List M.Rec) : (M.scan M.dR fr mn p0 q0 most k d u l).2.1.ops ≤ d.ops + 17 * k := by
  induction k generalizing d u l with
  | zero => exact Nat.le_refl _
  | succ k ih =>
    obtain ⟨_, _, n3, _⟩ := M.next_keeps fr mn d ((p0 + u) % mn) (q0 + (l.length : Nat)) (mn - u)
    rw [M.scan]
    unfold M.scanE
    split
    · show (M.next M.dR fr mn d ((p0 + u) % mn) (q0 + (l.length : Nat)) (mn - u)).2.2.2.ops ≤ _
      omega
    · split
      · have := ih (M.next M.dR fr mn d ((p0 + u) % mn) (q0 + (l.length : Nat)) (mn - u)).2.2.2 (u + (M.next M.dR fr mn d ((p0 + u) % mn) (q0 + (l.length : Nat)) (mn - u)).2.1) (l ++ [⟨q0 + (l.length : Nat), (p0 + u) % mn, (M.next M.dR fr mn d ((p0 + u) % mn) (q0 + (l.length : Nat)) (mn - u)).2.2.1⟩])
        omega
      · show (M.next M.dR fr mn d ((p0 + u) % mn) (q0 + (l.length : Nat)) (mn - u)).2.2.2.ops ≤ _
        omega
end

section
variable {A : Nat → Nat → Int} {T : Nat → Nat → ByteArray} {N : Nat → Nat}
/-- Records one behind the other, and none behind them, are all told. -/
theorem M.chain_stop {d : M.D} {fr mn p0 : Nat} {q0 : Int} {m : Nat} (hc : M.Chain A T N d fr mn p0 q0 m) (h : M.Still d fr mn) (most : Nat) (hm : mn < most)
    (hz : M.us N m = mn ∨ M.szE (M.seen d.S d.L (fr + (p0 + M.us N m) % mn)) (q0 + (m : Nat)) ≠ 0) : ∃ d', M.scan M.dR fr mn p0 q0 most (mn + 1) d 0 [] = (0, d', M.us N m, M.recs A T N mn p0 q0 m) := by
  obtain ⟨k, d1, e, hk, hs, hS, hL⟩ := M.chain_scan hc h most hm m (Nat.le_refl _)
  obtain ⟨k, rfl⟩ : ∃ k', k = k' + 1 := ⟨k - 1, by omega⟩
  rw [e, M.scan, M.recs_len]
  rcases hz with hz | hz
  · refine ⟨d1, ?_⟩
    have e0 : mn - M.us N m = 0 := by omega
    rw [e0, M.next, if_pos rfl]
    rfl
  · obtain ⟨d2, e2, _⟩ := M.next_no (p := (p0 + M.us N m) % mn) (q := q0 + (m : Nat)) (left := mn - M.us N m) hs (by rw [Nat.mod_mod, hS, hL]; exact hz)
    refine ⟨d2, ?_⟩
    rw [e2]
    rfl
/-- The same of a disk of which calls may fail. -/
theorem M.Up.chain {d : M.D} {fr mn p0 : Nat} {q0 : Int} {m : Nat} (hc : M.Chain A T N d fr mn p0 q0 m) (h1 : d.dn = false) (h2 : d.da = 0) (hroom : fr + mn ≤ d.S.length) (h0 : 0 < mn) (most : Nat) (hm : mn < most)
    (hz : M.us N m = mn ∨ M.szE (M.seen d.S d.L (fr + (p0 + M.us N m) % mn)) (q0 + (m : Nat)) ≠ 0) :
    ∃ E d' u l, M.scan M.dR fr mn p0 q0 most (mn + 1) d 0 [] = (E, d', u, l) ∧ M.Up d' d.S d.L ∧ d'.ops ≤ d.ops + 17 * (mn + 1) ∧ d'.fails.length ≤ d.fails.length ∧ ((E = 0 ∧ l = M.recs A T N mn p0 q0 m) ∨ (E = 30 ∧ d'.fails.length < d.fails.length)) ∧ ∃ r, M.recs A T N mn p0 q0 m = l ++ r := by
  obtain ⟨d0, hd0⟩ : ∃ d0 : M.D, d0 = ⟨d.S, d.L, 0, [], 0, false⟩ := ⟨_, rfl⟩
  have hst : M.Still d0 fr mn := by rw [hd0]; exact ⟨⟨rfl, rfl, rfl⟩, hroom, h0⟩
  have hc0 : M.Chain A T N d0 fr mn p0 q0 m := by rw [hd0]; exact ⟨hc.ok, hc.text, hc.room⟩
  obtain ⟨d1, e1⟩ := M.chain_stop hc0 hst most hm (by rw [hd0]; exact hz)
  have hu0 : M.Up d0 d.S d.L := by rw [hd0]; exact ⟨rfl, rfl, rfl, rfl⟩
  have hu : M.Up d d.S d.L := ⟨h1, h2, rfl, rfl⟩
  obtain ⟨_, s0⟩ := M.Up.scan (p0 := p0) (q0 := q0) h0 hroom most (mn + 1) d0 0 [] hu0
  obtain ⟨s1, s2⟩ := M.Up.scan (p0 := p0) (q0 := q0) h0 hroom most (mn + 1) d 0 [] hu
  obtain ⟨s3, s4⟩ := M.Up.scan_len (p0 := p0) (q0 := q0) h0 hroom most (mn + 1) d 0 [] hu
  have s5 := M.scan_ops14 (fr := fr) (mn := mn) (p0 := p0) (q0 := q0) most (mn + 1) d 0 []
  have hf0 : d0.fails = [] := by rw [hd0]
  have ec : (M.scan (M.cR d.S d.L) fr mn p0 q0 most (mn + 1) () 0 []).2.2 = (M.us N m, M.recs A T N mn p0 q0 m) := by
    rcases s0 with ⟨_, e⟩ | ⟨_, e, _⟩
    · rw [← e, e1]
    · exact absurd hf0 e
  obtain ⟨R, hR⟩ : ∃ R, R = M.scan M.dR fr mn p0 q0 most (mn + 1) d 0 [] := ⟨_, rfl⟩
  rw [← hR] at s1 s2 s3 s4 s5 ⊢
  clear hR s0 e1
  refine ⟨R.1, R.2.1, R.2.2.1, R.2.2.2, rfl, s1, s5, s3, ?_, ?_⟩
  · rcases s2 with ⟨e, e'⟩ | ⟨e, _⟩
    · refine Or.inl ⟨e, ?_⟩
      rw [e', ec]
    · exact Or.inr ⟨e, s4 (by rw [e]; decide)⟩
  · rcases s2 with ⟨e, e'⟩ | ⟨e, _, _, r, hr⟩
    · exact ⟨[], by rw [e', ec, List.append_nil]⟩
    · exact ⟨r, by rw [← hr, ec]⟩
end
end Go.Proofs.YtmgchfjfkdkaoaaGreatDoor
