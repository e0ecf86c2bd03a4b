/-
  Both disks of LogscanTells and their parts: one contract a call.
-/
import Derived.Test.YtfdbfafpcbdbdaaGreatMV
import Derived.Test.YtfdbfafpcbdbdaaGreatMW
import Derived.Test.YtfdbfafpcbdbdaaGreatMU
import Derived.Test.YtfdbfafpcbdbdaaGreatMP
import Derived.Test.YtfdbfafpcbdbdaaGreatML
namespace Go.Proofs.YtfdbfafpcbdbdaaGreat
open Go.RowKit

section
variable {w y y' : World} {N a b ra rb mn : Nat} {d d' : M.D} {r r' : M.R}
theorem Bo12.to (h : Bo12 w y N a b ra rb 5 mn d r) (h2 : Two w y' N a b (fun k => k = ra ∨ k = rb) d' r' ∧ Kept (fun k => ¬ (k = ra ∨ k = rb)) y y') : Bo12 w y' N a b ra rb 5 mn d' r' :=
  ⟨h2.1, h.reg.kept h2.2 (fun e => e (Or.inl rfl)), h.rreg.kept h2.2 (fun e => e (Or.inr rfl)), h.low⟩
theorem Bo12.put (h : Bo12 w y N a b ra rb 5 mn d r) (p : Int) (s : ByteArray) (hs : s.size ≤ 1000000) (hmn : mn ≤ 55) (hp : p ≤ 9223372036854775807) (ho : d.ops ≤ 100000000) :
    Calls Tryz.prog 8 #[.pointer (some ⟨ra, 0, none⟩), .int .i64 p, .string s] y fun e y' => e = .returned (.int .i64 (M.lput d 5 mn p s).1) ∧ Bo12 w y' N a b ra rb 5 mn (M.lput d 5 mn p s).2 r := by
  have h0 := h
  obtain ⟨P, Q, hd, hr, hP, hQ, hF, hb, hN⟩ := h.two
  refine (lput_any p s y hd h.reg (fun e => (hP _ e).2.1 (Or.inl rfl)) hs (by omega) (by omega) hp ho).mono ?_
  rintro e y' ⟨he, h2, h3⟩
  exact ⟨he, h0.to (Two.stepA hr hP hQ hF hb hN h2 h3)⟩
theorem Bo12.rput (h : Bo12 w y N a b ra rb 5 mn d r) (p : Int) (s : ByteArray) (hs : s.size ≤ 1000000) (hmn : mn ≤ 55) (hp : p ≤ 9223372036854775807) (ho : r.ops ≤ 100000000) :
    Calls Tryz.prog 9 #[.pointer (some ⟨rb, 0, none⟩), .int .i64 p, .string s] y fun e y' => e = .returned (.int .i64 (M.rlput r 5 mn p s).1) ∧ Bo12 w y' N a b ra rb 5 mn d (M.rlput r 5 mn p s).2 := by
  have h0 := h
  obtain ⟨P, Q, hd, hr, hP, hQ, hF, hb, hN⟩ := h.two
  refine (rlput_any p s y hr h.rreg (fun e => (hQ _ e).1 (Or.inr rfl)) hs (by omega) (by omega) hp ho).mono ?_
  rintro e y' ⟨he, h2, h3⟩
  exact ⟨he, h0.to (Two.stepB hd hP hQ hF hb hN h2 h3)⟩
theorem Bo12.fail (h : Bo12 w y N a b ra rb 5 mn d r) (x : Int) : Calls Tryz.prog 10 #[.pointer (some ⟨a, 0, none⟩), .int .i64 x] y fun e y' => e = .returned (.tuple #[]) ∧ Bo12 w y' N a b ra rb 5 mn (M.failD d x) r :=
  (tfail h.two x).mono fun _ _ ⟨e1, e2, e3⟩ => ⟨e1, h.to ⟨e2, e3⟩⟩
theorem Bo12.rfail (h : Bo12 w y N a b ra rb 5 mn d r) (x : Int) : Calls Tryz.prog 12 #[.pointer (some ⟨b, 0, none⟩), .int .i64 x] y fun e y' => e = .returned (.tuple #[]) ∧ Bo12 w y' N a b ra rb 5 mn d (M.rfailR r x) :=
  (urfail h.two x).mono fun _ _ ⟨e1, e2, e3⟩ => ⟨e1, h.to ⟨e2, e3⟩⟩
theorem Bo12.rops (h : Bo12 w y N a b ra rb 5 mn d r) : y.cell? ⟨b, 3, none⟩ = some (.int .i64 (r.ops : Nat)) := let ⟨_, _, _, e, _⟩ := h.two.cells; e
end

/-- Which blocks are whose, while nothing is written. -/
structure TlOf (w0 : World) (N ra rb : Nat) (P Q : Nat → Prop) : Prop where
  p : ∀ k, P k → ¬ Q k ∧ ¬ (k = ra ∨ k = rb) ∧ N ≤ k ∧ k < w0.heap.size
  q : ∀ k, Q k → ¬ (k = ra ∨ k = rb) ∧ N ≤ k ∧ k < w0.heap.size
structure TlAt (w0 y : World) (a b ra rb mn : Nat) (P Q : Nat → Prop) (d : M.D) (r : M.R) : Prop where
  disk : Disk y a P d
  ref : Ref y b Q r
  reg : Reg y ra a 5 mn
  rreg : RReg y rb b 5 mn
  kept : Kept (fun k => P k ∨ Q k) w0 y
def RcT (w0 y : World) (l : List M.Rec) (v : Value) : Prop := ∃ N L, w0.heap.size ≤ N ∧ L.map M.RecV.told = l ∧ RecsAt N y v L
def RcR (w0 y : World) (l : List M.Rec) (v : Value) : Prop := ∃ N L, w0.heap.size ≤ N ∧ L.map M.RecV.told = l ∧ RRecsAt N y v L
section
variable {w w0 y y' : World} {N a b ra rb mn : Nat} {P Q : Nat → Prop} {d d' : M.D} {r r' : M.R} {l : List M.Rec} {v : Value}
theorem TlOf.lt (o : TlOf w0 N ra rb P Q) {k : Nat} (e : P k ∨ Q k) : N ≤ k ∧ k < w0.heap.size := by
  rcases e with e | e
  · exact (o.p k e).2.2
  · exact (o.q k e).2
theorem Bo12.tl (h : Bo12 w w0 N a b ra rb 5 mn d r) : ∃ P Q, TlOf w0 N ra rb P Q ∧ TlAt w0 w0 a b ra rb mn P Q d r := by
  obtain ⟨P, Q, hd, hr, hP, hQ, _, _, _⟩ := h.two
  exact ⟨P, Q, ⟨hP, hQ⟩, ⟨hd, hr, h.reg, h.rreg, Kept.refl _ _⟩⟩
theorem RcT.kept (h : RcT w0 y l v) (o : TlOf w0 N ra rb P Q) (hk : Kept (fun k => P k ∨ Q k) y y') : RcT w0 y' l v := by
  obtain ⟨n, L, h1, h2, h3⟩ := h
  exact ⟨n, L, h1, h2, h3.kept hk (fun k e => by have := o.lt e; omega)⟩
theorem RcR.kept (h : RcR w0 y l v) (o : TlOf w0 N ra rb P Q) (hk : Kept (fun k => P k ∨ Q k) y y') : RcR w0 y' l v := by
  obtain ⟨n, L, h1, h2, h3⟩ := h
  exact ⟨n, L, h1, h2, h3.kept hk (fun k e => by have := o.lt e; omega)⟩
theorem RcT.shape (h : RcT w0 y l v) : ∃ A c, v = .slice A l.length c := by
  obtain ⟨n, L, _, h2, h3⟩ := h
  obtain ⟨A, c, e, _⟩ := owns_shape h3.own
  exact ⟨A, c, by rw [e, ← h2, List.length_map]⟩
theorem RcR.shape (h : RcR w0 y l v) : ∃ A c, v = .slice A l.length c := by
  obtain ⟨n, L, _, h2, h3⟩ := h
  obtain ⟨A, c, e, _⟩ := owns_shape h3.own
  exact ⟨A, c, by rw [e, ← h2, List.length_map]⟩
theorem TlAt.below (h : TlAt w0 y a b ra rb mn P Q d r) (o : TlOf w0 N ra rb P Q) (hb : Below N w w0) (hN : N ≤ w0.heap.size) : Below N w y := hb.trans (h.kept.below hN (fun k hk e => by have := o.lt e; omega))
theorem TlAt.keep (h : TlAt w0 y a b ra rb mn P Q d r) (hb : Below y.heap.size y y') : TlAt w0 y' a b ra rb mn P Q d r := by
  have hk : Kept (fun _ => False) y y' := Kept.of_below hb _
  exact ⟨h.disk.kept hk (fun _ _ => id), h.ref.kept hk (fun _ _ => id), h.reg.kept hk id, h.rreg.kept hk id, h.kept.trans (hk.mono (fun _ _ e => e.elim))⟩
theorem TlAt.told (h : TlAt w0 y a b ra rb mn P Q d r) (o : TlOf w0 N ra rb P Q) (p0 : Nat) (q0 : Int) (most : Nat) (hmn : mn ≤ 55) (hp : p0 < mn) (ho : d.ops ≤ 1000000) (hmo : most ≤ 1000000) {E : Int} {u : Nat} (hs : M.scan M.dR 5 mn p0 q0 most (mn + 1) d 0 [] = (E, d', u, l)) :
    Calls Tryz.prog 13 #[.pointer (some ⟨ra, 0, none⟩), .int .i64 (p0 : Nat), .int .i64 q0, .int .i64 (most : Nat)] y fun e y' => ∃ v, e = .returned (.tuple #[v, .int .i64 E]) ∧ RcT w0 y' l v ∧ TlAt w0 y' a b ra rb mn P Q d' r ∧ Kept (fun k => P k ∨ Q k) y y' := by
  have hz := h.kept.size
  refine (told_yes p0 q0 most y h.disk h.reg (fun e => (o.p _ e).2.1 (Or.inl rfl)) (fun k e => by have := (o.p k e).2.2.2; omega) (by omega) (by omega) hp ho hmo).mono ?_
  rintro e y' ⟨E', d2, u', L, v, hS, he, hR, hD, hk, _⟩
  rw [hs] at hS
  injection hS with e1 hS
  injection hS with e2 hS
  injection hS with e3 e4
  subst e1
  subst e2
  have hk2 := hk.mono (Q := fun k => P k ∨ Q k) (fun _ _ e => Or.inl e)
  exact ⟨v, he, ⟨_, L, by omega, e4.symm, hR⟩, ⟨hD, h.ref.kept hk (fun k e e' => (o.p k e').1 e), h.reg.kept hk (fun e => (o.p _ e).2.1 (Or.inl rfl)), h.rreg.kept hk (fun e => (o.p _ e).2.1 (Or.inr rfl)), h.kept.trans hk2⟩, hk2⟩
theorem TlAt.all (h : TlAt w0 y a b ra rb mn P Q d r) (o : TlOf w0 N ra rb P Q) (p0 : Nat) (q0 : Int) (hmn : mn ≤ 55) (hp : p0 < mn) (ho : r.ops ≤ 1000000) (hq : ∀ s ∈ r.seen, s.size = 64) (hq1 : -9223372036854775808 ≤ q0) (hq2 : q0 ≤ 9223372036854775807) {E : Int} {u : Nat} (hs : M.scan M.rR 5 mn p0 q0 1000 (mn + 1) r 0 [] = (E, r', u, l)) :
    Calls Tryz.prog 14 #[.pointer (some ⟨rb, 0, none⟩), .int .i64 (p0 : Nat), .int .i64 q0] y fun e y' => ∃ v, e = .returned (.tuple #[v, .int .i64 (u : Nat), .int .i64 E]) ∧ RcR w0 y' l v ∧ TlAt w0 y' a b ra rb mn P Q d r' ∧ Kept (fun k => P k ∨ Q k) y y' := by
  have hz := h.kept.size
  refine (all_yes p0 q0 y h.ref h.rreg (fun e => (o.q _ e).1 (Or.inr rfl)) (fun k e => by have := (o.q k e).2.2; omega) hq (by omega) (by omega) hp ho hq1 hq2 1000 (by omega)).mono ?_
  rintro e y' ⟨E', r2, u', L, v, hS, he, hR, hD, hk, _⟩
  rw [hs] at hS
  injection hS with e1 hS
  injection hS with e2 hS
  injection hS with e3 e4
  subst e1
  subst e2
  subst e3
  have hk2 := hk.mono (Q := fun k => P k ∨ Q k) (fun _ _ e => Or.inr e)
  exact ⟨v, he, ⟨_, L, by omega, e4.symm, hR⟩, ⟨h.disk.kept hk (fun k e e' => (o.p k e).1 e'), hD, h.reg.kept hk (fun e => (o.q _ e).1 (Or.inl rfl)), h.rreg.kept hk (fun e => (o.q _ e).1 (Or.inr rfl)), h.kept.trans hk2⟩, hk2⟩
theorem TlAt.end_ (h : TlAt w0 y a b ra rb mn P Q d r) (o : TlOf w0 N ra rb P Q) (p0 : Nat) (q0 : Int) (hmn : mn ≤ 55) (hp : p0 < mn) (ho : d.ops ≤ 1000000) {E : Int} {u : Nat} (hs : M.scan M.dR 5 mn p0 q0 1000 (mn + 1) d 0 [] = (E, d', u, l)) :
    Calls Tryz.prog 16 #[.pointer (some ⟨ra, 0, none⟩), .int .i64 (p0 : Nat), .int .i64 q0] y fun e y' => e = .returned (if E = 0 then .tuple #[.int .i64 (((p0 + u) % mn : Nat) : Int), .int .i64 (q0 + (l.length : Nat)), .int .i64 (u : Nat), .int .i64 0] else .tuple #[.int .i64 0, .int .i64 0, .int .i64 0, .int .i64 E]) ∧ TlAt w0 y' a b ra rb mn P Q d' r ∧ Kept (fun k => P k ∨ Q k) y y' := by
  have hz := h.kept.size
  refine (end_yes p0 q0 y h.disk h.reg (fun e => (o.p _ e).2.1 (Or.inl rfl)) (fun k e => by have := (o.p k e).2.2.2; omega) (by omega) (by omega) hp ho 1000 (by omega)).mono ?_
  rintro e y' ⟨E', d2, u', L, hS, he, hD, hk, _⟩
  rw [hs] at hS
  injection hS with e1 hS
  injection hS with e2 hS
  injection hS with e3 e4
  subst e1
  subst e2
  subst e3
  subst e4
  have hk2 := hk.mono (Q := fun k => P k ∨ Q k) (fun _ _ e => Or.inl e)
  exact ⟨he, ⟨hD, h.ref.kept hk (fun k e e' => (o.p k e').1 e), h.reg.kept hk (fun e => (o.p _ e).2.1 (Or.inl rfl)), h.rreg.kept hk (fun e => (o.p _ e).2.1 (Or.inr rfl)), h.kept.trans hk2⟩, hk2⟩
theorem TlAt.same (h : TlAt w0 y a b ra rb mn P Q d r) {l1 l2 t : List M.Rec} {v1 v2 : Value} (h1 : RcT w0 y l1 v1) (h2 : RcR w0 y l2 v2) (ht : l2 = l1 ++ t) (hl : l2.length ≤ 1000) :
    Calls Tryz.prog 15 #[v1, v2] y fun e y' => e = .returned (.bool true) ∧ TlAt w0 y' a b ra rb mn P Q d r := by
  obtain ⟨n1, L1, _, a2, a3⟩ := h1
  obtain ⟨n2, L2, _, b2, b3⟩ := h2
  exact (same12_any y a3 b3 (t := t) (by rw [a2, b2, ht]) (by rw [← b2, List.length_map] at hl; exact hl)).mono fun _ _ ⟨e1, e2⟩ => ⟨e1, h.keep e2⟩
end

/-- What LogscanTells asks of both, one call behind the other. -/
theorem tells_calls {w w0 : World} {N a b ra rb mn : Nat} {d : M.D} {r : M.R} {f : Prop} (hB : Bo12 w w0 N a b ra rb 5 mn d r) (hF : M.Fal d r mn f 1650) (h1 : 1 ≤ mn) (h2 : mn ≤ 55) (p0 : Nat) (hp : p0 < mn) (q0 : Int) (hq1 : -9223372036854775808 ≤ q0) (hq2 : q0 ≤ 9223372036854775807) :
    ∃ (E1 E2 E3 : Int) (u1 u2 n1 n2 n3 : Nat) (S0 S1 S2 S3 S4 S5 : World → Prop) (T1 R1 R2 T3 : World → Value → Prop),
      S0 w0
      ∧ (∀ y, S0 y → Calls Tryz.prog 13 #[.pointer (some ⟨ra, 0, none⟩), .int .i64 (p0 : Nat), .int .i64 q0, .int .i64 1000] y fun e y' => ∃ A c, e = .returned (.tuple #[.slice A n1 c, .int .i64 E1]) ∧ S1 y' ∧ T1 y' (.slice A n1 c))
      ∧ (∀ y v, S1 y → T1 y v → Calls Tryz.prog 14 #[.pointer (some ⟨rb, 0, none⟩), .int .i64 (p0 : Nat), .int .i64 q0] y fun e y' => ∃ A c, e = .returned (.tuple #[.slice A n1 c, .int .i64 (u1 : Nat), .int .i64 E1]) ∧ S2 y' ∧ T1 y' v ∧ R1 y' (.slice A n1 c))
      ∧ (∀ y v1 v2, S2 y → T1 y v1 → R1 y v2 → Calls Tryz.prog 15 #[v1, v2] y fun e y' => e = .returned (.bool true) ∧ S2 y')
      ∧ (∀ y, S2 y → Calls Tryz.prog 16 #[.pointer (some ⟨ra, 0, none⟩), .int .i64 (p0 : Nat), .int .i64 q0] y fun e y' => e = .returned (if E2 = 0 then .tuple #[.int .i64 (((p0 + u2) % mn : Nat) : Int), .int .i64 (q0 + (n2 : Nat)), .int .i64 (u2 : Nat), .int .i64 0] else .tuple #[.int .i64 0, .int .i64 0, .int .i64 0, .int .i64 E2]) ∧ S3 y')
      ∧ (∀ y, S3 y → Calls Tryz.prog 14 #[.pointer (some ⟨rb, 0, none⟩), .int .i64 (p0 : Nat), .int .i64 q0] y fun e y' => ∃ A c, e = .returned (.tuple #[.slice A n2 c, .int .i64 (u2 : Nat), .int .i64 E2]) ∧ S4 y' ∧ R2 y' (.slice A n2 c))
      ∧ (∀ y v, S4 y → R2 y v → Calls Tryz.prog 13 #[.pointer (some ⟨ra, 0, none⟩), .int .i64 (p0 : Nat), .int .i64 q0, .int .i64 2] y fun e y' => ∃ A c, e = .returned (.tuple #[.slice A n3 c, .int .i64 E3]) ∧ S5 y' ∧ R2 y' v ∧ T3 y' (.slice A n3 c))
      ∧ (E2 = 0 → ∀ y v1 v2, S5 y → T3 y v1 → R2 y v2 → Calls Tryz.prog 15 #[v1, v2] y fun e y' => e = .returned (.bool true) ∧ S5 y')
      ∧ (∀ y, S5 y → Below N w y)
      ∧ u1 ≤ mn ∧ u2 ≤ mn ∧ n2 ≤ 55 ∧ n1 ≤ 55 ∧ (n2 = 0 ∨ (0 ≤ q0 ∧ q0 < 281474976710656))
      ∧ (E2 = 0 → u1 ≤ u2) ∧ (E2 = 0 → E3 = 0 → n3 = min 2 n2) ∧ (E3 = 0 ∨ (E3 = 30 ∧ f)) ∧ (∀ y, S2 y → Below N w y) := by
  obtain ⟨P, Q, o, hS0⟩ := hB.tl
  obtain ⟨f1, f2, f3⟩ := hF.scan h1 h2 p0 q0 1000
  have k1 := M.scan_nums (X := M.dR) (fr := 5) (mn := mn) (p0 := p0) (q0 := q0) 1000 (mn + 1) d 0 [] (by simp) (Nat.zero_le _) (Or.inl rfl)
  obtain ⟨s1, hs1⟩ : ∃ s, s = M.scan M.dR 5 mn p0 q0 1000 (mn + 1) d 0 [] := ⟨_, rfl⟩
  obtain ⟨t1, ht1⟩ : ∃ s, s = M.scan M.rR 5 mn p0 q0 1000 (mn + 1) r 0 [] := ⟨_, rfl⟩
  rw [← hs1, ← ht1] at f1 f2 f3
  rw [← hs1] at k1
  obtain ⟨g1, g2, g3⟩ := f3.scan h1 h2 p0 q0 1000
  have k2 := M.scan_nums (X := M.dR) (fr := 5) (mn := mn) (p0 := p0) (q0 := q0) 1000 (mn + 1) s1.2.1 0 [] (by simp) (Nat.zero_le _) (Or.inl rfl)
  obtain ⟨s2, hs2⟩ : ∃ s, s = M.scan M.dR 5 mn p0 q0 1000 (mn + 1) s1.2.1 0 [] := ⟨_, rfl⟩
  obtain ⟨t2, ht2⟩ : ∃ s, s = M.scan M.rR 5 mn p0 q0 1000 (mn + 1) t1.2.1 0 [] := ⟨_, rfl⟩
  rw [← hs2, ← ht2] at g1 g2 g3
  rw [← hs2] at k2
  obtain ⟨s3, hs3⟩ : ∃ s, s = M.scan M.dR 5 mn p0 q0 2 (mn + 1) s2.2.1 0 [] := ⟨_, rfl⟩
  have hsz1 : ∀ s ∈ t1.2.1.seen, s.size = 64 := by
    have e : t1.2.1.seen = r.seen := by rw [ht1]; exact M.scan_g (X := M.rR) (fun r => r.seen) (fun _ => rfl) 1000 (mn + 1) r 0 []
    rw [e]
    exact hF.same.sizes hS0.disk.inv
  obtain ⟨m1, m2, m3, m4⟩ := M.tells hF h1 h2 p0 q0 hs1 hs2 hs3
  obtain ⟨E1, d1, u1, l1⟩ := s1
  obtain ⟨E2, d2, u2, l2⟩ := s2
  obtain ⟨E3, d3, u3, l3⟩ := s3
  obtain ⟨F1, r1, t1⟩ := t1
  obtain ⟨F2, r2, t2⟩ := t2
  simp only at f1 f2 f3 g1 g2 g3 k1 k2 m1 m2 m3 m4 hs1 hs2 hs3 ht1 ht2 hsz1
  subst f1
  subst f2
  subst g1
  subst g2
  have hso := hF.same.ops
  have hso1 := f3.same.ops
  have hdo := hF.ops
  have hdo1 := f3.ops
  have hdo2 := g3.ops
  have hbw : Below N w w0 := hB.below
  have hNw : N ≤ w0.heap.size := hB.le
  refine ⟨F1, F2, E3, u1, u2, l1.length, l2.length, l3.length, fun y => TlAt w0 y a b ra rb mn P Q d r, fun y => TlAt w0 y a b ra rb mn P Q d1 r, fun y => TlAt w0 y a b ra rb mn P Q d1 r1, fun y => TlAt w0 y a b ra rb mn P Q d2 r1, fun y => TlAt w0 y a b ra rb mn P Q d2 r2, fun y => TlAt w0 y a b ra rb mn P Q d3 r2,
    fun y v => RcT w0 y l1 v, fun y v => RcR w0 y l1 v, fun y v => RcR w0 y l2 v, fun y v => RcT w0 y l3 v, hS0, fun y h => ?_, fun y v h ht => ?_, fun y v1 v2 h ha hb => ?_, fun y h => ?_, fun y h => ?_, fun y v h ha => ?_, fun e y v1 v2 h ha hb => ?_, fun y h => h.below o hbw hNw, k1.2.1, k2.2.1, by have := k2.1; have := k2.2.1; omega, by have := k1.1; have := k1.2.1; omega, k2.2.2, m1, m3, m4, fun y h => h.below o hbw hNw⟩
  · refine (h.told o p0 q0 1000 h2 hp (by omega) (by omega) hs1.symm).mono ?_
    rintro e y' ⟨v, he, hT, hR, _⟩
    obtain ⟨A, c, rfl⟩ := hT.shape
    exact ⟨A, c, he, hR, hT⟩
  · refine (h.all o p0 q0 h2 hp (by omega) (hF.same.sizes hS0.disk.inv) hq1 hq2 ht1.symm).mono ?_
    rintro e y' ⟨v', he, hT, hR, hk⟩
    obtain ⟨A, c, rfl⟩ := hT.shape
    exact ⟨A, c, he, hR, ht.kept o hk, hT⟩
  · exact h.same ha hb (List.append_nil _).symm (by have := k1.1; have := k1.2.1; omega)
  · exact (h.end_ o p0 q0 h2 hp (by omega) hs2.symm).mono fun _ _ ⟨e1, e2, _⟩ => ⟨e1, e2⟩
  · refine (h.all o p0 q0 h2 hp (by omega) hsz1 hq1 hq2 ht2.symm).mono ?_
    rintro e y' ⟨v', he, hT, hR, hk⟩
    obtain ⟨A, c, rfl⟩ := hT.shape
    exact ⟨A, c, he, hR, hT⟩
  · refine (h.told o p0 q0 2 h2 hp (by omega) (by omega) hs3.symm).mono ?_
    rintro e y' ⟨v', he, hT, hR, hk⟩
    obtain ⟨A, c, rfl⟩ := hT.shape
    exact ⟨A, c, he, hR, ha.kept o hk, hT⟩
  · obtain ⟨t, ht⟩ := m2 e
    exact h.same ha hb ht (by have := k2.1; have := k2.2.1; omega)
end Go.Proofs.YtfdbfafpcbdbdaaGreat
