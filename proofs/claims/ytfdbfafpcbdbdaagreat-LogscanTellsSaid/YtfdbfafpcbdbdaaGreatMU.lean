/-
  A walk over solderref12.All: the document's records.
-/
import Derived.Test.YtfdbfafpcbdbdaaGreatMT
namespace Go.Proofs.YtfdbfafpcbdbdaaGreat
open Go.RowKit

section
variable {σ : Type} {X : M.Rdr σ} {fr mn : Nat}
/-- The next record, its sectors joined one by one. -/
theorem M.next_by {d d1 : σ} {p n left : Nat} {q : Int} {f : ByteArray} (hl : left ≠ 0) (h1 : M.rdr X fr mn 1 d p ⟨#[]⟩ = (f, 0, d1)) (hz : M.szE f q = 0) (hn : M.szN f q = (n : Nat)) (hle : n ≤ left) :
    M.next X fr mn d p q left = if (M.rdr X fr mn (n - 1) d1 (p + 1) f).2.1 ≠ 0 then ((M.rdr X fr mn (n - 1) d1 (p + 1) f).2.1, 0, ⟨#[]⟩, (M.rdr X fr mn (n - 1) d1 (p + 1) f).2.2)
      else if M.getE (M.rdr X fr mn (n - 1) d1 (p + 1) f).1 ≠ 0 then (0, 0, ⟨#[]⟩, (M.rdr X fr mn (n - 1) d1 (p + 1) f).2.2) else (0, n, (M.rdr X fr mn (n - 1) d1 (p + 1) f).1, (M.rdr X fr mn (n - 1) d1 (p + 1) f).2.2) := by
  obtain ⟨a1, _, _⟩ := M.rdr_acc (X := X) (fr := fr) (mn := mn) (n - 1) d1 (p + 1) f ⟨#[]⟩
  have a2 := M.rdr_front (X := X) (fr := fr) (mn := mn) (n - 1) d1 (p + 1) f
  rw [M.next, if_neg hl, h1, M.next2, if_neg (fun e => e rfl), if_neg (by rw [hz, hn]; simp; omega), hn, Int.toNat_natCast, M.next3]
  dsimp only
  rw [a1]
  by_cases h : (M.rdr X fr mn (n - 1) d1 (p + 1) ⟨#[]⟩).2.1 = 0
  · have h' : ¬ (M.rdr X fr mn (n - 1) d1 (p + 1) ⟨#[]⟩).2.1 ≠ 0 := fun e => e h
    rw [if_neg h', if_neg h', a2 h]
  · rw [if_pos h, if_pos h]
theorem M.rdr_one (m : Nat) (d : σ) (p : Nat) (acc : ByteArray) : M.rdr X fr mn (m + 1) d p acc = if (M.rdr X fr mn 1 d p ⟨#[]⟩).2.1 = 0 then M.rdr X fr mn m (M.rdr X fr mn 1 d p ⟨#[]⟩).2.2 (p + 1) (acc ++ (M.rdr X fr mn 1 d p ⟨#[]⟩).1) else (⟨#[]⟩, (M.rdr X fr mn 1 d p ⟨#[]⟩).2) := by
  have h1 : M.rdr X fr mn 1 d p ⟨#[]⟩ = if X.E d ((fr + p % mn : Nat) : Int) = 0 then (⟨#[]⟩ ++ X.S d ((fr + p % mn : Nat) : Int), 0, X.B d) else (⟨#[]⟩, X.E d ((fr + p % mn : Nat) : Int), X.B d) := rfl
  rw [h1, M.rdr]
  by_cases hE : X.E d ((fr + p % mn : Nat) : Int) = 0
  · rw [if_pos hE, if_pos hE, if_pos rfl, M.nil_app]
  · rw [if_neg hE, if_neg hE, if_neg hE]
theorem M.scan_end {p0 : Nat} {q0 : Int} {most k : Nat} {d : σ} {u : Nat} {l : List M.Rec} {x : Int × Nat × ByteArray × σ} (hx : M.next X fr mn d ((p0 + u) % mn) (q0 + (l.length : Nat)) (mn - u) = x) (h : x.1 ≠ 0 ∨ x.2.1 = 0) : M.scan X fr mn p0 q0 most (k + 1) d u l = (x.1, x.2.2.2, u, l) := by
  rw [M.scan, hx]
  unfold M.scanE
  rw [if_pos h]
theorem M.scan_on {p0 : Nat} {q0 : Int} {most k : Nat} {d : σ} {u : Nat} {l : List M.Rec} {x : Int × Nat × ByteArray × σ} (hx : M.next X fr mn d ((p0 + u) % mn) (q0 + (l.length : Nat)) (mn - u) = x) (h1 : x.1 = 0) (h2 : x.2.1 ≠ 0) (hm : l.length + 1 < most) :
    M.scan X fr mn p0 q0 most (k + 1) d u l = M.scan X fr mn p0 q0 most k x.2.2.2 (u + x.2.1) (l ++ [⟨q0 + (l.length : Nat), (p0 + u) % mn, x.2.2.1⟩]) := by
  rw [M.scan, hx]
  unfold M.scanE
  rw [if_neg (by rw [h1]; simpa using h2), if_pos hm]
end

/-- In the midst of All: the document's disk and region, and the records so far. -/
structure AllSt (w y : World) (rb b fr mn : Nat) (P : Nat → Prop) (rk : M.R) (L : List M.RecV) (v : Value) : Prop where
  ref : Ref y b P rk
  reg : RReg y rb b fr mn
  recs : RRecsAt w.heap.size y v L
  kept : Kept P w y
section
variable {w y y' : World} {rb b fr mn : Nat} {P : Nat → Prop} {rk rk' : M.R} {L : List M.RecV} {v : Value}
theorem AllSt.step (h : AllSt w y rb b fr mn P rk L v) (hP : ¬ P rb) (hlow : ∀ k, P k → k < w.heap.size) (hr : Ref y' b P rk') (hk : Kept P y y') : AllSt w y' rb b fr mn P rk' L v := ⟨hr, h.reg.kept hk hP, h.recs.kept hk hlow, h.kept.trans hk⟩
theorem AllSt.below (h : AllSt w y rb b fr mn P rk L v) (hb : Below y.heap.size y y') : AllSt w y' rb b fr mn P rk L v :=
  ⟨h.ref.kept (Kept.of_below hb (fun _ => False)) (fun _ _ => id), h.reg.kept (Kept.of_below hb (fun _ => False)) id, h.recs.kept (Kept.of_below hb (fun _ => False)) (fun _ e => e.elim), h.kept.trans ((Kept.of_below hb P))⟩
/-- One more record. -/
theorem AllSt.more {y2 z : World} {v' : Value} (h : AllSt w y2 rb b fr mn P rk L v) (hlow : ∀ k, P k → k < w.heap.size) (hrb : rb < w.heap.size) (h0 : AllSt w y rb b fr mn P rk L v) (q : Int) (p : Nat) (s : ByteArray) (A : Option Addr) (c : Nat) (hs : M.getE s = 0)
    (hV : M.gN s ≤ c ∧ c ≤ maxLen ∧ SecF y2 A (M.gN s) (M.gA s) (M.gT s)) (hn : NewV y (.slice A (M.gN s) c)) {ob : Obj} (hg : (y2.alloc ob).grownBy z v.ownBlock) (hbk : ∀ k, v'.ownBlock = some k → v.ownBlock = some k ∨ y2.heap.size ≤ k)
    (ho : z.ownsRow w.heap.size 96 3 v' (L.length + 1) (M.rcells L ++ [.int .i64 q, .int .i64 (p : Nat), .slice A (M.gN s) c])) : AllSt w z rb b fr mn P rk (L ++ [⟨q, p, s, A, c⟩]) v' := by
  have k3 : Kept (fun k => v.ownBlock = some k) y2 z := ((Kept.refl _ y2).alloc ob).grown hg (fun k e _ => e)
  have hlt : ∀ k, v.ownBlock = some k → w.heap.size ≤ k ∧ k < y.heap.size := fun k e => h0.recs.own.lt k e
  refine ⟨h.ref.kept k3 (fun k e e' => by have := hlow k e; have := (hlt k e').1; omega), h.reg.kept k3 (fun e => by have := (hlt _ e).1; omega), h.recs.snoc q p s A c hs hV (fun ad e => ?_) hg hbk ho, h.kept.next k3 (fun k e e' => by have := (hlt k e').1; omega)⟩
  have h1 := hn ad _ _ (by rw [e])
  exact ⟨Nat.le_trans h0.kept.size h1, fun e' => by have := (hlt _ e').2; omega⟩
end

/-- What All comes to. -/
def AllEnd (w w' : World) (b mn : Nat) (P : Nat → Prop) (R : Int × M.R × Nat × List M.Rec) (e : Ending) : Prop := ∃ (E : Int) (r' : M.R) (u : Nat) (L : List M.RecV) (v : Value),
  R = (E, r', u, L.map M.RecV.told) ∧ e = .returned (.tuple #[v, .int .i64 (u : Nat), .int .i64 E]) ∧ RRecsAt w.heap.size w' v L ∧ Ref w' b P r' ∧ Kept P w w' ∧ u ≤ mn

set_option maxRecDepth 100000 in
set_option maxHeartbeats 4000000 in
theorem all_yes (p0 : Nat) (q0 : Int) (w : World) {rb b fr mn : Nat} {P : Nat → Prop} {r : M.R} (h : Ref w b P r) (hr : RReg w rb b fr mn) (hP : ¬ P rb) (hlow : ∀ k, P k → k < w.heap.size) (hq : ∀ s ∈ r.seen, s.size = 64) (hf : fr ≤ 1000) (hmn : mn ≤ 1000) (hp : p0 < mn) (ho : r.ops ≤ 1000000) (hq1 : -9223372036854775808 ≤ q0) (hq2 : q0 ≤ 9223372036854775807) (most : Nat) (hmo : mn < most) :
    Calls Tryz.prog 14 #[.pointer (some ⟨rb, 0, none⟩), .int .i64 (p0 : Nat), .int .i64 q0] w fun e w' => AllEnd w w' b mn P (M.scan M.rR fr mn p0 q0 most (mn + 1) r 0 []) e := by
  obtain ⟨i0, hi, hz0, hz1, hz2⟩ := info_parts infoRRec
  have hrb := hr.lt
  have HA0 : Hid (AllSt w w rb b fr mn P r [] (.slice none 0 0)) := ⟨h, hr, RRecsAt.nil _ _, Kept.refl _ _⟩
  have HC : Hid (∀ y rk L v, AllSt w y rb b fr mn P rk L v → y.cell? ⟨rb, 2, none⟩ = some (.int .i64 (mn : Nat))) := fun y rk L v hs => hs.reg.c2
  have HRD : Hid (∀ (p : Nat) y rk L v, AllSt w y rb b fr mn P rk L v → rk.seen = r.seen → rk.ops ≤ 100000000 → Calls Tryz.prog 38 #[.pointer (some ⟨rb, 0, none⟩), .int .i64 ((p % mn : Nat) : Int), .int .i64 1] y fun e y' =>
      e = .returned (.tuple #[.string (M.rdr M.rR fr mn 1 rk p ⟨#[]⟩).1, .int .i64 (M.rdr M.rR fr mn 1 rk p ⟨#[]⟩).2.1]) ∧ AllSt w y' rb b fr mn P (M.rdr M.rR fr mn 1 rk p ⟨#[]⟩).2.2 L v) := fun p y rk L v hs he hops => by
    have hpm : p % mn < mn := Nat.mod_lt _ (by omega)
    have := hread_any ((p % mn : Nat) : Int) ((1 : Nat) : Int) y hs.ref hs.reg hP (by rw [he]; exact hq) hf hmn (by omega)
    rw [M.hread_rdr rk fr mn (p % mn) 1 (by omega), M.rdr_mod] at this
    exact this.mono fun _ _ ⟨e1, e2, e3⟩ => ⟨e1, hs.step hP hlow e2 e3⟩
  have HSZ : Hid (∀ (s : ByteArray) (q : Int) y rk L v, AllSt w y rb b fr mn P rk L v → q ≤ 9223372036854775807 → Calls Tryz.prog 39 #[.string s, .int .i64 q] y fun e y' => e = .returned (.tuple #[.int .i64 (M.szN s q), .int .i64 (M.szE s q)]) ∧ AllSt w y' rb b fr mn P rk L v) := fun s q y rk L v hs hq9 =>
    (rsize11_any s q y hq9).mono fun _ _ ⟨e1, e2⟩ => ⟨e1, hs.below e2⟩
  have HGT : Hid (∀ (s : ByteArray) y, s.size ≤ 100000 → Calls Tryz.prog 40 #[.string s] y fun e y' => Got12 s y e y') := fun s y h9 => rget12_any s y h9
  have HMORE : Hid (∀ (y y2 z : World) (rk : M.R) (L : List M.RecV) (v v' : Value), AllSt w y2 rb b fr mn P rk L v → AllSt w y rb b fr mn P rk L v → ∀ (q : Int) (p : Nat) (s : ByteArray) (A : Option Addr) (c : Nat), M.getE s = 0 →
    (M.gN s ≤ c ∧ c ≤ maxLen ∧ SecF y2 A (M.gN s) (M.gA s) (M.gT s)) → NewV y (.slice A (M.gN s) c) → ∀ ob : Obj, (y2.alloc ob).grownBy z v.ownBlock → (∀ k, v'.ownBlock = some k → v.ownBlock = some k ∨ y2.heap.size ≤ k) →
    z.ownsRow w.heap.size 96 3 v' (L.length + 1) (M.rcells L ++ [.int .i64 q, .int .i64 (p : Nat), .slice A (M.gN s) c]) → AllSt w z rb b fr mn P rk (L ++ [⟨q, p, s, A, c⟩]) v') := fun y y2 z rk L v v' h1 h2 q p s A c h4 h5 h6 ob h7 h8 h9 => h1.more hlow hrb h2 q p s A c h4 h5 h6 h7 h8 h9
  have HQQ : Hid (∀ s ∈ r.seen, s.size = 64) := hq
  obtain ⟨R, hR⟩ : ∃ R, R = M.scan M.rR fr mn p0 q0 most (mn + 1) r 0 [] := ⟨_, rfl⟩
  have HR0 := Lib.hid hR
  have HO : Hid (r.ops ≤ 1000000 ∧ mn ≤ 1000 ∧ p0 < mn ∧ mn < most) := ⟨ho, hmn, hp, hmo⟩
  rw [← hR]
  obtain ⟨B, hB⟩ : ∃ B, B = w.heap.size := ⟨_, rfl⟩
  have HB := Lib.hid hB
  have hm0 : (0 : Int) < (mn : Int) := by omega
  have hm00 : ((mn : Int) == 0) = false := by rw [beq_eq_false_iff_ne]; omega
  have hm1 : ¬ (mn : Int) = 0 := by omega
  have hm2 : ¬ mn = 0 := by omega
  have hm9 : (mn : Int) ≤ 1000 := by omega
  have hp9 : ((p0 : Nat) : Int) ≤ 1000 := by omega
  have hpge : ¬ (mn : Int) ≤ ((p0 : Nat) : Int) := by omega
  have hpge2 : decide (mn ≤ p0) = false := by simp; omega
  have hpl : ¬ ((p0 : Nat) : Int) < 0 := by omega
  have c2 := HC.out _ _ _ _ HA0.out
  clear h hr hP hlow hq hf hmn hp ho hmo hR hB hrb
  go_enter Tryz.func14, Tryz.ntmps14
  go_wp2_with fail
  go_loopw [9, 10] (fun v j wr => ∃ (u k : Nat) (L : List M.RecV) (rk : M.R), u ≤ mn ∧ j = .int .i64 (u : Nat) ∧ Hid (AllSt w wr rb b fr mn P rk L v) ∧ Hid (rk.seen = r.seen ∧ rk.ops ≤ r.ops + u ∧ 2 * L.length ≤ u ∧ mn + 1 ≤ k + u ∧ (L.length = 0 ∨ (0 ≤ q0 ∧ q0 < 281474976710656))) ∧ Hid (R = M.scan M.rR fr mn p0 q0 most k rk u (L.map M.RecV.told))) (fun v j _ => mn - (intOf j).toNat)
  case atStart => exact ⟨0, mn + 1, [], r, Nat.zero_le _, rfl, HA0, ⟨rfl, by omega, by simp, by omega, Or.inl rfl⟩, HR0.out⟩
  case round =>
    obtain ⟨u, k, L, rk, hu, rfl, HA, HK, HRk⟩ := hrel
    clear HA0 HR0 c2
    have c2 := HC.out _ _ _ _ HA.out
    obtain ⟨VA, VC, hva, hvc⟩ := owns_shape HA.out.recs.own
    subst hva
    obtain ⟨k', hk'⟩ : ∃ k', k = k' + 1 := ⟨k - 1, by have := HK.out; omega⟩
    subst hk'
    obtain ⟨ln, hln⟩ : ∃ ln, ln = L.length := ⟨_, rfl⟩
    rw [← hln] at HA hvc ⊢
    obtain ⟨q, hqe⟩ : ∃ q : Int, q = q0 + (L.length : Nat) := ⟨_, rfl⟩
    obtain ⟨p, hpe⟩ : ∃ p, p = (p0 + u) % mn := ⟨_, rfl⟩
    obtain ⟨X, hX⟩ : ∃ X, X = M.next M.rR fr mn rk p q (mn - u) := ⟨_, rfl⟩
    have hX2 : M.next M.rR fr mn rk ((p0 + u) % mn) (q0 + ((L.map M.RecV.told).length : Nat)) (mn - u) = X := by rw [List.length_map, ← hqe, ← hpe, hX]
    have HXe : Hid ((X.1 ≠ 0 ∨ X.2.1 = 0) → R = (X.1, X.2.2.2, u, L.map M.RecV.told)) := fun e => by rw [HRk.out]; exact M.scan_end hX2 e
    have HXo : Hid (X.1 = 0 → X.2.1 ≠ 0 → R = M.scan M.rR fr mn p0 q0 most k' X.2.2.2 (u + X.2.1) (L.map M.RecV.told ++ [⟨q, p, X.2.2.1⟩])) := fun e1 e2 => by
      rw [HRk.out, M.scan_on hX2 e1 e2 (by rw [List.length_map]; have := HK.out; have := HO.out; omega), List.length_map, ← hqe, ← hpe]
    by_cases hlt : u < mn
    · have hlt' : (u : Int) < (mn : Int) := by omega
      have hl0 : mn - u ≠ 0 := by omega
      have hpm : p < mn := by rw [hpe]; exact Nat.mod_lt _ (by omega)
      obtain ⟨x, hx⟩ : ∃ x, x = M.rdr M.rR fr mn 1 rk p ⟨#[]⟩ := ⟨_, rfl⟩
      have C1 := HRD.out p _ _ _ _ HA.out HK.out.1 (by have := HK.out; have := HO.out; omega)
      rw [Nat.mod_eq_of_lt hpm, ← hx] at C1
      have hk1 := M.rR_keeps fr mn 1 rk p ⟨#[]⟩
      rw [← hx] at hk1
      have HS1 : Hid (x.2.1 = 0 → x.1.size = 64) := fun e => by
        have := M.rR_size fr mn 1 rk p ⟨#[]⟩ (by rw [HK.out.1]; exact HQQ.out) (by rw [← hx]; exact e)
        rw [← hx] at this
        exact this
      obtain ⟨f, E1, r1⟩ := x
      have C1 := Lib.hid C1
      have HK1 : Hid (r1.seen = r.seen ∧ r1.ops ≤ rk.ops + 1) := ⟨by rw [← HK.out.1]; exact hk1.1, hk1.2.1⟩
      obtain ⟨pu, hpu⟩ : ∃ pu, pu = p0 + u := ⟨_, rfl⟩
      have s1 : ((p0 : Nat) : Int) + (u : Int) = (pu : Int) := by omega
      have s2 : (pu : Int).tmod (mn : Int) = (p : Int) := by
        rw [Int.tmod_eq_emod_of_nonneg (by omega), hpe, hpu]
        exact (Int.natCast_emod _ _).symm
      have s3 : (pu : Int) ≤ 2000 := by omega
      have s4 : q0 + (ln : Int) = q := by rw [hqe, hln]
      have s5 : (ln : Int) ≤ 1000 := by have := HK.out; omega
      have s6 : -9223372036854775808 ≤ q ∧ q ≤ 9223372036854775807 := by have := HK.out; omega
      obtain ⟨s6, s7⟩ := s6
      obtain ⟨left, hleft⟩ : ∃ left, left = mn - u := ⟨_, rfl⟩
      have s8 : (mn : Int) - (u : Int) = (left : Int) := by omega
      have s9 : (left : Int) ≤ 1000 := by omega
      have HX1 : Hid (X = M.next M.rR fr mn rk p q left) := by show X = _; rw [hX, hleft]
      have HXX : Hid (M.rdr M.rR fr mn 1 rk p ⟨#[]⟩ = (f, E1, r1)) := hx.symm
      have HL0 : Hid (left ≠ 0 ∧ p < mn ∧ u < mn ∧ left = mn - u ∧ ln = L.length ∧ q = q0 + (ln : Nat)) := ⟨by omega, hpm, hlt, hleft, hln, s4.symm⟩
      have hu9 : (u : Int) ≤ 1000 := by omega
      have hpn : (p : Int) ≤ 1000 := by omega
      clear hX hX2 hqe hpe hpu hx hk1 hpm hl0 hleft HRk hu hlt
      clear hln
      rcases zero_or E1 with rfl | hE1
      · have HF64 : Hid (f.size = 64) := HS1.out rfl
        obtain ⟨Z, hZ⟩ : ∃ Z, Z = M.szE f q := ⟨_, rfl⟩
        obtain ⟨n, hn⟩ : ∃ n : Nat, M.szN f q = (n : Int) := ⟨(M.szN f q).toNat, by
          by_cases e : M.szE f q = 0
          · have := M.szE_ok e; omega
          · rw [M.szE_no e]; rfl⟩
        have HZok : Hid (Z = 0 → 2 ≤ n ∧ n ≤ 17 ∧ 0 ≤ q ∧ q < 281474976710656) := fun e => by rw [hZ] at e; have := M.szE_ok e; omega
        have HZs : Hid (Z = M.szE f q ∧ M.szN f q = (n : Int)) := ⟨hZ, hn⟩
        have hn17 : (n : Int) ≤ 17 := by
          by_cases e : M.szE f q = 0
          · have := M.szE_ok e; omega
          · rw [M.szE_no e] at hn; omega
        clear hZ hn HS1
        have HSZ1 : Hid (∀ y rk L v, AllSt w y rb b fr mn P rk L v → Calls Tryz.prog 39 #[.string f, .int .i64 q] y fun e y' => e = .returned (.tuple #[.int .i64 (n : Nat), .int .i64 Z]) ∧ AllSt w y' rb b fr mn P rk L v) := fun y rk L v hs => by
          have := HSZ.out f q y rk L v hs s7
          rw [HZs.out.2, ← HZs.out.1] at this
          exact this
        by_cases hok : Z = 0 ∧ n ≤ left
        · obtain ⟨hZ, hnl⟩ := hok
          have HN := Lib.hid (HZok.out hZ)
          have HXn := Lib.hid (M.next_by (X := M.rR) HL0.out.1 HXX.out (by rw [← HZs.out.1]; exact hZ) HZs.out.2 hnl)
          obtain ⟨D, hD⟩ : ∃ D, D = M.rdr M.rR fr mn (n - 1) r1 (p + 1) f := ⟨_, rfl⟩
          rw [← hD, ← HX1.out] at HXn
          have HD1 := Lib.hid hD
          have hnl' : (n : Int) ≤ (left : Int) := by omega
          have hnl2 : ¬ (left : Int) < (n : Int) := by omega
          have hnl3 : decide (left < n) = false := by simp; omega
          have HNL : Hid (n ≤ left) := hnl
          subst hZ
          clear hD HXX HX1 HZs HZok hnl
          go_wp2_with fail
          refine C1.out.mono ?_
          rintro e w1 ⟨rfl, h1⟩
          have H1 := Lib.hid h1
          have d2 := HC.out _ _ _ _ h1
          clear h1 c2 C1
          go_wp2_with fail
          refine (HSZ1.out _ _ _ _ H1.out).mono ?_
          rintro e w2 ⟨rfl, h2⟩
          have H2 := Lib.hid h2
          have e2 := HC.out _ _ _ _ h2
          clear h2 d2 H1 HSZ1
          go_wp2_with fail
          go_loopw [12, 16] (fun s i wr => ∃ (j : Nat) (sk : ByteArray) (r2 : M.R), 1 ≤ j ∧ j ≤ n ∧ s = .string sk ∧ i = .int .i64 (j : Nat) ∧ Hid (AllSt w wr rb b fr mn P r2 L (.slice VA ln VC)) ∧ Hid (r2.seen = r.seen ∧ r2.ops ≤ rk.ops + j ∧ sk.size = 64 * j) ∧ Hid (D = M.rdr M.rR fr mn (n - j) r2 (p + j) sk)) (fun s i _ => n - (intOf i).toNat)
          case atStart => exact ⟨1, f, r1, Nat.le_refl _, by have := HN.out; omega, rfl, rfl, H2, ⟨HK1.out.1, HK1.out.2, HF64.out⟩, HD1.out⟩
          case round =>
            obtain ⟨j, sk, r2, hj1, hjn, rfl, rfl, HA2, HK2, HD2⟩ := hrel
            clear H2 e2 HD1 HK1 HF64 HA
            have e2 := HC.out _ _ _ _ HA2.out
            have z1 : (sk.size : Int) ≤ 2000 := by have := HK2.out; have := HN.out; omega
            by_cases hjl : j < n
            · have hjl' : (j : Int) < (n : Int) := by omega
              obtain ⟨x2, hx2⟩ : ∃ x, x = M.rdr M.rR fr mn 1 r2 (p + j) ⟨#[]⟩ := ⟨_, rfl⟩
              have C2 := HRD.out (p + j) _ _ _ _ HA2.out HK2.out.1 (by have := HK2.out; have := HK.out; have := HO.out; have := HL0.out; have := HN.out; omega)
              rw [← hx2] at C2
              have hk2 := M.rR_keeps fr mn 1 r2 (p + j) ⟨#[]⟩
              rw [← hx2] at hk2
              have hs2 : x2.2.1 = 0 → x2.1.size = 64 := fun e => by
                have := M.rR_size fr mn 1 r2 (p + j) ⟨#[]⟩ (by rw [HK2.out.1]; exact HQQ.out) (by rw [← hx2]; exact e)
                rw [← hx2] at this
                exact this
              have hD3 : D = if x2.2.1 = 0 then M.rdr M.rR fr mn (n - (j + 1)) x2.2.2 (p + (j + 1)) (sk ++ x2.1) else (⟨#[]⟩, x2.2) := by
                rw [HD2.out, show n - j = n - (j + 1) + 1 by omega, M.rdr_one, ← hx2]
                rfl
              obtain ⟨t, E2, r3⟩ := x2
              have C2 := Lib.hid C2
              have HK3 : Hid (r3.seen = r.seen ∧ r3.ops ≤ r2.ops + 1) := ⟨by rw [← HK2.out.1]; exact hk2.1, hk2.2.1⟩
              have HD3 := Lib.hid hD3
              have HT := Lib.hid hs2
              obtain ⟨pj, hpj⟩ : ∃ pj, pj = p + j := ⟨_, rfl⟩
              obtain ⟨at2, hat⟩ : ∃ a, a = (p + j) % mn := ⟨_, rfl⟩
              have t1 : (p : Int) + (j : Int) = (pj : Int) := by omega
              have t2 : (pj : Int).tmod (mn : Int) = (at2 : Int) := by
                rw [Int.tmod_eq_emod_of_nonneg (by omega), hat, hpj]
                exact (Int.natCast_emod _ _).symm
              have t3 : (pj : Int) ≤ 2000 := by omega
              rw [← hat] at C2
              have hj9 : (j : Int) ≤ 1000 := by omega
              have HJ : Hid (1 ≤ j ∧ j < n) := ⟨hj1, hjl⟩
              clear hD3 hk2 hs2 hx2 hpj hat HD2 hj1 hjn hjl
              rcases zero_or E2 with rfl | hE2
              · have ht64 : Hid (t.size = 64) := HT.out rfl
                have z2 : (t.size : Int) ≤ 64 := by have := ht64.out; omega
                have HD4 : Hid (D = M.rdr M.rR fr mn (n - (j + 1)) r3 (p + (j + 1)) (sk ++ t)) := by show D = _; rw [HD3.out, if_pos rfl]
                clear HD3 HT
                go_wp2_with fail
                refine C2.out.mono ?_
                rintro e w3 ⟨rfl, h3⟩
                have H3 := Lib.hid h3
                clear h3 e2 C2
                go_wp2_with fail
                refine ⟨?_, ?_⟩
                · exact ⟨j + 1, sk ++ t, r3, by omega, HJ.out.2, rfl, by go_num, H3, ⟨HK3.out.1, by have := HK3.out; have := HK2.out; omega, by rw [ByteArray.size_append, HK2.out.2.2, ht64.out]; omega⟩, HD4.out⟩
                · have := HJ.out; simp [intOf]; omega
              · have hE20 : E2 ≠ 0 := by simpa using hE2
                have HD4 : Hid (D = (⟨#[]⟩, E2, r3)) := by show D = _; rw [HD3.out, if_neg hE20]
                have HXf : Hid (R = (E2, r3, u, L.map M.RecV.told)) := by
                  have e : X = (E2, 0, ⟨#[]⟩, r3) := by rw [HXn.out, HD4.out, if_pos hE20]
                  have := HXe.out (by rw [e]; exact Or.inr rfl)
                  rw [e] at this
                  exact this
                clear HD3 HT HD4 hE20
                go_wp2_with fail
                refine C2.out.mono ?_
                rintro e w3 ⟨rfl, h3⟩
                have H3 := Lib.hid h3
                clear h3 e2 C2
                go_wp2_with fail
                go_returns
                exact ⟨E2, r3, u, L, _, HXf.out, rfl, H3.out.recs, H3.out.ref, H3.out.kept, by have := HL0.out; omega⟩
            · have e : j = n := by omega
              subst e
              have hjl' : ¬ (j : Int) < (j : Int) := by omega
              have HD4 : Hid (D = (sk, 0, r2)) := by show D = _; rw [HD2.out, Nat.sub_self, M.rdr]
              have HXf : Hid (X = if M.getE sk ≠ 0 then (0, 0, ⟨#[]⟩, r2) else (0, j, sk, r2)) := by show X = _; rw [HXn.out, HD4.out, if_neg (fun e => e rfl)]
              have HG1 := Lib.hid (HGT.out sk)
              have HSK : Hid (sk.size ≤ 100000) := by have := HK2.out; have := HN.out; show sk.size ≤ _; omega
              clear hjl hjn hj1 HD2 HXn HD4
              go_wp2_with fail
              refine (HG1.out _ HSK.out).mono ?_
              rintro e w3 ⟨vs, rfl, hV, hb3, hNV⟩
              have H3 := Lib.hid (HA2.out.below hb3)
              have HNV := Lib.hid hNV
              have HV := Lib.hid hV
              obtain ⟨SA, SC, hv, _⟩ := hV
              obtain ⟨SN, hSN⟩ : ∃ SN, SN = M.getN sk := ⟨_, rfl⟩
              rw [← hSN] at hv
              have HSN := Lib.hid hSN
              clear hSN hb3 hNV
              subst hv
              obtain ⟨G, hG⟩ : ∃ G, G = M.getE sk := ⟨_, rfl⟩
              obtain ⟨GQ, hGQ⟩ : ∃ G, G = M.getQ sk := ⟨_, rfl⟩
              have HG := Lib.hid hG
              rw [← hG, ← hGQ]
              clear hG hGQ e2
              have e2 := HC.out _ _ _ _ H3.out
              rcases zero_or G with rfl | hGE
              · have HX5 : Hid (X = (0, j, sk, r2)) := by show X = _; rw [HXf.out, if_neg (fun e => e HG.out.symm)]
                have HRn : Hid (R = M.scan M.rR fr mn p0 q0 most k' r2 (u + j) (L.map M.RecV.told ++ [⟨q, p, sk⟩])) := by
                  have := HXo.out (by rw [HX5.out]) (by rw [HX5.out]; have := HN.out; show j ≠ 0; omega)
                  rw [HX5.out] at this
                  exact this
                have hsn : SN = M.gN sk := by rw [HSN.out, M.getN, if_pos HG.out.symm]
                have HVV : Hid (M.gN sk ≤ SC ∧ SC ≤ maxLen ∧ SecF w3 SA (M.gN sk) (M.gA sk) (M.gT sk)) := by
                  obtain ⟨A, c, e1, e2, e3, e4⟩ := HV.out
                  injection e1 with f1 f2 f3
                  subst f1
                  subst f3
                  rw [M.getN, if_pos HG.out.symm] at e2 e4
                  exact ⟨e2, e3, e4⟩
                subst hsn
                have HO3 : Hid (w3.ownsRow w.heap.size 96 3 (.slice VA ln VC) ln (M.rcells L)) := by have := H3.out.recs.own; rwa [← HL0.out.2.2.2.2.1] at this
                have HB0 : Hid (∀ j u, [Value.int .i64 q, .int .i64 (p : Nat), .slice SA (M.gN sk) SC][j]? = some u → (w3.alloc (.cells #[.int .i64 q, .int .i64 (p : Nat), .slice SA (M.gN sk) SC] 96)).cell? ((⟨w3.heap.size, 0, none⟩ : Addr).add j) = some u) := cell3_new w3 _ _ _ _
                have HNN : Hid (ln + 1 ≤ maxLen ∧ (ln + 1) * 40 ≤ 140737488355328 ∧ w.heap.size ≤ w3.heap.size) := by
                  refine ⟨?_, ?_, H3.out.kept.size⟩
                  · unfold maxLen; omega
                  · omega
                have HEND : Hid (∀ z g c3, z.ownsRow w.heap.size 96 3 (.slice (some ⟨g, 0, none⟩) (ln + 1) c3) (ln + 1) (M.rcells L ++ [.int .i64 q, .int .i64 (p : Nat), .slice SA (M.gN sk) SC]) →
                    (w3.alloc (.cells #[.int .i64 q, .int .i64 (p : Nat), .slice SA (M.gN sk) SC] 96)).grownBy z (Value.slice VA ln VC).ownBlock → ((Value.slice VA ln VC).ownBlock = some g ∨ g = w3.heap.size + 1) →
                    AllSt w z rb b fr mn P r2 (L ++ [⟨q, p, sk, SA, SC⟩]) (.slice (some ⟨g, 0, none⟩) (ln + 1) c3)) := fun z g c3 ho hg hat =>
                  HMORE.out _ w3 z r2 L (.slice VA ln VC) _ H3.out HA2.out q p sk SA SC HG.out.symm HVV.out HNV.out _ hg (fun k e => by
                    have e2 : g = k := by simpa [Value.ownBlock] using e
                    exact hat.imp (fun e => by rw [e, e2]) (fun e => by omega)) (by rw [← HL0.out.2.2.2.2.1]; exact ho)
                have HKn : Hid (r2.seen = r.seen ∧ r2.ops ≤ r.ops + (u + j) ∧ 2 * (ln + 1) ≤ u + j ∧ mn + 1 ≤ k' + (u + j) ∧ (0 ≤ q0 ∧ q0 < 281474976710656)) := by
                  have a1 := HK2.out
                  have a2 := HK.out
                  have a3 := HN.out
                  have a4 := HL0.out
                  refine ⟨a1.1, by omega, by omega, by omega, ?_⟩
                  omega
                have HNj : Hid (2 ≤ j ∧ j ≤ left ∧ u < mn ∧ left = mn - u) := ⟨HN.out.1, HNL.out, HL0.out.2.2.1, HL0.out.2.2.2.1⟩
                clear HXf HV HVV HNV HSK HSN HG H3 HA2 HX5 HXe HXo hvc HK2 HK HN HNL HMORE HGT HG1 HRD HSZ HC HQQ HB
                go_wp2_with (at_builtin
                             go_loud (refine wpList_append_lies _ rfl _ _ 48 rfl w.heap.size 96 i0 (.agg #[.int .i64 0, .int .i64 0, .slice none 0 0]) 3 40 Tryz.underlying48 hi hz0 hz1 hz2 rfl (by decide) (.slice VA ln VC) _ _ rfl (HO3.out.alloc _) ⟨w3.heap.size, 0, none⟩ 1 1 [.int .i64 q, .int .i64 (p : Nat), .slice SA (M.gN sk) SC] rfl rfl HB0.out (fun x hx => by simp at hx; rcases hx with rfl | rfl | rfl <;> rfl) (by omega) HNN.out.1 HNN.out.2.1 (by rw [World.size_alloc]; have := HNN.out.2.2; omega) _ rfl ?_)
                             intro g3 c3 w4 hown3 hgrow3 hat3 _
                             go_loud (have HX := Lib.hid (HEND.out w4 g3 c3 hown3 hgrow3 (hat3.imp id (fun e => by rw [e, World.size_alloc]))))
                             clear hown3 hgrow3 hat3)
                go_roundw
                case rel => exact ⟨u + j, k', L ++ [⟨q, p, sk, SA, SC⟩], r2, by have := HNj.out; omega, by go_num, HX, ⟨HKn.out.1, HKn.out.2.1, by have := HKn.out; have := HL0.out; rw [List.length_append]; show 2 * (L.length + 1) ≤ _; omega, HKn.out.2.2.2.1, Or.inr HKn.out.2.2.2.2⟩, by show R = _; rw [HRn.out, List.map_append]; rfl⟩
                case measure => have := HNj.out; simp [intOf]; omega
              · have hGE0 : G ≠ 0 := by simpa using hGE
                have HRn : Hid (R = (0, r2, u, L.map M.RecV.told)) := by
                  have e : X = (0, 0, ⟨#[]⟩, r2) := by rw [HXf.out, if_pos (by rw [← HG.out]; exact hGE0)]
                  have := HXe.out (by rw [e]; exact Or.inr rfl)
                  rw [e] at this
                  exact this
                clear HXf HV HNV HSK HSN HG HXe HXo
                go_wp2_with fail
                go_returns
                exact ⟨0, r2, u, L, _, HRn.out, rfl, H3.out.recs, H3.out.ref, H3.out.kept, by have := HL0.out; omega⟩
        · have HRn : Hid (R = (0, r1, u, L.map M.RecV.told)) := by
            have e : X = (0, 0, ⟨#[]⟩, r1) := by
              rw [HX1.out, M.next, if_neg HL0.out.1, HXX.out, M.next2, if_neg (fun e => e rfl), if_pos (by rw [← HZs.out.1, HZs.out.2]; omega)]
            have := HXe.out (by rw [e]; exact Or.inr rfl)
            rw [e] at this
            exact this
          have hcase : ((Z == 0) = false) ∨ (Z = 0 ∧ (left : Int) < (n : Int)) := by
            by_cases e : Z = 0
            · exact Or.inr ⟨e, by omega⟩
            · exact Or.inl (by rw [beq_eq_false_iff_ne]; exact e)
          clear hok HXe HXo HXX HX1 HZok HZs
          rcases hcase with hZ | ⟨rfl, hZ⟩
          · have hZn : ¬ Z = 0 := by simpa using hZ
            have hZ2 : (Z != 0) = true := by simpa using hZn
            go_wp2_with fail
            refine C1.out.mono ?_
            rintro e w1 ⟨rfl, h1⟩
            have H1 := Lib.hid h1
            have d2 := HC.out _ _ _ _ h1
            clear h1 c2 C1
            go_wp2_with fail
            refine (HSZ1.out _ _ _ _ H1.out).mono ?_
            rintro e w2 ⟨rfl, h2⟩
            have H2 := Lib.hid h2
            have e2 := HC.out _ _ _ _ h2
            clear h2 d2 H1 HSZ1
            go_wp2_with fail
            go_returns
            exact ⟨0, r1, u, L, _, HRn.out, rfl, H2.out.recs, H2.out.ref, H2.out.kept, by have := HL0.out; omega⟩
          · go_wp2_with fail
            refine C1.out.mono ?_
            rintro e w1 ⟨rfl, h1⟩
            have H1 := Lib.hid h1
            have d2 := HC.out _ _ _ _ h1
            clear h1 c2 C1
            go_wp2_with fail
            refine (HSZ1.out _ _ _ _ H1.out).mono ?_
            rintro e w2 ⟨rfl, h2⟩
            have H2 := Lib.hid h2
            have e2 := HC.out _ _ _ _ h2
            clear h2 d2 H1 HSZ1
            go_wp2_with fail
            go_returns
            exact ⟨0, r1, u, L, _, HRn.out, rfl, H2.out.recs, H2.out.ref, H2.out.kept, by have := HL0.out; omega⟩
      · have hE10 : E1 ≠ 0 := by simpa using hE1
        have HRn : Hid (R = (E1, r1, u, L.map M.RecV.told)) := by
          have e : X = (E1, 0, ⟨#[]⟩, r1) := by rw [HX1.out, M.next, if_neg HL0.out.1, HXX.out, M.next2, if_pos hE10]
          have := HXe.out (by rw [e]; exact Or.inr rfl)
          rw [e] at this
          exact this
        clear HXe HXo HXX HX1 HS1 hE10
        go_wp2_with fail
        refine C1.out.mono ?_
        rintro e w1 ⟨rfl, h1⟩
        have H1 := Lib.hid h1
        clear h1 c2 C1
        go_wp2_with fail
        go_returns
        exact ⟨E1, r1, u, L, _, HRn.out, rfl, H1.out.recs, H1.out.ref, H1.out.kept, by have := HL0.out; omega⟩
    · have e : u = mn := by omega
      subst e
      have hlt' : ¬ (u : Int) < (u : Int) := by omega
      have HRn : Hid (R = (0, rk, u, L.map M.RecV.told)) := by
        have e : X = (0, 0, ⟨#[]⟩, rk) := by rw [hX, M.next, if_pos (by omega)]
        have := HXe.out (by rw [e]; exact Or.inr rfl)
        rw [e] at this
        exact this
      clear hlt hu hX hX2 HXe HXo hqe hpe hln
      go_wp2_with fail
      go_returns
      exact ⟨0, rk, u, L, _, HRn.out, rfl, HA.out.recs, HA.out.ref, HA.out.kept, Nat.le_refl _⟩

/-- There is no such place. -/
theorem all_no (p : Int) (q : Int) (w : World) {rb b fr mn : Nat} (hr : RReg w rb b fr mn) (h : p < 0 ∨ (mn : Int) ≤ p) :
    Calls Tryz.prog 14 #[.pointer (some ⟨rb, 0, none⟩), .int .i64 p, .int .i64 q] w fun e w' => e = .returned (.tuple #[.slice none 0 0, .int .i64 0, .int .i64 3]) ∧ w' = w := by
  have c2 := hr.c2
  by_cases h0 : p < 0
  · clear hr h
    go_enter Tryz.func14, Tryz.ntmps14
    go_wp2_with fail
    go_returns
    exact ⟨rfl, rfl⟩
  · have h1 : (mn : Int) ≤ p := by omega
    clear hr h
    go_enter Tryz.func14, Tryz.ntmps14
    go_wp2_with fail
    go_returns
    exact ⟨rfl, rfl⟩
end Go.Proofs.YtfdbfafpcbdbdaaGreat
