/-
  A walk over scan.next: the next record of a log. Records in memory, as told lays them; walks over the callbacks of told and of End.
-/
import Derived.Test.YtmgchfjfkdkaoaaGreatDoorMH
import Derived.Test.YtmgchfjfkdkaoaaGreatDoorMC
namespace Go.Proofs.YtmgchfjfkdkaoaaGreatDoor
open Go.RowKit

theorem SecF.kept {G : Nat → Prop} {w y : World} {A : Option Addr} {n : Nat} {a : Nat → Int} {t : Nat → ByteArray} (h : SecF w A n a t) (hk : Kept G w y) (hg : ∀ ad, A = some ad → ¬ G ad.block) : SecF y A n a t := by
  intro i hi
  obtain ⟨ad, h1, h2, h3, h4, h5⟩ := h i hi
  have hl : ¬ G (ad.add (i * 2)).block := by rw [add_block]; exact hg ad h1
  exact ⟨ad, h1, Nat.lt_of_lt_of_le h2 hk.size, hk.cell h3 hl, hk.cell h4 hl, h5⟩
theorem SecV.kept {G : Nat → Prop} {w y : World} {v : Value} {n : Nat} {a : Nat → Int} {t : Nat → ByteArray} (h : SecV w v n a t) (hk : Kept G w y) (hg : ∀ ad n c, v = .slice (some ad) n c → ¬ G ad.block) : SecV y v n a t := by
  obtain ⟨A, c, h1, h2, h3, h4⟩ := h
  exact ⟨A, c, h1, h2, h3, h4.kept hk (fun ad e => hg ad _ _ (by rw [h1, e]))⟩
theorem set3_kept (y : World) (r : Nat) (u0 u1 u2 : Value) : Kept (fun k => k = r) y (((y.setCell ⟨r, 0, none⟩ u0).setCell ⟨r, 1, none⟩ u1).setCell ⟨r, 2, none⟩ u2) :=
  (((Kept.refl (fun k => k = r) y).set (fun _ => rfl) 0 u0).set (fun _ => rfl) 1 u1).set (fun _ => rfl) 2 u2
theorem set3_cell {y : World} {r sb i : Nat} {u0 u1 u2 v : Value} (h : sb ≠ r) (hc : y.cell? ⟨sb, i, none⟩ = some v) : (((y.setCell ⟨r, 0, none⟩ u0).setCell ⟨r, 1, none⟩ u1).setCell ⟨r, 2, none⟩ u2).drew.cell? ⟨sb, i, none⟩ = some v := (set3_kept y r u0 u1 u2).drew.cell hc h
theorem set3_box {y : World} {r : Nat} {t : TypeId} {v0 v1 v2 u0 u1 u2 : Value} (h : Box y r t #[v0, v1, v2]) : Box (((y.setCell ⟨r, 0, none⟩ u0).setCell ⟨r, 1, none⟩ u1).setCell ⟨r, 2, none⟩ u2).drew r t #[u0, u1, u2] := ((h.set 0 u0).set 1 u1).set 2 u2
theorem zero_or (E : Int) : E = 0 ∨ (E == 0) = false := by
  by_cases h : E = 0
  · exact Or.inl h
  · exact Or.inr (by rw [beq_eq_false_iff_ne]; exact h)

/-- A scan in block sb. -/
def Sc (y : World) (sb rb : Nat) (p : Nat) (q : Int) (u : Nat) (fv : Value) : Prop := Box y sb 155 #[.pointer (some ⟨rb, 0, none⟩), .int .i64 (p : Nat), .int .i64 q, .int .i64 (u : Nat), fv]
theorem Sc.cells {y : World} {sb rb p u : Nat} {q : Int} {fv : Value} (h : Sc y sb rb p q u fv) : y.cell? ⟨sb, 0, none⟩ = some (.pointer (some ⟨rb, 0, none⟩)) ∧ y.cell? ⟨sb, 1, none⟩ = some (.int .i64 (p : Nat)) ∧ y.cell? ⟨sb, 2, none⟩ = some (.int .i64 q) ∧ y.cell? ⟨sb, 3, none⟩ = some (.int .i64 (u : Nat)) ∧ y.cell? ⟨sb, 4, none⟩ = some fv :=
  ⟨by simpa using Box.cell h 0, by simpa using Box.cell h 1, by simpa using Box.cell h 2, by simpa using Box.cell h 3, by simpa using Box.cell h 4⟩

/-- What next answers. -/
def Nx12 (w w' : World) (a : Nat) (P : Nat → Prop) (q : Int) (p : Nat) (x : Int × Nat × ByteArray × M.D) (e : Ending) : Prop :=
  (∃ (Q At : Int) (VA : Option Addr) (VL VC : Nat), e = .returned (.tuple #[.agg #[.int .i64 Q, .int .i64 At, .slice VA VL VC], .int .i64 (x.2.1 : Nat), .int .i64 x.1]) ∧ (x.2.1 ≠ 0 → Q = q ∧ At = (p : Nat) ∧ SecV w' (.slice VA VL VC) (M.gN x.2.2.1) (M.gA x.2.2.1) (M.gT x.2.2.1) ∧ NewV w (.slice VA VL VC))) ∧ Disk w' a P x.2.2.2 ∧ Kept P w w'
theorem Nx12.no {w w' : World} {a : Nat} {P : Nat → Prop} {q : Int} {p : Nat} {x : Int × Nat × ByteArray × M.D} {e : Ending} {E : Int} {s : ByteArray} {d : M.D} (hx : x = (E, 0, s, d)) (he : e = .returned (.tuple #[.agg #[.int .i64 0, .int .i64 0, .slice none 0 0], .int .i64 0, .int .i64 E])) (h : Disk w' a P d ∧ Kept P w w') : Nx12 w w' a P q p x e := by
  subst hx
  exact ⟨⟨0, 0, none, 0, 0, he, fun h => absurd rfl h⟩, h⟩
theorem Nx12.yes {w w' : World} {a : Nat} {P : Nat → Prop} {q : Int} {p : Nat} {x : Int × Nat × ByteArray × M.D} {e : Ending} {n : Nat} {s : ByteArray} {d : M.D} {VA : Option Addr} {VL VC : Nat} (hx : x = (0, n, s, d)) (he : e = .returned (.tuple #[.agg #[.int .i64 q, .int .i64 (p : Nat), .slice VA VL VC], .int .i64 (n : Nat), .int .i64 0])) (h : Disk w' a P d ∧ Kept P w w') (hV : SecV w' (.slice VA VL VC) (M.gN s) (M.gA s) (M.gT s)) (hN : NewV w (.slice VA VL VC)) : Nx12 w w' a P q p x e := by
  subst hx
  exact ⟨⟨q, p, VA, VL, VC, he, fun _ => ⟨rfl, rfl, hV, hN⟩⟩, h⟩

set_option maxRecDepth 100000 in
set_option maxHeartbeats 4000000 in
theorem next_any (p u : Nat) (q : Int) (fv : Value) (w : World) {sb rb a fr mn : Nat} {P : Nat → Prop} {d : M.D} (h : Disk w a P d) (hr : Reg w rb a fr mn) (hP : ¬ P rb) (hsc : Sc w sb rb p q u fv) (hPs : ¬ P sb) (hlow : ∀ k, P k → k < w.heap.size)
    (hf : fr ≤ 1000) (hmn : mn ≤ 1000) (hp : p < mn) (hu : u ≤ mn) (ho : d.ops ≤ 10000000) :
    Calls Tryz.prog 141 #[.pointer (some ⟨sb, 0, none⟩)] w fun e w' => Nx12 w w' a P q p (M.next M.dR fr mn d p q (mn - u)) e := by
  obtain ⟨r, hrr⟩ : ∃ r, r = w.heap.size := ⟨_, rfl⟩
  obtain ⟨w1, hw1⟩ : ∃ w1, w1 = w.alloc (.cells #[.int .i64 0, .int .i64 0, .slice none 0 0] 118) := ⟨_, rfl⟩
  have K1 : Kept P w w1 := by rw [hw1]; exact (Kept.refl P w).alloc _
  have hz1 : w1.heap.size = r + 1 := by rw [hw1, World.size_alloc, hrr]
  have hPr : ¬ P r := fun e => by have := hlow r e; omega
  have HC : Hid (∀ y, Kept P w1 y → y.cell? ⟨sb, 0, none⟩ = some (.pointer (some ⟨rb, 0, none⟩)) ∧ y.cell? ⟨sb, 1, none⟩ = some (.int .i64 (p : Nat)) ∧ y.cell? ⟨sb, 2, none⟩ = some (.int .i64 q) ∧ y.cell? ⟨sb, 3, none⟩ = some (.int .i64 (u : Nat))) := fun y hk => by
    have := Sc.cells (show Sc y sb rb p q u fv from (K1.trans hk).box hsc hPs)
    exact ⟨this.1, this.2.1, this.2.2.1, this.2.2.2.1⟩
  have HBB : Hid (∀ y, Kept P w1 y → Box y r 118 #[.int .i64 0, .int .i64 0, .slice none 0 0]) := fun y hk => by
    have h0 : Box w1 r 118 #[.int .i64 0, .int .i64 0, .slice none 0 0] := by rw [hw1, hrr]; exact Box.new _ _ _
    exact hk.box h0 hPr
  have HB : Hid (∀ y, Kept P w1 y → (y.cell? ⟨r, 0, none⟩ = some (.int .i64 0) ∧ y.cell? ⟨r, 1, none⟩ = some (.int .i64 0) ∧ y.cell? ⟨r, 2, none⟩ = some (.slice none 0 0)) ∧ y.frozen? ⟨r, 0, none⟩ = false ∧ y.frozen? ⟨r, 1, none⟩ = false ∧ y.frozen? ⟨r, 2, none⟩ = false) := fun y hk => by
    have hb := HBB.out y hk
    exact ⟨⟨by simpa using hb.cell 0, by simpa using hb.cell 1, by simpa using hb.cell 2⟩, hb.frozen 0, hb.frozen 1, hb.frozen 2⟩
  have HEND : Hid (∀ y u0 u1 u2 d', (Disk y a P d' ∧ Kept P w1 y) → Disk (((y.setCell ⟨r, 0, none⟩ u0).setCell ⟨r, 1, none⟩ u1).setCell ⟨r, 2, none⟩ u2) a P d' ∧ Kept P w (((y.setCell ⟨r, 0, none⟩ u0).setCell ⟨r, 1, none⟩ u1).setCell ⟨r, 2, none⟩ u2)) := fun y u0 u1 u2 d' hy =>
    ⟨hy.1.kept (set3_kept y r u0 u1 u2) (fun k e e' => hPr (e' ▸ e)), (K1.trans hy.2).next (set3_kept y r u0 u1 u2) (fun k hk e => by omega)⟩
  have HMN : Hid (∀ y, Kept P w1 y → Calls Tryz.prog 56 #[.pointer (some ⟨rb, 0, none⟩)] y fun e w' => e = .returned (.int .i64 (mn : Nat)) ∧ w' = y) := fun y hk => many_any y (hr.kept (K1.trans hk) hP)
  have HRO : Hid (∀ y, Kept P w1 y → Calls Tryz.prog 142 #[.pointer (some ⟨rb, 0, none⟩), .int .i64 ((p + 1 : Nat) : Int)] y fun e w' => e = .returned (.int .i64 (((p + 1) % mn : Nat) : Int)) ∧ w' = y) := fun y hk => round_any (p + 1) y (hr.kept (K1.trans hk) hP) (by omega) hmn (by omega)
  obtain ⟨x, hx⟩ : ∃ x, x = M.rdr M.dR fr mn 1 d p ⟨#[]⟩ := ⟨_, rfl⟩
  have HRD : Hid (∀ y, (Disk y a P d ∧ Kept P w1 y) → Calls Tryz.prog 67 #[.pointer (some ⟨rb, 0, none⟩), .int .i64 (p : Nat), .int .i64 1] y fun e w' => e = .returned (.tuple #[.string x.1, .int .i64 x.2.1]) ∧ Disk w' a P x.2.2 ∧ Kept P w1 w') := fun y hy => by
    have := gread_any (p : Nat) ((1 : Nat) : Int) y hy.1 (hr.kept (K1.trans hy.2) hP) hP (by omega) hf hmn (by omega)
    rw [M.gread_rdr d fr mn p 1 (by omega), ← hx] at this
    exact this.mono fun _ _ ⟨e1, e2, e3⟩ => ⟨e1, e2, hy.2.trans e3⟩
  have hk1 := (M.rdr_keeps fr mn 1 d p ⟨#[]⟩).2.2.1
  have HN0 : M.next M.dR fr mn d p q (mn - u) = if mn - u = 0 then (0, 0, ⟨#[]⟩, d) else M.next2 M.dR fr mn x p q (mn - u) := by rw [M.next, ← hx]
  rw [← hx] at hk1
  have hrd : ∀ m, m ≤ mn → ∀ y, (Disk y a P x.2.2 ∧ Kept P w1 y) → Calls Tryz.prog 154 #[.pointer (some ⟨rb, 0, none⟩), .int .i64 (((p + 1) % mn : Nat) : Int), .int .i64 (m : Nat)] y fun e w' => e = .returned (.tuple #[.string (M.rdr M.dR fr mn m x.2.2 (p + 1) ⟨#[]⟩).1, .int .i64 (M.rdr M.dR fr mn m x.2.2 (p + 1) ⟨#[]⟩).2.1]) ∧ Disk w' a P (M.rdr M.dR fr mn m x.2.2 (p + 1) ⟨#[]⟩).2.2 ∧ Kept P w1 w' := fun m hm y hy => by
    have := lread_any ((p + 1) % mn) m y hy.1 (hr.kept (K1.trans hy.2) hP) hP hf hmn (Nat.mod_lt _ (by omega)) hm (by omega)
    rw [M.rdr_mod] at this
    exact this.mono fun _ _ ⟨e1, e2, e3⟩ => ⟨e1, e2, hy.2.trans e3⟩
  obtain ⟨X, hX⟩ : ∃ X, X = M.next M.dR fr mn d p q (mn - u) := ⟨_, rfl⟩
  rw [← hX] at HN0 ⊢
  obtain ⟨left, hleft⟩ : ∃ left, left = mn - u := ⟨_, rfl⟩
  rw [← hleft] at HN0
  have a1 : IntKind.i64.wrap ((mn : Int) - (u : Int)) = (left : Int) := by rw [IntKind.wrap_i64]; omega
  have a2 : IntKind.i64.wrap ((p : Int) + 1) = ((p + 1 : Nat) : Int) := by rw [IntKind.wrap_i64]; omega
  have hl9 : (left : Int) ≤ 1000 := by omega
  have hlm : left ≤ mn := by omega
  have HA1 : Hid (Disk w1.drew a P d ∧ Kept P w1 w1.drew) := ⟨Disk.drewN (by rw [hw1]; exact h.kept ((Kept.refl (fun _ => False) w).alloc _) (fun _ _ => id)) 1, (Kept.refl P w1).drew⟩
  have HLOW : Hid (∀ (y y' : World) (d' : M.D), Disk y a P d' → Kept P w1 y → Below y.heap.size y y' → Disk y' a P d' ∧ Kept P w1 y') := fun y y' d' hd hk hb => ⟨hd.kept (Kept.of_below hb (fun _ => False)) (fun _ _ => id), hk.next (Kept.of_below hb P) (fun k _ e => e)⟩
  have HSZ := Lib.hid (fun y => size11_any x.1 q y)
  have HGT : Hid (∀ (s : ByteArray) y, Calls Tryz.prog 155 #[.string s] y fun e w' => Got12 s y e w') := fun s y => get12_any s y
  have HSS : Hid (x.2.1 = 0 → M.Inv d → x.1.size = 64) := fun e hi => by
    have := M.rdr_size fr mn 1 d p ⟨#[]⟩ hi (by rw [← hx]; exact e)
    rw [← hx] at this
    exact this
  have HSO : Hid (∀ m, (M.rdr M.dR fr mn m x.2.2 (p + 1) ⟨#[]⟩).2.1 = 0 → M.Inv x.2.2 → (M.rdr M.dR fr mn m x.2.2 (p + 1) ⟨#[]⟩).1.size = 64 * m) := fun m e hi => by
    have := M.rdr_size fr mn m x.2.2 (p + 1) ⟨#[]⟩ hi e
    rw [this]
    show 0 + 64 * m = 64 * m
    omega
  have HINV : Hid (M.Inv d) := h.inv
  have HRR : Hid (r = w.heap.size) := hrr
  have HW1 : Hid (w1 = w.alloc (.cells #[.int .i64 0, .int .i64 0, .slice none 0 0] 118)) := hw1
  have HLO := Lib.hid hrd
  have HLM : Hid (left ≤ mn ∧ mn ≤ 1000 ∧ r < w1.heap.size) := ⟨hlm, hmn, by omega⟩
  obtain ⟨f, E1, d1⟩ := x
  simp only at HRD HLO HSZ HSS HSO HN0
  obtain ⟨Z, hZ⟩ : ∃ Z, Z = M.szE f q := ⟨_, rfl⟩
  obtain ⟨n, hn⟩ : ∃ n : Nat, M.szN f q = (n : Int) := ⟨(M.szN f q).toNat, by
    by_cases e : M.szE f q = 0
    · have := M.szE_ok e; omega
    · rw [M.szE_no e]; rfl⟩
  have hnz : Z = 0 → 2 ≤ n ∧ n ≤ 17 := fun e => by rw [hZ] at e; have := M.szE_ok e; omega
  rw [hn, ← hZ] at HSZ
  have HXa : Hid (left ≠ 0 → E1 ≠ 0 → X = (E1, 0, ⟨#[]⟩, d1)) := fun h1 h2 => by rw [HN0, if_neg h1, M.next2, if_pos h2]
  have HXb : Hid (left ≠ 0 → E1 = 0 → (Z ≠ 0 ∨ left < n) → X = (0, 0, ⟨#[]⟩, d1)) := fun h1 h2 h3 => by
    rw [HN0, if_neg h1, M.next2, if_neg (fun e => e h2), ← hZ, hn, if_pos (by omega)]
  have HXc : Hid (left ≠ 0 → E1 = 0 → Z = 0 → n ≤ left → X = M.next3 (M.rdr M.dR fr mn (n - 1) d1 (p + 1) ⟨#[]⟩) f n) := fun h1 h2 h3 h4 => by
    rw [HN0, if_neg h1, M.next2, if_neg (fun e => e h2), ← hZ, hn, if_neg (by omega), Int.toNat_natCast]
  have HX0 : Hid (left = 0 → X = (0, 0, ⟨#[]⟩, d)) := fun h1 => by rw [HN0, if_pos h1]
  have HNZ := Lib.hid hnz
  obtain ⟨c0, c1, c2, c3⟩ := HC.out w1 (Kept.refl _ _)
  clear h hr hP hsc hPs hlow hf hmn hp hu ho hrr hw1 K1 hz1 hPr hx hk1 hrd HN0 hX hleft hlm hZ hn hnz
  go_enter Tryz.func141, Tryz.ntmps141
  go_wp2_with fail
  rw [← HW1.out, ← HRR.out]
  go_region_held3 (fun y => y.cell? ⟨sb, 0, none⟩ = some (.pointer (some ⟨rb, 0, none⟩)) ∧ y.cell? ⟨sb, 3, none⟩ = some (.int .i64 (u : Nat))) (first | exact ⟨c0, c3⟩) (first
    | (go_at_call 56
       refine (HMN.out _ HA1.out.2).mono ?_
       rintro e w2 ⟨rfl, rfl⟩))
  have HA2 : Hid (Disk w1.drew.drew a P d ∧ Kept P w1 w1.drew.drew) := ⟨HA1.out.1.drewN 1, HA1.out.2.drew⟩
  obtain ⟨y1, hy1⟩ : ∃ y1, y1 = w1.drew := ⟨_, rfl⟩
  rw [← hy1] at HA1 HA2 ⊢
  clear c0 c1 c2 c3 hy1 HMN HW1
  obtain ⟨c0, c1, c2, c3⟩ := HC.out y1 HA1.out.2
  by_cases hl : left = 0
  · have HX := Lib.hid (HX0.out hl)
    subst hl
    obtain ⟨⟨b0, b1, b2⟩, g0, g1, g2⟩ := HB.out y1 HA1.out.2
    go_wp2_with fail
    exact bodyPost_ret (v := .tuple #[.agg #[.int .i64 0, .int .i64 0, .slice none 0 0], .int .i64 0, .int .i64 0]) (by simp [results, Tryz.results141, go_sem, *]) rfl (Nx12.no HX.out rfl (HEND.out _ _ _ _ _ HA1.out))
  have hl' : ((left : Int) == 0) = false := by rw [beq_eq_false_iff_ne]; omega
  have HL : Hid (left ≠ 0) := hl
  clear hl HX0
  go_wp2_with fail
  go_region_held3 (fun y => y.cell? ⟨sb, 0, none⟩ = some (.pointer (some ⟨rb, 0, none⟩)) ∧ y.cell? ⟨sb, 1, none⟩ = some (.int .i64 (p : Nat))) (first | exact ⟨c0, c1⟩ | exact ⟨k0, k1⟩) (first
    | (go_at_call 67
       refine (HRD.out _ HA2.out).mono ?_
       rintro e w2 ⟨rfl, h2⟩
       have H2 := Lib.hid h2
       clear h2
       obtain ⟨k0, k1, k2, k3⟩ := HC.out w2 H2.out.2))
  clear c0 c1 c2 c3 HRD HA1 HA2
  obtain ⟨⟨b0, b1, b2⟩, g0, g1, g2⟩ := HB.out w2 H2.out.2
  rcases zero_or E1 with rfl | hE1
  · have HXB : Hid ((Z ≠ 0 ∨ left < n) → X = (0, 0, ⟨#[]⟩, d1)) := HXb.out HL.out rfl
    have HXC : Hid (Z = 0 → n ≤ left → X = M.next3 (M.rdr M.dR fr mn (n - 1) d1 (p + 1) ⟨#[]⟩) f n) := HXc.out HL.out rfl
    have HS1 : Hid (f.size = 64) := HSS.out rfl HINV.out
    clear HSS HINV HXa HXb HXc
    go_wp2_with fail
    refine (HSZ.out _).mono ?_
    rintro e w3 ⟨rfl, hb3⟩
    have H3 := Lib.hid (HLOW.out _ _ _ H2.out.1 H2.out.2 hb3)
    clear hb3 HSZ
    clear b0 b1 b2 g0 g1 g2 k0 k1 k2 k3 H2
    obtain ⟨⟨b0, b1, b2⟩, g0, g1, g2⟩ := HB.out w3 H3.out.2
    obtain ⟨k0, k1, k2, k3⟩ := HC.out w3 H3.out.2
    by_cases hok : Z = 0 ∧ n ≤ left
    · obtain ⟨hZ, hnl⟩ := hok
      obtain ⟨hn2, hn17⟩ := HNZ.out hZ
      have HX3 := Lib.hid (HXC.out hZ hnl)
      have H3d : Hid (Disk w3.drew a P d1 ∧ Kept P w1 w3.drew) := ⟨H3.out.1.drewN 1, H3.out.2.drew⟩
      obtain ⟨m, hm⟩ : ∃ m, m = n - 1 := ⟨_, rfl⟩
      have a3 : IntKind.i64.wrap ((n : Int) - 1) = (m : Int) := by rw [IntKind.wrap_i64]; omega
      have hnl' : (n : Int) ≤ (left : Int) := by omega
      have hn9 : (n : Int) ≤ 17 := by omega
      have HL2 := Lib.hid (HLO.out m (by have := HLM.out; omega) _ H3d.out)
      have HSM := Lib.hid (fun e => HSO.out m e H3.out.1.inv)
      have HNN : Hid (n = m + 1 ∧ m ≤ 16) := ⟨by omega, by omega⟩
      rw [← hm] at HX3
      obtain ⟨o, ho⟩ : ∃ o, o = M.rdr M.dR fr mn m d1 (p + 1) ⟨#[]⟩ := ⟨_, rfl⟩
      rw [← ho] at HX3 HL2 HSM
      obtain ⟨s2, E2, d2⟩ := o
      simp only at HL2 HSM
      subst hZ
      have hz0 : ((0 : Int) == 0) = true := by decide
      clear hn2 hn17 hm hnl HXB HXC HNZ HSO ho HLO
      go_wp2_with fail
      go_region_held3 (fun y => y.cell? ⟨sb, 0, none⟩ = some (.pointer (some ⟨rb, 0, none⟩)) ∧ y.cell? ⟨sb, 1, none⟩ = some (.int .i64 (p : Nat))) (first | exact ⟨k0, k1⟩ | exact ⟨l0, l1⟩) (first
        | (go_at_call 142
           refine (HRO.out _ H3d.out.2).mono ?_
           rintro e w4 ⟨rfl, rfl⟩)
        | (go_at_call 154
           refine HL2.out.mono ?_
           rintro e w4 ⟨rfl, h4⟩
           have H4 := Lib.hid h4
           clear h4
           obtain ⟨l0, l1, l2, l3⟩ := HC.out w4 H4.out.2))
      clear k0 k1 k2 k3 b0 b1 b2 g0 g1 g2 H3 H3d HL2 HRO
      obtain ⟨⟨b0, b1, b2⟩, g0, g1, g2⟩ := HB.out w4 H4.out.2
      rcases zero_or E2 with rfl | hE2
      · have hs2 : s2.size = 64 * m := HSM.out rfl
        have z1 : (f.size : Int) ≤ 64 := by have := HS1.out; omega
        have z2 : (s2.size : Int) ≤ 1024 := by have := HNN.out; omega
        have HX4 : Hid (X = if M.getE (f ++ s2) ≠ 0 then (0, 0, ⟨#[]⟩, d2) else (0, n, f ++ s2, d2)) := by
          show X = _
          rw [HX3.out, M.next3, if_neg (by simp)]
        clear hs2 HSM HX3
        go_wp2_with fail
        refine (HGT.out _ _).mono ?_
        rintro e w5 ⟨v, rfl, hV, hb5, hNV⟩
        have H5 := Lib.hid (HLOW.out _ _ _ H4.out.1 H4.out.2 hb5)
        have HV := Lib.hid hV
        obtain ⟨VA, VC, hv, _⟩ := hV
        obtain ⟨VL, hVL⟩ : ∃ VL, VL = M.getN (f ++ s2) := ⟨_, rfl⟩
        rw [← hVL] at hv
        clear hVL
        subst hv
        have HNV : Hid (NewV w (.slice VA VL VC) ∧ ∀ ad n c, Value.slice VA VL VC = .slice (some ad) n c → ad.block ≠ r) := ⟨fun ad n c e => by
            have := hNV ad n c e
            have h1 := H4.out.2.size
            have h2 := HRR.out
            have h3 := HLM.out
            omega, fun ad n c e => by
            have := hNV ad n c e
            have h1 := H4.out.2.size
            have h3 := HLM.out
            omega⟩
        clear hb5 hNV b0 b1 b2 g0 g1 g2 l0 l1 l2 l3 H4
        obtain ⟨⟨b0, b1, b2⟩, g0, g1, g2⟩ := HB.out w5 H5.out.2
        obtain ⟨l0, l1, l2, l3⟩ := HC.out w5 H5.out.2
        obtain ⟨G, hG⟩ : ∃ G, G = M.getE (f ++ s2) := ⟨_, rfl⟩
        obtain ⟨GQ, hGQ⟩ : ∃ G, G = M.getQ (f ++ s2) := ⟨_, rfl⟩
        have HG := Lib.hid hG
        rw [← hG] at HX4
        rw [← hG, ← hGQ]
        clear hG hGQ
        rcases zero_or G with rfl | hGE
        · have HX5 : Hid (X = (0, n, f ++ s2, d2)) := by show X = _; rw [HX4.out, if_neg (by simp)]
          have HV2 : Hid (SecV w5 (.slice VA VL VC) (M.gN (f ++ s2)) (M.gA (f ++ s2)) (M.gT (f ++ s2))) := by
            have := HV.out
            rw [M.getN, if_pos HG.out.symm] at this
            exact this
          have H5d : Hid (Disk w5.drew a P d2 ∧ Kept P w1 w5.drew) := ⟨H5.out.1.drewN 1, H5.out.2.drew⟩
          have HVd : Hid (SecV w5.drew (.slice VA VL VC) (M.gN (f ++ s2)) (M.gA (f ++ s2)) (M.gT (f ++ s2))) := HV2.out.kept ((Kept.refl (fun _ => False) w5).drewN 1) (fun _ _ _ _ => id)
          clear HX4 HV HG
          have hsr : sb ≠ r := fun e => by
            have h0 := (HB.out w5 H5.out.2).1.1
            rw [← e, l0] at h0
            cases h0
          have hsr1 : (sb == r) = false := by simpa using hsr
          have hsr2 : (r == sb) = false := by simpa using Ne.symm hsr
          clear l0 l3
          go_wp2_with fail
          go_region_held3 (fun y => y.cell? ⟨sb, 1, none⟩ = some (.int .i64 (p : Nat)) ∧ y.cell? ⟨sb, 2, none⟩ = some (.int .i64 q)) (first | exact ⟨l1, l2⟩ | exact ⟨set3_cell hsr l1, set3_cell hsr l2⟩) (first | fail)
          have HF : Hid (Disk (((w5.setCell ⟨r, 0, none⟩ (.int .i64 q)).setCell ⟨r, 1, none⟩ (.int .i64 (p : Nat))).setCell ⟨r, 2, none⟩ (.slice VA VL VC)).drew a P d2 ∧ Kept P w (((w5.setCell ⟨r, 0, none⟩ (.int .i64 q)).setCell ⟨r, 1, none⟩ (.int .i64 (p : Nat))).setCell ⟨r, 2, none⟩ (.slice VA VL VC)).drew) :=
            ⟨(HEND.out w5 _ _ _ _ H5.out).1.drewN 1, (HEND.out w5 _ _ _ _ H5.out).2.drew⟩
          have HFV : Hid (SecV (((w5.setCell ⟨r, 0, none⟩ (.int .i64 q)).setCell ⟨r, 1, none⟩ (.int .i64 (p : Nat))).setCell ⟨r, 2, none⟩ (.slice VA VL VC)).drew (.slice VA VL VC) (M.gN (f ++ s2)) (M.gA (f ++ s2)) (M.gT (f ++ s2))) :=
            HV2.out.kept (set3_kept w5 r _ _ _).drew (fun ad n c e => HNV.out.2 ad n c e)
          have HFB : Hid (Box (((w5.setCell ⟨r, 0, none⟩ (.int .i64 q)).setCell ⟨r, 1, none⟩ (.int .i64 (p : Nat))).setCell ⟨r, 2, none⟩ (.slice VA VL VC)).drew r 118 #[.int .i64 q, .int .i64 (p : Nat), .slice VA VL VC]) := set3_box (HBB.out w5 H5.out.2)
          obtain ⟨W, hW⟩ : ∃ W, W = (((w5.setCell ⟨r, 0, none⟩ (.int .i64 q)).setCell ⟨r, 1, none⟩ (.int .i64 (p : Nat))).setCell ⟨r, 2, none⟩ (.slice VA VL VC)).drew := ⟨_, rfl⟩
          rw [← hW] at HF HFV HFB ⊢
          clear hW b0 b1 b2 g0 g1 g2 l1 l2
          have b0 : W.cell? ⟨r, 0, none⟩ = some (.int .i64 q) := by simpa using HFB.out.cell 0
          have b1 : W.cell? ⟨r, 1, none⟩ = some (.int .i64 (p : Nat)) := by simpa using HFB.out.cell 1
          have b2 : W.cell? ⟨r, 2, none⟩ = some (.slice VA VL VC) := by simpa using HFB.out.cell 2
          go_wp2_with fail
          exact bodyPost_ret (v := .tuple #[.agg #[.int .i64 q, .int .i64 (p : Nat), .slice VA VL VC], .int .i64 (n : Nat), .int .i64 0]) (by simp [results, Tryz.results141, go_sem, *]) rfl (Nx12.yes HX5.out rfl HF.out HFV.out HNV.out.1)
        · have HX5 : Hid (X = (0, 0, ⟨#[]⟩, d2)) := by show X = _; rw [HX4.out, if_pos (by simpa using hGE)]
          clear HX4
          go_wp2_with fail
          exact bodyPost_ret (v := .tuple #[.agg #[.int .i64 0, .int .i64 0, .slice none 0 0], .int .i64 0, .int .i64 0]) (by simp [results, Tryz.results141, go_sem, *]) rfl (Nx12.no HX5.out rfl (HEND.out _ _ _ _ _ H5.out))
      · have HX4 : Hid (X = (E2, 0, ⟨#[]⟩, d2)) := by
          show X = _
          rw [HX3.out, M.next3, if_pos (by simpa using hE2)]
        clear HX3 HSM
        go_wp2_with fail
        exact bodyPost_ret (v := .tuple #[.agg #[.int .i64 0, .int .i64 0, .slice none 0 0], .int .i64 0, .int .i64 E2]) (by simp [results, Tryz.results141, go_sem, *]) rfl (Nx12.no HX4.out rfl (HEND.out _ _ _ _ _ H4.out))
    · have HX3 := Lib.hid (HXB.out (by omega))
      have hcase : ((Z == 0) = false) ∨ (Z = 0 ∧ (left : Int) < (n : Int)) := by
        by_cases e : Z = 0
        · exact Or.inr ⟨e, by omega⟩
        · exact Or.inl (by rw [beq_eq_false_iff_ne]; exact e)
      clear hok HXB HXC HNZ HSO HLO
      rcases hcase with hZ | ⟨rfl, hZ⟩
      · have hZn : ¬ Z = 0 := by simpa using hZ
        have hZ2 : (Z != 0) = true := by simpa using hZn
        go_wp2_with fail
        exact bodyPost_ret (v := .tuple #[.agg #[.int .i64 0, .int .i64 0, .slice none 0 0], .int .i64 0, .int .i64 0]) (by simp [results, Tryz.results141, go_sem, *]) rfl (Nx12.no HX3.out rfl (HEND.out _ _ _ _ _ H3.out))
      · go_wp2_with fail
        exact bodyPost_ret (v := .tuple #[.agg #[.int .i64 0, .int .i64 0, .slice none 0 0], .int .i64 0, .int .i64 0]) (by simp [results, Tryz.results141, go_sem, *]) rfl (Nx12.no HX3.out rfl (HEND.out _ _ _ _ _ H3.out))
  · have HX := Lib.hid (HXa.out HL.out (by simpa using hE1))
    clear HXa HXb HXc HSZ HSS HSO
    go_wp2_with fail
    exact bodyPost_ret (v := .tuple #[.agg #[.int .i64 0, .int .i64 0, .slice none 0 0], .int .i64 0, .int .i64 E1]) (by simp [results, Tryz.results141, go_sem, *]) rfl (Nx12.no HX.out rfl (HEND.out _ _ _ _ _ H2.out))
end Go.Proofs.YtmgchfjfkdkaoaaGreatDoor
namespace Go.Proofs.YtmgchfjfkdkaoaaGreatDoor
open Go.RowKit

/-- A record in memory: its number, its place, its bytes, where its sectors lie. -/
structure M.RecV where
  q : Int
  at_ : Nat
  s : ByteArray
  A : Option Addr
  c : Nat
def M.RecV.told (x : M.RecV) : M.Rec := ⟨x.q, x.at_, x.s⟩
def M.rcells : List M.RecV → List Value
  | [] => []
  | x :: l => .int .i64 x.q :: .int .i64 (x.at_ : Nat) :: .slice x.A (M.gN x.s) x.c :: M.rcells l
theorem M.rcells_snoc (l : List M.RecV) (x : M.RecV) : M.rcells (l ++ [x]) = M.rcells l ++ [.int .i64 x.q, .int .i64 (x.at_ : Nat), .slice x.A (M.gN x.s) x.c] := by
  induction l with
  | nil => rfl
  | cons y l ih => simp [M.rcells, ih]
theorem M.rcells_at {l : List M.RecV} {i : Nat} {x : M.RecV} (h : l[i]? = some x) : (M.rcells l)[i * 3]? = some (.int .i64 x.q) ∧ (M.rcells l)[i * 3 + 1]? = some (.int .i64 (x.at_ : Nat)) ∧ (M.rcells l)[i * 3 + 2]? = some (.slice x.A (M.gN x.s) x.c) := by
  induction l generalizing i with
  | nil => simp at h
  | cons y l ih =>
    cases i with
    | zero =>
      simp at h
      subst h
      exact ⟨rfl, rfl, rfl⟩
    | succ i =>
      simp at h
      have := ih h
      rw [show (i + 1) * 3 = i * 3 + 3 by omega, show i * 3 + 3 + 1 = (i * 3 + 1) + 3 by omega, show i * 3 + 3 + 2 = (i * 3 + 2) + 3 by omega]
      simpa [M.rcells] using this
theorem M.get_n {s : ByteArray} (h : M.getE s = 0) : 1 ≤ M.gN s ∧ M.gN s ≤ 16 := by
  obtain ⟨_, h2, _⟩ := M.rE_ok _ _ (M.get_ok h).1
  exact h2

/-- These records lie in y, behind v; all from block N on. -/
structure RecsAt (N : Nat) (y : World) (v : Value) (l : List M.RecV) : Prop where
  own : y.ownsRow N 118 3 v l.length (M.rcells l)
  secs : ∀ x ∈ l, M.getE x.s = 0 ∧ M.gN x.s ≤ x.c ∧ x.c ≤ maxLen ∧ SecF y x.A (M.gN x.s) (M.gA x.s) (M.gT x.s) ∧ ∀ ad, x.A = some ad → N ≤ ad.block ∧ v.ownBlock ≠ some ad.block
theorem RecsAt.nil (N : Nat) (y : World) : RecsAt N y (.slice none 0 0) [] := ⟨World.ownsRow_nil _ _ _ _, fun x h => by cases h⟩
theorem RecsAt.kept {G : Nat → Prop} {N : Nat} {y z : World} {v : Value} {l : List M.RecV} (h : RecsAt N y v l) (hk : Kept G y z) (hg : ∀ k, G k → k < N) : RecsAt N z v l :=
  ⟨hk.owns h.own (fun k e e' => by have := (h.own.lt k e).1; have := hg k e'; omega), fun x hx => by
    obtain ⟨h1, h2, h3, h4, h5⟩ := h.secs x hx
    exact ⟨h1, h2, h3, h4.kept hk (fun ad e e' => by have := (h5 ad e).1; have := hg _ e'; omega), h5⟩⟩
theorem infoRec : (Tryz.prog.info? 118).map (fun i => (i.zero, i.size, i.bytes)) = some (some (.agg #[.int .i64 0, .int .i64 0, .slice none 0 0]), 3, 40) := by kernel_rfl
theorem cell3_new (w : World) (x y z : Value) (t : TypeId) : ∀ j u, [x, y, z][j]? = some u → (w.alloc (.cells #[x, y, z] t)).cell? ((⟨w.heap.size, 0, none⟩ : Addr).add j) = some u := by
  intro j u hj
  rw [blk_add, (Box.new w t #[x, y, z]).cell]
  match j, hj with
  | 0, hj => exact hj
  | 1, hj => exact hj
  | 2, hj => exact hj
  | j + 3, hj => simp at hj

end Go.Proofs.YtmgchfjfkdkaoaaGreatDoor
