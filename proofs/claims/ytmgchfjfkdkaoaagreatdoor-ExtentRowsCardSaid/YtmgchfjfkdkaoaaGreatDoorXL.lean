/-
  What ExtentRows knows, call by call. Walks over ExtentRows.
-/
import Derived.Test.YtmgchfjfkdkaoaaGreatDoorXD
import Derived.Test.YtmgchfjfkdkaoaaGreatDoorTB
namespace Go.Proofs.YtmgchfjfkdkaoaaGreatDoor
open Go.RowKit Go.Maps

theorem M.lok920 : M.lokB (9 : Nat) (2 : Nat) (24 : Nat) = true := by decide
theorem M.ll920 : M.ll 9 2 = 35 := rfl
/-- What the sectors from p0 on have behind a Save. -/
def M.J20 (p0 : Int) (t : ByteArray) (m : Nat) (V : Nat → ByteArray) : Prop := ∀ p : Nat, p0 = p → ∀ j, j < m → V (p + j) = t.extract (64 * j) (64 * j + 64)
theorem M.guards920 (i : Int) : M.guards (M.geo 9 2 24 M.lok920).N (M.geo 9 2 24 M.lok920).fr (M.geo 9 2 24 M.lok920).mn i = true ↔ 0 ≤ i ∧ i < 35 := by
  show M.guards 59 35 24 i = true ↔ _
  unfold M.guards
  simp
  omega
theorem M.gd920 {k : Nat} (hk : k < 35) : M.gd (M.geo 9 2 24 M.lok920) k := Or.inl (show k < 35 from hk)
/-- A wal of that volume, of the law's own. -/
def QR (N : Nat) (w2 : World) (I : (Nat → ByteArray) → Prop) (lb n : Nat) (x : World) (b : Nat) : Prop := ∃ d, QS (M.geo 9 2 24 M.lok920) (fun j => N ≤ j) N w2 b d [] I true lb n x
section
variable {N b n lb m : Nat} {w2 x z : World} {I : (Nat → ByteArray) → Prop} {p0 : Int} {t : ByteArray}
theorem QR.below (H : QR N w2 I lb n x b) : Below N w2 x := H.elim fun _ h => h.below
theorem QR.beside (H : QR N w2 I lb n x b) (hb : Below x.heap.size x z) : QR N w2 I lb n z b := H.imp fun _ h => h.beside hb
theorem QR.start (hE : Env10 w2) (hET : ErrT w2) : Calls Tryz.prog 9 #[Cf 9 2 24] w2 fun e z => ∃ d b, e = .returned (.tuple #[.pointer (some ⟨d, 0, none⟩), .pointer (some ⟨b, 0, none⟩)]) ∧ QR w2.heap.size w2 (fun _ => True) 0 6000 z b := by
  refine (begun16_ok 9 2 24 M.lok920 w2 hE hET).mono ?_
  rintro e z ⟨d, b, s, e1, e2, e3, e4, e5, e6⟩
  have q := QS.start (I := fun _ => True) (lb := 0) e2 (by rw [e4]; simp) e6 trivial
  rw [e3] at q
  exact ⟨d, b, e1, d, q⟩
theorem QR.save (H : QR N w2 I 0 n x b) (h0 : -9223372036854775808 ≤ p0) (h9 : p0 ≤ 9223372036854775807) (ht : t.size = 64 * m) (h1 : 1 ≤ m) (h16 : m ≤ 16) :
    Calls Tryz.prog 18 #[.pointer (some ⟨b, 0, none⟩), .int .i64 p0, .string t] x fun e z => ((0 ≤ p0 ∧ p0 + (m : Int) ≤ 35) ∧ e = .returned (.int .i64 0) ∧ QR N w2 (M.J20 p0 t m) 16 n z b) ∨ (¬ (0 ≤ p0 ∧ p0 + (m : Int) ≤ 35) ∧ e = .returned (.int .i64 3) ∧ QR N w2 (fun _ => True) 16 n z b) := by
  obtain ⟨d, z0, s, T, q0, q1, q2, q3, q4, q5, q6, q7⟩ := H
  refine (save20 q3.qa q4 p0 h0 h9 t m ht h1 (by omega)).mono ?_
  rintro e z ⟨⟨e1, e2, e3⟩ | ⟨⟨j, hj, e1⟩, e2, l', e3⟩, e4⟩
  · have g0 := (M.guards920 _).1 (e1 0 (by omega))
    have g1 := (M.guards920 _).1 (e1 (m - 1) (by omega))
    refine Or.inl ⟨⟨by omega, by omega⟩, e2, d, z0, _, T, q0, q1, q2, q3.call e3 e4, q4, e3.wa.ws.ll, q6, ?_⟩
    rintro p rfl j hj
    rw [M.rows20_now, if_pos (by omega), show p + j - p = j by omega]
  · have g0 : ¬ (0 ≤ p0 + (j : Nat) ∧ p0 + (j : Nat) < 35) := fun g => by rw [(M.guards920 _).2 g] at e1; cases e1
    exact Or.inr ⟨fun g => g0 (by omega), e2, d, z0, _, T, q0, q1, q2, q3.call e3 e4, q4, e3.wa.ws.ll, q6, trivial⟩
theorem QR.any (H : QR N w2 I lb n x b) (hn : n ≤ 300000) (h0 : -9223372036854775808 ≤ p0) (h9 : p0 ≤ 9223372036854775807) (h16 : m ≤ 16) :
    Calls Tryz.prog 19 #[.pointer (some ⟨b, 0, none⟩), .int .i64 p0, .int .i64 (m : Nat)] x fun e z => ∃ (u : ByteArray) (er : Int), e = .returned (.tuple #[.string u, .int .i64 er]) ∧ (∀ (p : Nat) (v : ByteArray), p0 = p → p + m ≤ 35 → (∀ V, I V → M.cat V p m = v) → u = v ∧ er = 0) ∧ QR N w2 I lb (n + 16) z b := by
  obtain ⟨d, z0, s, T, q0, q1, q2, q3, q4, q5, q6, q7⟩ := H
  refine (load20 q3.qa (by omega) p0 h0 h9 m h16).mono ?_
  rintro e z ⟨u, er, e1, e2, ⟨d', e3⟩, e4⟩
  refine ⟨u, er, e1, ?_, d, z0, _, T, q0, q1, q2, q3.call (e3.more (m := n + 16) (by omega)) e4, q4, q5, q6, q7⟩
  intro p v ep hp hV
  have := e2 p ep (fun j hj => M.gd920 (by omega))
  rw [hV _ q7] at this
  exact this
theorem QR.load (H : QR N w2 (M.J20 p0 t m) lb n x b) (hn : n ≤ 300000) (p : Nat) (hp : p0 = p) (hp9 : p + m ≤ 35) (h16 : m ≤ 16) (ht : t.size = 64 * m) :
    Calls Tryz.prog 19 #[.pointer (some ⟨b, 0, none⟩), .int .i64 (p : Nat), .int .i64 (m : Nat)] x fun e z => e = .returned (.tuple #[.string t, .int .i64 0]) ∧ QR N w2 (M.J20 p0 t m) lb (n + 16) z b := by
  refine (H.any hn (p0 := (p : Nat)) (by omega) (by omega) h16).mono ?_
  rintro e z ⟨u, er, e1, e2, e3⟩
  obtain ⟨rfl, rfl⟩ := e2 p t rfl hp9 (fun V hV => by
    rw [M.cat_extract V p m t (by omega) (fun j hj => hV p hp j hj) m (Nat.le_refl _), ← ht, M.whole20])
  exact ⟨e1, e3⟩
theorem QR.last (H : QR N w2 (M.J20 p0 t m) lb n x b) (hn : n ≤ 300000) (p : Nat) (hp : p0 = p) (hp9 : p + m ≤ 35) (h1 : 1 ≤ m) (ht : t.size = 64 * m) :
    Calls Tryz.prog 19 #[.pointer (some ⟨b, 0, none⟩), .int .i64 (p + m - 1 : Nat), .int .i64 1] x fun e z => e = .returned (.tuple #[.string (t.extract (64 * (m - 1)) t.size), .int .i64 0]) ∧ QR N w2 (M.J20 p0 t m) lb (n + 16) z b := by
  refine (H.any hn (p0 := (p + m - 1 : Nat)) (m := 1) (by omega) (by omega) (by omega)).mono ?_
  rintro e z ⟨u, er, e1, e2, e3⟩
  obtain ⟨rfl, rfl⟩ := e2 (p + m - 1) (t.extract (64 * (m - 1)) t.size) rfl (by omega) (fun V hV => by
    rw [M.cat_one, show p + m - 1 = p + (m - 1) by omega, hV p hp (m - 1) (by omega), show 64 * (m - 1) + 64 = t.size by omega])
  exact ⟨e1, e3⟩
end
end Go.Proofs.YtmgchfjfkdkaoaaGreatDoor
namespace Go.Proofs.YtmgchfjfkdkaoaaGreatDoor
open Go.RowKit Go.Maps

set_option maxRecDepth 100000 in
set_option maxHeartbeats 1000000 in
theorem extentRows_far (p0 many : Int) (t : ByteArray) (ht : 3000 < t.size) (w : World) (hE : Env10 w) (hET : ErrT w) :
    Calls Tryz.prog 4 #[.int .i64 p0, .string t, .int .i64 many] w fun en z => en = .returned (.bool true) ∧ Below w.heap.size w z := by
  have C0 := Lib.hid (works20_any w hE hET)
  have hd : decide ((3000 : Int) < (t.size : Int)) = true := by simp; omega
  have hd' : (3000 : Int) < (t.size : Int) := by omega
  clear hE hET ht
  go_enter Tryz.func4, Tryz.ntmps4
  go_wp2_with fail
  refine C0.out.mono ?_
  rintro en w1 ⟨rfl, hb1⟩
  have HB1 := Lib.hid hb1
  clear hb1 C0
  go_wp2_with fail
  go_ret
  exact ⟨rfl, HB1.out⟩

set_option maxRecDepth 100000 in
set_option maxHeartbeats 2000000 in
theorem extentRows_bad (p0 many : Int) (t : ByteArray) (hs : t.size ≤ 3000) (hb : t.size % 64 ≠ 0 ∨ t.size / 64 < 1 ∨ 16 < t.size / 64) (w : World) (hE : Env10 w) (hET : ErrT w) :
    Calls Tryz.prog 4 #[.int .i64 p0, .string t, .int .i64 many] w fun en z => en = .returned (.bool true) ∧ Below w.heap.size w z := by
  have C0 := Lib.hid (works20_any w hE hET)
  have HBG : Hid (∀ x, Below w.heap.size w x → Calls Tryz.prog 9 #[Cf 9 2 24] (x.alloc (Ck 9 2 24)) fun e z => ∃ d b, e = .returned (.tuple #[.pointer (some ⟨d, 0, none⟩), .pointer (some ⟨b, 0, none⟩)]) ∧ Below w.heap.size w z) := fun x hb => by
    have hb' := hb.trans ((ib1 x (Ck 9 2 24)).mono hb.size)
    refine (QR.start (hE.below hb') (hET.low hb' hET.lt)).mono ?_
    rintro e z ⟨d, b, e1, e2⟩
    exact ⟨d, b, e1, hb'.trans (e2.below.mono hb'.size)⟩
  have CS := Lib.hid (fun b x => save20_bad (some ⟨b, 0, none⟩) p0 t (by omega) hb x)
  obtain ⟨m, hm⟩ : ∃ m, m = t.size / 64 := ⟨_, rfl⟩
  obtain ⟨r, hr⟩ : ∃ r, r = t.size % 64 := ⟨_, rfl⟩
  have h1 : (t.size : Int).tmod 64 = (r : Int) := by rw [Int.tmod_eq_emod_of_nonneg (by omega)]; omega
  have h2 : (t.size : Int).tdiv 64 = (m : Int) := by rw [Int.tdiv_eq_ediv_of_nonneg (by omega)]; omega
  have h3 : (t.size : Int) % 64 = (r : Int) := by omega
  have h4 : (t.size : Int) / 64 = (m : Int) := by omega
  have h5 : (m : Int) ≤ 1000000 := by omega
  have h6 : (0 : Int) ≤ (m : Int) := by omega
  have hd : decide ((3000 : Int) < (t.size : Int)) = false := by simp; omega
  have hd' : ¬ (3000 : Int) < (t.size : Int) := by omega
  have hc : (1 ≤ m ∧ m ≤ 16 ∧ r ≠ 0) ∨ m = 0 ∨ 17 ≤ m := by omega
  clear hs hb hm hr hE hET
  rcases hc with ⟨m1, m2, hc⟩ | rfl | hc
  · have d1 : ((r : Int) == 0) = false := by rw [beq_eq_false_iff_ne]; omega
    have d2 : ((r : Int) != 0) = true := by rw [bne, d1]; rfl
    have d3 : ¬ (r : Int) = 0 := by omega
    have d4 : decide ((m : Int) < 1) = false := by simp; omega
    have d5 : ¬ (m : Int) < 1 := by omega
    have d6 : decide ((16 : Int) < (m : Int)) = false := by simp; omega
    have d7 : ¬ (16 : Int) < (m : Int) := by omega
    clear hc m1 m2
    go_enter Tryz.func4, Tryz.ntmps4
    go_wp2_with fail
    refine C0.out.mono ?_
    rintro en w1 ⟨rfl, hb1⟩
    have C1 := Lib.hid (HBG.out _ hb1)
    have HX : Hid (BCk (w1.alloc (Ck 9 2 24)) w1.heap.size 9 2 24) := Box.new _ _ _
    obtain ⟨c0, c1, c2⟩ := BCk.cells HX.out
    clear hb1 C0 HBG
    go_wp2_with fail
    refine C1.out.mono ?_
    rintro en w3 ⟨d, b, rfl, hb3⟩
    have HB3 := Lib.hid hb3
    clear hb3 C1 c0 c1 c2 HX
    go_wp2_with fail
    refine (CS.out _ _).mono ?_
    rintro en w4 ⟨rfl, rfl⟩
    go_wp2_with fail
    go_ret
    exact ⟨rfl, HB3.out⟩
  · go_enter Tryz.func4, Tryz.ntmps4
    go_wp2_with fail
    refine C0.out.mono ?_
    rintro en w1 ⟨rfl, hb1⟩
    have C1 := Lib.hid (HBG.out _ hb1)
    have HX : Hid (BCk (w1.alloc (Ck 9 2 24)) w1.heap.size 9 2 24) := Box.new _ _ _
    obtain ⟨c0, c1, c2⟩ := BCk.cells HX.out
    clear hb1 C0 HBG
    go_wp2_with fail
    refine C1.out.mono ?_
    rintro en w3 ⟨d, b, rfl, hb3⟩
    have HB3 := Lib.hid hb3
    clear hb3 C1 c0 c1 c2 HX
    go_wp2_with fail
    refine (CS.out _ _).mono ?_
    rintro en w4 ⟨rfl, rfl⟩
    go_wp2_with fail
    go_ret
    exact ⟨rfl, HB3.out⟩
  · have d4 : decide ((m : Int) < 1) = false := by simp; omega
    have d5 : ¬ (m : Int) < 1 := by omega
    have d6 : decide ((16 : Int) < (m : Int)) = true := by simp; omega
    have d7 : (16 : Int) < (m : Int) := by omega
    clear hc
    go_enter Tryz.func4, Tryz.ntmps4
    go_wp2_with fail
    refine C0.out.mono ?_
    rintro en w1 ⟨rfl, hb1⟩
    have C1 := Lib.hid (HBG.out _ hb1)
    have HX : Hid (BCk (w1.alloc (Ck 9 2 24)) w1.heap.size 9 2 24) := Box.new _ _ _
    obtain ⟨c0, c1, c2⟩ := BCk.cells HX.out
    clear hb1 C0 HBG
    go_wp2_with fail
    refine C1.out.mono ?_
    rintro en w3 ⟨d, b, rfl, hb3⟩
    have HB3 := Lib.hid hb3
    clear hb3 C1 c0 c1 c2 HX
    go_wp2_with fail
    refine (CS.out _ _).mono ?_
    rintro en w4 ⟨rfl, rfl⟩
    go_wp2_with fail
    go_ret
    exact ⟨rfl, HB3.out⟩

set_option maxRecDepth 100000 in
set_option maxHeartbeats 4000000 in
theorem extentRows_ok (p0 : Int) (h0 : -9223372036854775808 ≤ p0) (h9 : p0 ≤ 9223372036854775807) (t : ByteArray) (m : Nat) (ht : t.size = 64 * m) (m1 : 1 ≤ m) (m2 : m ≤ 16) (many : Int) (w : World) (hE : Env10 w) (hET : ErrT w) :
    Calls Tryz.prog 4 #[.int .i64 p0, .string t, .int .i64 many] w fun en z => en = .returned (.bool true) ∧ Below w.heap.size w z := by
  have C0 := Lib.hid (works20_any w hE hET)
  have HBG : Hid (∀ x, Below w.heap.size w x → Calls Tryz.prog 9 #[Cf 9 2 24] (x.alloc (Ck 9 2 24)) fun e z => ∃ d b, e = .returned (.tuple #[.pointer (some ⟨d, 0, none⟩), .pointer (some ⟨b, 0, none⟩)]) ∧ QR (x.alloc (Ck 9 2 24)).heap.size (x.alloc (Ck 9 2 24)) (fun _ => True) 0 6000 z b) := fun x hb => by
    have hb' := hb.trans ((ib1 x (Ck 9 2 24)).mono hb.size)
    exact QR.start (hE.below hb') (hET.low hb' hET.lt)
  have CL := Lib.hid (fun x => log15_ok 9 2 24 M.lok920 x)
  rw [M.ll920] at CL
  have HT : Hid (t.size = 64 * m ∧ 1 ≤ m ∧ m ≤ 16) := ⟨ht, m1, m2⟩
  have h1 : (t.size : Int).tmod 64 = 0 := by rw [Int.tmod_eq_emod_of_nonneg (by omega)]; omega
  have h2 : (t.size : Int).tdiv 64 = (m : Int) := by rw [Int.tdiv_eq_ediv_of_nonneg (by omega)]; omega
  have h3 : (t.size : Int) % 64 = 0 := by omega
  have h4 : (t.size : Int) / 64 = (m : Int) := by omega
  have h5 : (m : Int) ≤ 16 := by omega
  have h6 : (1 : Int) ≤ (m : Int) := by omega
  have hd : decide ((3000 : Int) < (t.size : Int)) = false := by simp; omega
  have hd' : ¬ (3000 : Int) < (t.size : Int) := by omega
  have d4 : decide ((m : Int) < 1) = false := by simp; omega
  have d5 : ¬ (m : Int) < 1 := by omega
  have d6 : decide ((16 : Int) < (m : Int)) = false := by simp; omega
  have d7 : ¬ (16 : Int) < (m : Int) := by omega
  have HP : Hid (-9223372036854775808 ≤ p0 ∧ p0 ≤ 9223372036854775807) := ⟨h0, h9⟩
  have hmany : (many < 0 ∨ (¬ many < 0 ∧ 16 < many)) ∨ ∃ k : Nat, many = k ∧ k ≤ 16 := by
    by_cases e : many < 0
    · exact Or.inl (Or.inl e)
    · by_cases e2 : 16 < many
      · exact Or.inl (Or.inr ⟨e, e2⟩)
      · exact Or.inr ⟨many.toNat, by omega, by omega⟩
  clear hE hET h0 h9 ht m1 m2
  go_enter Tryz.func4, Tryz.ntmps4
  go_wp2_with fail
  refine C0.out.mono ?_
  rintro en w1 ⟨rfl, hb1⟩
  have C1 := Lib.hid (HBG.out _ hb1)
  have HX : Hid (BCk (w1.alloc (Ck 9 2 24)) w1.heap.size 9 2 24) := Box.new _ _ _
  obtain ⟨N, hN⟩ : ∃ N, N = (w1.alloc (Ck 9 2 24)).heap.size := ⟨_, rfl⟩
  have FC : Hid (∀ y, Below N (w1.alloc (Ck 9 2 24)) y → y.cell? ⟨w1.heap.size, 0, none⟩ = some (.int .i64 9) ∧ y.cell? ⟨w1.heap.size, 1, none⟩ = some (.int .i64 2) ∧ y.cell? ⟨w1.heap.size, 2, none⟩ = some (.int .i64 24)) := fun y hb => BCk.cells (Box.below HX.out hb (by rw [hN]; exact Box.lt HX.out))
  have FB : Hid (∀ y, Below N (w1.alloc (Ck 9 2 24)) y → Below w.heap.size w y) := fun y hb => by
    have hb' := hb1.trans ((ib1 w1 (Ck 9 2 24)).mono hb1.size)
    exact hb'.trans (hb.mono (by rw [hN]; exact hb'.size))
  rw [← hN] at C1
  obtain ⟨c0, c1, c2⟩ := BCk.cells HX.out
  clear hb1 C0 HBG HX hN
  go_wp2_with fail
  refine C1.out.mono ?_
  rintro en w3 ⟨d, b, rfl, g3⟩
  obtain ⟨w2, hw2⟩ : ∃ v, v = w1.alloc (Ck 9 2 24) := ⟨_, rfl⟩
  rw [← hw2] at g3 FC FB
  have C2 := Lib.hid (g3.save (p0 := p0) HP.out.1 HP.out.2 HT.out.1 HT.out.2.1 HT.out.2.2)
  clear g3 C1 c0 c1 c2 hw2
  go_wp2_with fail
  refine C2.out.mono ?_
  rintro en w4 (⟨⟨r1, r2⟩, rfl, g4⟩ | ⟨r1, rfl, g4⟩)
  · -- all are staged
    obtain ⟨p, rfl⟩ : ∃ p : Nat, p0 = p := ⟨p0.toNat, by omega⟩
    have G4 := Lib.hid g4
    clear g4 C2
    obtain ⟨k0, k1, k2⟩ := FC.out w4 G4.out.below
    go_wp2_with fail
    refine (CL.out _).mono ?_
    rintro en w5 ⟨rfl, hb5⟩
    have G5 := Lib.hid (G4.out.beside hb5)
    clear hb5 G4 CL k0 k1 k2 FC
    have HPM : Hid (p + m ≤ 35) := by show p + m ≤ 35; omega
    obtain ⟨v, hv⟩ : ∃ v, v = 35 - p := ⟨_, rfl⟩
    have x1 : (0 : Int) ≤ (p : Int) := by omega
    have x2 : (p : Int) ≤ 35 := by omega
    have x3 : IntKind.i64.wrap (35 - (p : Int)) = (v : Int) := by rw [IntKind.wrap_i64]; omega
    have x4 : (m : Int) ≤ (v : Int) := by omega
    have x5 : decide ((m : Int) ≤ (v : Int)) = true := by simp; omega
    have x6 : decide ((0 : Int) ≤ (p : Int)) = true := by simp
    have x7 : decide ((p : Int) ≤ 35) = true := by simp; omega
    have x8 : decide (m ≤ v) = true := by simp; omega
    clear r1 r2 hv
    rcases hmany with hmany | ⟨k, rfl, hk⟩
    · have C6 := Lib.hid (fun y => load20_bad (some ⟨b, 0, none⟩) (p : Nat) many (by omega) y)
      rcases hmany with y1 | ⟨y1, y2⟩
      all_goals
        go_wp2_with fail
        refine (C6.out _).mono ?_
        rintro en w6 ⟨rfl, hb6⟩
        have G6 := Lib.hid (FB.out _ (G5.out.beside hb6).below)
        clear hb6 G5 x1 x2 x3 x4 x5 x6 x7 x8
        go_wp2_with fail
        go_ret
        exact ⟨rfl, G6.out⟩
    · have C6 := Lib.hid (G5.out.any (p0 := (p : Nat)) (m := k) (by omega) (by omega) (by omega) hk)
      have y0 : (0 : Int) ≤ (k : Int) := by omega
      have y1 : ¬ (k : Int) < 0 := by omega
      have y2 : ¬ (16 : Int) < (k : Int) := by omega
      have y3 : (k : Int) ≤ 16 := by omega
      clear hk
      go_wp2_with fail
      refine C6.out.mono ?_
      rintro en w6 ⟨u, er, rfl, -, g6⟩
      have C7 := Lib.hid (g6.load (by omega) p rfl HPM.out HT.out.2.2 HT.out.1)
      have C8 := Lib.hid (fun z q => QR.last (N := N) (w2 := w2) (t := t) (m := m) (p0 := (p : Nat)) (lb := 16) (n := 6000 + 16 + 16) (x := z) (b := b) q (by omega) p rfl HPM.out HT.out.2.1 HT.out.1)
      clear g6 C6 G5 x3 x4 x5 x6 x7 x8
      obtain ⟨q, hq⟩ : ∃ q, q = p + m := ⟨_, rfl⟩
      obtain ⟨q1, hq1⟩ : ∃ q1, q1 = p + m - 1 := ⟨_, rfl⟩
      obtain ⟨a1, ha1⟩ : ∃ a1, a1 = m - 1 := ⟨_, rfl⟩
      obtain ⟨st, hst⟩ : ∃ st, st = 64 * (m - 1) := ⟨_, rfl⟩
      rw [← hq1, ← hst] at C8
      obtain ⟨ht, m1, m2⟩ := HT.out
      have z1 : IntKind.i64.wrap ((p : Int) + (m : Int)) = (q : Int) := by rw [IntKind.wrap_i64]; omega
      have z2 : IntKind.i64.wrap ((q : Int) - 1) = (q1 : Int) := by rw [IntKind.wrap_i64]; have := HPM.out; omega
      have z3 : IntKind.i64.wrap ((m : Int) - 1) = (a1 : Int) := by rw [IntKind.wrap_i64]; omega
      have z4 : (a1 : Int) * 64 = (st : Int) := by omega
      have z5 : (0 : Int) ≤ (st : Int) := by omega
      have z6 : (st : Int) ≤ (t.size : Int) := by omega
      clear hq hq1 ha1 hst ht m1 m2 x1 x2
      go_wp2_with fail
      refine C7.out.mono ?_
      rintro en w7 ⟨rfl, g7⟩
      have C9 := Lib.hid (C8.out _ g7)
      clear g7 C7 C8
      go_wp2_with fail
      refine C9.out.mono ?_
      rintro en w8 ⟨rfl, g8⟩
      have G8 := Lib.hid (FB.out _ g8.below)
      clear g8 C9
      have s1 : (t.toList == t.toList) = true := by simp
      have s2 : ((t.extract st t.size).toList == (t.extract st t.size).toList) = true := by simp
      go_wp2_with fail
      go_ret
      exact ⟨rfl, G8.out⟩
  · -- not all are the volume's
    have G4 := Lib.hid g4
    clear g4 C2
    obtain ⟨k0, k1, k2⟩ := FC.out w4 G4.out.below
    go_wp2_with fail
    refine (CL.out _).mono ?_
    rintro en w5 ⟨rfl, hb5⟩
    have G5 := Lib.hid (G4.out.beside hb5)
    clear hb5 G4 CL k0 k1 k2 FC
    have hc : p0 < 0 ∨ 35 < p0 ∨ ∃ p : Nat, p0 = p ∧ p ≤ 35 ∧ 35 < p + m := by
      by_cases e : p0 < 0
      · exact Or.inl e
      · by_cases e2 : 35 < p0
        · exact Or.inr (Or.inl e2)
        · exact Or.inr (Or.inr ⟨p0.toNat, by omega, by omega, by omega⟩)
    have CM : Hid (∀ k : Nat, k ≤ 16 → Calls Tryz.prog 19 #[.pointer (some ⟨b, 0, none⟩), .int .i64 p0, .int .i64 (k : Nat)] w5 fun e z => ∃ (u : ByteArray) (er : Int), e = .returned (.tuple #[.string u, .int .i64 er]) ∧ Below w.heap.size w z) := fun k hk => by
      refine (G5.out.any (p0 := p0) (m := k) (by omega) HP.out.1 HP.out.2 hk).mono ?_
      rintro e z ⟨u, er, e1, -, e2⟩
      exact ⟨u, er, e1, FB.out _ e2.below⟩
    have CB : Hid (∀ many : Int, many < 0 ∨ 16 < many → Calls Tryz.prog 19 #[.pointer (some ⟨b, 0, none⟩), .int .i64 p0, .int .i64 many] w5 fun e z => e = .returned (.tuple #[.string ⟨#[]⟩, .int .i64 3]) ∧ Below w.heap.size w z) := fun many hm => by
      refine (load20_bad (some ⟨b, 0, none⟩) p0 many hm w5).mono ?_
      rintro e z ⟨e1, e2⟩
      exact ⟨e1, FB.out _ (G5.out.beside e2).below⟩
    clear r1 HP G5
    rcases hc with x1 | x1 | ⟨p, rfl, x1, x2⟩
    · have x3 : ¬ (0 : Int) ≤ p0 := by omega
      have x4 : decide ((0 : Int) ≤ p0) = false := by simp; omega
      rcases hmany with hmany | ⟨k, rfl, hk⟩
      · have C6 := Lib.hid (CB.out many (by omega))
        clear CM CB
        rcases hmany with y1 | ⟨y1, y2⟩
        all_goals
          go_wp2_with fail
          refine C6.out.mono ?_
          rintro en w6 ⟨rfl, hb6⟩
          have G6 := Lib.hid hb6
          clear hb6 C6
          go_wp2_with fail
          go_ret
          exact ⟨rfl, G6.out⟩
      · have C6 := Lib.hid (CM.out k hk)
        have y0 : (0 : Int) ≤ (k : Int) := by omega
        have y1 : ¬ (k : Int) < 0 := by omega
        have y2 : ¬ (16 : Int) < (k : Int) := by omega
        have y3 : (k : Int) ≤ 16 := by omega
        clear hk CM CB
        go_wp2_with fail
        refine C6.out.mono ?_
        rintro en w6 ⟨u, er, rfl, hb6⟩
        have G6 := Lib.hid hb6
        clear hb6 C6
        go_wp2_with fail
        go_ret
        exact ⟨rfl, G6.out⟩
    · have x2 : (0 : Int) ≤ p0 := by omega
      have x3 : ¬ p0 ≤ (35 : Int) := by omega
      have x4 : decide (p0 ≤ (35 : Int)) = false := by simp; omega
      have x5 : decide ((0 : Int) ≤ p0) = true := by simp; omega
      rcases hmany with hmany | ⟨k, rfl, hk⟩
      · have C6 := Lib.hid (CB.out many (by omega))
        clear CM CB
        rcases hmany with y1 | ⟨y1, y2⟩
        all_goals
          go_wp2_with fail
          refine C6.out.mono ?_
          rintro en w6 ⟨rfl, hb6⟩
          have G6 := Lib.hid hb6
          clear hb6 C6
          go_wp2_with fail
          go_ret
          exact ⟨rfl, G6.out⟩
      · have C6 := Lib.hid (CM.out k hk)
        have y0 : (0 : Int) ≤ (k : Int) := by omega
        have y1 : ¬ (k : Int) < 0 := by omega
        have y2 : ¬ (16 : Int) < (k : Int) := by omega
        have y3 : (k : Int) ≤ 16 := by omega
        clear hk CM CB
        go_wp2_with fail
        refine C6.out.mono ?_
        rintro en w6 ⟨u, er, rfl, hb6⟩
        have G6 := Lib.hid hb6
        clear hb6 C6
        go_wp2_with fail
        go_ret
        exact ⟨rfl, G6.out⟩
    · obtain ⟨v, hv⟩ : ∃ v, v = 35 - p := ⟨_, rfl⟩
      have x3 : IntKind.i64.wrap (35 - (p : Int)) = (v : Int) := by rw [IntKind.wrap_i64]; omega
      have x4 : ¬ (m : Int) ≤ (v : Int) := by omega
      have x5 : decide ((m : Int) ≤ (v : Int)) = false := by simp; omega
      have x6 : (0 : Int) ≤ (p : Int) := by omega
      have x7 : (p : Int) ≤ 35 := by omega
      have x8 : decide (m ≤ v) = false := by simp; omega
      clear x1 x2 hv
      rcases hmany with hmany | ⟨k, rfl, hk⟩
      · have C6 := Lib.hid (CB.out many (by omega))
        clear CM CB
        rcases hmany with y1 | ⟨y1, y2⟩
        all_goals
          go_wp2_with fail
          refine C6.out.mono ?_
          rintro en w6 ⟨rfl, hb6⟩
          have G6 := Lib.hid hb6
          clear hb6 C6
          go_wp2_with fail
          go_ret
          exact ⟨rfl, G6.out⟩
      · have C6 := Lib.hid (CM.out k hk)
        have y0 : (0 : Int) ≤ (k : Int) := by omega
        have y1 : ¬ (k : Int) < 0 := by omega
        have y2 : ¬ (16 : Int) < (k : Int) := by omega
        have y3 : (k : Int) ≤ 16 := by omega
        clear hk CM CB
        go_wp2_with fail
        refine C6.out.mono ?_
        rintro en w6 ⟨u, er, rfl, hb6⟩
        have G6 := Lib.hid hb6
        clear hb6 C6
        go_wp2_with fail
        go_ret
        exact ⟨rfl, G6.out⟩
theorem extentRows_walk (p0 : Int) (h0 : -9223372036854775808 ≤ p0) (h9 : p0 ≤ 9223372036854775807) (t : ByteArray) (many : Int) (_ : -9223372036854775808 ≤ many) (_ : many ≤ 9223372036854775807) (W : World) (hE : Env10 W ∧ ErrT W) :
    Calls Tryz.prog 4 #[.int .i64 p0, .string t, .int .i64 many] W fun en z => en = .returned (.bool true) ∧ Below W.heap.size W z := by
  by_cases h1 : 3000 < t.size
  · exact extentRows_far p0 many t h1 W hE.1 hE.2
  · by_cases h2 : t.size % 64 ≠ 0 ∨ t.size / 64 < 1 ∨ 16 < t.size / 64
    · exact extentRows_bad p0 many t (by omega) h2 W hE.1 hE.2
    · exact extentRows_ok p0 h0 h9 t (t.size / 64) (by omega) (by omega) (by omega) many W hE.1 hE.2
end Go.Proofs.YtmgchfjfkdkaoaaGreatDoor
