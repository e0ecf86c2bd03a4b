/-
  Walks over super.Get. (Written by wip/gen_uget.py.)
-/
import Derived.Test.YtiflhbjhnonidaaGreatDoorUC
import Derived.Test.YtiflhbjhnonidaaGreatDoorMP
namespace Go.Proofs.YtiflhbjhnonidaaGreatDoor
open Go.RowKit

/-- What Get answers. -/
def M.sgot (r : M.Su × Int) : Value := .tuple #[Sv r.1.n r.1.r r.1.b r.1.c r.1.e r.1.s r.1.l, .int .i64 r.2]
theorem M.sgot_of {q : M.Su × Int} {n r b c e s l x : Int} (h : q = (⟨n, r, b, c, e, s, l⟩, x)) : Ending.returned (.tuple #[Sv n r b c e s l, .int .i64 x]) = .returned (M.sgot q) := by rw [h]; rfl
theorem S_toList : (⟨#[83]⟩ : ByteArray).toList = [83] := by rw [ByteArray.toList_eq]
theorem RdK.read16 {w y : World} {b : Nat} {tt : TypeId} {cs : Array Value} {t : ByteArray} (h : RdK w y b tt cs t 1) (hz : 12 ≤ t.size) :
    Calls Tryz.prog 33 #[.pointer (some ⟨b, 0, none⟩)] y fun en z => en = .returned (Sv (M.hnum t 1 2) (M.hnum t 2 3) (M.hnum t 3 7) (M.hnum t 7 8) (M.hnum t 8 9) (M.hnum t 9 10) (M.hnum t 10 12)) ∧ RdK w z b tt cs t 12 := by
  have hlt := h.lt
  refine (read16_any b t y h.rd hz).mono ?_
  rintro en z ⟨e1, e2, e3⟩
  exact ⟨e1, e2, e3.box h.box (by omega), h.below.trans (e3.below h.below.size (fun k hk e => by omega)), h.lt⟩
theorem RdK.left16 {w y : World} {b : Nat} {tt : TypeId} {cs : Array Value} {t : ByteArray} (h : RdK w y b tt cs t 12) (hz : t.size = 64) :
    Calls Tryz.prog 34 #[.pointer (some ⟨b, 0, none⟩)] y fun e y' => e = .returned (.int .i64 52) ∧ y = y' := by
  have h' := leftF b t ⟨12, 0⟩ y h.rd (by show 12 ≤ t.size; omega)
  have e : M.left t ⟨12, 0⟩ = 52 := by show (t.size : Int) - ((12 : Nat) : Int) = _; omega
  rw [e] at h'
  exact h'
theorem RdK.bytes7 {w y : World} {b k : Nat} {tt : TypeId} {cs : Array Value} {t : ByteArray} (h : RdK w y b tt cs t k) (z : Nat) (hz : k + z ≤ t.size) {hb : Nat} {n r bo c e s l : Int} (h2 : B7 y hb n r bo c e s l) (hne : b < hb) :
    Calls Tryz.prog 32 #[.pointer (some ⟨b, 0, none⟩), .int .i64 (z : Nat)] y fun e' y' => e' = .returned (.string (t.extract k (k + z))) ∧ RdK w y' b tt cs t (k + z) ∧ B7 y' hb n r bo c e s l := h.bytes2 z hz h2 hne

theorem sget16_size (t : ByteArray) (w : World) (h : t.size ≠ 64) :
    Calls Tryz.prog 11 #[.string t] w fun e w' => e = .returned (M.sgot (M.sget t)) ∧ Below w.heap.size w w' := by
  have HR : Hid (M.sget t = (⟨0, 0, 0, 0, 0, 0, 0⟩, 12)) := by show _ = _; unfold M.sget; rw [if_pos h]; rfl
  have hd : ((t.size : Int) == 64) = false := by rw [beq_eq_false_iff_ne]; omega
  have hd' : ((t.size : Int) != 64) = true := by rw [bne, hd]; rfl
  clear h
  go_enter Tryz.func11, Tryz.ntmps11
  go_wp2_with fail
  exact bodyPost_ret (v := .tuple #[.agg #[.int .i64 0, .int .i64 0, .int .i64 0, .int .i64 0, .int .i64 0, .int .i64 0, .int .i64 0], .int .i64 12]) (by simp [results, Tryz.results11, go_sem, *]) rfl ⟨M.sgot_of HR.out, ib1 _ _⟩

set_option maxHeartbeats 4000000 in
theorem sget16_form (t : ByteArray) (w : World) (h : t.size = 64) (h1 : t.extract 0 1 ≠ ⟨#[83]⟩) :
    Calls Tryz.prog 11 #[.string t] w fun e w' => e = .returned (M.sgot (M.sget t)) ∧ Below w.heap.size w w' := by
  have HR : Hid (M.sget t = (⟨0, 0, 0, 0, 0, 0, 0⟩, 4)) := by show _ = _; unfold M.sget; rw [if_neg (by simpa using h), if_pos h1]; rfl
  have hd : ((t.size : Int) == 64) = true := by rw [beq_iff_eq]; omega
  have hd' : ((t.size : Int) != 64) = false := by rw [bne, hd]; rfl
  have hne := ne_of_toList10 h1
  rw [S_toList] at hne
  have HC0 : Hid (∀ (b : Nat) (y : World), RdK w y b 25 #[.int .i64 0, .int .i64 0, .int .i64 0, .int .i64 0, .int .i64 0, .int .i64 0, .int .i64 0] t 0 → Calls Tryz.prog 32 #[.pointer (some ⟨b, 0, none⟩), .int .i64 1] y fun e y' => e = .returned (.string (t.extract 0 1)) ∧ RdK w y' b 25 #[.int .i64 0, .int .i64 0, .int .i64 0, .int .i64 0, .int .i64 0, .int .i64 0, .int .i64 0] t 1) := fun b y hR => hR.bytes 1 (by omega)
  obtain ⟨x, hx⟩ : ∃ x, x = t.extract 0 1 := ⟨_, rfl⟩
  rw [← hx] at hne HC0
  clear h h1 hx
  go_enter Tryz.func11, Tryz.ntmps11
  go_wp2_with fail
  refine (newK t w 25 #[.int .i64 0, .int .i64 0, .int .i64 0, .int .i64 0, .int .i64 0, .int .i64 0, .int .i64 0]).mono ?_
  rintro e w1 ⟨b, rfl, h1⟩
  have H1 := Lib.hid h1
  clear h1
  go_wp2_with fail
  refine (HC0.out _ _ H1.out).mono ?_
  rintro e w2 ⟨rfl, h2⟩
  have H2 := Lib.hid h2
  clear h2 H1
  obtain ⟨c0, c1, c2, c3, c4, c5, c6⟩ := B7.cells H2.out.box
  obtain ⟨f0, f1, f2, f3, f4, f5, f6⟩ := B7.frozen H2.out.box
  go_wp2_with fail
  exact bodyPost_ret (v := .tuple #[.agg #[.int .i64 0, .int .i64 0, .int .i64 0, .int .i64 0, .int .i64 0, .int .i64 0, .int .i64 0], .int .i64 4]) (by simp [results, Tryz.results11, go_sem, *]) rfl ⟨M.sgot_of HR.out, by (repeat refine Below.setCell ?_ (by simp) _); exact H2.out.below⟩

set_option maxHeartbeats 8000000 in
theorem sget16_sum (t : ByteArray) (w : World) (h : t.size = 64) (h1 : t.extract 0 1 = ⟨#[83]⟩) (h2 : t.extract 12 16 ≠ M.tail (t.extract 0 12)) :
    Calls Tryz.prog 11 #[.string t] w fun e w' => e = .returned (M.sgot (M.sget t)) ∧ Below w.heap.size w w' := by
  have HR : Hid (M.sget t = (⟨0, 0, 0, 0, 0, 0, 0⟩, 5)) := by show _ = _; unfold M.sget; rw [if_neg (by simpa using h), if_neg (by simpa using h1), if_pos h2]; rfl
  have hd : ((t.size : Int) == 64) = true := by rw [beq_iff_eq]; omega
  have hd' : ((t.size : Int) != 64) = false := by rw [bne, hd]; rfl
  have hs := str_eq_self ⟨#[83]⟩
  rw [S_toList] at hs
  have HC0 : Hid (∀ (b : Nat) (y : World), RdK w y b 25 #[.int .i64 0, .int .i64 0, .int .i64 0, .int .i64 0, .int .i64 0, .int .i64 0, .int .i64 0] t 0 → Calls Tryz.prog 32 #[.pointer (some ⟨b, 0, none⟩), .int .i64 1] y fun e y' => e = .returned (.string (t.extract 0 1)) ∧ RdK w y' b 25 #[.int .i64 0, .int .i64 0, .int .i64 0, .int .i64 0, .int .i64 0, .int .i64 0, .int .i64 0] t 1) := fun b y hR => hR.bytes 1 (by omega)
  have HC1 : Hid (∀ (b : Nat) (y : World), RdK w y b 25 #[.int .i64 0, .int .i64 0, .int .i64 0, .int .i64 0, .int .i64 0, .int .i64 0, .int .i64 0] t 1 → Calls Tryz.prog 33 #[.pointer (some ⟨b, 0, none⟩)] y fun e y' => e = .returned (Sv (M.hnum t 1 2) (M.hnum t 2 3) (M.hnum t 3 7) (M.hnum t 7 8) (M.hnum t 8 9) (M.hnum t 9 10) (M.hnum t 10 12)) ∧ RdK w y' b 25 #[.int .i64 0, .int .i64 0, .int .i64 0, .int .i64 0, .int .i64 0, .int .i64 0, .int .i64 0] t 12) := fun b y hR => hR.read16 (by omega)
  have HC2 : Hid (∀ (b : Nat) (y : World), RdK w y b 25 #[.int .i64 0, .int .i64 0, .int .i64 0, .int .i64 0, .int .i64 0, .int .i64 0, .int .i64 0] t 12 → Calls Tryz.prog 34 #[.pointer (some ⟨b, 0, none⟩)] y fun e y' => e = .returned (.int .i64 52) ∧ y = y') := fun b y hR => hR.left16 h
  have HC4 : Hid (∀ (b hb : Nat) (y : World), RdK w y b 25 #[.int .i64 0, .int .i64 0, .int .i64 0, .int .i64 0, .int .i64 0, .int .i64 0, .int .i64 0] t 12 → B7 y hb (M.hnum t 1 2) (M.hnum t 2 3) (M.hnum t 3 7) (M.hnum t 7 8) (M.hnum t 8 9) (M.hnum t 9 10) (M.hnum t 10 12) → b < hb → Calls Tryz.prog 32 #[.pointer (some ⟨b, 0, none⟩), .int .i64 4] y fun e y' => e = .returned (.string (t.extract 12 16)) ∧ RdK w y' b 25 #[.int .i64 0, .int .i64 0, .int .i64 0, .int .i64 0, .int .i64 0, .int .i64 0, .int .i64 0] t 16 ∧ B7 y' hb (M.hnum t 1 2) (M.hnum t 2 3) (M.hnum t 3 7) (M.hnum t 7 8) (M.hnum t 8 9) (M.hnum t 9 10) (M.hnum t 10 12)) := fun b hb y hR hX hl => hR.bytes7 4 (by omega) hX hl
  have hne := ne_of_toList10 h2
  have HC5 := Lib.hid (fun x => tail10 (t.extract 0 12) x (by rw [ByteArray.size_extract]; omega))
  obtain ⟨x1, hx1⟩ : ∃ x, x = M.hnum t 1 2 := ⟨_, rfl⟩
  obtain ⟨x2, hx2⟩ : ∃ x, x = M.hnum t 2 3 := ⟨_, rfl⟩
  obtain ⟨x3, hx3⟩ : ∃ x, x = M.hnum t 3 7 := ⟨_, rfl⟩
  obtain ⟨x4, hx4⟩ : ∃ x, x = M.hnum t 7 8 := ⟨_, rfl⟩
  obtain ⟨x5, hx5⟩ : ∃ x, x = M.hnum t 8 9 := ⟨_, rfl⟩
  obtain ⟨x6, hx6⟩ : ∃ x, x = M.hnum t 9 10 := ⟨_, rfl⟩
  obtain ⟨x7, hx7⟩ : ∃ x, x = M.hnum t 10 12 := ⟨_, rfl⟩
  rw [← hx1, ← hx2, ← hx3, ← hx4, ← hx5, ← hx6, ← hx7] at HC1 HC4
  obtain ⟨u, hu⟩ : ∃ x, x = t.extract 12 16 := ⟨_, rfl⟩
  obtain ⟨tl, hv⟩ : ∃ x, x = M.tail (t.extract 0 12) := ⟨_, rfl⟩
  rw [← hu] at HC4
  rw [← hv] at HC5
  rw [h1] at HC0
  have hle : (12 : Int) ≤ (t.size : Int) := by omega
  have hwr : IntKind.i64.wrap ((t.size : Int) - 52) = 12 := by rw [h]; decide
  rw [← hu, ← hv] at hne
  clear h1 h2 hx1 hx2 hx3 hx4 hx5 hx6 hx7 hu hv h
  go_enter Tryz.func11, Tryz.ntmps11
  go_wp2_with fail
  refine (newK t w 25 #[.int .i64 0, .int .i64 0, .int .i64 0, .int .i64 0, .int .i64 0, .int .i64 0, .int .i64 0]).mono ?_
  rintro e w1 ⟨b, rfl, h1⟩
  have H1 := Lib.hid h1
  clear h1
  go_wp2_with fail
  refine (HC0.out _ _ H1.out).mono ?_
  rintro e w2 ⟨rfl, h2⟩
  have H2 := Lib.hid h2
  clear h2 H1
  go_wp2_with fail
  refine (HC1.out _ _ H2.out).mono ?_
  rintro e w3 ⟨rfl, h3⟩
  have H3 := Lib.hid h3
  clear h3 H2
  have H4 := Lib.hid (H3.out.alloc (Sc16 x1 x2 x3 x4 x5 x6 x7))
  have HX4 := Lib.hid (B7.new w3 x1 x2 x3 x4 x5 x6 x7)
  have HN4 : Hid (b < w3.heap.size) := Box.lt H3.out.rd
  go_wp2_with fail
  refine (HC2.out _ _ H4.out).mono ?_
  rintro e w4 ⟨rfl, rfl⟩
  obtain ⟨w4, hw4⟩ : ∃ x, x = w3.alloc (Sc16 x1 x2 x3 x4 x5 x6 x7) := ⟨_, rfl⟩
  rw [← hw4] at H4 HX4 ⊢
  clear hw4
  obtain ⟨hb, hhb⟩ : ∃ x, x = w3.heap.size := ⟨_, rfl⟩
  rw [← hhb] at HX4 HN4 ⊢
  clear hhb
  go_wp2_with fail
  refine (HC4.out b hb w4 H4.out HX4.out HN4.out).mono ?_
  rintro e w5 ⟨rfl, h5, hx5⟩
  have H5 := Lib.hid h5
  have HX5 := Lib.hid hx5
  clear h5 hx5 H4 HX4
  go_wp2_with fail
  refine (HC5.out _).mono ?_
  rintro e w6 ⟨rfl, h6⟩
  have H6 := Lib.hid (H5.out.keep h6)
  have HX6 := Lib.hid (B7.below HX5.out h6 (B7.lt HX5.out))
  clear h6 H5 HX5
  obtain ⟨c0, c1, c2, c3, c4, c5, c6⟩ := B7.cells H6.out.box
  obtain ⟨f0, f1, f2, f3, f4, f5, f6⟩ := B7.frozen H6.out.box
  go_wp2_with fail
  exact bodyPost_ret (v := .tuple #[.agg #[.int .i64 0, .int .i64 0, .int .i64 0, .int .i64 0, .int .i64 0, .int .i64 0, .int .i64 0], .int .i64 5]) (by simp [results, Tryz.results11, go_sem, *]) rfl ⟨M.sgot_of HR.out, by (repeat refine Below.setCell ?_ (by simp) _); exact H6.out.below⟩

set_option maxHeartbeats 8000000 in
theorem sget16_not (t : ByteArray) (w : World) (h : t.size = 64) (h1 : t.extract 0 1 = ⟨#[83]⟩) (h2 : t.extract 12 16 = M.tail (t.extract 0 12)) (h3 : ¬ M.smay (M.sread t) = true) :
    Calls Tryz.prog 11 #[.string t] w fun e w' => e = .returned (M.sgot (M.sget t)) ∧ Below w.heap.size w w' := by
  have HR : Hid (M.sget t = (⟨0, 0, 0, 0, 0, 0, 0⟩, 4)) := by show _ = _; unfold M.sget; rw [if_neg (by simpa using h), if_neg (by simpa using h1), if_neg (by simpa using h2), if_neg (fun e => h3 e.1)]; rfl
  have hd : ((t.size : Int) == 64) = true := by rw [beq_iff_eq]; omega
  have hd' : ((t.size : Int) != 64) = false := by rw [bne, hd]; rfl
  have hs := str_eq_self ⟨#[83]⟩
  rw [S_toList] at hs
  have HC0 : Hid (∀ (b : Nat) (y : World), RdK w y b 25 #[.int .i64 0, .int .i64 0, .int .i64 0, .int .i64 0, .int .i64 0, .int .i64 0, .int .i64 0] t 0 → Calls Tryz.prog 32 #[.pointer (some ⟨b, 0, none⟩), .int .i64 1] y fun e y' => e = .returned (.string (t.extract 0 1)) ∧ RdK w y' b 25 #[.int .i64 0, .int .i64 0, .int .i64 0, .int .i64 0, .int .i64 0, .int .i64 0, .int .i64 0] t 1) := fun b y hR => hR.bytes 1 (by omega)
  have HC1 : Hid (∀ (b : Nat) (y : World), RdK w y b 25 #[.int .i64 0, .int .i64 0, .int .i64 0, .int .i64 0, .int .i64 0, .int .i64 0, .int .i64 0] t 1 → Calls Tryz.prog 33 #[.pointer (some ⟨b, 0, none⟩)] y fun e y' => e = .returned (Sv (M.hnum t 1 2) (M.hnum t 2 3) (M.hnum t 3 7) (M.hnum t 7 8) (M.hnum t 8 9) (M.hnum t 9 10) (M.hnum t 10 12)) ∧ RdK w y' b 25 #[.int .i64 0, .int .i64 0, .int .i64 0, .int .i64 0, .int .i64 0, .int .i64 0, .int .i64 0] t 12) := fun b y hR => hR.read16 (by omega)
  have HC2 : Hid (∀ (b : Nat) (y : World), RdK w y b 25 #[.int .i64 0, .int .i64 0, .int .i64 0, .int .i64 0, .int .i64 0, .int .i64 0, .int .i64 0] t 12 → Calls Tryz.prog 34 #[.pointer (some ⟨b, 0, none⟩)] y fun e y' => e = .returned (.int .i64 52) ∧ y = y') := fun b y hR => hR.left16 h
  have HC4 : Hid (∀ (b hb : Nat) (y : World), RdK w y b 25 #[.int .i64 0, .int .i64 0, .int .i64 0, .int .i64 0, .int .i64 0, .int .i64 0, .int .i64 0] t 12 → B7 y hb (M.hnum t 1 2) (M.hnum t 2 3) (M.hnum t 3 7) (M.hnum t 7 8) (M.hnum t 8 9) (M.hnum t 9 10) (M.hnum t 10 12) → b < hb → Calls Tryz.prog 32 #[.pointer (some ⟨b, 0, none⟩), .int .i64 4] y fun e y' => e = .returned (.string (t.extract 12 16)) ∧ RdK w y' b 25 #[.int .i64 0, .int .i64 0, .int .i64 0, .int .i64 0, .int .i64 0, .int .i64 0, .int .i64 0] t 16 ∧ B7 y' hb (M.hnum t 1 2) (M.hnum t 2 3) (M.hnum t 3 7) (M.hnum t 7 8) (M.hnum t 8 9) (M.hnum t 9 10) (M.hnum t 10 12)) := fun b hb y hR hX hl => hR.bytes7 4 (by omega) hX hl
  have hne : ((t.extract 12 16).toList == (M.tail (t.extract 0 12)).toList) = true := by rw [h2]; exact str_eq_self _
  have HP := Lib.hid (fun x => sput16_any (M.hnum t 1 2) (M.hnum t 2 3) (M.hnum t 3 7) (M.hnum t 7 8) (M.hnum t 8 9) (M.hnum t 9 10) (M.hnum t 10 12) x)
  have h3' : M.sput16 ⟨M.hnum t 1 2, M.hnum t 2 3, M.hnum t 3 7, M.hnum t 7 8, M.hnum t 8 9, M.hnum t 9 10, M.hnum t 10 12⟩ = .tuple #[.string ⟨#[]⟩, .int .i64 3] := by unfold M.sput16; exact if_neg h3
  rw [h3'] at HP
  clear h3'
  have HC5 := Lib.hid (fun x => tail10 (t.extract 0 12) x (by rw [ByteArray.size_extract]; omega))
  obtain ⟨x1, hx1⟩ : ∃ x, x = M.hnum t 1 2 := ⟨_, rfl⟩
  obtain ⟨x2, hx2⟩ : ∃ x, x = M.hnum t 2 3 := ⟨_, rfl⟩
  obtain ⟨x3, hx3⟩ : ∃ x, x = M.hnum t 3 7 := ⟨_, rfl⟩
  obtain ⟨x4, hx4⟩ : ∃ x, x = M.hnum t 7 8 := ⟨_, rfl⟩
  obtain ⟨x5, hx5⟩ : ∃ x, x = M.hnum t 8 9 := ⟨_, rfl⟩
  obtain ⟨x6, hx6⟩ : ∃ x, x = M.hnum t 9 10 := ⟨_, rfl⟩
  obtain ⟨x7, hx7⟩ : ∃ x, x = M.hnum t 10 12 := ⟨_, rfl⟩
  rw [← hx1, ← hx2, ← hx3, ← hx4, ← hx5, ← hx6, ← hx7] at HC1 HC4 HP
  obtain ⟨u, hu⟩ : ∃ x, x = t.extract 12 16 := ⟨_, rfl⟩
  obtain ⟨tl, hv⟩ : ∃ x, x = M.tail (t.extract 0 12) := ⟨_, rfl⟩
  rw [← hu] at HC4
  rw [← hv] at HC5
  rw [h1] at HC0
  have hle : (12 : Int) ≤ (t.size : Int) := by omega
  have hwr : IntKind.i64.wrap ((t.size : Int) - 52) = 12 := by rw [h]; decide
  rw [← hu, ← hv] at hne
  clear h1 h2 hx1 hx2 hx3 hx4 hx5 hx6 hx7 hu hv h h3
  go_enter Tryz.func11, Tryz.ntmps11
  go_wp2_with fail
  refine (newK t w 25 #[.int .i64 0, .int .i64 0, .int .i64 0, .int .i64 0, .int .i64 0, .int .i64 0, .int .i64 0]).mono ?_
  rintro e w1 ⟨b, rfl, h1⟩
  have H1 := Lib.hid h1
  clear h1
  go_wp2_with fail
  refine (HC0.out _ _ H1.out).mono ?_
  rintro e w2 ⟨rfl, h2⟩
  have H2 := Lib.hid h2
  clear h2 H1
  go_wp2_with fail
  refine (HC1.out _ _ H2.out).mono ?_
  rintro e w3 ⟨rfl, h3⟩
  have H3 := Lib.hid h3
  clear h3 H2
  have H4 := Lib.hid (H3.out.alloc (Sc16 x1 x2 x3 x4 x5 x6 x7))
  have HX4 := Lib.hid (B7.new w3 x1 x2 x3 x4 x5 x6 x7)
  have HN4 : Hid (b < w3.heap.size) := Box.lt H3.out.rd
  go_wp2_with fail
  refine (HC2.out _ _ H4.out).mono ?_
  rintro e w4 ⟨rfl, rfl⟩
  obtain ⟨w4, hw4⟩ : ∃ x, x = w3.alloc (Sc16 x1 x2 x3 x4 x5 x6 x7) := ⟨_, rfl⟩
  rw [← hw4] at H4 HX4 ⊢
  clear hw4
  obtain ⟨hb, hhb⟩ : ∃ x, x = w3.heap.size := ⟨_, rfl⟩
  rw [← hhb] at HX4 HN4 ⊢
  clear hhb
  go_wp2_with fail
  refine (HC4.out b hb w4 H4.out HX4.out HN4.out).mono ?_
  rintro e w5 ⟨rfl, h5, hx5⟩
  have H5 := Lib.hid h5
  have HX5 := Lib.hid hx5
  clear h5 hx5 H4 HX4
  go_wp2_with fail
  refine (HC5.out _).mono ?_
  rintro e w6 ⟨rfl, h6⟩
  have H6 := Lib.hid (H5.out.keep h6)
  have HX6 := Lib.hid (B7.below HX5.out h6 (B7.lt HX5.out))
  clear h6 H5 HX5
  obtain ⟨d0, d1, d2, d3, d4, d5, d6⟩ := B7.cells HX6.out
  go_wp2_with fail
  refine (HP.out _).mono ?_
  rintro e w7 ⟨rfl, h7⟩
  have HX7 := Lib.hid (B7.below HX6.out h7 (B7.lt HX6.out))
  have H7 := Lib.hid (H6.out.keep h7)
  clear h7 H6 HX6 d0 d1 d2 d3 d4 d5 d6
  obtain ⟨d0, d1, d2, d3, d4, d5, d6⟩ := B7.cells HX7.out
  obtain ⟨c0, c1, c2, c3, c4, c5, c6⟩ := B7.cells H7.out.box
  obtain ⟨f0, f1, f2, f3, f4, f5, f6⟩ := B7.frozen H7.out.box
  have hne1 : (hb == w.heap.size) = false := by rw [beq_eq_false_iff_ne]; have := HN4.out; have := H7.out.lt; omega
  go_wp2_with fail
  exact bodyPost_ret (v := .tuple #[.agg #[.int .i64 0, .int .i64 0, .int .i64 0, .int .i64 0, .int .i64 0, .int .i64 0, .int .i64 0], .int .i64 4]) (by simp [results, Tryz.results11, go_sem, *]) rfl ⟨M.sgot_of HR.out, by (repeat refine Below.setCell ?_ (by simp) _); exact H7.out.below⟩

set_option maxHeartbeats 8000000 in
theorem sget16_other (t : ByteArray) (w : World) (h : t.size = 64) (h1 : t.extract 0 1 = ⟨#[83]⟩) (h2 : t.extract 12 16 = M.tail (t.extract 0 12)) (h3 : M.smay (M.sread t) = true) (h4 : M.swhole (M.sread t) ≠ t) :
    Calls Tryz.prog 11 #[.string t] w fun e w' => e = .returned (M.sgot (M.sget t)) ∧ Below w.heap.size w w' := by
  have HR : Hid (M.sget t = (⟨0, 0, 0, 0, 0, 0, 0⟩, 4)) := by show _ = _; unfold M.sget; rw [if_neg (by simpa using h), if_neg (by simpa using h1), if_neg (by simpa using h2), if_neg (fun e => h4 e.2)]; rfl
  have hd : ((t.size : Int) == 64) = true := by rw [beq_iff_eq]; omega
  have hd' : ((t.size : Int) != 64) = false := by rw [bne, hd]; rfl
  have hs := str_eq_self ⟨#[83]⟩
  rw [S_toList] at hs
  have HC0 : Hid (∀ (b : Nat) (y : World), RdK w y b 25 #[.int .i64 0, .int .i64 0, .int .i64 0, .int .i64 0, .int .i64 0, .int .i64 0, .int .i64 0] t 0 → Calls Tryz.prog 32 #[.pointer (some ⟨b, 0, none⟩), .int .i64 1] y fun e y' => e = .returned (.string (t.extract 0 1)) ∧ RdK w y' b 25 #[.int .i64 0, .int .i64 0, .int .i64 0, .int .i64 0, .int .i64 0, .int .i64 0, .int .i64 0] t 1) := fun b y hR => hR.bytes 1 (by omega)
  have HC1 : Hid (∀ (b : Nat) (y : World), RdK w y b 25 #[.int .i64 0, .int .i64 0, .int .i64 0, .int .i64 0, .int .i64 0, .int .i64 0, .int .i64 0] t 1 → Calls Tryz.prog 33 #[.pointer (some ⟨b, 0, none⟩)] y fun e y' => e = .returned (Sv (M.hnum t 1 2) (M.hnum t 2 3) (M.hnum t 3 7) (M.hnum t 7 8) (M.hnum t 8 9) (M.hnum t 9 10) (M.hnum t 10 12)) ∧ RdK w y' b 25 #[.int .i64 0, .int .i64 0, .int .i64 0, .int .i64 0, .int .i64 0, .int .i64 0, .int .i64 0] t 12) := fun b y hR => hR.read16 (by omega)
  have HC2 : Hid (∀ (b : Nat) (y : World), RdK w y b 25 #[.int .i64 0, .int .i64 0, .int .i64 0, .int .i64 0, .int .i64 0, .int .i64 0, .int .i64 0] t 12 → Calls Tryz.prog 34 #[.pointer (some ⟨b, 0, none⟩)] y fun e y' => e = .returned (.int .i64 52) ∧ y = y') := fun b y hR => hR.left16 h
  have HC4 : Hid (∀ (b hb : Nat) (y : World), RdK w y b 25 #[.int .i64 0, .int .i64 0, .int .i64 0, .int .i64 0, .int .i64 0, .int .i64 0, .int .i64 0] t 12 → B7 y hb (M.hnum t 1 2) (M.hnum t 2 3) (M.hnum t 3 7) (M.hnum t 7 8) (M.hnum t 8 9) (M.hnum t 9 10) (M.hnum t 10 12) → b < hb → Calls Tryz.prog 32 #[.pointer (some ⟨b, 0, none⟩), .int .i64 4] y fun e y' => e = .returned (.string (t.extract 12 16)) ∧ RdK w y' b 25 #[.int .i64 0, .int .i64 0, .int .i64 0, .int .i64 0, .int .i64 0, .int .i64 0, .int .i64 0] t 16 ∧ B7 y' hb (M.hnum t 1 2) (M.hnum t 2 3) (M.hnum t 3 7) (M.hnum t 7 8) (M.hnum t 8 9) (M.hnum t 9 10) (M.hnum t 10 12)) := fun b hb y hR hX hl => hR.bytes7 4 (by omega) hX hl
  have hne : ((t.extract 12 16).toList == (M.tail (t.extract 0 12)).toList) = true := by rw [h2]; exact str_eq_self _
  have HP := Lib.hid (fun x => sput16_any (M.hnum t 1 2) (M.hnum t 2 3) (M.hnum t 3 7) (M.hnum t 7 8) (M.hnum t 8 9) (M.hnum t 9 10) (M.hnum t 10 12) x)
  have h3' : M.sput16 ⟨M.hnum t 1 2, M.hnum t 2 3, M.hnum t 3 7, M.hnum t 7 8, M.hnum t 8 9, M.hnum t 9 10, M.hnum t 10 12⟩ = .tuple #[.string (M.swhole (M.sread t)), .int .i64 0] := by unfold M.sput16; exact if_pos h3
  rw [h3'] at HP
  have hweq : ((M.swhole (M.sread t)).toList == t.toList) = false := ne_of_toList10 h4
  obtain ⟨wh, hwh⟩ : ∃ x, x = M.swhole (M.sread t) := ⟨_, rfl⟩
  rw [← hwh] at HP hweq
  clear h3' h4 hwh
  have HC5 := Lib.hid (fun x => tail10 (t.extract 0 12) x (by rw [ByteArray.size_extract]; omega))
  obtain ⟨x1, hx1⟩ : ∃ x, x = M.hnum t 1 2 := ⟨_, rfl⟩
  obtain ⟨x2, hx2⟩ : ∃ x, x = M.hnum t 2 3 := ⟨_, rfl⟩
  obtain ⟨x3, hx3⟩ : ∃ x, x = M.hnum t 3 7 := ⟨_, rfl⟩
  obtain ⟨x4, hx4⟩ : ∃ x, x = M.hnum t 7 8 := ⟨_, rfl⟩
  obtain ⟨x5, hx5⟩ : ∃ x, x = M.hnum t 8 9 := ⟨_, rfl⟩
  obtain ⟨x6, hx6⟩ : ∃ x, x = M.hnum t 9 10 := ⟨_, rfl⟩
  obtain ⟨x7, hx7⟩ : ∃ x, x = M.hnum t 10 12 := ⟨_, rfl⟩
  rw [← hx1, ← hx2, ← hx3, ← hx4, ← hx5, ← hx6, ← hx7] at HC1 HC4 HP
  obtain ⟨u, hu⟩ : ∃ x, x = t.extract 12 16 := ⟨_, rfl⟩
  obtain ⟨tl, hv⟩ : ∃ x, x = M.tail (t.extract 0 12) := ⟨_, rfl⟩
  rw [← hu] at HC4
  rw [← hv] at HC5
  rw [h1] at HC0
  have hle : (12 : Int) ≤ (t.size : Int) := by omega
  have hwr : IntKind.i64.wrap ((t.size : Int) - 52) = 12 := by rw [h]; decide
  rw [← hu, ← hv] at hne
  clear h1 h2 hx1 hx2 hx3 hx4 hx5 hx6 hx7 hu hv h h3
  go_enter Tryz.func11, Tryz.ntmps11
  go_wp2_with fail
  refine (newK t w 25 #[.int .i64 0, .int .i64 0, .int .i64 0, .int .i64 0, .int .i64 0, .int .i64 0, .int .i64 0]).mono ?_
  rintro e w1 ⟨b, rfl, h1⟩
  have H1 := Lib.hid h1
  clear h1
  go_wp2_with fail
  refine (HC0.out _ _ H1.out).mono ?_
  rintro e w2 ⟨rfl, h2⟩
  have H2 := Lib.hid h2
  clear h2 H1
  go_wp2_with fail
  refine (HC1.out _ _ H2.out).mono ?_
  rintro e w3 ⟨rfl, h3⟩
  have H3 := Lib.hid h3
  clear h3 H2
  have H4 := Lib.hid (H3.out.alloc (Sc16 x1 x2 x3 x4 x5 x6 x7))
  have HX4 := Lib.hid (B7.new w3 x1 x2 x3 x4 x5 x6 x7)
  have HN4 : Hid (b < w3.heap.size) := Box.lt H3.out.rd
  go_wp2_with fail
  refine (HC2.out _ _ H4.out).mono ?_
  rintro e w4 ⟨rfl, rfl⟩
  obtain ⟨w4, hw4⟩ : ∃ x, x = w3.alloc (Sc16 x1 x2 x3 x4 x5 x6 x7) := ⟨_, rfl⟩
  rw [← hw4] at H4 HX4 ⊢
  clear hw4
  obtain ⟨hb, hhb⟩ : ∃ x, x = w3.heap.size := ⟨_, rfl⟩
  rw [← hhb] at HX4 HN4 ⊢
  clear hhb
  go_wp2_with fail
  refine (HC4.out b hb w4 H4.out HX4.out HN4.out).mono ?_
  rintro e w5 ⟨rfl, h5, hx5⟩
  have H5 := Lib.hid h5
  have HX5 := Lib.hid hx5
  clear h5 hx5 H4 HX4
  go_wp2_with fail
  refine (HC5.out _).mono ?_
  rintro e w6 ⟨rfl, h6⟩
  have H6 := Lib.hid (H5.out.keep h6)
  have HX6 := Lib.hid (B7.below HX5.out h6 (B7.lt HX5.out))
  clear h6 H5 HX5
  obtain ⟨d0, d1, d2, d3, d4, d5, d6⟩ := B7.cells HX6.out
  go_wp2_with fail
  refine (HP.out _).mono ?_
  rintro e w7 ⟨rfl, h7⟩
  have HX7 := Lib.hid (B7.below HX6.out h7 (B7.lt HX6.out))
  have H7 := Lib.hid (H6.out.keep h7)
  clear h7 H6 HX6 d0 d1 d2 d3 d4 d5 d6
  obtain ⟨d0, d1, d2, d3, d4, d5, d6⟩ := B7.cells HX7.out
  obtain ⟨c0, c1, c2, c3, c4, c5, c6⟩ := B7.cells H7.out.box
  obtain ⟨f0, f1, f2, f3, f4, f5, f6⟩ := B7.frozen H7.out.box
  have hne1 : (hb == w.heap.size) = false := by rw [beq_eq_false_iff_ne]; have := HN4.out; have := H7.out.lt; omega
  go_wp2_with fail
  exact bodyPost_ret (v := .tuple #[.agg #[.int .i64 0, .int .i64 0, .int .i64 0, .int .i64 0, .int .i64 0, .int .i64 0, .int .i64 0], .int .i64 4]) (by simp [results, Tryz.results11, go_sem, *]) rfl ⟨M.sgot_of HR.out, by (repeat refine Below.setCell ?_ (by simp) _); exact H7.out.below⟩

set_option maxHeartbeats 8000000 in
theorem sget16_good (t : ByteArray) (w : World) (h : t.size = 64) (h1 : t.extract 0 1 = ⟨#[83]⟩) (h2 : t.extract 12 16 = M.tail (t.extract 0 12)) (h3 : M.smay (M.sread t) = true) (h4 : M.swhole (M.sread t) = t) :
    Calls Tryz.prog 11 #[.string t] w fun e w' => e = .returned (M.sgot (M.sget t)) ∧ Below w.heap.size w w' := by
  have HR : Hid (M.sget t = (⟨M.hnum t 1 2, M.hnum t 2 3, M.hnum t 3 7, M.hnum t 7 8, M.hnum t 8 9, M.hnum t 9 10, M.hnum t 10 12⟩, 0)) := by show _ = _; unfold M.sget; rw [if_neg (by simpa using h), if_neg (by simpa using h1), if_neg (by simpa using h2), if_pos ⟨h3, h4⟩]; rfl
  have hd : ((t.size : Int) == 64) = true := by rw [beq_iff_eq]; omega
  have hd' : ((t.size : Int) != 64) = false := by rw [bne, hd]; rfl
  have hs := str_eq_self ⟨#[83]⟩
  rw [S_toList] at hs
  have HC0 : Hid (∀ (b : Nat) (y : World), RdK w y b 25 #[.int .i64 0, .int .i64 0, .int .i64 0, .int .i64 0, .int .i64 0, .int .i64 0, .int .i64 0] t 0 → Calls Tryz.prog 32 #[.pointer (some ⟨b, 0, none⟩), .int .i64 1] y fun e y' => e = .returned (.string (t.extract 0 1)) ∧ RdK w y' b 25 #[.int .i64 0, .int .i64 0, .int .i64 0, .int .i64 0, .int .i64 0, .int .i64 0, .int .i64 0] t 1) := fun b y hR => hR.bytes 1 (by omega)
  have HC1 : Hid (∀ (b : Nat) (y : World), RdK w y b 25 #[.int .i64 0, .int .i64 0, .int .i64 0, .int .i64 0, .int .i64 0, .int .i64 0, .int .i64 0] t 1 → Calls Tryz.prog 33 #[.pointer (some ⟨b, 0, none⟩)] y fun e y' => e = .returned (Sv (M.hnum t 1 2) (M.hnum t 2 3) (M.hnum t 3 7) (M.hnum t 7 8) (M.hnum t 8 9) (M.hnum t 9 10) (M.hnum t 10 12)) ∧ RdK w y' b 25 #[.int .i64 0, .int .i64 0, .int .i64 0, .int .i64 0, .int .i64 0, .int .i64 0, .int .i64 0] t 12) := fun b y hR => hR.read16 (by omega)
  have HC2 : Hid (∀ (b : Nat) (y : World), RdK w y b 25 #[.int .i64 0, .int .i64 0, .int .i64 0, .int .i64 0, .int .i64 0, .int .i64 0, .int .i64 0] t 12 → Calls Tryz.prog 34 #[.pointer (some ⟨b, 0, none⟩)] y fun e y' => e = .returned (.int .i64 52) ∧ y = y') := fun b y hR => hR.left16 h
  have HC4 : Hid (∀ (b hb : Nat) (y : World), RdK w y b 25 #[.int .i64 0, .int .i64 0, .int .i64 0, .int .i64 0, .int .i64 0, .int .i64 0, .int .i64 0] t 12 → B7 y hb (M.hnum t 1 2) (M.hnum t 2 3) (M.hnum t 3 7) (M.hnum t 7 8) (M.hnum t 8 9) (M.hnum t 9 10) (M.hnum t 10 12) → b < hb → Calls Tryz.prog 32 #[.pointer (some ⟨b, 0, none⟩), .int .i64 4] y fun e y' => e = .returned (.string (t.extract 12 16)) ∧ RdK w y' b 25 #[.int .i64 0, .int .i64 0, .int .i64 0, .int .i64 0, .int .i64 0, .int .i64 0, .int .i64 0] t 16 ∧ B7 y' hb (M.hnum t 1 2) (M.hnum t 2 3) (M.hnum t 3 7) (M.hnum t 7 8) (M.hnum t 8 9) (M.hnum t 9 10) (M.hnum t 10 12)) := fun b hb y hR hX hl => hR.bytes7 4 (by omega) hX hl
  have hne : ((t.extract 12 16).toList == (M.tail (t.extract 0 12)).toList) = true := by rw [h2]; exact str_eq_self _
  have HP := Lib.hid (fun x => sput16_any (M.hnum t 1 2) (M.hnum t 2 3) (M.hnum t 3 7) (M.hnum t 7 8) (M.hnum t 8 9) (M.hnum t 9 10) (M.hnum t 10 12) x)
  have h3' : M.sput16 ⟨M.hnum t 1 2, M.hnum t 2 3, M.hnum t 3 7, M.hnum t 7 8, M.hnum t 8 9, M.hnum t 9 10, M.hnum t 10 12⟩ = .tuple #[.string (M.swhole (M.sread t)), .int .i64 0] := by unfold M.sput16; exact if_pos h3
  rw [h3'] at HP
  have hweq : ((M.swhole (M.sread t)).toList == t.toList) = true := by rw [h4]; exact str_eq_self _
  obtain ⟨wh, hwh⟩ : ∃ x, x = M.swhole (M.sread t) := ⟨_, rfl⟩
  rw [← hwh] at HP hweq
  clear h3' h4 hwh
  have HC5 := Lib.hid (fun x => tail10 (t.extract 0 12) x (by rw [ByteArray.size_extract]; omega))
  obtain ⟨x1, hx1⟩ : ∃ x, x = M.hnum t 1 2 := ⟨_, rfl⟩
  obtain ⟨x2, hx2⟩ : ∃ x, x = M.hnum t 2 3 := ⟨_, rfl⟩
  obtain ⟨x3, hx3⟩ : ∃ x, x = M.hnum t 3 7 := ⟨_, rfl⟩
  obtain ⟨x4, hx4⟩ : ∃ x, x = M.hnum t 7 8 := ⟨_, rfl⟩
  obtain ⟨x5, hx5⟩ : ∃ x, x = M.hnum t 8 9 := ⟨_, rfl⟩
  obtain ⟨x6, hx6⟩ : ∃ x, x = M.hnum t 9 10 := ⟨_, rfl⟩
  obtain ⟨x7, hx7⟩ : ∃ x, x = M.hnum t 10 12 := ⟨_, rfl⟩
  rw [← hx1, ← hx2, ← hx3, ← hx4, ← hx5, ← hx6, ← hx7] at HC1 HC4 HP HR
  obtain ⟨u, hu⟩ : ∃ x, x = t.extract 12 16 := ⟨_, rfl⟩
  obtain ⟨tl, hv⟩ : ∃ x, x = M.tail (t.extract 0 12) := ⟨_, rfl⟩
  rw [← hu] at HC4
  rw [← hv] at HC5
  rw [h1] at HC0
  have hle : (12 : Int) ≤ (t.size : Int) := by omega
  have hwr : IntKind.i64.wrap ((t.size : Int) - 52) = 12 := by rw [h]; decide
  rw [← hu, ← hv] at hne
  clear h1 h2 hx1 hx2 hx3 hx4 hx5 hx6 hx7 hu hv h h3
  go_enter Tryz.func11, Tryz.ntmps11
  go_wp2_with fail
  refine (newK t w 25 #[.int .i64 0, .int .i64 0, .int .i64 0, .int .i64 0, .int .i64 0, .int .i64 0, .int .i64 0]).mono ?_
  rintro e w1 ⟨b, rfl, h1⟩
  have H1 := Lib.hid h1
  clear h1
  go_wp2_with fail
  refine (HC0.out _ _ H1.out).mono ?_
  rintro e w2 ⟨rfl, h2⟩
  have H2 := Lib.hid h2
  clear h2 H1
  go_wp2_with fail
  refine (HC1.out _ _ H2.out).mono ?_
  rintro e w3 ⟨rfl, h3⟩
  have H3 := Lib.hid h3
  clear h3 H2
  have H4 := Lib.hid (H3.out.alloc (Sc16 x1 x2 x3 x4 x5 x6 x7))
  have HX4 := Lib.hid (B7.new w3 x1 x2 x3 x4 x5 x6 x7)
  have HN4 : Hid (b < w3.heap.size) := Box.lt H3.out.rd
  go_wp2_with fail
  refine (HC2.out _ _ H4.out).mono ?_
  rintro e w4 ⟨rfl, rfl⟩
  obtain ⟨w4, hw4⟩ : ∃ x, x = w3.alloc (Sc16 x1 x2 x3 x4 x5 x6 x7) := ⟨_, rfl⟩
  rw [← hw4] at H4 HX4 ⊢
  clear hw4
  obtain ⟨hb, hhb⟩ : ∃ x, x = w3.heap.size := ⟨_, rfl⟩
  rw [← hhb] at HX4 HN4 ⊢
  clear hhb
  go_wp2_with fail
  refine (HC4.out b hb w4 H4.out HX4.out HN4.out).mono ?_
  rintro e w5 ⟨rfl, h5, hx5⟩
  have H5 := Lib.hid h5
  have HX5 := Lib.hid hx5
  clear h5 hx5 H4 HX4
  go_wp2_with fail
  refine (HC5.out _).mono ?_
  rintro e w6 ⟨rfl, h6⟩
  have H6 := Lib.hid (H5.out.keep h6)
  have HX6 := Lib.hid (B7.below HX5.out h6 (B7.lt HX5.out))
  clear h6 H5 HX5
  obtain ⟨d0, d1, d2, d3, d4, d5, d6⟩ := B7.cells HX6.out
  go_wp2_with fail
  refine (HP.out _).mono ?_
  rintro e w7 ⟨rfl, h7⟩
  have HX7 := Lib.hid (B7.below HX6.out h7 (B7.lt HX6.out))
  have H7 := Lib.hid (H6.out.keep h7)
  clear h7 H6 HX6 d0 d1 d2 d3 d4 d5 d6
  obtain ⟨d0, d1, d2, d3, d4, d5, d6⟩ := B7.cells HX7.out
  obtain ⟨c0, c1, c2, c3, c4, c5, c6⟩ := B7.cells H7.out.box
  obtain ⟨f0, f1, f2, f3, f4, f5, f6⟩ := B7.frozen H7.out.box
  have hne1 : (hb == w.heap.size) = false := by rw [beq_eq_false_iff_ne]; have := HN4.out; have := H7.out.lt; omega
  go_wp2_with fail
  exact bodyPost_ret (v := .tuple #[Sv x1 x2 x3 x4 x5 x6 x7, .int .i64 0]) (by simp [results, Tryz.results11, go_sem, *]) rfl ⟨M.sgot_of HR.out, by (repeat refine Below.setCell ?_ (by simp) _); exact H7.out.below⟩

theorem sget16_any (t : ByteArray) (w : World) :
    Calls Tryz.prog 11 #[.string t] w fun e w' => e = .returned (M.sgot (M.sget t)) ∧ Below w.heap.size w w' := by
  by_cases h : t.size = 64
  · by_cases h1 : t.extract 0 1 = ⟨#[83]⟩
    · by_cases h2 : t.extract 12 16 = M.tail (t.extract 0 12)
      · by_cases h3 : M.smay (M.sread t) = true
        · by_cases h4 : M.swhole (M.sread t) = t
          · exact sget16_good t w h h1 h2 h3 h4
          · exact sget16_other t w h h1 h2 h3 h4
        · exact sget16_not t w h h1 h2 h3
      · exact sget16_sum t w h h1 h2
    · exact sget16_form t w h h1
  · exact sget16_size t w h
end Go.Proofs.YtiflhbjhnonidaaGreatDoor
