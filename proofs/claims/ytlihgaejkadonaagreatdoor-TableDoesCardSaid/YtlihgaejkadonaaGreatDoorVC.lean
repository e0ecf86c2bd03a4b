/-
  A walk over entry.read. (Written by wip/gen_nread.py.) A walk over entry.Get. (Written by wip/gen_nget.py.)
-/
import Derived.Test.YtlihgaejkadonaaGreatDoorVB
import Derived.Test.YtlihgaejkadonaaGreatDoorMA
import Derived.Test.YtlihgaejkadonaaGreatDoorMP
namespace Go.Proofs.YtlihgaejkadonaaGreatDoor
open Go.RowKit

theorem nb2 (w : World) (o1 o2 : Obj) : Below w.heap.size w ((w.alloc o1).alloc o2) := (nb1 w o1).alloc (nb1 w o1).size o2
theorem M.hnum1_lt (t : ByteArray) (k : Nat) : 0 ≤ M.hnum t k (k + 1) ∧ M.hnum t k (k + 1) < 256 := by
  have h := M.num_lt _ (t.extract k (k + 1)).data.toList rfl
  have hl : (t.extract k (k + 1)).data.toList.length ≤ 1 := by
    show (t.extract k (k + 1)).size ≤ 1
    rw [ByteArray.size_extract]
    omega
  have h2 : 256 ^ (t.extract k (k + 1)).data.toList.length ≤ 256 ^ 1 := Nat.pow_le_pow_right (by decide) hl
  unfold M.hnum
  omega
/-- A reader, the box that its numbers go to and the box of the call's result; all else is as in y. -/
structure Rd17 (y z : World) (b g1 g2 : Nat) (t : ByteArray) (k : Nat) (a bb s c d u : Int) : Prop where
  rd : RdF z b t ⟨k, 0⟩
  b1 : B6 z g1 0 0 0 0 0 0
  b2 : B6 z g2 a bb s c d u
  kept : Kept (fun j => j = b) y z
  lt : b < g1
  ne : g1 < g2
  le : y.heap.size ≤ g1
section
variable {y z : World} {b g1 g2 : Nat} {t : ByteArray} {k : Nat} {a bb s c d u : Int}
theorem Rd17.num (h : Rd17 y z b g1 g2 t k a bb s c d u) (q : Nat) (h1 : 1 ≤ q) (h7 : q ≤ 7) (hz : k + q ≤ t.size) :
    Calls Tryz.prog 146 #[.pointer (some ⟨b, 0, none⟩), .int .i64 (q : Nat)] z fun en z' => en = .returned (.int .i64 (M.hnum t k (k + q))) ∧ Rd17 y z' b g1 g2 t (k + q) a bb s c d u := by
  have hlt := h.lt
  have hne := h.ne
  refine (numF b t ⟨k, 0⟩ (q : Nat) (by omega) (by omega) z h.rd (by show k ≤ t.size; omega)).mono ?_
  rintro en z' ⟨h1', h2, h3⟩
  obtain ⟨e1, e2⟩ := M.num_at t k q h1 h7 hz
  rw [e1] at h1'
  rw [e2] at h2
  exact ⟨h1', h2, Box.kept h.b1 h3 (by omega), Box.kept h.b2 h3 (by omega), h.kept.grown h3 (fun j e _ => by injection e with e; exact e.symm), h.lt, h.ne, h.le⟩
theorem Rd17.put (h : Rd17 y z b g1 g2 t k a bb s c d u) (i : Nat) (x : Value) {a' bb' s' c' d' u' : Int}
    (hc : (#[.int .i64 a, .int .i64 bb, .int .i64 s, .int .i64 c, .int .i64 d, .int .i64 u] : Array Value).setIfInBounds i x = #[.int .i64 a', .int .i64 bb', .int .i64 s', .int .i64 c', .int .i64 d', .int .i64 u']) :
    Rd17 y (z.setCell ⟨g2, i, none⟩ x) b g1 g2 t k a' bb' s' c' d' u' := by
  have hlt := h.lt
  have hne := h.ne
  have hle := h.le
  have hg := grown_set z g2 i x
  refine ⟨Box.kept h.rd hg (by omega), Box.kept h.b1 hg (by omega), ?_, h.kept.set (fun e => by omega) i x, h.lt, h.ne, h.le⟩
  have := Box.set h.b2 i x
  rw [hc] at this
  exact this
end

set_option maxHeartbeats 4000000 in
theorem read17_any (b : Nat) (t : ByteArray) (y : World) (h : RdF y b t ⟨1, 0⟩) (hz : 31 ≤ t.size) :
    Calls Tryz.prog 109 #[.pointer (some ⟨b, 0, none⟩)] y fun en z => en = .returned (Ev2 (M.hnum t 1 8) (M.hnum t 8 15) (M.hnum t 15 16 - 1) (M.hnum t 16 23) (M.hnum t 23 30) (M.hnum t 30 31 - 1)) ∧ RdF z b t ⟨31, 0⟩ ∧ Kept (fun j => j = b) y z := by
  have hb : b < y.heap.size := Box.lt h
  have H0 : Hid (Rd17 y ((y.alloc (Ec2 0 0 0 0 0 0)).alloc (Ec2 0 0 0 0 0 0)) b y.heap.size (y.heap.size + 1) t 1 0 0 0 0 0 0) := by
    have hb2 := nb2 y (Ec2 0 0 0 0 0 0) (Ec2 0 0 0 0 0 0)
    refine ⟨Box.below h hb2 hb, ?_, ?_, Kept.of_below hb2 _, hb, Nat.lt_succ_self _, Nat.le_refl _⟩
    · exact (B6.new y 0 0 0 0 0 0).below (nb1 _ _) (by simp)
    · have := B6.new (y.alloc (Ec2 0 0 0 0 0 0)) 0 0 0 0 0 0
      rw [World.size_alloc] at this
      exact this
  have HN : Hid (∀ z k a bb s c d u (q : Nat), 1 ≤ q → q ≤ 7 → k + q ≤ t.size → Rd17 y z b y.heap.size (y.heap.size + 1) t k a bb s c d u → Calls Tryz.prog 146 #[.pointer (some ⟨b, 0, none⟩), .int .i64 (q : Nat)] z fun en z' => en = .returned (.int .i64 (M.hnum t k (k + q))) ∧ Rd17 y z' b y.heap.size (y.heap.size + 1) t (k + q) a bb s c d u) :=
    fun z k a bb s c d u q a1 a2 a3 h => h.num q a1 a2 a3
  have C1 : Hid (∀ z a bb s c d u, Rd17 y z b y.heap.size (y.heap.size + 1) t 1 a bb s c d u → Calls Tryz.prog 146 #[.pointer (some ⟨b, 0, none⟩), .int .i64 7] z fun en z' => en = .returned (.int .i64 (M.hnum t 1 8)) ∧ Rd17 y z' b y.heap.size (y.heap.size + 1) t 8 a bb s c d u) := fun z a bb s c d u h => HN.out z 1 a bb s c d u 7 (by omega) (by omega) (by omega) h
  have C2 : Hid (∀ z a bb s c d u, Rd17 y z b y.heap.size (y.heap.size + 1) t 8 a bb s c d u → Calls Tryz.prog 146 #[.pointer (some ⟨b, 0, none⟩), .int .i64 7] z fun en z' => en = .returned (.int .i64 (M.hnum t 8 15)) ∧ Rd17 y z' b y.heap.size (y.heap.size + 1) t 15 a bb s c d u) := fun z a bb s c d u h => HN.out z 8 a bb s c d u 7 (by omega) (by omega) (by omega) h
  have C3 : Hid (∀ z a bb s c d u, Rd17 y z b y.heap.size (y.heap.size + 1) t 15 a bb s c d u → Calls Tryz.prog 146 #[.pointer (some ⟨b, 0, none⟩), .int .i64 1] z fun en z' => en = .returned (.int .i64 (M.hnum t 15 16)) ∧ Rd17 y z' b y.heap.size (y.heap.size + 1) t 16 a bb s c d u) := fun z a bb s c d u h => HN.out z 15 a bb s c d u 1 (by omega) (by omega) (by omega) h
  have C4 : Hid (∀ z a bb s c d u, Rd17 y z b y.heap.size (y.heap.size + 1) t 16 a bb s c d u → Calls Tryz.prog 146 #[.pointer (some ⟨b, 0, none⟩), .int .i64 7] z fun en z' => en = .returned (.int .i64 (M.hnum t 16 23)) ∧ Rd17 y z' b y.heap.size (y.heap.size + 1) t 23 a bb s c d u) := fun z a bb s c d u h => HN.out z 16 a bb s c d u 7 (by omega) (by omega) (by omega) h
  have C5 : Hid (∀ z a bb s c d u, Rd17 y z b y.heap.size (y.heap.size + 1) t 23 a bb s c d u → Calls Tryz.prog 146 #[.pointer (some ⟨b, 0, none⟩), .int .i64 7] z fun en z' => en = .returned (.int .i64 (M.hnum t 23 30)) ∧ Rd17 y z' b y.heap.size (y.heap.size + 1) t 30 a bb s c d u) := fun z a bb s c d u h => HN.out z 23 a bb s c d u 7 (by omega) (by omega) (by omega) h
  have C6 : Hid (∀ z a bb s c d u, Rd17 y z b y.heap.size (y.heap.size + 1) t 30 a bb s c d u → Calls Tryz.prog 146 #[.pointer (some ⟨b, 0, none⟩), .int .i64 1] z fun en z' => en = .returned (.int .i64 (M.hnum t 30 31)) ∧ Rd17 y z' b y.heap.size (y.heap.size + 1) t 31 a bb s c d u) := fun z a bb s c d u h => HN.out z 30 a bb s c d u 1 (by omega) (by omega) (by omega) h
  have q3 := M.hnum1_lt t 15
  have q6 := M.hnum1_lt t 30
  obtain ⟨x1, hx1⟩ : ∃ x, x = M.hnum t 1 8 := ⟨_, rfl⟩
  rw [← hx1] at C1 ⊢
  obtain ⟨x2, hx2⟩ : ∃ x, x = M.hnum t 8 15 := ⟨_, rfl⟩
  rw [← hx2] at C2 ⊢
  obtain ⟨n3, hx3⟩ : ∃ x, x = M.hnum t 15 16 := ⟨_, rfl⟩
  rw [← hx3] at C3 q3 ⊢
  obtain ⟨x4, hx4⟩ : ∃ x, x = M.hnum t 16 23 := ⟨_, rfl⟩
  rw [← hx4] at C4 ⊢
  obtain ⟨x5, hx5⟩ : ∃ x, x = M.hnum t 23 30 := ⟨_, rfl⟩
  rw [← hx5] at C5 ⊢
  obtain ⟨n6, hx6⟩ : ∃ x, x = M.hnum t 30 31 := ⟨_, rfl⟩
  rw [← hx6] at C6 q6 ⊢
  obtain ⟨x3, hw3, e3⟩ : ∃ x, IntKind.i64.wrap (n3 - 1) = x ∧ n3 - 1 = x := ⟨_, by rw [IntKind.wrap_i64]; omega, rfl⟩
  obtain ⟨x6, hw6, e6⟩ : ∃ x, IntKind.i64.wrap (n6 - 1) = x ∧ n6 - 1 = x := ⟨_, by rw [IntKind.wrap_i64]; omega, rfl⟩
  rw [e3, e6]
  clear hx1 hx2 hx3 hx4 hx5 hx6 HN hz h hb q3 q6 e3 e6
  go_enter Tryz.func109, Tryz.ntmps109
  go_wp2_with fail
  refine wp_loop_rounds 3 ?_
  rw [rounds_succ]
  go_wp2_with fail
  refine (C1.out _ _ _ _ _ _ _ H0.out).mono ?_
  rintro en z1 ⟨rfl, hh⟩
  have G1 := Lib.hid hh
  clear hh H0 C1
  have c1 := G1.out.b2.cells.1
  have f1 := G1.out.b2.frozen.1
  have H1 : Hid (Rd17 y (z1.setCell ⟨y.heap.size + 1, 0, none⟩ (.int .i64 x1)) b y.heap.size (y.heap.size + 1) t 8 x1 0 0 0 0 0) := G1.out.put 0 _ rfl
  obtain ⟨v1, hv⟩ : ∃ v, v = z1.setCell ⟨y.heap.size + 1, 0, none⟩ (.int .i64 x1) := ⟨_, rfl⟩
  rw [← hv] at H1
  have hv' := hv.symm
  clear hv
  go_wp2_with fail
  clear c1 f1 G1
  refine (C2.out _ _ _ _ _ _ _ H1.out).mono ?_
  rintro en z2 ⟨rfl, hh⟩
  have G2 := Lib.hid hh
  clear hh H1 C2
  have c2 := G2.out.b2.cells.2.1
  have f2 := G2.out.b2.frozen.2.1
  have H2 : Hid (Rd17 y (z2.setCell ⟨y.heap.size + 1, 1, none⟩ (.int .i64 x2)) b y.heap.size (y.heap.size + 1) t 15 x1 x2 0 0 0 0) := G2.out.put 1 _ rfl
  obtain ⟨v2, hv⟩ : ∃ v, v = z2.setCell ⟨y.heap.size + 1, 1, none⟩ (.int .i64 x2) := ⟨_, rfl⟩
  rw [← hv] at H2
  have hv' := hv.symm
  clear hv
  go_wp2_with fail
  clear c2 f2 G2
  refine (C3.out _ _ _ _ _ _ _ H2.out).mono ?_
  rintro en z3 ⟨rfl, hh⟩
  have G3 := Lib.hid hh
  clear hh H2 C3
  have c3 := G3.out.b2.cells.2.2.1
  have f3 := G3.out.b2.frozen.2.2.1
  have H3 : Hid (Rd17 y (z3.setCell ⟨y.heap.size + 1, 2, none⟩ (.int .i64 x3)) b y.heap.size (y.heap.size + 1) t 16 x1 x2 x3 0 0 0) := G3.out.put 2 _ rfl
  obtain ⟨v3, hv⟩ : ∃ v, v = z3.setCell ⟨y.heap.size + 1, 2, none⟩ (.int .i64 x3) := ⟨_, rfl⟩
  rw [← hv] at H3
  have hv' := hv.symm
  clear hv
  go_wp2_with fail
  clear c3 f3 G3
  rw [rounds_succ]
  go_wp2_with fail
  refine (C4.out _ _ _ _ _ _ _ H3.out).mono ?_
  rintro en z4 ⟨rfl, hh⟩
  have G4 := Lib.hid hh
  clear hh H3 C4
  have c4 := G4.out.b2.cells.2.2.2.1
  have f4 := G4.out.b2.frozen.2.2.2.1
  have H4 : Hid (Rd17 y (z4.setCell ⟨y.heap.size + 1, 3, none⟩ (.int .i64 x4)) b y.heap.size (y.heap.size + 1) t 23 x1 x2 x3 x4 0 0) := G4.out.put 3 _ rfl
  obtain ⟨v4, hv⟩ : ∃ v, v = z4.setCell ⟨y.heap.size + 1, 3, none⟩ (.int .i64 x4) := ⟨_, rfl⟩
  rw [← hv] at H4
  have hv' := hv.symm
  clear hv
  go_wp2_with fail
  clear c4 f4 G4
  refine (C5.out _ _ _ _ _ _ _ H4.out).mono ?_
  rintro en z5 ⟨rfl, hh⟩
  have G5 := Lib.hid hh
  clear hh H4 C5
  have c5 := G5.out.b2.cells.2.2.2.2.1
  have f5 := G5.out.b2.frozen.2.2.2.2.1
  have H5 : Hid (Rd17 y (z5.setCell ⟨y.heap.size + 1, 4, none⟩ (.int .i64 x5)) b y.heap.size (y.heap.size + 1) t 30 x1 x2 x3 x4 x5 0) := G5.out.put 4 _ rfl
  obtain ⟨v5, hv⟩ : ∃ v, v = z5.setCell ⟨y.heap.size + 1, 4, none⟩ (.int .i64 x5) := ⟨_, rfl⟩
  rw [← hv] at H5
  have hv' := hv.symm
  clear hv
  go_wp2_with fail
  clear c5 f5 G5
  refine (C6.out _ _ _ _ _ _ _ H5.out).mono ?_
  rintro en z6 ⟨rfl, hh⟩
  have G6 := Lib.hid hh
  clear hh H5 C6
  have c6 := G6.out.b2.cells.2.2.2.2.2
  have f6 := G6.out.b2.frozen.2.2.2.2.2
  have H6 : Hid (Rd17 y (z6.setCell ⟨y.heap.size + 1, 5, none⟩ (.int .i64 x6)) b y.heap.size (y.heap.size + 1) t 31 x1 x2 x3 x4 x5 x6) := G6.out.put 5 _ rfl
  obtain ⟨v6, hv⟩ : ∃ v, v = z6.setCell ⟨y.heap.size + 1, 5, none⟩ (.int .i64 x6) := ⟨_, rfl⟩
  rw [← hv] at H6
  have hv' := hv.symm
  clear hv
  obtain ⟨d0, d1, d2, d3, d4, d5⟩ := H6.out.b2.cells
  obtain ⟨r0, r1, r2, r3, r4, r5⟩ := H6.out.b1.cells
  obtain ⟨g0, g1, g2, g3, g4, g5⟩ := H6.out.b1.frozen
  go_wp2_with fail
  rw [rounds_succ]
  go_wp2_with fail
  have hlt := H6.out.lt
  refine bodyPost_ret (v := Ev2 x1 x2 x3 x4 x5 x6) (by simp [results, Tryz.results109, go_sem, *]) rfl ⟨rfl, ?_, ?_⟩
  · (repeat refine Box.kept ?_ (grown_set _ _ _ _) (by omega))
    exact H6.out.rd
  · (repeat refine Kept.set ?_ (fun e => absurd e (Nat.lt_irrefl _)) _ _)
    exact H6.out.kept
end Go.Proofs.YtlihgaejkadonaaGreatDoor
namespace Go.Proofs.YtlihgaejkadonaaGreatDoor
open Go.RowKit

/-- What Get answers. -/
def M.egot (r : M.E2 × Int) : Value := .tuple #[Ev2 r.1.a r.1.b r.1.s r.1.c r.1.d r.1.u, .int .i64 r.2]
theorem E_toList : (⟨#[69]⟩ : ByteArray).toList = [69] := by rw [ByteArray.toList_eq]
theorem M.egot_size {t : ByteArray} (h : t.size ≠ 64) : M.egot (M.eget t) = .tuple #[Ev2 0 0 0 0 0 0, .int .i64 12] := by unfold M.eget; rw [if_pos h]; rfl
theorem M.egot_form {t : ByteArray} (h : t.size = 64) (h1 : t.extract 0 1 ≠ M.ef0) : M.egot (M.eget t) = .tuple #[Ev2 0 0 0 0 0 0, .int .i64 4] := by unfold M.eget; rw [if_neg (by simpa using h), if_pos h1]; rfl
theorem M.egot_sum {t : ByteArray} (h : t.size = 64) (h1 : t.extract 0 1 = M.ef0) (h2 : t.extract 31 35 ≠ M.tail (t.extract 0 31)) : M.egot (M.eget t) = .tuple #[Ev2 0 0 0 0 0 0, .int .i64 5] := by unfold M.eget; rw [if_neg (by simpa using h), if_neg (by simpa using h1), if_pos h2]; rfl
theorem M.egot_not {t : ByteArray} (h : t.size = 64) (h1 : t.extract 0 1 = M.ef0) (h2 : t.extract 31 35 = M.tail (t.extract 0 31)) (h3 : ¬ (M.emay (M.eread t) = true ∧ M.ewhole (M.eread t) = t)) : M.egot (M.eget t) = .tuple #[Ev2 0 0 0 0 0 0, .int .i64 4] := by unfold M.eget; rw [if_neg (by simpa using h), if_neg (by simpa using h1), if_neg (by simpa using h2), if_neg h3]; rfl
theorem M.egot_ok {t : ByteArray} (h : t.size = 64) (h1 : t.extract 0 1 = M.ef0) (h2 : t.extract 31 35 = M.tail (t.extract 0 31)) (h3 : M.emay (M.eread t) = true) (h4 : M.ewhole (M.eread t) = t) : M.egot (M.eget t) = .tuple #[Ev2 (M.hnum t 1 8) (M.hnum t 8 15) (M.hnum t 15 16 - 1) (M.hnum t 16 23) (M.hnum t 23 30) (M.hnum t 30 31 - 1), .int .i64 0] := by unfold M.eget; rw [if_neg (by simpa using h), if_neg (by simpa using h1), if_neg (by simpa using h2), if_pos ⟨h3, h4⟩]; rfl
/-- Two texts of the same bytes. -/
theorem eq_of_toList17 {a b : ByteArray} (h : (a.toList == b.toList) = true) : a = b := Classical.byContradiction fun e => by rw [ne_of_toList10 e] at h; cases h
theorem ne_of_not17 {a b : ByteArray} (h : (a.toList == b.toList) = false) : a ≠ b := fun e => by rw [e, str_eq_self] at h; cases h

theorem RdK.read17 {w y : World} {b : Nat} {tt : TypeId} {cs : Array Value} {t : ByteArray} (h : RdK w y b tt cs t 1) (hz : 31 ≤ t.size) :
    Calls Tryz.prog 109 #[.pointer (some ⟨b, 0, none⟩)] y fun en z => en = .returned (Ev2 (M.hnum t 1 8) (M.hnum t 8 15) (M.hnum t 15 16 - 1) (M.hnum t 16 23) (M.hnum t 23 30) (M.hnum t 30 31 - 1)) ∧ RdK w z b tt cs t 31 := by
  have hlt := h.lt
  refine (read17_any b t y h.rd hz).mono ?_
  rintro en z ⟨e1, e2, e3⟩
  exact ⟨e1, e2, e3.box h.box (by omega), h.below.trans (e3.below h.below.size (fun k hk e => by omega)), h.lt⟩
theorem RdK.left17 {w y : World} {b : Nat} {tt : TypeId} {cs : Array Value} {t : ByteArray} (h : RdK w y b tt cs t 31) (hz : t.size = 64) :
    Calls Tryz.prog 110 #[.pointer (some ⟨b, 0, none⟩)] y fun e y' => e = .returned (.int .i64 33) ∧ y = y' := by
  have h' := leftF b t ⟨31, 0⟩ y h.rd (by show 31 ≤ t.size; omega)
  have e : M.left t ⟨31, 0⟩ = 33 := by show (t.size : Int) - ((31 : Nat) : Int) = _; omega
  rw [e] at h'
  exact h'
theorem RdK.bytes17 {w y : World} {b k : Nat} {tt : TypeId} {cs : Array Value} {t : ByteArray} (h : RdK w y b tt cs t k) (z : Nat) (hz : k + z ≤ t.size) {hb : Nat} {a bb s c d u : Int} (h2 : B6 y hb a bb s c d u) (hne : b < hb) :
    Calls Tryz.prog 108 #[.pointer (some ⟨b, 0, none⟩), .int .i64 (z : Nat)] y fun e' y' => e' = .returned (.string (t.extract k (k + z))) ∧ RdK w y' b tt cs t (k + z) ∧ B6 y' hb a bb s c d u := h.bytes2 z hz h2 hne

set_option maxHeartbeats 8000000 in
theorem eget_any (t : ByteArray) (w : World) :
    Calls Tryz.prog 67 #[.string t] w fun e w' => e = .returned (M.egot (M.eget t)) ∧ Below w.heap.size w w' := by
  by_cases h : t.size = 64
  case neg =>
    have HN := Lib.hid (M.egot_size h)
    obtain ⟨R, hR⟩ : ∃ R, R = M.egot (M.eget t) := ⟨_, rfl⟩
    rw [← hR] at HN ⊢
    have hd : ((t.size : Int) == 64) = false := by rw [beq_eq_false_iff_ne]; omega
    have hd' : ((t.size : Int) != 64) = true := by rw [bne, hd]; rfl
    clear h hR
    go_enter Tryz.func67, Tryz.ntmps67
    go_wp2_with fail
    exact bodyPost_ret (v := .tuple #[.agg #[.int .i64 0, .int .i64 0, .int .i64 0, .int .i64 0, .int .i64 0, .int .i64 0], .int .i64 12]) (by simp [results, Tryz.results67, go_sem, *]) rfl ⟨(congrArg Ending.returned HN.out).symm, (by first | exact nb1 _ _ | ((repeat refine Below.setCell ?_ (by simp) _); exact nb1 _ _))⟩
  have hd : ((t.size : Int) == 64) = true := by rw [beq_iff_eq]; omega
  have hd' : ((t.size : Int) != 64) = false := by rw [bne, hd]; rfl
  have HC0 : Hid (∀ (b : Nat) (y : World), RdK w y b 68 #[.int .i64 0, .int .i64 0, .int .i64 0, .int .i64 0, .int .i64 0, .int .i64 0] t 0 → Calls Tryz.prog 108 #[.pointer (some ⟨b, 0, none⟩), .int .i64 1] y fun e y' => e = .returned (.string (t.extract 0 1)) ∧ RdK w y' b 68 #[.int .i64 0, .int .i64 0, .int .i64 0, .int .i64 0, .int .i64 0, .int .i64 0] t 1) := fun b y hR => hR.bytes 1 (by omega)
  have HC1 : Hid (∀ (b : Nat) (y : World), RdK w y b 68 #[.int .i64 0, .int .i64 0, .int .i64 0, .int .i64 0, .int .i64 0, .int .i64 0] t 1 → Calls Tryz.prog 109 #[.pointer (some ⟨b, 0, none⟩)] y fun e y' => e = .returned (Ev2 (M.hnum t 1 8) (M.hnum t 8 15) (M.hnum t 15 16 - 1) (M.hnum t 16 23) (M.hnum t 23 30) (M.hnum t 30 31 - 1)) ∧ RdK w y' b 68 #[.int .i64 0, .int .i64 0, .int .i64 0, .int .i64 0, .int .i64 0, .int .i64 0] t 31) := fun b y hR => hR.read17 (by omega)
  have HC2 : Hid (∀ (b : Nat) (y : World), RdK w y b 68 #[.int .i64 0, .int .i64 0, .int .i64 0, .int .i64 0, .int .i64 0, .int .i64 0] t 31 → Calls Tryz.prog 110 #[.pointer (some ⟨b, 0, none⟩)] y fun e y' => e = .returned (.int .i64 33) ∧ y = y') := fun b y hR => hR.left17 h
  have HC4 : Hid (∀ (b hb : Nat) (y : World) (a bb s c d u : Int), RdK w y b 68 #[.int .i64 0, .int .i64 0, .int .i64 0, .int .i64 0, .int .i64 0, .int .i64 0] t 31 → B6 y hb a bb s c d u → b < hb → Calls Tryz.prog 108 #[.pointer (some ⟨b, 0, none⟩), .int .i64 4] y fun e y' => e = .returned (.string (t.extract 31 35)) ∧ RdK w y' b 68 #[.int .i64 0, .int .i64 0, .int .i64 0, .int .i64 0, .int .i64 0, .int .i64 0] t 35 ∧ B6 y' hb a bb s c d u) := fun b hb y a bb s c d u hR hX hl => hR.bytes17 4 (by omega) hX hl
  have HC5 := Lib.hid (fun x => tail10 (t.extract 0 31) x (by rw [ByteArray.size_extract]; omega))
  have HP := Lib.hid (fun x => eput_any (M.hnum t 1 8) (M.hnum t 8 15) (M.hnum t 15 16 - 1) (M.hnum t 16 23) (M.hnum t 23 30) (M.hnum t 30 31 - 1) x)
  have N1 : Hid (((t.extract 0 1).toList == [69]) = false → M.egot (M.eget t) = .tuple #[Ev2 0 0 0 0 0 0, .int .i64 4]) := fun e => M.egot_form h (ne_of_not17 (b := ⟨#[69]⟩) (by rw [E_toList]; exact e))
  have N2 : Hid (((t.extract 0 1).toList == [69]) = true → ((t.extract 31 35).toList == (M.tail (t.extract 0 31)).toList) = false → M.egot (M.eget t) = .tuple #[Ev2 0 0 0 0 0 0, .int .i64 5]) := fun e e2 => M.egot_sum h (eq_of_toList17 (b := ⟨#[69]⟩) (by rw [E_toList]; exact e)) (ne_of_not17 e2)
  have N3 : Hid (((t.extract 0 1).toList == [69]) = true → ((t.extract 31 35).toList == (M.tail (t.extract 0 31)).toList) = true → M.emay (M.eread t) = false → M.egot (M.eget t) = .tuple #[Ev2 0 0 0 0 0 0, .int .i64 4]) := fun e e2 e3 => M.egot_not h (eq_of_toList17 (b := ⟨#[69]⟩) (by rw [E_toList]; exact e)) (eq_of_toList17 e2) (fun q => by rw [e3] at q; exact absurd q.1 (by decide))
  have N4 : Hid (((t.extract 0 1).toList == [69]) = true → ((t.extract 31 35).toList == (M.tail (t.extract 0 31)).toList) = true → ((M.ewhole (M.eread t)).toList == t.toList) = false → M.egot (M.eget t) = .tuple #[Ev2 0 0 0 0 0 0, .int .i64 4]) := fun e e2 e3 => M.egot_not h (eq_of_toList17 (b := ⟨#[69]⟩) (by rw [E_toList]; exact e)) (eq_of_toList17 e2) (fun q => ne_of_not17 e3 q.2)
  have N5 : Hid (((t.extract 0 1).toList == [69]) = true → ((t.extract 31 35).toList == (M.tail (t.extract 0 31)).toList) = true → M.emay (M.eread t) = true → ((M.ewhole (M.eread t)).toList == t.toList) = true → M.egot (M.eget t) = .tuple #[Ev2 (M.hnum t 1 8) (M.hnum t 8 15) (M.hnum t 15 16 - 1) (M.hnum t 16 23) (M.hnum t 23 30) (M.hnum t 30 31 - 1), .int .i64 0]) := fun e e2 e3 e4 => M.egot_ok h (eq_of_toList17 (b := ⟨#[69]⟩) (by rw [E_toList]; exact e)) (eq_of_toList17 e2) e3 (eq_of_toList17 e4)
  have Q0 : Hid (M.emay (M.eread t) = false → M.eput ⟨M.hnum t 1 8, M.hnum t 8 15, M.hnum t 15 16 - 1, M.hnum t 16 23, M.hnum t 23 30, M.hnum t 30 31 - 1⟩ = .tuple #[.string ⟨#[]⟩, .int .i64 3]) := fun e => M.eput_no (by show ¬ M.emay (M.eread t) = true; rw [e]; decide)
  have Q1 : Hid (M.emay (M.eread t) = true → M.eput ⟨M.hnum t 1 8, M.hnum t 8 15, M.hnum t 15 16 - 1, M.hnum t 16 23, M.hnum t 23 30, M.hnum t 30 31 - 1⟩ = .tuple #[.string (M.ewhole (M.eread t)), .int .i64 0]) := fun e => M.eput_ok e
  obtain ⟨R, hR⟩ : ∃ R, R = M.egot (M.eget t) := ⟨_, rfl⟩
  rw [← hR] at N1 N2 N3 N4 N5 ⊢
  obtain ⟨p, hp⟩ : ∃ p, p = M.eput ⟨M.hnum t 1 8, M.hnum t 8 15, M.hnum t 15 16 - 1, M.hnum t 16 23, M.hnum t 23 30, M.hnum t 30 31 - 1⟩ := ⟨_, rfl⟩
  rw [← hp] at HP Q0 Q1
  obtain ⟨wh, hwh⟩ : ∃ p, p = M.ewhole (M.eread t) := ⟨_, rfl⟩
  rw [← hwh] at N4 N5 Q1
  obtain ⟨pm, hpm⟩ : ∃ p, p = M.emay (M.eread t) := ⟨_, rfl⟩
  rw [← hpm] at N3 N5 Q0 Q1
  obtain ⟨xo, hxo⟩ : ∃ x, x = t.extract 0 1 := ⟨_, rfl⟩
  rw [← hxo] at HC0 N1 N2 N3 N4 N5
  obtain ⟨uu, huu⟩ : ∃ x, x = t.extract 31 35 := ⟨_, rfl⟩
  rw [← huu] at HC4 N2 N3 N4 N5
  obtain ⟨tl, htl⟩ : ∃ x, x = M.tail (t.extract 0 31) := ⟨_, rfl⟩
  rw [← htl] at HC5 N2 N3 N4 N5
  obtain ⟨x1, hx1⟩ : ∃ x, x = M.hnum t 1 8 := ⟨_, rfl⟩
  obtain ⟨x2, hx2⟩ : ∃ x, x = M.hnum t 8 15 := ⟨_, rfl⟩
  obtain ⟨x3, hx3⟩ : ∃ x, x = M.hnum t 15 16 - 1 := ⟨_, rfl⟩
  obtain ⟨x4, hx4⟩ : ∃ x, x = M.hnum t 16 23 := ⟨_, rfl⟩
  obtain ⟨x5, hx5⟩ : ∃ x, x = M.hnum t 23 30 := ⟨_, rfl⟩
  obtain ⟨x6, hx6⟩ : ∃ x, x = M.hnum t 30 31 - 1 := ⟨_, rfl⟩
  rw [← hx1, ← hx2, ← hx3, ← hx4, ← hx5, ← hx6] at HC1 HP N5
  have hle : (31 : Int) ≤ (t.size : Int) := by omega
  have hwr : IntKind.i64.wrap ((t.size : Int) - 33) = 31 := by rw [h]; decide
  clear hR hp hwh hpm hxo huu htl hx1 hx2 hx3 hx4 hx5 hx6 h
  go_enter Tryz.func67, Tryz.ntmps67
  go_wp2_with fail
  refine (newK t w 68 #[.int .i64 0, .int .i64 0, .int .i64 0, .int .i64 0, .int .i64 0, .int .i64 0]).mono ?_
  rintro e w1 ⟨b, rfl, h1⟩
  have H1 := Lib.hid h1
  clear h1
  go_wp2_with fail
  refine (HC0.out _ _ H1.out).mono ?_
  rintro e w2 ⟨rfl, h2⟩
  have H2 := Lib.hid h2
  clear h2 H1
  cases k1 : (xo.toList == [69])
  · have HN := Lib.hid (N1.out k1)
    obtain ⟨c0, c1, c2, c3, c4, c5⟩ := B6.cells H2.out.box
    obtain ⟨f0, f1, f2, f3, f4, f5⟩ := B6.frozen H2.out.box
    go_wp2_with fail
    exact bodyPost_ret (v := .tuple #[.agg #[.int .i64 0, .int .i64 0, .int .i64 0, .int .i64 0, .int .i64 0, .int .i64 0], .int .i64 4]) (by simp [results, Tryz.results67, go_sem, *]) rfl ⟨(congrArg Ending.returned HN.out).symm, by (repeat refine Below.setCell ?_ (by simp) _); exact H2.out.below⟩
  go_wp2_with fail
  refine (HC1.out _ _ H2.out).mono ?_
  rintro e w3 ⟨rfl, h3⟩
  have H3 := Lib.hid h3
  clear h3 H2
  have H4 := Lib.hid (H3.out.alloc (Ec2 x1 x2 x3 x4 x5 x6))
  have HX4 := Lib.hid (B6.new w3 x1 x2 x3 x4 x5 x6)
  have HN4 : Hid (b < w3.heap.size) := Box.lt H3.out.rd
  go_wp2_with fail
  refine (HC2.out _ _ H4.out).mono ?_
  rintro e w4 ⟨rfl, rfl⟩
  obtain ⟨w4, hw4⟩ : ∃ x, x = w3.alloc (Ec2 x1 x2 x3 x4 x5 x6) := ⟨_, rfl⟩
  rw [← hw4] at H4 HX4 ⊢
  clear hw4
  obtain ⟨hb, hhb⟩ : ∃ x, x = w3.heap.size := ⟨_, rfl⟩
  rw [← hhb] at HX4 HN4 ⊢
  clear hhb
  go_wp2_with fail
  refine (HC4.out b hb w4 _ _ _ _ _ _ H4.out HX4.out HN4.out).mono ?_
  rintro e w5 ⟨rfl, h5, hx5⟩
  have H5 := Lib.hid h5
  have HX5 := Lib.hid hx5
  clear h5 hx5 H4 HX4
  go_wp2_with fail
  refine (HC5.out _).mono ?_
  rintro e w6 ⟨rfl, h6⟩
  have H6 := Lib.hid (H5.out.keep h6)
  have HX6 := Lib.hid (B6.below HX5.out h6 (B6.lt HX5.out))
  clear h6 H5 HX5
  cases k2 : (uu.toList == tl.toList)
  · have HN := Lib.hid (N2.out k1 k2)
    obtain ⟨c0, c1, c2, c3, c4, c5⟩ := B6.cells H6.out.box
    obtain ⟨f0, f1, f2, f3, f4, f5⟩ := B6.frozen H6.out.box
    go_wp2_with fail
    exact bodyPost_ret (v := .tuple #[.agg #[.int .i64 0, .int .i64 0, .int .i64 0, .int .i64 0, .int .i64 0, .int .i64 0], .int .i64 5]) (by simp [results, Tryz.results67, go_sem, *]) rfl ⟨(congrArg Ending.returned HN.out).symm, by (repeat refine Below.setCell ?_ (by simp) _); exact H6.out.below⟩
  obtain ⟨d0, d1, d2, d3, d4, d5⟩ := B6.cells HX6.out
  go_wp2_with fail
  have hne1 : (hb == w.heap.size) = false := by rw [beq_eq_false_iff_ne]; have := HN4.out; have := H6.out.lt; omega
  cases k3 : pm
  · rw [Q0.out k3] at HP
    have HN := Lib.hid (N3.out k1 k2 k3)
    refine (HP.out _).mono ?_
    rintro e w7 ⟨rfl, h7⟩
    have H7 := Lib.hid (H6.out.keep h7)
    clear h7 H6 HX6 d0 d1 d2 d3 d4 d5
    obtain ⟨c0, c1, c2, c3, c4, c5⟩ := B6.cells H7.out.box
    obtain ⟨f0, f1, f2, f3, f4, f5⟩ := B6.frozen H7.out.box
    go_wp2_with fail
    exact bodyPost_ret (v := .tuple #[.agg #[.int .i64 0, .int .i64 0, .int .i64 0, .int .i64 0, .int .i64 0, .int .i64 0], .int .i64 4]) (by simp [results, Tryz.results67, go_sem, *]) rfl ⟨(congrArg Ending.returned HN.out).symm, by (repeat refine Below.setCell ?_ (by simp) _); exact H7.out.below⟩
  rw [Q1.out k3] at HP
  refine (HP.out _).mono ?_
  rintro e w7 ⟨rfl, h7⟩
  have HX7 := Lib.hid (B6.below HX6.out h7 (B6.lt HX6.out))
  have H7 := Lib.hid (H6.out.keep h7)
  clear h7 H6 HX6 d0 d1 d2 d3 d4 d5
  obtain ⟨d0, d1, d2, d3, d4, d5⟩ := B6.cells HX7.out
  obtain ⟨c0, c1, c2, c3, c4, c5⟩ := B6.cells H7.out.box
  obtain ⟨f0, f1, f2, f3, f4, f5⟩ := B6.frozen H7.out.box
  cases k4 : (wh.toList == t.toList)
  · have HN := Lib.hid (N4.out k1 k2 k4)
    go_wp2_with fail
    exact bodyPost_ret (v := .tuple #[.agg #[.int .i64 0, .int .i64 0, .int .i64 0, .int .i64 0, .int .i64 0, .int .i64 0], .int .i64 4]) (by simp [results, Tryz.results67, go_sem, *]) rfl ⟨(congrArg Ending.returned HN.out).symm, by (repeat refine Below.setCell ?_ (by simp) _); exact H7.out.below⟩
  · have HN := Lib.hid (N5.out k1 k2 k3 k4)
    go_wp2_with fail
    exact bodyPost_ret (v := .tuple #[Ev2 x1 x2 x3 x4 x5 x6, .int .i64 0]) (by simp [results, Tryz.results67, go_sem, *]) rfl ⟨(congrArg Ending.returned HN.out).symm, by (repeat refine Below.setCell ?_ (by simp) _); exact H7.out.below⟩
end Go.Proofs.YtlihgaejkadonaaGreatDoor
