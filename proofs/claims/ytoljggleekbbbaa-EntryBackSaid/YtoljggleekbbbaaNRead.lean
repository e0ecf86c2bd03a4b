/-
  A walk over entry.read. (Written by wip/gen_nread.py.)
-/
import Derived.Test.YtoljggleekbbbaaNPut
import Derived.Test.YtoljggleekbbbaaKept
import Derived.Test.YtoljggleekbbbaaFRdK
namespace Go.Proofs.Ytoljggleekbbbaa
open Go.RowKit

theorem nb2 (w : World) (o1 o2 : Obj) : Below w.heap.size w ((w.alloc o1).alloc o2) := (nb1 w o1).alloc (nb1 w o1).size o2
theorem M.hnum1_lt (t : ByteArray) (k : Nat) : 0 ≤ M.hnum t k (k + 1) ∧ M.hnum t k (k + 1) < 256 := by
  have h := M.num_lt _ (t.extract k (k + 1)).data.toList rfl
  have hl : (t.extract k (k + 1)).data.toList.length ≤ 1 := by
    show (t.extract k (k + 1)).size ≤ 1
    rw [ByteArray.size_extract]
    omega
  have h2 : 256 ^ (t.extract k (k + 1)).data.toList.length ≤ 256 ^ 1 := Nat.pow_le_pow_right (by decide) hl
  unfold M.hnum
  omega
/-- A reader, the box that its numbers go to and the box of the call's result; all else is as in y. -/
structure Rd17 (y z : World) (b g1 g2 : Nat) (t : ByteArray) (k : Nat) (a bb s c d u : Int) : Prop where
  rd : RdF z b t ⟨k, 0⟩
  b1 : B6 z g1 0 0 0 0 0 0
  b2 : B6 z g2 a bb s c d u
  kept : Kept (fun j => j = b) y z
  lt : b < g1
  ne : g1 < g2
  le : y.heap.size ≤ g1
section
variable {y z : World} {b g1 g2 : Nat} {t : ByteArray} {k : Nat} {a bb s c d u : Int}
theorem Rd17.num (h : Rd17 y z b g1 g2 t k a bb s c d u) (q : Nat) (h1 : 1 ≤ q) (h7 : q ≤ 7) (hz : k + q ≤ t.size) :
    Calls Try.prog 35 #[.pointer (some ⟨b, 0, none⟩), .int .i64 (q : Nat)] z fun en z' => en = .returned (.int .i64 (M.hnum t k (k + q))) ∧ Rd17 y z' b g1 g2 t (k + q) a bb s c d u := by
  have hlt := h.lt
  have hne := h.ne
  refine (numF b t ⟨k, 0⟩ (q : Nat) (by omega) (by omega) z h.rd (by show k ≤ t.size; omega)).mono ?_
  rintro en z' ⟨h1', h2, h3⟩
  obtain ⟨e1, e2⟩ := M.num_at t k q h1 h7 hz
  rw [e1] at h1'
  rw [e2] at h2
  exact ⟨h1', h2, Box.kept h.b1 h3 (by omega), Box.kept h.b2 h3 (by omega), h.kept.grown h3 (fun j e _ => by injection e with e; exact e.symm), h.lt, h.ne, h.le⟩
theorem Rd17.put (h : Rd17 y z b g1 g2 t k a bb s c d u) (i : Nat) (x : Value) {a' bb' s' c' d' u' : Int}
    (hc : (#[.int .i64 a, .int .i64 bb, .int .i64 s, .int .i64 c, .int .i64 d, .int .i64 u] : Array Value).setIfInBounds i x = #[.int .i64 a', .int .i64 bb', .int .i64 s', .int .i64 c', .int .i64 d', .int .i64 u']) :
    Rd17 y (z.setCell ⟨g2, i, none⟩ x) b g1 g2 t k a' bb' s' c' d' u' := by
  have hlt := h.lt
  have hne := h.ne
  have hle := h.le
  have hg := grown_set z g2 i x
  refine ⟨Box.kept h.rd hg (by omega), Box.kept h.b1 hg (by omega), ?_, h.kept.set (fun e => by omega) i x, h.lt, h.ne, h.le⟩
  have := Box.set h.b2 i x
  rw [hc] at this
  exact this
end

set_option maxHeartbeats 4000000 in
theorem read17_any (b : Nat) (t : ByteArray) (y : World) (h : RdF y b t ⟨1, 0⟩) (hz : 31 ≤ t.size) :
    Calls Try.prog 25 #[.pointer (some ⟨b, 0, none⟩)] y fun en z => en = .returned (Ev2 (M.hnum t 1 8) (M.hnum t 8 15) (M.hnum t 15 16 - 1) (M.hnum t 16 23) (M.hnum t 23 30) (M.hnum t 30 31 - 1)) ∧ RdF z b t ⟨31, 0⟩ ∧ Kept (fun j => j = b) y z := by
  have hb : b < y.heap.size := Box.lt h
  have H0 : Hid (Rd17 y ((y.alloc (Ec2 0 0 0 0 0 0)).alloc (Ec2 0 0 0 0 0 0)) b y.heap.size (y.heap.size + 1) t 1 0 0 0 0 0 0) := by
    have hb2 := nb2 y (Ec2 0 0 0 0 0 0) (Ec2 0 0 0 0 0 0)
    refine ⟨Box.below h hb2 hb, ?_, ?_, Kept.of_below hb2 _, hb, Nat.lt_succ_self _, Nat.le_refl _⟩
    · exact (B6.new y 0 0 0 0 0 0).below (nb1 _ _) (by simp)
    · have := B6.new (y.alloc (Ec2 0 0 0 0 0 0)) 0 0 0 0 0 0
      rw [World.size_alloc] at this
      exact this
  have HN : Hid (∀ z k a bb s c d u (q : Nat), 1 ≤ q → q ≤ 7 → k + q ≤ t.size → Rd17 y z b y.heap.size (y.heap.size + 1) t k a bb s c d u → Calls Try.prog 35 #[.pointer (some ⟨b, 0, none⟩), .int .i64 (q : Nat)] z fun en z' => en = .returned (.int .i64 (M.hnum t k (k + q))) ∧ Rd17 y z' b y.heap.size (y.heap.size + 1) t (k + q) a bb s c d u) :=
    fun z k a bb s c d u q a1 a2 a3 h => h.num q a1 a2 a3
  have C1 : Hid (∀ z a bb s c d u, Rd17 y z b y.heap.size (y.heap.size + 1) t 1 a bb s c d u → Calls Try.prog 35 #[.pointer (some ⟨b, 0, none⟩), .int .i64 7] z fun en z' => en = .returned (.int .i64 (M.hnum t 1 8)) ∧ Rd17 y z' b y.heap.size (y.heap.size + 1) t 8 a bb s c d u) := fun z a bb s c d u h => HN.out z 1 a bb s c d u 7 (by omega) (by omega) (by omega) h
  have C2 : Hid (∀ z a bb s c d u, Rd17 y z b y.heap.size (y.heap.size + 1) t 8 a bb s c d u → Calls Try.prog 35 #[.pointer (some ⟨b, 0, none⟩), .int .i64 7] z fun en z' => en = .returned (.int .i64 (M.hnum t 8 15)) ∧ Rd17 y z' b y.heap.size (y.heap.size + 1) t 15 a bb s c d u) := fun z a bb s c d u h => HN.out z 8 a bb s c d u 7 (by omega) (by omega) (by omega) h
  have C3 : Hid (∀ z a bb s c d u, Rd17 y z b y.heap.size (y.heap.size + 1) t 15 a bb s c d u → Calls Try.prog 35 #[.pointer (some ⟨b, 0, none⟩), .int .i64 1] z fun en z' => en = .returned (.int .i64 (M.hnum t 15 16)) ∧ Rd17 y z' b y.heap.size (y.heap.size + 1) t 16 a bb s c d u) := fun z a bb s c d u h => HN.out z 15 a bb s c d u 1 (by omega) (by omega) (by omega) h
  have C4 : Hid (∀ z a bb s c d u, Rd17 y z b y.heap.size (y.heap.size + 1) t 16 a bb s c d u → Calls Try.prog 35 #[.pointer (some ⟨b, 0, none⟩), .int .i64 7] z fun en z' => en = .returned (.int .i64 (M.hnum t 16 23)) ∧ Rd17 y z' b y.heap.size (y.heap.size + 1) t 23 a bb s c d u) := fun z a bb s c d u h => HN.out z 16 a bb s c d u 7 (by omega) (by omega) (by omega) h
  have C5 : Hid (∀ z a bb s c d u, Rd17 y z b y.heap.size (y.heap.size + 1) t 23 a bb s c d u → Calls Try.prog 35 #[.pointer (some ⟨b, 0, none⟩), .int .i64 7] z fun en z' => en = .returned (.int .i64 (M.hnum t 23 30)) ∧ Rd17 y z' b y.heap.size (y.heap.size + 1) t 30 a bb s c d u) := fun z a bb s c d u h => HN.out z 23 a bb s c d u 7 (by omega) (by omega) (by omega) h
  have C6 : Hid (∀ z a bb s c d u, Rd17 y z b y.heap.size (y.heap.size + 1) t 30 a bb s c d u → Calls Try.prog 35 #[.pointer (some ⟨b, 0, none⟩), .int .i64 1] z fun en z' => en = .returned (.int .i64 (M.hnum t 30 31)) ∧ Rd17 y z' b y.heap.size (y.heap.size + 1) t 31 a bb s c d u) := fun z a bb s c d u h => HN.out z 30 a bb s c d u 1 (by omega) (by omega) (by omega) h
  have q3 := M.hnum1_lt t 15
  have q6 := M.hnum1_lt t 30
  obtain ⟨x1, hx1⟩ : ∃ x, x = M.hnum t 1 8 := ⟨_, rfl⟩
  rw [← hx1] at C1 ⊢
  obtain ⟨x2, hx2⟩ : ∃ x, x = M.hnum t 8 15 := ⟨_, rfl⟩
  rw [← hx2] at C2 ⊢
  obtain ⟨n3, hx3⟩ : ∃ x, x = M.hnum t 15 16 := ⟨_, rfl⟩
  rw [← hx3] at C3 q3 ⊢
  obtain ⟨x4, hx4⟩ : ∃ x, x = M.hnum t 16 23 := ⟨_, rfl⟩
  rw [← hx4] at C4 ⊢
  obtain ⟨x5, hx5⟩ : ∃ x, x = M.hnum t 23 30 := ⟨_, rfl⟩
  rw [← hx5] at C5 ⊢
  obtain ⟨n6, hx6⟩ : ∃ x, x = M.hnum t 30 31 := ⟨_, rfl⟩
  rw [← hx6] at C6 q6 ⊢
  obtain ⟨x3, hw3, e3⟩ : ∃ x, IntKind.i64.wrap (n3 - 1) = x ∧ n3 - 1 = x := ⟨_, by rw [IntKind.wrap_i64]; omega, rfl⟩
  obtain ⟨x6, hw6, e6⟩ : ∃ x, IntKind.i64.wrap (n6 - 1) = x ∧ n6 - 1 = x := ⟨_, by rw [IntKind.wrap_i64]; omega, rfl⟩
  rw [e3, e6]
  clear hx1 hx2 hx3 hx4 hx5 hx6 HN hz h hb q3 q6 e3 e6
  go_enter Try.func25, Try.ntmps25
  go_wp2_with fail
  refine wp_loop_rounds 3 ?_
  rw [rounds_succ]
  go_wp2_with fail
  refine (C1.out _ _ _ _ _ _ _ H0.out).mono ?_
  rintro en z1 ⟨rfl, hh⟩
  have G1 := Lib.hid hh
  clear hh H0 C1
  have c1 := G1.out.b2.cells.1
  have f1 := G1.out.b2.frozen.1
  have H1 : Hid (Rd17 y (z1.setCell ⟨y.heap.size + 1, 0, none⟩ (.int .i64 x1)) b y.heap.size (y.heap.size + 1) t 8 x1 0 0 0 0 0) := G1.out.put 0 _ rfl
  obtain ⟨v1, hv⟩ : ∃ v, v = z1.setCell ⟨y.heap.size + 1, 0, none⟩ (.int .i64 x1) := ⟨_, rfl⟩
  rw [← hv] at H1
  have hv' := hv.symm
  clear hv
  go_wp2_with fail
  clear c1 f1 G1
  refine (C2.out _ _ _ _ _ _ _ H1.out).mono ?_
  rintro en z2 ⟨rfl, hh⟩
  have G2 := Lib.hid hh
  clear hh H1 C2
  have c2 := G2.out.b2.cells.2.1
  have f2 := G2.out.b2.frozen.2.1
  have H2 : Hid (Rd17 y (z2.setCell ⟨y.heap.size + 1, 1, none⟩ (.int .i64 x2)) b y.heap.size (y.heap.size + 1) t 15 x1 x2 0 0 0 0) := G2.out.put 1 _ rfl
  obtain ⟨v2, hv⟩ : ∃ v, v = z2.setCell ⟨y.heap.size + 1, 1, none⟩ (.int .i64 x2) := ⟨_, rfl⟩
  rw [← hv] at H2
  have hv' := hv.symm
  clear hv
  go_wp2_with fail
  clear c2 f2 G2
  refine (C3.out _ _ _ _ _ _ _ H2.out).mono ?_
  rintro en z3 ⟨rfl, hh⟩
  have G3 := Lib.hid hh
  clear hh H2 C3
  have c3 := G3.out.b2.cells.2.2.1
  have f3 := G3.out.b2.frozen.2.2.1
  have H3 : Hid (Rd17 y (z3.setCell ⟨y.heap.size + 1, 2, none⟩ (.int .i64 x3)) b y.heap.size (y.heap.size + 1) t 16 x1 x2 x3 0 0 0) := G3.out.put 2 _ rfl
  obtain ⟨v3, hv⟩ : ∃ v, v = z3.setCell ⟨y.heap.size + 1, 2, none⟩ (.int .i64 x3) := ⟨_, rfl⟩
  rw [← hv] at H3
  have hv' := hv.symm
  clear hv
  go_wp2_with fail
  clear c3 f3 G3
  rw [rounds_succ]
  go_wp2_with fail
  refine (C4.out _ _ _ _ _ _ _ H3.out).mono ?_
  rintro en z4 ⟨rfl, hh⟩
  have G4 := Lib.hid hh
  clear hh H3 C4
  have c4 := G4.out.b2.cells.2.2.2.1
  have f4 := G4.out.b2.frozen.2.2.2.1
  have H4 : Hid (Rd17 y (z4.setCell ⟨y.heap.size + 1, 3, none⟩ (.int .i64 x4)) b y.heap.size (y.heap.size + 1) t 23 x1 x2 x3 x4 0 0) := G4.out.put 3 _ rfl
  obtain ⟨v4, hv⟩ : ∃ v, v = z4.setCell ⟨y.heap.size + 1, 3, none⟩ (.int .i64 x4) := ⟨_, rfl⟩
  rw [← hv] at H4
  have hv' := hv.symm
  clear hv
  go_wp2_with fail
  clear c4 f4 G4
  refine (C5.out _ _ _ _ _ _ _ H4.out).mono ?_
  rintro en z5 ⟨rfl, hh⟩
  have G5 := Lib.hid hh
  clear hh H4 C5
  have c5 := G5.out.b2.cells.2.2.2.2.1
  have f5 := G5.out.b2.frozen.2.2.2.2.1
  have H5 : Hid (Rd17 y (z5.setCell ⟨y.heap.size + 1, 4, none⟩ (.int .i64 x5)) b y.heap.size (y.heap.size + 1) t 30 x1 x2 x3 x4 x5 0) := G5.out.put 4 _ rfl
  obtain ⟨v5, hv⟩ : ∃ v, v = z5.setCell ⟨y.heap.size + 1, 4, none⟩ (.int .i64 x5) := ⟨_, rfl⟩
  rw [← hv] at H5
  have hv' := hv.symm
  clear hv
  go_wp2_with fail
  clear c5 f5 G5
  refine (C6.out _ _ _ _ _ _ _ H5.out).mono ?_
  rintro en z6 ⟨rfl, hh⟩
  have G6 := Lib.hid hh
  clear hh H5 C6
  have c6 := G6.out.b2.cells.2.2.2.2.2
  have f6 := G6.out.b2.frozen.2.2.2.2.2
  have H6 : Hid (Rd17 y (z6.setCell ⟨y.heap.size + 1, 5, none⟩ (.int .i64 x6)) b y.heap.size (y.heap.size + 1) t 31 x1 x2 x3 x4 x5 x6) := G6.out.put 5 _ rfl
  obtain ⟨v6, hv⟩ : ∃ v, v = z6.setCell ⟨y.heap.size + 1, 5, none⟩ (.int .i64 x6) := ⟨_, rfl⟩
  rw [← hv] at H6
  have hv' := hv.symm
  clear hv
  obtain ⟨d0, d1, d2, d3, d4, d5⟩ := H6.out.b2.cells
  obtain ⟨r0, r1, r2, r3, r4, r5⟩ := H6.out.b1.cells
  obtain ⟨g0, g1, g2, g3, g4, g5⟩ := H6.out.b1.frozen
  go_wp2_with fail
  rw [rounds_succ]
  go_wp2_with fail
  have hlt := H6.out.lt
  refine bodyPost_ret (v := Ev2 x1 x2 x3 x4 x5 x6) (by simp [results, Try.results25, go_sem, *]) rfl ⟨rfl, ?_, ?_⟩
  · (repeat refine Box.kept ?_ (grown_set _ _ _ _) (by omega))
    exact H6.out.rd
  · (repeat refine Kept.set ?_ (fun e => absurd e (Nat.lt_irrefl _)) _ _)
    exact H6.out.kept
end Go.Proofs.Ytoljggleekbbbaa
