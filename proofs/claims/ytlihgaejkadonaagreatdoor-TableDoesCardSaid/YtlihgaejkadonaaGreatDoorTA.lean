/-
  A wal of the call's own, on a disk of which no call fails; solderlaw16.Next at it. Walks over solderlaw16.Begun.
-/
import Derived.Test.YtlihgaejkadonaaGreatDoorWC
import Derived.Test.YtlihgaejkadonaaGreatDoorIA
import Derived.Test.YtlihgaejkadonaaGreatDoorPI
import Derived.Test.YtlihgaejkadonaaGreatDoorME
import Derived.Deep.RegionHeld3
namespace Go.Proofs.YtlihgaejkadonaaGreatDoor
open Go.RowKit Go.Maps

/-- Where a volume's log lies. -/
def M.geo (E S L : Nat) (h : M.lokB E S L = true) : M.Geo :=
  have hh := (M.lok_iff E S L).1 h
  ⟨M.ln E S L, M.ll E S, L, by omega, by omega, by unfold M.ln; omega, by unfold M.ln M.ll M.ls M.lx; omega⟩
theorem M.geo_gd {E S L : Nat} (h : M.lokB E S L = true) : M.gd (M.geo E S L h) 0 := by
  left
  show 0 < M.ll E S
  unfold M.ll M.ls M.lx
  omega
/-- A wal of the call's own, from block N on. -/
structure OW (a : M.Geo) (N : Nat) (w y : World) (b : Nat) (s : M.Wl) (T : Nat → ByteArray) (n : Nat) : Prop where
  wa : WA a y b (fun j => N ≤ j) s T n
  below : Below N w y
  le : N ≤ y.heap.size
section
variable {a : M.Geo} {N b n : Nat} {w y z : World} {s s' : M.Wl} {T T' : Nat → ByteArray}
theorem OW.step {m : Nat} (h : OW a N w y b s T n) (h1 : WA a z b (fun j => N ≤ j ∨ y.heap.size ≤ j) s' T' m) (h2 : Kept (fun j => N ≤ j) y z) : OW a N w z b s' T' m :=
  ⟨h1.mono (fun j _ e => e.elim id (fun e => Nat.le_trans h.le e)), h.below.trans (h2.below h.le (fun k hk e => by omega)), Nat.le_trans h.le h2.size⟩
theorem OW.beside (h : OW a N w y b s T n) (hb : Below y.heap.size y z) : OW a N w z b s T n :=
  ⟨h.wa.kept (Kept.of_below hb (fun _ => False)) (fun _ _ => id), h.below.trans (hb.mono h.le), Nat.le_trans h.le hb.size⟩
theorem OW.more (h : OW a N w y b s T n) {m : Nat} (hm : n ≤ m) : OW a N w y b s T m := ⟨h.wa.more hm, h.below, h.le⟩

/-- Beside newer blocks. -/
theorem OW.inner {y1 : World} (h : OW a N w y b s T n) (hb : Below y.heap.size y y1) : WA a y1 b (fun j => N ≤ j ∧ j < y.heap.size) s T n :=
  (h.wa.mono (fun _ hj e => ⟨e, hj⟩)).kept (Kept.of_below hb (fun _ => False)) (fun _ _ => id)
theorem OW.outer {m : Nat} {y1 : World} (h : OW a N w y b s T n) (hb : Below y.heap.size y y1) (h1 : WA a z b (fun j => (N ≤ j ∧ j < y.heap.size) ∨ y1.heap.size ≤ j) s' T' m) (h2 : Kept (fun j => N ≤ j ∧ j < y.heap.size) y1 z) : OW a N w z b s' T' m := by
  have hs := hb.size
  have hle := h.le
  exact ⟨h1.mono (fun _ _ e => e.elim (fun e => e.1) (fun e => by omega)), h.below.trans ((hb.mono h.le).trans (h2.below (Nat.le_trans h.le hs) (fun k hk e => by omega))), Nat.le_trans h.le (Nat.le_trans hs h2.size)⟩

/-- The same, and block g is none of its. -/
structure IW (a : M.Geo) (N g : Nat) (w z : World) (b : Nat) (s : M.Wl) (T : Nat → ByteArray) (n : Nat) : Prop where
  wa : WA a z b (fun j => N ≤ j ∧ j ≠ g) s T n
  below : Below N w z
  le : N ≤ z.heap.size
  ng : N ≤ g
  lt : g < z.heap.size
theorem IW.beside {g : Nat} {z2 : World} (h : IW a N g w z b s T n) (hb : Below z.heap.size z z2) : IW a N g w z2 b s T n :=
  ⟨h.wa.kept (Kept.of_below hb (fun _ => False)) (fun _ _ => id), h.below.trans (hb.mono h.le), Nat.le_trans h.le hb.size, h.ng, Nat.lt_of_lt_of_le h.lt hb.size⟩
theorem IW.set {g : Nat} (h : IW a N g w z b s T n) (i : Nat) (u : Value) : IW a N g w (z.setCell ⟨g, i, none⟩ u) b s T n :=
  ⟨h.wa.kept ((Kept.refl (fun j => j = g) z).set (fun _ => rfl) i u) (fun _ e => e.2), h.below.setCell h.ng u, by simpa [World.setCell] using h.le, h.ng, by simpa [World.setCell] using h.lt⟩
theorem IW.ow {g : Nat} (h : IW a N g w z b s T n) : OW a N w z b s T n := ⟨h.wa.mono (fun _ _ e => e.1), h.below, h.le⟩

theorem M.geo_guard (hg : M.gd a 0) : M.guards a.N a.fr a.mn 0 = true := by
  have := M.gd_guards hg
  simpa using this
theorem ErrT.low {N : Nat} {w y : World} (h : ErrT w) (hb : Below N w y) (hN : 1 < N) : ErrT y := (World.cell?_of_block (hb.block _ hN)).trans h
theorem Env10.low {N : Nat} {w y : World} (h : Env10 w) (hb : Below N w y) (hN : 0 < N) : Env10 y := by
  unfold Env10 World.var? at h ⊢
  rw [Tryz.gNone] at h ⊢
  simp only [Option.bind_some] at h ⊢
  rw [hb.block _ hN]
  exact h
set_option maxHeartbeats 4000000 in
theorem OW.next (h : OW a N w y b s T n) (hn : n ≤ 500000) (hE : ErrT w) (hN : 1 < N) (hact : s.act = true) (hu : s.used + s.l.length + 1 ≤ a.mn - 2) :
    Calls Tryz.prog 14 #[.pointer (some ⟨b, 0, none⟩)] y fun e z => e = .returned (.bool true) ∧ ∃ s', OW a N w z b s' (M.now s T) (n + 100) ∧ s'.act = true ∧ s'.l = [] ∧ s'.dk = s.dk := by
  have hE2 : ErrT y := hE.low h.below hN
  have C1 : Hid (Calls Tryz.prog 33 #[.pointer (some ⟨b, 0, none⟩)] y fun e z => e = .returned (.int .i64 0) ∧ ∃ s', OW a N w z b s' (M.now s T) (n + 100) ∧ s'.act = false ∧ s'.l = [] ∧ s'.dk = s.dk) := by
    refine (h.wa.commit hn hE2 (by omega)).mono ?_
    rintro e z ⟨hk, ⟨c1, _⟩ | ⟨c1, c2, c3, c4⟩ | ⟨_, _, c3, _⟩ | ⟨c1, c2, c3, c4, s', c5, c6, c7, c8, c9, c10⟩⟩
    · rw [hact] at c1; cases c1
    · rw [M.now_nil T c2]
      exact ⟨c3, _, (h.step c4 hk).more (Nat.le_add_right _ _), rfl, c2, rfl⟩
    · omega
    · exact ⟨c4, s', h.step c5 hk, c6, c7, c10⟩
  have C2 : Hid (∀ z, (∃ s', OW a N w z b s' (M.now s T) (n + 100) ∧ s'.act = false ∧ s'.l = [] ∧ s'.dk = s.dk) → Calls Tryz.prog 25 #[.pointer (some ⟨b, 0, none⟩)] z fun e z' => e = .returned (.int .i64 0) ∧ ∃ s', OW a N w z' b s' (M.now s T) (n + 100) ∧ s'.act = true ∧ s'.l = [] ∧ s'.dk = s.dk) := by
    rintro z ⟨s', c1, c2, c3, c4⟩
    refine c1.wa.begin.mono ?_
    rintro e z' ⟨e1, e2, e3⟩
    rw [c2] at e1
    exact ⟨e1, _, c1.step (e2.mono (fun _ _ e => Or.inl e)) e3, rfl, c3, c4⟩
  clear h hn hE hN hact hu hE2
  go_enter Tryz.func14, Tryz.ntmps14
  go_wp2_with fail
  refine C1.out.mono ?_
  rintro e z1 ⟨rfl, h1⟩
  have G1 := Lib.hid (C2.out z1 h1)
  clear h1 C1 C2
  go_wp2_with fail
  refine G1.out.mono ?_
  rintro e z2 ⟨rfl, h2⟩
  have G2 := Lib.hid h2
  clear h2 G1
  go_wp2_with fail
  go_ret
  exact ⟨rfl, G2.out⟩
end
end Go.Proofs.YtlihgaejkadonaaGreatDoor
namespace Go.Proofs.YtlihgaejkadonaaGreatDoor
open Go.RowKit Go.Maps

theorem M.seen_new (c k : Nat) (hk : k < c) : M.seen (M.new c).S (M.new c).L k = M.zeros 64 := by
  show (M.seen0 [] k).getD ((List.replicate c M.zero).getD k ByteArray.empty) = _
  rw [M.seen0_nil, List.getD_eq_getElem?_getD, List.getElem?_replicate, if_pos hk]
  rfl
theorem M.ok_new (a : M.Geo) : M.Ok14 a (M.new a.N) := ⟨rfl, rfl, by simp [M.new]⟩
theorem M.sees_new (a : M.Geo) : M.Sees a (M.new a.N) (fun _ => M.zeros 64) := fun k hk => M.seen_new a.N k hk
theorem M.held_geo (a : M.Geo) : M.held (a.N : Nat) = a.N := by
  have := a.few
  unfold M.held
  rw [if_neg (by omega), if_neg (by omega)]
  omega
theorem Env10.lt {w : World} (h : Env10 w) : 0 < w.heap.size := by
  unfold Env10 World.var? at h
  rw [Tryz.gNone] at h
  simp only [Option.bind_some] at h
  cases e : w.heap[0]? with
  | none => rw [e] at h; cases h
  | some o => exact lt_of_block e
theorem ErrT.lt {w : World} (h : ErrT w) : 1 < w.heap.size := by
  unfold ErrT World.cell? at h
  cases e : w.heap[1]? with
  | none => simp [e] at h
  | some o => exact lt_of_block e

/-- A volume that may not be. -/
theorem disknew_any (n : Int) (y : World) : Calls Tryz.prog 22 #[.int .i64 n] y fun e z => ∃ b, e = .returned (.pointer (some ⟨b, 0, none⟩)) ∧ Below y.heap.size y z :=
  (knew n y y (Below.refl _ y)).mono fun _ _ ⟨b, e1, e2⟩ => ⟨b, e1, e2.below⟩
set_option maxHeartbeats 4000000 in
theorem begun16_no (e s l : Int) (h : M.lokB e s l = false) (w : World) : Calls Tryz.prog 7 #[Cf e s l] w fun en y => en = .returned (.tuple #[.pointer none, .pointer none]) ∧ Below w.heap.size w y := by
  have C1 := Lib.hid (fun x => sectors15_no e s l h x)
  have C2 := Lib.hid (fun x => disknew_any 0 x)
  have C3 := Lib.hid (fun x => check15_any e s l x)
  rw [M.lerr_no h] at C3
  have HB := Lib.hid (ib1 w (.cells #[.int .i64 e, .int .i64 s, .int .i64 l] 23))
  have HX : Hid (Box (w.alloc (.cells #[.int .i64 e, .int .i64 s, .int .i64 l] 23)) w.heap.size 23 #[.int .i64 e, .int .i64 s, .int .i64 l]) := Box.new _ _ _
  clear h
  go_enter Tryz.func7, Tryz.ntmps7
  go_wp2_with fail
  refine (C1.out _).mono ?_
  rintro en w1 ⟨rfl, hb1⟩
  have H1 := Lib.hid (HX.out.below hb1 HX.out.lt)
  have HB1 := Lib.hid (HB.out.trans (hb1.mono HB.out.size))
  clear hb1
  go_wp2_with fail
  refine (C2.out _).mono ?_
  rintro en w2 ⟨d, rfl, hb2⟩
  have H2 := Lib.hid (H1.out.below hb2 H1.out.lt)
  have HB2 := Lib.hid (HB1.out.trans (hb2.mono HB1.out.size))
  clear hb2 H1
  have c0 := (H2.out.cell 0).trans (rfl : _ = some (Value.int .i64 e))
  have c1 := (H2.out.cell 1).trans (rfl : _ = some (Value.int .i64 s))
  have c2 := (H2.out.cell 2).trans (rfl : _ = some (Value.int .i64 l))
  have HS : Hid (∀ y, Below w2.heap.size w2 y → y.cell? ⟨w.heap.size, 0, none⟩ = some (.int .i64 e) ∧ y.cell? ⟨w.heap.size, 1, none⟩ = some (.int .i64 s) ∧ y.cell? ⟨w.heap.size, 2, none⟩ = some (.int .i64 l)) := fun y hb => ⟨(H2.out.below hb H2.out.lt).cell 0, (H2.out.below hb H2.out.lt).cell 1, (H2.out.below hb H2.out.lt).cell 2⟩
  have hb0 : Below w2.heap.size w2 w2 := Below.refl _ _
  have hS0 := HS.out w2 hb0
  clear c0 c1 c2
  go_wp2_with fail
  -- region
  refine wp_region_held_drew (S := (fun y => y.cell? ⟨w.heap.size, 0, none⟩ = some (.int .i64 e) ∧ y.cell? ⟨w.heap.size, 1, none⟩ = some (.int .i64 s) ∧ y.cell? ⟨w.heap.size, 2, none⟩ = some (.int .i64 l))) (by kernel_rfl) (by first | assumption) (fun hHeld => ?_)
  refine wpAnyH_take (i := 0) (oi := ?_) (v := ?_) ?_ (by kernel_rfl) (by kernel_rfl) (by kernel_rfl) ?_ ?_ (by assumption) ?_
  rotate_left 2
  · (simp only [List.getElem?_toArray, List.getElem?_cons_zero]; rfl)
  rotate_left
  · (refine Or.inl ⟨by rfl, ?_⟩; intro w hSw; (try dsimp only at hSw); go_simp; try with_reducible rfl)
  rotate_right
  · exact fun _ _ _ h => h
  simp only [Act.put, List.setIfInBounds_toArray, List.set_cons_zero, List.set_cons_succ]
  refine wpAnyH_ready (rs := [1]) (by kernel_rfl) (by simp) ?_
  refine AllReadyH.cons (o := ?_) ?_ (fun K hK => ?_) AllReadyH.nil
  rotate_left
  · (simp only [List.getElem?_toArray, List.getElem?_cons_zero, List.getElem?_cons_succ]; rfl)
  go_simp
  go_at_call 21; refine (Held.call HS (by first | assumption | exact Below.drew (by assumption)) (C3.out _)).mono ?_; rintro en w3 ⟨rfl, hb3, hS3⟩
  refine hK.out _ _ (by first | assumption) (fun hHeld => ?_)
  clear hK K
  refine wpAnyH_take (i := 2) (oi := ?_) (v := ?_) ?_ (by kernel_rfl) (by kernel_rfl) (by kernel_rfl) ?_ ?_ (by assumption) ?_
  rotate_left 2
  · (simp only [List.getElem?_toArray, List.getElem?_cons_zero, List.getElem?_cons_succ]; rfl)
  rotate_left
  · (refine Or.inl ⟨by rfl, ?_⟩; intro w hSw; (try dsimp only at hSw); go_simp; try with_reducible rfl)
  rotate_right
  · exact fun _ _ _ h => h
  simp only [Act.put, List.setIfInBounds_toArray, List.set_cons_zero, List.set_cons_succ]
  refine wpAnyH_take (i := 3) (oi := ?_) (v := ?_) ?_ (by kernel_rfl) (by kernel_rfl) (by kernel_rfl) ?_ ?_ (by assumption) ?_
  rotate_left 2
  · (simp only [List.getElem?_toArray, List.getElem?_cons_zero, List.getElem?_cons_succ]; rfl)
  rotate_left
  · (refine Or.inl ⟨by rfl, ?_⟩; intro w hSw; (try dsimp only at hSw); go_simp; try with_reducible rfl)
  rotate_right
  · exact fun _ _ _ h => h
  simp only [Act.put, List.setIfInBounds_toArray, List.set_cons_zero, List.set_cons_succ]
  refine wpAnyH_take (i := 4) (oi := ?_) (v := undef) ?_ (by kernel_rfl) (by kernel_rfl) (by kernel_rfl) ?_ (Or.inr ⟨?_, rfl⟩) (by assumption) ?_
  rotate_left
  · (simp only [List.getElem?_toArray, List.getElem?_cons_zero, List.getElem?_cons_succ]; rfl)
  · exact fun _ _ _ h => h
  · rfl
  simp only [Act.put, List.setIfInBounds_toArray, List.set_cons_zero, List.set_cons_succ]
  refine wpAnyH_take (i := 5) (oi := ?_) (v := undef) ?_ (by kernel_rfl) (by kernel_rfl) (by kernel_rfl) ?_ (Or.inr ⟨?_, rfl⟩) (by assumption) ?_
  rotate_left
  · (simp only [List.getElem?_toArray, List.getElem?_cons_zero, List.getElem?_cons_succ]; rfl)
  · exact fun _ _ _ h => h
  · rfl
  simp only [Act.put, List.setIfInBounds_toArray, List.set_cons_zero, List.set_cons_succ]
  refine wpAnyH_take (i := 6) (oi := ?_) (v := undef) ?_ (by kernel_rfl) (by kernel_rfl) (by kernel_rfl) ?_ (Or.inr ⟨?_, rfl⟩) (by assumption) ?_
  rotate_left
  · (simp only [List.getElem?_toArray, List.getElem?_cons_zero, List.getElem?_cons_succ]; rfl)
  · exact fun _ _ _ h => h
  · rfl
  simp only [Act.put, List.setIfInBounds_toArray, List.set_cons_zero, List.set_cons_succ]
  refine wpAnyH_take (i := 7) (oi := ?_) (v := undef) ?_ (by kernel_rfl) (by kernel_rfl) (by kernel_rfl) ?_ (Or.inr ⟨?_, rfl⟩) (by assumption) ?_
  rotate_left
  · (simp only [List.getElem?_toArray, List.getElem?_cons_zero, List.getElem?_cons_succ]; rfl)
  · exact fun _ _ _ h => h
  · rfl
  simp only [Act.put, List.setIfInBounds_toArray, List.set_cons_zero, List.set_cons_succ]
  refine wpAnyH_take (i := 8) (oi := ?_) (v := undef) ?_ (by kernel_rfl) (by kernel_rfl) (by kernel_rfl) ?_ (Or.inr ⟨?_, rfl⟩) (by assumption) ?_
  rotate_left
  · (simp only [List.getElem?_toArray, List.getElem?_cons_zero, List.getElem?_cons_succ]; rfl)
  · exact fun _ _ _ h => h
  · rfl
  simp only [Act.put, List.setIfInBounds_toArray, List.set_cons_zero, List.set_cons_succ]
  refine wpAnyH_take (i := 9) (oi := ?_) (v := undef) ?_ (by kernel_rfl) (by kernel_rfl) (by kernel_rfl) ?_ (Or.inr ⟨?_, rfl⟩) (by assumption) ?_
  rotate_left
  · (simp only [List.getElem?_toArray, List.getElem?_cons_zero, List.getElem?_cons_succ]; rfl)
  · exact fun _ _ _ h => h
  · rfl
  simp only [Act.put, List.setIfInBounds_toArray, List.set_cons_zero, List.set_cons_succ]
  refine wpAnyH_take (i := 10) (oi := ?_) (v := undef) ?_ (by kernel_rfl) (by kernel_rfl) (by kernel_rfl) ?_ (Or.inr ⟨?_, rfl⟩) (by assumption) ?_
  rotate_left
  · (simp only [List.getElem?_toArray, List.getElem?_cons_zero, List.getElem?_cons_succ]; rfl)
  · exact fun _ _ _ h => h
  · rfl
  simp only [Act.put, List.setIfInBounds_toArray, List.set_cons_zero, List.set_cons_succ]
  refine wpAnyH_take (i := 11) (oi := ?_) (v := ?_) ?_ (by kernel_rfl) (by kernel_rfl) (by kernel_rfl) ?_ ?_ (by assumption) ?_
  rotate_left 2
  · (simp only [List.getElem?_toArray, List.getElem?_cons_zero, List.getElem?_cons_succ]; rfl)
  rotate_left
  · (refine Or.inl ⟨by rfl, ?_⟩; intro w hSw; (try dsimp only at hSw); go_simp; try with_reducible rfl)
  rotate_right
  · exact fun _ _ _ h => h
  simp only [Act.put, List.setIfInBounds_toArray, List.set_cons_zero, List.set_cons_succ]
  refine wpAnyH_done (by kernel_rfl) ?_ _
  -- end
  have HB3 := Lib.hid (HB2.out.trans (hb3.mono HB2.out.size))
  go_wp2_with fail
  go_ret2
  exact ⟨rfl, HB3.out⟩

/-- What Begun's calls do, one behind the other, from the world w1 on. -/
theorem begun16_parts (E S L : Nat) (h : M.lokB E S L = true) (w1 : World) (hE : Env10 w1) (hET : ErrT w1) : ∃ (D0 D1 : World → Nat → Prop) (W0 W1 : World → Nat → Nat → Prop),
    (∀ x, Below w1.heap.size w1 x → Calls Tryz.prog 22 #[.int .i64 (M.ln E S L : Nat)] x fun e z => ∃ d, e = .returned (.pointer (some ⟨d, 0, none⟩)) ∧ D0 z d) ∧
    (∀ x z d, D0 x d → Below x.heap.size x z → D0 z d) ∧ (∀ x d, D0 x d → Below w1.heap.size w1 x) ∧
    (∀ x d, D0 x d → Calls Tryz.prog 24 #[.pointer (some ⟨d, 0, none⟩), .int .i64 (M.ll E S : Nat), .int .i64 (L : Nat)] x fun e z => e = .returned (.int .i64 0) ∧ D1 z d) ∧
    (∀ x z d, D1 x d → Below x.heap.size x z → D1 z d) ∧ (∀ x d, D1 x d → Below w1.heap.size w1 x) ∧
    (∀ x d, D1 x d → Calls Tryz.prog 18 #[.pointer (some ⟨d, 0, none⟩), .int .i64 (M.ll E S : Nat), .int .i64 (L : Nat)] x fun e z => ∃ b, e = .returned (.tuple #[.pointer (some ⟨b, 0, none⟩), .int .i64 0]) ∧ W0 z d b) ∧
    (∀ x d b, W0 x d b → Below w1.heap.size w1 x) ∧
    (∀ x d b, W0 x d b → Calls Tryz.prog 25 #[.pointer (some ⟨b, 0, none⟩)] x fun e z => e = .returned (.int .i64 0) ∧ W1 z d b) ∧
    (∀ x d b, W1 x d b → ∃ s, OW (M.geo E S L h) w1.heap.size w1 x b s (fun _ => M.zeros 64) 6000 ∧ s.act = true ∧ s.l = [] ∧ s.used = 0 ∧ s.dk = d) := by
  obtain ⟨a, ha⟩ : ∃ a, a = M.geo E S L h := ⟨_, rfl⟩
  have e1 : M.ln E S L = a.N := by rw [ha]; rfl
  have e2 : M.ll E S = a.fr := by rw [ha]; rfl
  have e3 : L = a.mn := by rw [ha]; rfl
  have hf := a.facts
  obtain ⟨V', hsp, hlg⟩ := M.Sp.format a
  obtain ⟨f1, f2, f3, f4⟩ := hsp.calm (M.ok_new a) (M.sees_new a) rfl
  obtain ⟨R, hR⟩ : ∃ R, R = M.steps14 (M.fmF a.fr a.mn) (M.new a.N) := ⟨_, rfl⟩
  rw [← hR] at f1 f2 f3 f4
  have ho : R.2.ops ≤ 260 := by have := f3.ops; exact Nat.le_trans this (by show 0 + 260 ≤ 260; omega)
  have hls : M.LS a R.2 (fun _ => M.zeros 64) 1000 := ⟨f3.ok, by rw [f4]; simp; omega, V', 1, 1, 0, [], f2, hlg, by rw [f4]; simp, by rw [f4]; simp⟩
  have h0 : (M.new a.N).S.length = a.N := by simp [M.new]
  rw [← ha, e1, e2, e3]
  refine ⟨fun x d => Disk x d (fun k => w1.heap.size ≤ k) (M.new a.N) ∧ Below w1.heap.size w1 x, fun x d => Disk x d (fun k => w1.heap.size ≤ k ∧ k < x.heap.size) R.2 ∧ Below w1.heap.size w1 x,
    fun x d b => ∃ s, OW a w1.heap.size w1 x b s (fun _ => M.zeros 64) 6000 ∧ s.act = false ∧ s.l = [] ∧ s.used = 0 ∧ s.dk = d, fun x d b => ∃ s, OW a w1.heap.size w1 x b s (fun _ => M.zeros 64) 6000 ∧ s.act = true ∧ s.l = [] ∧ s.used = 0 ∧ s.dk = d,
    ?_, ?_, ?_, ?_, ?_, ?_, ?_, ?_, ?_, ?_⟩
  · intro x hb
    refine (knew (a.N : Nat) w1 x hb).mono ?_
    rintro e z ⟨d, x1, x2⟩
    have hd := x2.disk
    rw [M.held_geo a] at hd
    exact ⟨d, x1, hd, x2.below⟩
  · rintro x z d ⟨x1, x2⟩ hb
    exact ⟨x1.kept (Kept.of_below hb (fun _ => False)) (fun _ _ => id), x2.trans (hb.mono x2.size)⟩
  · rintro x d ⟨x1, x2⟩
    exact x2
  · rintro x d ⟨x1, x2⟩
    have := format_any a.fr a.mn x x1 (by omega) (by omega) (by rw [h0]; omega) (by show 0 ≤ _; omega) hR.symm (fun e => absurd f1 e)
    rw [f1] at this
    refine this.mono ?_
    rintro e z ⟨y1, y2, y3⟩
    exact ⟨y1, y2.mono (fun k hk e => ⟨e.elim id (fun e => Nat.le_trans x2.size e), hk⟩), x2.trans (y3.below x2.size (fun k hk e => by omega))⟩
  · rintro x z d ⟨x1, x2⟩ hb
    exact ⟨(x1.kept (Kept.of_below hb (fun _ => False)) (fun _ _ => id)).mono (fun k hk e => ⟨e.1, hk⟩), x2.trans (hb.mono x2.size)⟩
  · rintro x d ⟨x1, x2⟩
    exact x2
  · rintro x d ⟨x1, x2⟩
    have l1 := hE.lt
    have l2 := hET.lt
    refine (open_calm x1 (fun k e => e.2) (hE.low x2 l1) (fun e => by omega) (hET.low x2 l2) (fun e => by omega) hls f4 (by omega)).mono ?_
    rintro e z ⟨b, s, y1, y2, y3, y4, y5, y6, y7, y8, y9⟩
    have hs := x2.size
    exact ⟨b, y1, s, ⟨(y2.mono (fun j _ e => e.elim (fun e => e.1) (fun e => by omega))).more (by omega), x2.trans (y9.below x2.size (fun k hk e => by omega)), Nat.le_trans x2.size y9.size⟩, y3, y4, y6, y8⟩
  · rintro x d b ⟨s, x1, x2, x3, x4, x5⟩
    exact x1.below
  · rintro x d b ⟨s, x1, x2, x3, x4, x5⟩
    refine x1.wa.begin.mono ?_
    rintro e z ⟨y1, y2, y3⟩
    rw [x2] at y1
    exact ⟨y1, _, x1.step (y2.mono (fun _ _ e => Or.inl e)) y3, rfl, x3, x4, x5⟩
  · rintro x d b hx
    exact hx

set_option maxHeartbeats 4000000 in
theorem begun16_ok (E S L : Nat) (h : M.lokB E S L = true) (w : World) (hE : Env10 w) (hET : ErrT w) : Calls Tryz.prog 7 #[Cf E S L] w fun e y => ∃ d b s, e = .returned (.tuple #[.pointer (some ⟨d, 0, none⟩), .pointer (some ⟨b, 0, none⟩)]) ∧ OW (M.geo E S L h) w.heap.size w y b s (fun _ => M.zeros 64) 6000 ∧ s.act = true ∧ s.l = [] ∧ s.used = 0 ∧ s.dk = d := by
  have C1 := Lib.hid (fun x => sectors15_ok E S L h x)
  have C3 := Lib.hid (fun x => check15_any E S L x)
  rw [M.lerr_ok h] at C3
  have C4 := Lib.hid (fun x => log15_ok E S L h x)
  have HB0 := ib1 w (.cells #[.int .i64 E, .int .i64 S, .int .i64 L] 23)
  obtain ⟨D0, D1, W0, W1, p1, p2, p3, p4, p5, p6, p7, p8, p9, p10⟩ := begun16_parts E S L h (w.alloc (.cells #[.int .i64 E, .int .i64 S, .int .i64 L] 23)) (hE.below HB0) (hET.low HB0 hET.lt)
  have P1 := Lib.hid p1
  have P2 := Lib.hid p2
  have P3 := Lib.hid p3
  have P4 := Lib.hid p4
  have P5 := Lib.hid p5
  have P6 := Lib.hid p6
  have P7 := Lib.hid p7
  have P8 := Lib.hid p8
  have P9 := Lib.hid p9
  have P10 : Hid (∀ x d b, W1 x d b → ∃ s, OW (M.geo E S L h) w.heap.size w x b s (fun _ => M.zeros 64) 6000 ∧ s.act = true ∧ s.l = [] ∧ s.used = 0 ∧ s.dk = d) := by
    intro x d b hx
    obtain ⟨s, ho, hr⟩ := p10 x d b hx
    exact ⟨s, ⟨ho.wa.mono (fun j _ e => by rw [World.size_alloc] at e; omega), HB0.trans (ho.below.mono HB0.size), Nat.le_trans HB0.size ho.le⟩, hr⟩
  obtain ⟨w0, hw0⟩ : ∃ x, x = w.alloc (.cells #[.int .i64 E, .int .i64 S, .int .i64 L] 23) := ⟨_, rfl⟩
  have HX : Hid (Box w0 w.heap.size 23 #[.int .i64 E, .int .i64 S, .int .i64 L]) := by show Box _ _ _ _; rw [hw0]; exact Box.new _ _ _
  rw [← hw0] at P1 P3 P6 P8
  clear p1 p2 p3 p4 p5 p6 p7 p8 p9 p10 HB0 hE hET
  obtain ⟨n0, hn0⟩ : ∃ x, x = M.ln E S L := ⟨_, rfl⟩
  obtain ⟨l0, hl0⟩ : ∃ x, x = M.ll E S := ⟨_, rfl⟩
  rw [← hn0] at C1 P1
  rw [← hl0] at C4 P4 P7
  clear hn0 hl0
  go_enter Tryz.func7, Tryz.ntmps7
  go_wp2_with fail
  rw [← hw0]
  clear hw0
  refine (C1.out _).mono ?_
  rintro en w1 ⟨rfl, hb1⟩
  have HB1 := Lib.hid hb1
  clear hb1
  go_wp2_with fail
  refine (P1.out _ HB1.out).mono ?_
  rintro en w2 ⟨d, rfl, h2⟩
  have G2 := Lib.hid h2
  clear h2 HB1
  have HC : Hid (∀ y, Below w0.heap.size w0 y → y.cell? ⟨w.heap.size, 0, none⟩ = some (.int .i64 E) ∧ y.cell? ⟨w.heap.size, 1, none⟩ = some (.int .i64 S) ∧ y.cell? ⟨w.heap.size, 2, none⟩ = some (.int .i64 L)) := fun y hb => ⟨(HX.out.below hb HX.out.lt).cell 0, (HX.out.below hb HX.out.lt).cell 1, (HX.out.below hb HX.out.lt).cell 2⟩
  have hS0 := HC.out w2 (P3.out _ _ G2.out)
  have hS0' : w2.drew.cell? ⟨w.heap.size, 0, none⟩ = some (.int .i64 E) ∧ w2.drew.cell? ⟨w.heap.size, 1, none⟩ = some (.int .i64 S) ∧ w2.drew.cell? ⟨w.heap.size, 2, none⟩ = some (.int .i64 L) := hS0
  go_wp2_with fail
  go_region_held3 (fun y => y.cell? ⟨w.heap.size, 0, none⟩ = some (.int .i64 E) ∧ y.cell? ⟨w.heap.size, 1, none⟩ = some (.int .i64 S) ∧ y.cell? ⟨w.heap.size, 2, none⟩ = some (.int .i64 L)) (first | assumption)
    (first
      | (go_at_call 21; refine (C3.out _).mono ?_; rintro en w3 ⟨rfl, hb3⟩; have G3 := Lib.hid (P2.out _ w3 d (by first | exact G2.out | exact P2.out _ _ _ G2.out (Below.refl _ _).drew) hb3); have hS3 := HC.out w3 (P3.out _ _ G3.out); clear hb3)
      | (go_at_call 19; refine (C4.out _).mono ?_; rintro en w4 ⟨rfl, hb4⟩; have G4 := Lib.hid (P2.out _ w4 d (by first | exact G3.out | exact P2.out _ _ _ G3.out (Below.refl _ _).drew) hb4); have hS4 := HC.out w4 (P3.out _ _ G4.out); clear hb4)
      | (go_at_call 24; refine (P4.out _ d (by first | exact G4.out | exact P2.out _ _ _ G4.out (Below.refl _ _).drew)).mono ?_; rintro en w5 ⟨rfl, h5⟩; have G5 := Lib.hid h5; have hS5 := HC.out w5 (P6.out _ _ G5.out); clear h5))
  clear hS0 hS0' hS3 hS4 G2 G3 G4 P1 P2 P3 P4 C1 C3
  have hS5' : w5.drew.cell? ⟨w.heap.size, 0, none⟩ = some (.int .i64 E) ∧ w5.drew.cell? ⟨w.heap.size, 1, none⟩ = some (.int .i64 S) ∧ w5.drew.cell? ⟨w.heap.size, 2, none⟩ = some (.int .i64 L) := hS5
  go_wp2_with fail
  go_region_held3 (fun y => y.cell? ⟨w.heap.size, 0, none⟩ = some (.int .i64 E) ∧ y.cell? ⟨w.heap.size, 1, none⟩ = some (.int .i64 S) ∧ y.cell? ⟨w.heap.size, 2, none⟩ = some (.int .i64 L)) (first | assumption | trivial)
    (first
      | (go_at_call 19; refine (C4.out _).mono ?_; rintro en w6 ⟨rfl, hb6⟩; have G6 := Lib.hid (P5.out _ w6 d (by first | exact G5.out | exact P5.out _ _ _ G5.out (Below.refl _ _).drew) hb6); have hS6 := HC.out w6 (P6.out _ _ G6.out); clear hb6)
      | (go_at_call 18; refine (P7.out _ d (by first | exact G6.out | exact P5.out _ _ _ G6.out (Below.refl _ _).drew)).mono ?_; rintro en w7 ⟨b, rfl, h7⟩; have G7 := Lib.hid h7; have hS7 := HC.out w7 (P8.out _ _ _ G7.out); clear h7))
  have G7' := Lib.hid (P9.out _ _ _ G7.out)
  clear hS5 hS5' hS6 hS7 G5 G6 P5 P6 P7 C4
  go_wp2_with fail
  refine G7'.out.mono ?_
  rintro en w8 ⟨rfl, h8⟩
  have G8 := Lib.hid (P10.out _ _ _ h8)
  clear h8 G7 G7' P9 P10
  go_wp2_with fail
  go_ret2
  exact ⟨d, b, (G8.out).imp (fun s hs => ⟨rfl, hs⟩)⟩
end Go.Proofs.YtlihgaejkadonaaGreatDoor
