/-
  A wal of the call's own, on a disk of which no call fails; solderlaw16.Next at it. Walks over solderlaw16.Begun. solderlaw16.Next at any wal on a disk of which no call fails: with room, and where room is made. A wal of a law's own among other things in memory, and what is seen over it, call by call: whatever stands on it.
-/
import Derived.Test.YtmgchfjfkdkaoaaGreatDoorWC
import Derived.Test.YtmgchfjfkdkaoaaGreatDoorIA
import Derived.Test.YtmgchfjfkdkaoaaGreatDoorPI
import Derived.Test.YtmgchfjfkdkaoaaGreatDoorME
import Derived.Deep.RegionHeld3
namespace Go.Proofs.YtmgchfjfkdkaoaaGreatDoor
open Go.RowKit Go.Maps

/-- Where a volume's log lies. -/
def M.geo (E S L : Nat) (h : M.lokB E S L = true) : M.Geo :=
  have hh := (M.lok_iff E S L).1 h
  ⟨M.ln E S L, M.ll E S, L, by omega, by omega, by unfold M.ln; omega, by unfold M.ln M.ll M.ls M.lx; omega⟩
theorem M.geo_gd {E S L : Nat} (h : M.lokB E S L = true) : M.gd (M.geo E S L h) 0 := by
  left
  show 0 < M.ll E S
  unfold M.ll M.ls M.lx
  omega
/-- A wal of the call's own, from block N on. -/
structure OW (a : M.Geo) (N : Nat) (w y : World) (b : Nat) (s : M.Wl) (T : Nat → ByteArray) (n : Nat) : Prop where
  wa : WA a y b (fun j => N ≤ j) s T n
  below : Below N w y
  le : N ≤ y.heap.size
section
variable {a : M.Geo} {N b n : Nat} {w y z : World} {s s' : M.Wl} {T T' : Nat → ByteArray}
theorem OW.step {m : Nat} (h : OW a N w y b s T n) (h1 : WA a z b (fun j => N ≤ j ∨ y.heap.size ≤ j) s' T' m) (h2 : Kept (fun j => N ≤ j) y z) : OW a N w z b s' T' m :=
  ⟨h1.mono (fun j _ e => e.elim id (fun e => Nat.le_trans h.le e)), h.below.trans (h2.below h.le (fun k hk e => by omega)), Nat.le_trans h.le h2.size⟩
theorem OW.beside (h : OW a N w y b s T n) (hb : Below y.heap.size y z) : OW a N w z b s T n :=
  ⟨h.wa.kept (Kept.of_below hb (fun _ => False)) (fun _ _ => id), h.below.trans (hb.mono h.le), Nat.le_trans h.le hb.size⟩
theorem OW.more (h : OW a N w y b s T n) {m : Nat} (hm : n ≤ m) : OW a N w y b s T m := ⟨h.wa.more hm, h.below, h.le⟩

/-- Beside newer blocks. -/
theorem OW.inner {y1 : World} (h : OW a N w y b s T n) (hb : Below y.heap.size y y1) : WA a y1 b (fun j => N ≤ j ∧ j < y.heap.size) s T n :=
  (h.wa.mono (fun _ hj e => ⟨e, hj⟩)).kept (Kept.of_below hb (fun _ => False)) (fun _ _ => id)
theorem OW.outer {m : Nat} {y1 : World} (h : OW a N w y b s T n) (hb : Below y.heap.size y y1) (h1 : WA a z b (fun j => (N ≤ j ∧ j < y.heap.size) ∨ y1.heap.size ≤ j) s' T' m) (h2 : Kept (fun j => N ≤ j ∧ j < y.heap.size) y1 z) : OW a N w z b s' T' m := by
  have hs := hb.size
  have hle := h.le
  exact ⟨h1.mono (fun _ _ e => e.elim (fun e => e.1) (fun e => by omega)), h.below.trans ((hb.mono h.le).trans (h2.below (Nat.le_trans h.le hs) (fun k hk e => by omega))), Nat.le_trans h.le (Nat.le_trans hs h2.size)⟩

/-- The same, and block g is none of its. -/
structure IW (a : M.Geo) (N g : Nat) (w z : World) (b : Nat) (s : M.Wl) (T : Nat → ByteArray) (n : Nat) : Prop where
  wa : WA a z b (fun j => N ≤ j ∧ j ≠ g) s T n
  below : Below N w z
  le : N ≤ z.heap.size
  ng : N ≤ g
  lt : g < z.heap.size
theorem IW.beside {g : Nat} {z2 : World} (h : IW a N g w z b s T n) (hb : Below z.heap.size z z2) : IW a N g w z2 b s T n :=
  ⟨h.wa.kept (Kept.of_below hb (fun _ => False)) (fun _ _ => id), h.below.trans (hb.mono h.le), Nat.le_trans h.le hb.size, h.ng, Nat.lt_of_lt_of_le h.lt hb.size⟩
theorem IW.set {g : Nat} (h : IW a N g w z b s T n) (i : Nat) (u : Value) : IW a N g w (z.setCell ⟨g, i, none⟩ u) b s T n :=
  ⟨h.wa.kept ((Kept.refl (fun j => j = g) z).set (fun _ => rfl) i u) (fun _ e => e.2), h.below.setCell h.ng u, by simpa [World.setCell] using h.le, h.ng, by simpa [World.setCell] using h.lt⟩
theorem IW.ow {g : Nat} (h : IW a N g w z b s T n) : OW a N w z b s T n := ⟨h.wa.mono (fun _ _ e => e.1), h.below, h.le⟩

theorem M.geo_guard (hg : M.gd a 0) : M.guards a.N a.fr a.mn 0 = true := by
  have := M.gd_guards hg
  simpa using this
theorem ErrT.low {N : Nat} {w y : World} (h : ErrT w) (hb : Below N w y) (hN : 1 < N) : ErrT y := (World.cell?_of_block (hb.block _ hN)).trans h
theorem Env10.low {N : Nat} {w y : World} (h : Env10 w) (hb : Below N w y) (hN : 0 < N) : Env10 y := by
  unfold Env10 World.var? at h ⊢
  rw [Tryz.gNone] at h ⊢
  simp only [Option.bind_some] at h ⊢
  rw [hb.block _ hN]
  exact h
set_option maxHeartbeats 4000000 in
theorem OW.next (h : OW a N w y b s T n) (hn : n ≤ 500000) (hE : ErrT w) (hN : 1 < N) (hact : s.act = true) (hu : s.used + s.l.length + 1 ≤ a.mn - 2) :
    Calls Tryz.prog 12 #[.pointer (some ⟨b, 0, none⟩)] y fun e z => e = .returned (.bool true) ∧ ∃ s', OW a N w z b s' (M.now s T) (n + 100) ∧ s'.act = true ∧ s'.l = [] ∧ s'.dk = s.dk := by
  have hE2 : ErrT y := hE.low h.below hN
  have C1 : Hid (Calls Tryz.prog 26 #[.pointer (some ⟨b, 0, none⟩)] y fun e z => e = .returned (.int .i64 0) ∧ ∃ s', OW a N w z b s' (M.now s T) (n + 100) ∧ s'.act = false ∧ s'.l = [] ∧ s'.dk = s.dk) := by
    refine (h.wa.commit hn hE2 (by omega)).mono ?_
    rintro e z ⟨hk, ⟨c1, _⟩ | ⟨c1, c2, c3, c4⟩ | ⟨_, _, c3, _⟩ | ⟨c1, c2, c3, c4, s', c5, c6, c7, c8, c9, c10⟩⟩
    · rw [hact] at c1; cases c1
    · rw [M.now_nil T c2]
      exact ⟨c3, _, (h.step c4 hk).more (Nat.le_add_right _ _), rfl, c2, rfl⟩
    · omega
    · exact ⟨c4, s', h.step c5 hk, c6, c7, c10⟩
  have C2 : Hid (∀ z, (∃ s', OW a N w z b s' (M.now s T) (n + 100) ∧ s'.act = false ∧ s'.l = [] ∧ s'.dk = s.dk) → Calls Tryz.prog 25 #[.pointer (some ⟨b, 0, none⟩)] z fun e z' => e = .returned (.int .i64 0) ∧ ∃ s', OW a N w z' b s' (M.now s T) (n + 100) ∧ s'.act = true ∧ s'.l = [] ∧ s'.dk = s.dk) := by
    rintro z ⟨s', c1, c2, c3, c4⟩
    refine c1.wa.begin.mono ?_
    rintro e z' ⟨e1, e2, e3⟩
    rw [c2] at e1
    exact ⟨e1, _, c1.step (e2.mono (fun _ _ e => Or.inl e)) e3, rfl, c3, c4⟩
  clear h hn hE hN hact hu hE2
  go_enter Tryz.func12, Tryz.ntmps12
  go_wp2_with fail
  refine C1.out.mono ?_
  rintro e z1 ⟨rfl, h1⟩
  have G1 := Lib.hid (C2.out z1 h1)
  clear h1 C1 C2
  go_wp2_with fail
  refine G1.out.mono ?_
  rintro e z2 ⟨rfl, h2⟩
  have G2 := Lib.hid h2
  clear h2 G1
  go_wp2_with fail
  go_ret
  exact ⟨rfl, G2.out⟩
end
end Go.Proofs.YtmgchfjfkdkaoaaGreatDoor
namespace Go.Proofs.YtmgchfjfkdkaoaaGreatDoor
open Go.RowKit Go.Maps

theorem M.seen_new (c k : Nat) (hk : k < c) : M.seen (M.new c).S (M.new c).L k = M.zeros 64 := by
  show (M.seen0 [] k).getD ((List.replicate c M.zero).getD k ByteArray.empty) = _
  rw [M.seen0_nil, List.getD_eq_getElem?_getD, List.getElem?_replicate, if_pos hk]
  rfl
theorem M.ok_new (a : M.Geo) : M.Ok14 a (M.new a.N) := ⟨rfl, rfl, by simp [M.new]⟩
theorem M.sees_new (a : M.Geo) : M.Sees a (M.new a.N) (fun _ => M.zeros 64) := fun k hk => M.seen_new a.N k hk
theorem M.held_geo (a : M.Geo) : M.held (a.N : Nat) = a.N := by
  have := a.few
  unfold M.held
  rw [if_neg (by omega), if_neg (by omega)]
  omega
theorem Env10.lt {w : World} (h : Env10 w) : 0 < w.heap.size := by
  unfold Env10 World.var? at h
  rw [Tryz.gNone] at h
  simp only [Option.bind_some] at h
  cases e : w.heap[0]? with
  | none => rw [e] at h; cases h
  | some o => exact lt_of_block e
theorem ErrT.lt {w : World} (h : ErrT w) : 1 < w.heap.size := by
  unfold ErrT World.cell? at h
  cases e : w.heap[1]? with
  | none => simp [e] at h
  | some o => exact lt_of_block e

/-- A volume that may not be. -/
theorem disknew_any (n : Int) (y : World) : Calls Tryz.prog 22 #[.int .i64 n] y fun e z => ∃ b, e = .returned (.pointer (some ⟨b, 0, none⟩)) ∧ Below y.heap.size y z :=
  (knew n y y (Below.refl _ y)).mono fun _ _ ⟨b, e1, e2⟩ => ⟨b, e1, e2.below⟩
set_option maxHeartbeats 4000000 in
theorem begun16_no (e s l : Int) (h : M.lokB e s l = false) (w : World) : Calls Tryz.prog 9 #[Cf e s l] w fun en y => en = .returned (.tuple #[.pointer none, .pointer none]) ∧ Below w.heap.size w y := by
  have C1 := Lib.hid (fun x => sectors15_no e s l h x)
  have C2 := Lib.hid (fun x => disknew_any 0 x)
  have C3 := Lib.hid (fun x => check15_any e s l x)
  rw [M.lerr_no h] at C3
  have HB := Lib.hid (ib1 w (.cells #[.int .i64 e, .int .i64 s, .int .i64 l] 23))
  have HX : Hid (Box (w.alloc (.cells #[.int .i64 e, .int .i64 s, .int .i64 l] 23)) w.heap.size 23 #[.int .i64 e, .int .i64 s, .int .i64 l]) := Box.new _ _ _
  clear h
  go_enter Tryz.func9, Tryz.ntmps9
  go_wp2_with fail
  refine (C1.out _).mono ?_
  rintro en w1 ⟨rfl, hb1⟩
  have H1 := Lib.hid (HX.out.below hb1 HX.out.lt)
  have HB1 := Lib.hid (HB.out.trans (hb1.mono HB.out.size))
  clear hb1
  go_wp2_with fail
  refine (C2.out _).mono ?_
  rintro en w2 ⟨d, rfl, hb2⟩
  have H2 := Lib.hid (H1.out.below hb2 H1.out.lt)
  have HB2 := Lib.hid (HB1.out.trans (hb2.mono HB1.out.size))
  clear hb2 H1
  have c0 := (H2.out.cell 0).trans (rfl : _ = some (Value.int .i64 e))
  have c1 := (H2.out.cell 1).trans (rfl : _ = some (Value.int .i64 s))
  have c2 := (H2.out.cell 2).trans (rfl : _ = some (Value.int .i64 l))
  have HS : Hid (∀ y, Below w2.heap.size w2 y → y.cell? ⟨w.heap.size, 0, none⟩ = some (.int .i64 e) ∧ y.cell? ⟨w.heap.size, 1, none⟩ = some (.int .i64 s) ∧ y.cell? ⟨w.heap.size, 2, none⟩ = some (.int .i64 l)) := fun y hb => ⟨(H2.out.below hb H2.out.lt).cell 0, (H2.out.below hb H2.out.lt).cell 1, (H2.out.below hb H2.out.lt).cell 2⟩
  have hb0 : Below w2.heap.size w2 w2 := Below.refl _ _
  have hS0 := HS.out w2 hb0
  clear c0 c1 c2
  go_wp2_with fail
  -- region
  refine wp_region_held_drew (S := (fun y => y.cell? ⟨w.heap.size, 0, none⟩ = some (.int .i64 e) ∧ y.cell? ⟨w.heap.size, 1, none⟩ = some (.int .i64 s) ∧ y.cell? ⟨w.heap.size, 2, none⟩ = some (.int .i64 l))) (by kernel_rfl) (by first | assumption) (fun hHeld => ?_)
  refine wpAnyH_take (i := 0) (oi := ?_) (v := ?_) ?_ (by kernel_rfl) (by kernel_rfl) (by kernel_rfl) ?_ ?_ (by assumption) ?_
  rotate_left 2
  · (simp only [List.getElem?_toArray, List.getElem?_cons_zero]; rfl)
  rotate_left
  · (refine Or.inl ⟨by rfl, ?_⟩; intro w hSw; (try dsimp only at hSw); go_simp; try with_reducible rfl)
  rotate_right
  · exact fun _ _ _ h => h
  simp only [Act.put, List.setIfInBounds_toArray, List.set_cons_zero, List.set_cons_succ]
  refine wpAnyH_ready (rs := [1]) (by kernel_rfl) (by simp) ?_
  refine AllReadyH.cons (o := ?_) ?_ (fun K hK => ?_) AllReadyH.nil
  rotate_left
  · (simp only [List.getElem?_toArray, List.getElem?_cons_zero, List.getElem?_cons_succ]; rfl)
  go_simp
  go_at_call 21; refine (Held.call HS (by first | assumption | exact Below.drew (by assumption)) (C3.out _)).mono ?_; rintro en w3 ⟨rfl, hb3, hS3⟩
  refine hK.out _ _ (by first | assumption) (fun hHeld => ?_)
  clear hK K
  refine wpAnyH_take (i := 2) (oi := ?_) (v := ?_) ?_ (by kernel_rfl) (by kernel_rfl) (by kernel_rfl) ?_ ?_ (by assumption) ?_
  rotate_left 2
  · (simp only [List.getElem?_toArray, List.getElem?_cons_zero, List.getElem?_cons_succ]; rfl)
  rotate_left
  · (refine Or.inl ⟨by rfl, ?_⟩; intro w hSw; (try dsimp only at hSw); go_simp; try with_reducible rfl)
  rotate_right
  · exact fun _ _ _ h => h
  simp only [Act.put, List.setIfInBounds_toArray, List.set_cons_zero, List.set_cons_succ]
  refine wpAnyH_take (i := 3) (oi := ?_) (v := ?_) ?_ (by kernel_rfl) (by kernel_rfl) (by kernel_rfl) ?_ ?_ (by assumption) ?_
  rotate_left 2
  · (simp only [List.getElem?_toArray, List.getElem?_cons_zero, List.getElem?_cons_succ]; rfl)
  rotate_left
  · (refine Or.inl ⟨by rfl, ?_⟩; intro w hSw; (try dsimp only at hSw); go_simp; try with_reducible rfl)
  rotate_right
  · exact fun _ _ _ h => h
  simp only [Act.put, List.setIfInBounds_toArray, List.set_cons_zero, List.set_cons_succ]
  refine wpAnyH_take (i := 4) (oi := ?_) (v := undef) ?_ (by kernel_rfl) (by kernel_rfl) (by kernel_rfl) ?_ (Or.inr ⟨?_, rfl⟩) (by assumption) ?_
  rotate_left
  · (simp only [List.getElem?_toArray, List.getElem?_cons_zero, List.getElem?_cons_succ]; rfl)
  · exact fun _ _ _ h => h
  · rfl
  simp only [Act.put, List.setIfInBounds_toArray, List.set_cons_zero, List.set_cons_succ]
  refine wpAnyH_take (i := 5) (oi := ?_) (v := undef) ?_ (by kernel_rfl) (by kernel_rfl) (by kernel_rfl) ?_ (Or.inr ⟨?_, rfl⟩) (by assumption) ?_
  rotate_left
  · (simp only [List.getElem?_toArray, List.getElem?_cons_zero, List.getElem?_cons_succ]; rfl)
  · exact fun _ _ _ h => h
  · rfl
  simp only [Act.put, List.setIfInBounds_toArray, List.set_cons_zero, List.set_cons_succ]
  refine wpAnyH_take (i := 6) (oi := ?_) (v := undef) ?_ (by kernel_rfl) (by kernel_rfl) (by kernel_rfl) ?_ (Or.inr ⟨?_, rfl⟩) (by assumption) ?_
  rotate_left
  · (simp only [List.getElem?_toArray, List.getElem?_cons_zero, List.getElem?_cons_succ]; rfl)
  · exact fun _ _ _ h => h
  · rfl
  simp only [Act.put, List.setIfInBounds_toArray, List.set_cons_zero, List.set_cons_succ]
  refine wpAnyH_take (i := 7) (oi := ?_) (v := undef) ?_ (by kernel_rfl) (by kernel_rfl) (by kernel_rfl) ?_ (Or.inr ⟨?_, rfl⟩) (by assumption) ?_
  rotate_left
  · (simp only [List.getElem?_toArray, List.getElem?_cons_zero, List.getElem?_cons_succ]; rfl)
  · exact fun _ _ _ h => h
  · rfl
  simp only [Act.put, List.setIfInBounds_toArray, List.set_cons_zero, List.set_cons_succ]
  refine wpAnyH_take (i := 8) (oi := ?_) (v := undef) ?_ (by kernel_rfl) (by kernel_rfl) (by kernel_rfl) ?_ (Or.inr ⟨?_, rfl⟩) (by assumption) ?_
  rotate_left
  · (simp only [List.getElem?_toArray, List.getElem?_cons_zero, List.getElem?_cons_succ]; rfl)
  · exact fun _ _ _ h => h
  · rfl
  simp only [Act.put, List.setIfInBounds_toArray, List.set_cons_zero, List.set_cons_succ]
  refine wpAnyH_take (i := 9) (oi := ?_) (v := undef) ?_ (by kernel_rfl) (by kernel_rfl) (by kernel_rfl) ?_ (Or.inr ⟨?_, rfl⟩) (by assumption) ?_
  rotate_left
  · (simp only [List.getElem?_toArray, List.getElem?_cons_zero, List.getElem?_cons_succ]; rfl)
  · exact fun _ _ _ h => h
  · rfl
  simp only [Act.put, List.setIfInBounds_toArray, List.set_cons_zero, List.set_cons_succ]
  refine wpAnyH_take (i := 10) (oi := ?_) (v := undef) ?_ (by kernel_rfl) (by kernel_rfl) (by kernel_rfl) ?_ (Or.inr ⟨?_, rfl⟩) (by assumption) ?_
  rotate_left
  · (simp only [List.getElem?_toArray, List.getElem?_cons_zero, List.getElem?_cons_succ]; rfl)
  · exact fun _ _ _ h => h
  · rfl
  simp only [Act.put, List.setIfInBounds_toArray, List.set_cons_zero, List.set_cons_succ]
  refine wpAnyH_take (i := 11) (oi := ?_) (v := ?_) ?_ (by kernel_rfl) (by kernel_rfl) (by kernel_rfl) ?_ ?_ (by assumption) ?_
  rotate_left 2
  · (simp only [List.getElem?_toArray, List.getElem?_cons_zero, List.getElem?_cons_succ]; rfl)
  rotate_left
  · (refine Or.inl ⟨by rfl, ?_⟩; intro w hSw; (try dsimp only at hSw); go_simp; try with_reducible rfl)
  rotate_right
  · exact fun _ _ _ h => h
  simp only [Act.put, List.setIfInBounds_toArray, List.set_cons_zero, List.set_cons_succ]
  refine wpAnyH_done (by kernel_rfl) ?_ _
  -- end
  have HB3 := Lib.hid (HB2.out.trans (hb3.mono HB2.out.size))
  go_wp2_with fail
  go_ret2
  exact ⟨rfl, HB3.out⟩

/-- What Begun's calls do, one behind the other, from the world w1 on. -/
theorem begun16_parts (E S L : Nat) (h : M.lokB E S L = true) (w1 : World) (hE : Env10 w1) (hET : ErrT w1) : ∃ (D0 D1 : World → Nat → Prop) (W0 W1 : World → Nat → Nat → Prop),
    (∀ x, Below w1.heap.size w1 x → Calls Tryz.prog 22 #[.int .i64 (M.ln E S L : Nat)] x fun e z => ∃ d, e = .returned (.pointer (some ⟨d, 0, none⟩)) ∧ D0 z d) ∧
    (∀ x z d, D0 x d → Below x.heap.size x z → D0 z d) ∧ (∀ x d, D0 x d → Below w1.heap.size w1 x) ∧
    (∀ x d, D0 x d → Calls Tryz.prog 24 #[.pointer (some ⟨d, 0, none⟩), .int .i64 (M.ll E S : Nat), .int .i64 (L : Nat)] x fun e z => e = .returned (.int .i64 0) ∧ D1 z d) ∧
    (∀ x z d, D1 x d → Below x.heap.size x z → D1 z d) ∧ (∀ x d, D1 x d → Below w1.heap.size w1 x) ∧
    (∀ x d, D1 x d → Calls Tryz.prog 16 #[.pointer (some ⟨d, 0, none⟩), .int .i64 (M.ll E S : Nat), .int .i64 (L : Nat)] x fun e z => ∃ b, e = .returned (.tuple #[.pointer (some ⟨b, 0, none⟩), .int .i64 0]) ∧ W0 z d b) ∧
    (∀ x d b, W0 x d b → Below w1.heap.size w1 x) ∧
    (∀ x d b, W0 x d b → Calls Tryz.prog 25 #[.pointer (some ⟨b, 0, none⟩)] x fun e z => e = .returned (.int .i64 0) ∧ W1 z d b) ∧
    (∀ x d b, W1 x d b → ∃ s, OW (M.geo E S L h) w1.heap.size w1 x b s (fun _ => M.zeros 64) 6000 ∧ s.act = true ∧ s.l = [] ∧ s.used = 0 ∧ s.dk = d) := by
  obtain ⟨a, ha⟩ : ∃ a, a = M.geo E S L h := ⟨_, rfl⟩
  have e1 : M.ln E S L = a.N := by rw [ha]; rfl
  have e2 : M.ll E S = a.fr := by rw [ha]; rfl
  have e3 : L = a.mn := by rw [ha]; rfl
  have hf := a.facts
  obtain ⟨V', hsp, hlg⟩ := M.Sp.format a
  obtain ⟨f1, f2, f3, f4⟩ := hsp.calm (M.ok_new a) (M.sees_new a) rfl
  obtain ⟨R, hR⟩ : ∃ R, R = M.steps14 (M.fmF a.fr a.mn) (M.new a.N) := ⟨_, rfl⟩
  rw [← hR] at f1 f2 f3 f4
  have ho : R.2.ops ≤ 260 := by have := f3.ops; exact Nat.le_trans this (by show 0 + 260 ≤ 260; omega)
  have hls : M.LS a R.2 (fun _ => M.zeros 64) 1000 := ⟨f3.ok, by rw [f4]; simp; omega, V', 1, 1, 0, [], f2, hlg, by rw [f4]; simp, by rw [f4]; simp⟩
  have h0 : (M.new a.N).S.length = a.N := by simp [M.new]
  rw [← ha, e1, e2, e3]
  refine ⟨fun x d => Disk x d (fun k => w1.heap.size ≤ k) (M.new a.N) ∧ Below w1.heap.size w1 x, fun x d => Disk x d (fun k => w1.heap.size ≤ k ∧ k < x.heap.size) R.2 ∧ Below w1.heap.size w1 x,
    fun x d b => ∃ s, OW a w1.heap.size w1 x b s (fun _ => M.zeros 64) 6000 ∧ s.act = false ∧ s.l = [] ∧ s.used = 0 ∧ s.dk = d, fun x d b => ∃ s, OW a w1.heap.size w1 x b s (fun _ => M.zeros 64) 6000 ∧ s.act = true ∧ s.l = [] ∧ s.used = 0 ∧ s.dk = d,
    ?_, ?_, ?_, ?_, ?_, ?_, ?_, ?_, ?_, ?_⟩
  · intro x hb
    refine (knew (a.N : Nat) w1 x hb).mono ?_
    rintro e z ⟨d, x1, x2⟩
    have hd := x2.disk
    rw [M.held_geo a] at hd
    exact ⟨d, x1, hd, x2.below⟩
  · rintro x z d ⟨x1, x2⟩ hb
    exact ⟨x1.kept (Kept.of_below hb (fun _ => False)) (fun _ _ => id), x2.trans (hb.mono x2.size)⟩
  · rintro x d ⟨x1, x2⟩
    exact x2
  · rintro x d ⟨x1, x2⟩
    have := format_any a.fr a.mn x x1 (by omega) (by omega) (by rw [h0]; omega) (by show 0 ≤ _; omega) hR.symm (fun e => absurd f1 e)
    rw [f1] at this
    refine this.mono ?_
    rintro e z ⟨y1, y2, y3⟩
    exact ⟨y1, y2.mono (fun k hk e => ⟨e.elim id (fun e => Nat.le_trans x2.size e), hk⟩), x2.trans (y3.below x2.size (fun k hk e => by omega))⟩
  · rintro x z d ⟨x1, x2⟩ hb
    exact ⟨(x1.kept (Kept.of_below hb (fun _ => False)) (fun _ _ => id)).mono (fun k hk e => ⟨e.1, hk⟩), x2.trans (hb.mono x2.size)⟩
  · rintro x d ⟨x1, x2⟩
    exact x2
  · rintro x d ⟨x1, x2⟩
    have l1 := hE.lt
    have l2 := hET.lt
    refine (open_calm x1 (fun k e => e.2) (hE.low x2 l1) (fun e => by omega) (hET.low x2 l2) (fun e => by omega) hls f4 (by omega)).mono ?_
    rintro e z ⟨b, s, y1, y2, y3, y4, y5, y6, y7, y8, y9⟩
    have hs := x2.size
    exact ⟨b, y1, s, ⟨(y2.mono (fun j _ e => e.elim (fun e => e.1) (fun e => by omega))).more (by omega), x2.trans (y9.below x2.size (fun k hk e => by omega)), Nat.le_trans x2.size y9.size⟩, y3, y4, y6, y8⟩
  · rintro x d b ⟨s, x1, x2, x3, x4, x5⟩
    exact x1.below
  · rintro x d b ⟨s, x1, x2, x3, x4, x5⟩
    refine x1.wa.begin.mono ?_
    rintro e z ⟨y1, y2, y3⟩
    rw [x2] at y1
    exact ⟨y1, _, x1.step (y2.mono (fun _ _ e => Or.inl e)) y3, rfl, x3, x4, x5⟩
  · rintro x d b hx
    exact hx

set_option maxHeartbeats 4000000 in
theorem begun16_ok (E S L : Nat) (h : M.lokB E S L = true) (w : World) (hE : Env10 w) (hET : ErrT w) : Calls Tryz.prog 9 #[Cf E S L] w fun e y => ∃ d b s, e = .returned (.tuple #[.pointer (some ⟨d, 0, none⟩), .pointer (some ⟨b, 0, none⟩)]) ∧ OW (M.geo E S L h) w.heap.size w y b s (fun _ => M.zeros 64) 6000 ∧ s.act = true ∧ s.l = [] ∧ s.used = 0 ∧ s.dk = d := by
  have C1 := Lib.hid (fun x => sectors15_ok E S L h x)
  have C3 := Lib.hid (fun x => check15_any E S L x)
  rw [M.lerr_ok h] at C3
  have C4 := Lib.hid (fun x => log15_ok E S L h x)
  have HB0 := ib1 w (.cells #[.int .i64 E, .int .i64 S, .int .i64 L] 23)
  obtain ⟨D0, D1, W0, W1, p1, p2, p3, p4, p5, p6, p7, p8, p9, p10⟩ := begun16_parts E S L h (w.alloc (.cells #[.int .i64 E, .int .i64 S, .int .i64 L] 23)) (hE.below HB0) (hET.low HB0 hET.lt)
  have P1 := Lib.hid p1
  have P2 := Lib.hid p2
  have P3 := Lib.hid p3
  have P4 := Lib.hid p4
  have P5 := Lib.hid p5
  have P6 := Lib.hid p6
  have P7 := Lib.hid p7
  have P8 := Lib.hid p8
  have P9 := Lib.hid p9
  have P10 : Hid (∀ x d b, W1 x d b → ∃ s, OW (M.geo E S L h) w.heap.size w x b s (fun _ => M.zeros 64) 6000 ∧ s.act = true ∧ s.l = [] ∧ s.used = 0 ∧ s.dk = d) := by
    intro x d b hx
    obtain ⟨s, ho, hr⟩ := p10 x d b hx
    exact ⟨s, ⟨ho.wa.mono (fun j _ e => by rw [World.size_alloc] at e; omega), HB0.trans (ho.below.mono HB0.size), Nat.le_trans HB0.size ho.le⟩, hr⟩
  obtain ⟨w0, hw0⟩ : ∃ x, x = w.alloc (.cells #[.int .i64 E, .int .i64 S, .int .i64 L] 23) := ⟨_, rfl⟩
  have HX : Hid (Box w0 w.heap.size 23 #[.int .i64 E, .int .i64 S, .int .i64 L]) := by show Box _ _ _ _; rw [hw0]; exact Box.new _ _ _
  rw [← hw0] at P1 P3 P6 P8
  clear p1 p2 p3 p4 p5 p6 p7 p8 p9 p10 HB0 hE hET
  obtain ⟨n0, hn0⟩ : ∃ x, x = M.ln E S L := ⟨_, rfl⟩
  obtain ⟨l0, hl0⟩ : ∃ x, x = M.ll E S := ⟨_, rfl⟩
  rw [← hn0] at C1 P1
  rw [← hl0] at C4 P4 P7
  clear hn0 hl0
  go_enter Tryz.func9, Tryz.ntmps9
  go_wp2_with fail
  rw [← hw0]
  clear hw0
  refine (C1.out _).mono ?_
  rintro en w1 ⟨rfl, hb1⟩
  have HB1 := Lib.hid hb1
  clear hb1
  go_wp2_with fail
  refine (P1.out _ HB1.out).mono ?_
  rintro en w2 ⟨d, rfl, h2⟩
  have G2 := Lib.hid h2
  clear h2 HB1
  have HC : Hid (∀ y, Below w0.heap.size w0 y → y.cell? ⟨w.heap.size, 0, none⟩ = some (.int .i64 E) ∧ y.cell? ⟨w.heap.size, 1, none⟩ = some (.int .i64 S) ∧ y.cell? ⟨w.heap.size, 2, none⟩ = some (.int .i64 L)) := fun y hb => ⟨(HX.out.below hb HX.out.lt).cell 0, (HX.out.below hb HX.out.lt).cell 1, (HX.out.below hb HX.out.lt).cell 2⟩
  have hS0 := HC.out w2 (P3.out _ _ G2.out)
  have hS0' : w2.drew.cell? ⟨w.heap.size, 0, none⟩ = some (.int .i64 E) ∧ w2.drew.cell? ⟨w.heap.size, 1, none⟩ = some (.int .i64 S) ∧ w2.drew.cell? ⟨w.heap.size, 2, none⟩ = some (.int .i64 L) := hS0
  go_wp2_with fail
  go_region_held3 (fun y => y.cell? ⟨w.heap.size, 0, none⟩ = some (.int .i64 E) ∧ y.cell? ⟨w.heap.size, 1, none⟩ = some (.int .i64 S) ∧ y.cell? ⟨w.heap.size, 2, none⟩ = some (.int .i64 L)) (first | assumption)
    (first
      | (go_at_call 21; refine (C3.out _).mono ?_; rintro en w3 ⟨rfl, hb3⟩; have G3 := Lib.hid (P2.out _ w3 d (by first | exact G2.out | exact P2.out _ _ _ G2.out (Below.refl _ _).drew) hb3); have hS3 := HC.out w3 (P3.out _ _ G3.out); clear hb3)
      | (go_at_call 17; refine (C4.out _).mono ?_; rintro en w4 ⟨rfl, hb4⟩; have G4 := Lib.hid (P2.out _ w4 d (by first | exact G3.out | exact P2.out _ _ _ G3.out (Below.refl _ _).drew) hb4); have hS4 := HC.out w4 (P3.out _ _ G4.out); clear hb4)
      | (go_at_call 24; refine (P4.out _ d (by first | exact G4.out | exact P2.out _ _ _ G4.out (Below.refl _ _).drew)).mono ?_; rintro en w5 ⟨rfl, h5⟩; have G5 := Lib.hid h5; have hS5 := HC.out w5 (P6.out _ _ G5.out); clear h5))
  clear hS0 hS0' hS3 hS4 G2 G3 G4 P1 P2 P3 P4 C1 C3
  have hS5' : w5.drew.cell? ⟨w.heap.size, 0, none⟩ = some (.int .i64 E) ∧ w5.drew.cell? ⟨w.heap.size, 1, none⟩ = some (.int .i64 S) ∧ w5.drew.cell? ⟨w.heap.size, 2, none⟩ = some (.int .i64 L) := hS5
  go_wp2_with fail
  go_region_held3 (fun y => y.cell? ⟨w.heap.size, 0, none⟩ = some (.int .i64 E) ∧ y.cell? ⟨w.heap.size, 1, none⟩ = some (.int .i64 S) ∧ y.cell? ⟨w.heap.size, 2, none⟩ = some (.int .i64 L)) (first | assumption | trivial)
    (first
      | (go_at_call 17; refine (C4.out _).mono ?_; rintro en w6 ⟨rfl, hb6⟩; have G6 := Lib.hid (P5.out _ w6 d (by first | exact G5.out | exact P5.out _ _ _ G5.out (Below.refl _ _).drew) hb6); have hS6 := HC.out w6 (P6.out _ _ G6.out); clear hb6)
      | (go_at_call 16; refine (P7.out _ d (by first | exact G6.out | exact P5.out _ _ _ G6.out (Below.refl _ _).drew)).mono ?_; rintro en w7 ⟨b, rfl, h7⟩; have G7 := Lib.hid h7; have hS7 := HC.out w7 (P8.out _ _ _ G7.out); clear h7))
  have G7' := Lib.hid (P9.out _ _ _ G7.out)
  clear hS5 hS5' hS6 hS7 G5 G6 P5 P6 P7 C4
  go_wp2_with fail
  refine G7'.out.mono ?_
  rintro en w8 ⟨rfl, h8⟩
  have G8 := Lib.hid (P10.out _ _ _ h8)
  clear h8 G7 G7' P9 P10
  go_wp2_with fail
  go_ret2
  exact ⟨d, b, (G8.out).imp (fun s hs => ⟨rfl, hs⟩)⟩
end Go.Proofs.YtmgchfjfkdkaoaaGreatDoor
namespace Go.Proofs.YtmgchfjfkdkaoaaGreatDoor
open Go.RowKit Go.Maps

section
variable {a : M.Geo} {b n : Nat} {y : World} {R : Nat → Prop} {s : M.Wl} {T : Nat → ByteArray}
theorem ErrT.kept {y z : World} {R : Nat → Prop} (h : ErrT y) (hk : Kept R y z) (hP : ¬ R 1) : ErrT z := hk.cell h hP
theorem WA.news {z : World} (h : WA a z b (fun j => R j ∨ y.heap.size ≤ j) s T n) (new : ∀ j, y.heap.size ≤ j → R j) : WA a z b R s T n := h.mono (fun j _ e => e.elim id (new j))
theorem WA.commits (h : WA a y b R s T n) (new : ∀ j, y.heap.size ≤ j → R j) (hn : n ≤ 500000) (hE : ErrT y) (hP : ¬ R 1) (hact : s.act = true) (hu : s.used + s.l.length + 1 ≤ a.mn - 2) :
    Calls Tryz.prog 26 #[.pointer (some ⟨b, 0, none⟩)] y fun e z => e = .returned (.int .i64 0) ∧ ∃ s', WA a z b R s' (M.now s T) (n + 100) ∧ s'.act = false ∧ s'.l = [] ∧ s'.dk = s.dk ∧ Kept R y z := by
  refine (h.commit hn hE hP).mono ?_
  rintro e z ⟨hk, ⟨c1, _⟩ | ⟨c1, c2, c3, c4⟩ | ⟨_, _, c3, _⟩ | ⟨c1, c2, c3, c4, s', c5, c6, c7, c8, c9, c10⟩⟩
  · rw [hact] at c1; cases c1
  · rw [M.now_nil T c2]
    exact ⟨c3, _, (c4.news new).more (Nat.le_add_right _ _), rfl, c2, rfl, hk⟩
  · omega
  · exact ⟨c4, s', c5.news new, c6, c7, c10, hk⟩
theorem WA.begins (h : WA a y b R s T n) (hact : s.act = false) : Calls Tryz.prog 25 #[.pointer (some ⟨b, 0, none⟩)] y fun e z => e = .returned (.int .i64 0) ∧ WA a z b R { s with act := true } T n ∧ Kept R y z := by
  refine h.begin.mono ?_
  rintro e z ⟨e1, e2, e3⟩
  rw [hact] at e1
  exact ⟨e1, e2, e3⟩
theorem Kept.newR {y z : World} {R : Nat → Prop} (hk : Kept R y z) (new : ∀ j, y.heap.size ≤ j → R j) : ∀ j, z.heap.size ≤ j → R j := fun j hj => new j (Nat.le_trans hk.size hj)

set_option maxHeartbeats 4000000 in
theorem wnext_room (h : WA a y b R s T n) (new : ∀ j, y.heap.size ≤ j → R j) (hn : n ≤ 400000) (hE : ErrT y) (hP : ¬ R 1) (hact : s.act = true) (hu : s.used + s.l.length + 1 ≤ a.mn - 2) :
    Calls Tryz.prog 12 #[.pointer (some ⟨b, 0, none⟩)] y fun e z => e = .returned (.bool true) ∧ ∃ s', WA a z b R s' (M.now s T) (n + 1200) ∧ s'.act = true ∧ s'.l = [] ∧ s'.dk = s.dk ∧ Kept R y z := by
  have C1 := Lib.hid (h.commits new (by omega) hE hP hact hu)
  have C2 : Hid (∀ z, (∃ s', WA a z b R s' (M.now s T) (n + 100) ∧ s'.act = false ∧ s'.l = [] ∧ s'.dk = s.dk ∧ Kept R y z) → Calls Tryz.prog 25 #[.pointer (some ⟨b, 0, none⟩)] z fun e z' => e = .returned (.int .i64 0) ∧ ∃ s', WA a z' b R s' (M.now s T) (n + 1200) ∧ s'.act = true ∧ s'.l = [] ∧ s'.dk = s.dk ∧ Kept R y z') := by
    rintro z ⟨s', c1, c2, c3, c4, c5⟩
    refine (c1.begins c2).mono ?_
    rintro e z' ⟨e1, e2, e3⟩
    exact ⟨e1, _, e2.more (by omega), rfl, c3, c4, c5.trans e3⟩
  clear h new hn hE hP hact hu
  go_enter Tryz.func12, Tryz.ntmps12
  go_wp2_with fail
  refine C1.out.mono ?_
  rintro e z1 ⟨rfl, h1⟩
  have G1 := Lib.hid (C2.out z1 h1)
  clear h1 C1 C2
  go_wp2_with fail
  refine G1.out.mono ?_
  rintro e z2 ⟨rfl, h2⟩
  have G2 := Lib.hid h2
  clear h2 G1
  go_wp2_with fail
  go_ret
  exact ⟨rfl, G2.out⟩
set_option maxHeartbeats 4000000 in
theorem wnext_full (h : WA a y b R s T n) (new : ∀ j, y.heap.size ≤ j → R j) (hn : n ≤ 400000) (hE : ErrT y) (hP : ¬ R 1) (hact : s.act = true) (hl : s.l ≠ []) (hf : a.mn - 2 < s.used + s.l.length + 1) (hu : s.l.length + 1 ≤ a.mn - 2) :
    Calls Tryz.prog 12 #[.pointer (some ⟨b, 0, none⟩)] y fun e z => e = .returned (.bool true) ∧ ∃ s', WA a z b R s' (M.now s T) (n + 1200) ∧ s'.act = true ∧ s'.l = [] ∧ s'.dk = s.dk ∧ Kept R y z := by
  have C0 : Hid (Calls Tryz.prog 26 #[.pointer (some ⟨b, 0, none⟩)] y fun e z => e = .returned (.int .i64 6) ∧ WA a z b R s T n ∧ Kept R y z) := by
    refine (h.commit (by omega) hE hP).mono ?_
    rintro e z ⟨hk, ⟨c1, _⟩ | ⟨_, c2, _, _⟩ | ⟨_, _, _, c4, c5⟩ | ⟨_, _, c3, _⟩⟩
    · rw [hact] at c1; cases c1
    · exact absurd c2 hl
    · exact ⟨c4, c5.news new, hk⟩
    · omega
  have C1 : Hid (∀ z, WA a z b R s T n ∧ Kept R y z → Calls Tryz.prog 27 #[.pointer (some ⟨b, 0, none⟩)] z fun e z' => e = .returned (.int .i64 0) ∧ ∃ s', WA a z' b R s' T (n + 1000) ∧ s'.act = true ∧ s'.l = s.l ∧ s'.used = 0 ∧ s'.dk = s.dk ∧ Kept R y z') := by
    rintro z ⟨c1, c2⟩
    refine (c1.check (by omega) (hE.kept c2 hP) hP).mono ?_
    rintro e z' ⟨e1, e2, s', e3, e4, e5, e6, e7, e8, e9⟩
    exact ⟨e1, s', e3.news (c2.newR new), e4.trans hact, e5, e6, e9, c2.trans e2⟩
  have C2 : Hid (∀ z, (∃ s', WA a z b R s' T (n + 1000) ∧ s'.act = true ∧ s'.l = s.l ∧ s'.used = 0 ∧ s'.dk = s.dk ∧ Kept R y z) → Calls Tryz.prog 26 #[.pointer (some ⟨b, 0, none⟩)] z fun e z' => e = .returned (.int .i64 0) ∧ ∃ s', WA a z' b R s' (M.now s T) (n + 1100) ∧ s'.act = false ∧ s'.l = [] ∧ s'.dk = s.dk ∧ Kept R y z') := by
    rintro z ⟨s', c1, c2, c3, c4, c5, c6⟩
    refine (c1.commits (c6.newR new) (by omega) (hE.kept c6 hP) hP c2 (by rw [c3, c4]; omega)).mono ?_
    rintro e z' ⟨e1, s2, e2, e3, e4, e5, e6⟩
    have hs : M.now s' T = M.now s T := by unfold M.now; rw [c3]
    rw [hs] at e2
    exact ⟨e1, s2, e2, e3, e4, e5.trans c5, c6.trans e6⟩
  have C3 : Hid (∀ z, (∃ s', WA a z b R s' (M.now s T) (n + 1100) ∧ s'.act = false ∧ s'.l = [] ∧ s'.dk = s.dk ∧ Kept R y z) → Calls Tryz.prog 25 #[.pointer (some ⟨b, 0, none⟩)] z fun e z' => e = .returned (.int .i64 0) ∧ ∃ s', WA a z' b R s' (M.now s T) (n + 1200) ∧ s'.act = true ∧ s'.l = [] ∧ s'.dk = s.dk ∧ Kept R y z') := by
    rintro z ⟨s', c1, c2, c3, c4, c5⟩
    refine (c1.begins c2).mono ?_
    rintro e z' ⟨e1, e2, e3⟩
    exact ⟨e1, _, e2.more (by omega), rfl, c3, c4, c5.trans e3⟩
  clear h new hn hE hP hact hu hl hf
  go_enter Tryz.func12, Tryz.ntmps12
  go_wp2_with fail
  refine C0.out.mono ?_
  rintro e z0 ⟨rfl, h0⟩
  have G0 := Lib.hid (C1.out z0 h0)
  clear h0 C0 C1
  go_wp2_with fail
  refine G0.out.mono ?_
  rintro e z1 ⟨rfl, h1⟩
  have G1 := Lib.hid (C2.out z1 h1)
  clear h1 G0 C2
  go_wp2_with fail
  refine G1.out.mono ?_
  rintro e z2 ⟨rfl, h2⟩
  have G2 := Lib.hid (C3.out z2 h2)
  clear h2 G1 C3
  go_wp2_with fail
  refine G2.out.mono ?_
  rintro e z3 ⟨rfl, h3⟩
  have G3 := Lib.hid h3
  clear h3 G2
  go_wp2_with fail
  go_ret
  exact ⟨rfl, G3.out⟩
/-- Next, whatever room there is. -/
theorem wnext_any (h : WA a y b R s T n) (new : ∀ j, y.heap.size ≤ j → R j) (hn : n ≤ 400000) (hE : ErrT y) (hP : ¬ R 1) (hact : s.act = true) (hu : s.l.length + 1 ≤ a.mn - 2) :
    Calls Tryz.prog 12 #[.pointer (some ⟨b, 0, none⟩)] y fun e z => e = .returned (.bool true) ∧ ∃ s', WA a z b R s' (M.now s T) (n + 1200) ∧ s'.act = true ∧ s'.l = [] ∧ s'.dk = s.dk ∧ Kept R y z := by
  by_cases hr : s.used + s.l.length + 1 ≤ a.mn - 2
  · exact wnext_room h new hn hE hP hact hr
  · by_cases hl : s.l = []
    · -- nothing is staged: the commit needs no room
      have C1 : Hid (Calls Tryz.prog 26 #[.pointer (some ⟨b, 0, none⟩)] y fun e z => e = .returned (.int .i64 0) ∧ ∃ s', WA a z b R s' (M.now s T) (n + 100) ∧ s'.act = false ∧ s'.l = [] ∧ s'.dk = s.dk ∧ Kept R y z) := by
        refine (h.commit (by omega) hE hP).mono ?_
        rintro e z ⟨hk, ⟨c1, _⟩ | ⟨c1, c2, c3, c4⟩ | ⟨_, c2, _⟩ | ⟨_, c2, _⟩⟩
        · rw [hact] at c1; cases c1
        · rw [M.now_nil T c2]
          exact ⟨c3, _, (c4.news new).more (Nat.le_add_right _ _), rfl, c2, rfl, hk⟩
        · exact absurd hl c2
        · exact absurd hl c2
      have C2 : Hid (∀ z, (∃ s', WA a z b R s' (M.now s T) (n + 100) ∧ s'.act = false ∧ s'.l = [] ∧ s'.dk = s.dk ∧ Kept R y z) → Calls Tryz.prog 25 #[.pointer (some ⟨b, 0, none⟩)] z fun e z' => e = .returned (.int .i64 0) ∧ ∃ s', WA a z' b R s' (M.now s T) (n + 1200) ∧ s'.act = true ∧ s'.l = [] ∧ s'.dk = s.dk ∧ Kept R y z') := by
        rintro z ⟨s', c1, c2, c3, c4, c5⟩
        refine (c1.begins c2).mono ?_
        rintro e z' ⟨e1, e2, e3⟩
        exact ⟨e1, _, e2.more (by omega), rfl, c3, c4, c5.trans e3⟩
      clear h new hn hE hP hact hu hl hr
      go_enter Tryz.func12, Tryz.ntmps12
      go_wp2_with fail
      refine C1.out.mono ?_
      rintro e z1 ⟨rfl, h1⟩
      have G1 := Lib.hid (C2.out z1 h1)
      clear h1 C1 C2
      go_wp2_with fail
      refine G1.out.mono ?_
      rintro e z2 ⟨rfl, h2⟩
      have G2 := Lib.hid h2
      clear h2 G1
      go_wp2_with fail
      go_ret
      exact ⟨rfl, G2.out⟩
    · exact wnext_full h new hn hE hP hact hl (by omega) hu
end
end Go.Proofs.YtmgchfjfkdkaoaaGreatDoor
namespace Go.Proofs.YtmgchfjfkdkaoaaGreatDoor
open Go.RowKit Go.Maps

/-- A wal: R speaks of its blocks and of all that is new. -/
structure QA (a : M.Geo) (R : Nat → Prop) (y : World) (b : Nat) (s : M.Wl) (T : Nat → ByteArray) (n : Nat) : Prop where
  wa : WA a y b R s T n
  new : ∀ j, y.heap.size ≤ j → R j
/-- The same in the midst of a call that began in w: the blocks of F are the call's own. -/
structure QF (a : M.Geo) (R : Nat → Prop) (F : List Nat) (w y : World) (b : Nat) (s : M.Wl) (T : Nat → ByteArray) (n : Nat) : Prop where
  qa : QA a (fun j => R j ∧ j ∉ F) y b s T n
  kept : Kept R w y
  nw : ∀ j, w.heap.size ≤ j → R j
  tmp : ∀ j, j ∈ F → w.heap.size ≤ j
section
variable {a : M.Geo} {R : Nat → Prop} {F F' F2 : List Nat} {w y z : World} {b n m g : Nat} {s s' : M.Wl} {T T' : Nat → ByteArray}
theorem QA.more (H : QA a R y b s T n) (hm : n ≤ m) : QA a R y b s T m := ⟨H.wa.more hm, H.new⟩
theorem QA.beside (H : QA a R y b s T n) (hb : Below y.heap.size y z) : QA a R z b s T n :=
  ⟨H.wa.kept (Kept.of_below hb (fun _ => False)) (fun _ _ => id), fun j hj => H.new j (Nat.le_trans hb.size hj)⟩
theorem QA.did (H : QA a R y b s T n) (h1 : WA a z b (fun j => R j ∨ y.heap.size ≤ j) s' T' m) (h2 : Kept R y z) : QA a R z b s' T' m := ⟨h1.news H.new, h2.newR H.new⟩
theorem QF.start (H : QA a R y b s T n) : QF a R [] y y b s T n :=
  ⟨⟨H.wa.mono (fun j _ e => ⟨e, by simp⟩), fun j hj => ⟨H.new j hj, by simp⟩⟩, Kept.refl _ _, H.new, fun j e => by cases e⟩
theorem QF.old (H : QF a R F w y b s T n) {j : Nat} (hj : j ∈ F) : j < y.heap.size := Classical.byContradiction fun e => (H.qa.new j (by omega)).2 hj
/-- The call turned blocks of its own, and made new ones. -/
theorem QF.turn (H : QF a R F w y b s T n) (hk : Kept (fun j => j ∈ F) y z) (hF : ∀ j, j ∈ F' → j ∈ F ∨ (y.heap.size ≤ j ∧ j < z.heap.size)) : QF a R F' w z b s T n := by
  have hs := hk.size
  have hw := H.kept.size
  refine ⟨⟨?_, fun j hj => ⟨H.nw j (by omega), fun e => ?_⟩⟩, H.kept.trans (hk.mono (fun j _ e => H.nw j (H.tmp j e))), H.nw, fun j e => (hF j e).elim (H.tmp j) (fun e => by omega)⟩
  · refine ((H.qa.wa.mono (Q := fun j => (R j ∧ j ∉ F) ∧ j < y.heap.size) (fun j hj e => ⟨e, hj⟩)).kept hk (fun j e => e.1.2)).mono (fun j _ e => ⟨e.1.1, fun e' => (hF j e').elim e.1.2 (fun e'' => by have := e.2; omega)⟩)
  · rcases hF j e with e' | e'
    · have := H.old e'; omega
    · omega
/-- Beside newer blocks, of which some are the call's own from now on. -/
theorem QF.own (H : QF a R F w y b s T n) (hb : Below y.heap.size y z) (hF : ∀ j, j ∈ F' → j ∈ F ∨ (y.heap.size ≤ j ∧ j < z.heap.size)) : QF a R F' w z b s T n := H.turn (Kept.of_below hb _) hF
theorem QF.beside (H : QF a R F w y b s T n) (hb : Below y.heap.size y z) : QF a R F w z b s T n := H.own hb (fun _ e => Or.inl e)
theorem QF.alloc (H : QF a R F w y b s T n) (o : Obj) : QF a R (y.heap.size :: F) w (y.alloc o) b s T n :=
  H.own (ib1 y o) (fun j e => by
    rcases List.mem_cons.1 e with e | e
    · exact Or.inr ⟨by omega, by rw [World.size_alloc]; omega⟩
    · exact Or.inl e)
/-- What a call over the wal did. -/
theorem QF.call (H : QF a R F w y b s T n) (h1 : QA a (fun j => R j ∧ j ∉ F) z b s' T' m) (h2 : Kept (fun j => R j ∧ j ∉ F) y z) : QF a R F w z b s' T' m :=
  ⟨h1, H.kept.trans (h2.mono (fun _ _ e => e.1)), H.nw, H.tmp⟩
theorem QF.did (H : QF a R F w y b s T n) (h1 : WA a z b (fun j => (R j ∧ j ∉ F) ∨ y.heap.size ≤ j) s' T' m) (h2 : Kept (fun j => R j ∧ j ∉ F) y z) : QF a R F w z b s' T' m := H.call (H.qa.did h1 h2) h2
/-- A call that left something of its own. -/
theorem QF.callF (H : QF a R F w y b s T n) (H2 : QF a (fun j => R j ∧ j ∉ F) F2 y z b s' T' m) : QF a R (F2 ++ F) w z b s' T' m := by
  have e : ∀ j, (R j ∧ j ∉ F) ∧ j ∉ F2 ↔ R j ∧ j ∉ F2 ++ F := fun j => by
    rw [List.mem_append]
    constructor
    · rintro ⟨⟨h1, h2⟩, h3⟩
      exact ⟨h1, fun q => q.elim h3 h2⟩
    · rintro ⟨h1, h2⟩
      exact ⟨⟨h1, fun q => h2 (Or.inr q)⟩, fun q => h2 (Or.inl q)⟩
  have hw := H.kept.size
  refine ⟨⟨H2.qa.wa.mono (fun j _ q => (e j).1 q), fun j hj => (e j).1 (H2.qa.new j hj)⟩, H.kept.trans (H2.kept.mono (fun _ _ q => q.1)), H.nw, fun j q => ?_⟩
  rcases List.mem_append.1 q with q | q
  · have := H2.tmp j q; omega
  · exact H.tmp j q
theorem QF.less (H : QF a R F w y b s T n) (hF : ∀ j, j ∈ F' → j ∈ F) : QF a R F' w y b s T n := H.turn (Kept.refl _ _) (fun j e => Or.inl (hF j e))
theorem QF.more (H : QF a R F w y b s T n) (hm : n ≤ m) : QF a R F w y b s T m := ⟨H.qa.more hm, H.kept, H.nw, H.tmp⟩
theorem QF.set (H : QF a R F w y b s T n) (hg : g ∈ F) (i : Nat) (u : Value) : QF a R F w (y.setCell ⟨g, i, none⟩ u) b s T n := H.turn ((Kept.refl _ y).set (fun _ => hg) i u) (fun _ e => Or.inl e)
theorem QF.done (H : QF a R F w y b s T n) : QA a R y b s T n ∧ Kept R w y := ⟨⟨H.qa.wa.mono (fun _ _ e => e.1), H.kept.newR H.nw⟩, H.kept⟩
/-- What is the call's own stays, whatever the wal does. -/
theorem QF.mine {tt : TypeId} {cs : Array Value} (hB : Box y g tt cs) (hg : g ∈ F) (h2 : Kept (fun j => R j ∧ j ∉ F) y z) : Box z g tt cs := h2.box hB (fun e => e.2 hg)
end

/-- A law's wal: I holds of what is seen; F: the law's own blocks, from the world z0 on. -/
def QS (a : M.Geo) (R : Nat → Prop) (N : Nat) (w2 : World) (b d : Nat) (F : List Nat) (I : (Nat → ByteArray) → Prop) (act : Bool) (lb n : Nat) (x : World) : Prop :=
  ∃ z0 s T, (∀ j, R j → N ≤ j) ∧ Below N w2 z0 ∧ N ≤ z0.heap.size ∧ QF a R F z0 x b s T n ∧ s.act = act ∧ s.l.length ≤ lb ∧ s.dk = d ∧ I (M.now s T)
/-- Its disk, where nothing waits. -/
def QD (a : M.Geo) (N : Nat) (w2 : World) (d : Nat) (F : List Nat) (I : (Nat → ByteArray) → Prop) (n : Nat) (x : World) : Prop :=
  ∃ (P : Nat → Prop) (dd : M.D) (T : Nat → ByteArray), Disk x d P dd ∧ dd.L = [] ∧ dd.fails = [] ∧ M.LS a dd T n ∧ I T ∧ Below N w2 x ∧ N ≤ x.heap.size ∧ (∀ j, j ∈ F → j < x.heap.size) ∧ ∀ j, P j → (N ≤ j ∧ j ∉ F) ∧ j < x.heap.size
section
variable {a : M.Geo} {R : Nat → Prop} {N b d n m lb lb' : Nat} {w2 x z : World} {F F' : List Nat} {I J : (Nat → ByteArray) → Prop} {act : Bool} {s : M.Wl} {T : Nat → ByteArray}
/-- What stands behind Begun, beside newer blocks. -/
theorem QS.start (H : OW a N w2 x b s T n) (hl : s.l.length ≤ lb) (hd : s.dk = d) (hI : I (M.now s T)) : QS a (fun j => N ≤ j) N w2 b d [] I s.act lb n x :=
  ⟨x, s, T, fun _ e => e, H.below, H.le, QF.start ⟨H.wa, fun _ hj => Nat.le_trans H.le hj⟩, rfl, hl, hd, hI⟩
theorem QS.below (H : QS a R N w2 b d F I act lb n x) : Below N w2 x := by
  obtain ⟨z0, s, T, h0, h1, h2, h3, -⟩ := H
  exact h1.trans (h3.kept.below h2 (fun k hk e => by have := h0 k e; omega))
theorem QS.turn (H : QS a R N w2 b d F I act lb n x) (hk : Kept (fun j => j ∈ F) x z) (hF : ∀ j, j ∈ F' → j ∈ F ∨ (x.heap.size ≤ j ∧ j < z.heap.size)) : QS a R N w2 b d F' I act lb n z := by
  obtain ⟨z0, s, T, h0, h1, h2, h3, h4⟩ := H
  exact ⟨z0, s, T, h0, h1, h2, h3.turn hk hF, h4⟩
theorem QS.own (H : QS a R N w2 b d F I act lb n x) (hb : Below x.heap.size x z) (hF : ∀ j, j ∈ F' → j ∈ F ∨ (x.heap.size ≤ j ∧ j < z.heap.size)) : QS a R N w2 b d F' I act lb n z := H.turn (Kept.of_below hb _) hF
theorem QS.beside (H : QS a R N w2 b d F I act lb n x) (hb : Below x.heap.size x z) : QS a R N w2 b d F I act lb n z := H.own hb (fun _ e => Or.inl e)
theorem QS.more (H : QS a R N w2 b d F I act lb n x) (hl : lb ≤ lb') (hm : n ≤ m) : QS a R N w2 b d F I act lb' m x := by
  obtain ⟨z0, s, T, h0, h1, h2, h3, h4, h5, h6⟩ := H
  exact ⟨z0, s, T, h0, h1, h2, h3.more hm, h4, Nat.le_trans h5 hl, h6⟩
theorem QS.imp (H : QS a R N w2 b d F I act lb n x) (hI : ∀ V, I V → J V) : QS a R N w2 b d F J act lb n x := by
  obtain ⟨z0, s, T, h0, h1, h2, h3, h4, h5, h6, h7⟩ := H
  exact ⟨z0, s, T, h0, h1, h2, h3, h4, h5, h6, hI _ h7⟩
theorem QS.old (H : QS a R N w2 b d F I act lb n x) {j : Nat} (hj : j ∈ F) : j < x.heap.size ∧ N ≤ j := by
  obtain ⟨z0, s, T, h0, h1, h2, h3, -⟩ := H
  have := h3.tmp j hj
  exact ⟨h3.old hj, by omega⟩
/-- A call over the wal that leaves another state and other things seen. -/
theorem QS.call {act' : Bool} (H : QS a R N w2 b d F I act lb n x) {f : Nat} {args : Array Value} {P : Ending → Prop}
    (hC : ∀ (Q : Nat → Prop) (s : M.Wl) (T : Nat → ByteArray), QA a Q x b s T n → s.act = act → s.l.length ≤ lb → I (M.now s T) → Calls Tryz.prog f args x fun e z => P e ∧ ∃ s' T', QA a Q z b s' T' m ∧ s'.act = act' ∧ s'.l.length ≤ lb' ∧ s'.dk = s.dk ∧ J (M.now s' T') ∧ Kept Q x z) :
    Calls Tryz.prog f args x fun e z => P e ∧ QS a R N w2 b d F J act' lb' m z ∧ Kept (fun j => R j ∧ j ∉ F) x z := by
  obtain ⟨z0, s, T, h0, h1, h2, h3, h4, h5, h6, h7⟩ := H
  refine (hC _ s T h3.qa h4 h5 h7).mono ?_
  rintro e z ⟨e1, s', T', e2, e3, e4, e5, e6, e7⟩
  exact ⟨e1, ⟨z0, s', T', h0, h1, h2, h3.call e2 e7, e3, e4, e5.trans h6, e6⟩, e7⟩
theorem QS.next (H : QS a R N w2 b d F I true lb n x) (hn : n ≤ 300000) (hlb : lb + 3 ≤ a.mn) (hE : ErrT w2) (hN : 1 < N) : Calls Tryz.prog 12 #[.pointer (some ⟨b, 0, none⟩)] x fun e z => e = .returned (.bool true) ∧ QS a R N w2 b d F I true 0 (n + 1200) z ∧ Kept (fun j => R j ∧ j ∉ F) x z := by
  have hb := H.below
  obtain ⟨z0, s, T, h0, h1, h2, h3, h4, h5, h6, h7⟩ := H
  refine (wnext_any h3.qa.wa h3.qa.new (by omega) (hE.low hb hN) (fun e => by have := h0 _ e.1; omega) h4 (by omega)).mono ?_
  rintro e z ⟨e1, s', e2, e3, e4, e5, e6⟩
  refine ⟨e1, ⟨z0, s', _, h0, h1, h2, h3.call ⟨e2, e6.newR h3.qa.new⟩ e6, e3, by rw [e4]; simp, e5.trans h6, ?_⟩, e6⟩
  rw [M.now_nil _ e4]
  exact h7
theorem QS.flush (H : QS a R N w2 b d F I act 0 n x) (hn : n ≤ 300000) : Calls Tryz.prog 14 #[.pointer (some ⟨b, 0, none⟩)] x fun e z => e = .returned (.int .i64 0) ∧ QD a N w2 d F I (n + 3) z ∧ Kept (fun j => R j ∧ j ∉ F) x z := by
  have hB := H.below
  obtain ⟨z0, s, T, h0, h1, h2, h3, h4, h5, h6, h7⟩ := H
  have hl : s.l = [] := List.eq_nil_of_length_eq_zero (by omega)
  have hsz := h3.kept.size
  refine (h3.qa.wa.flush (by omega)).mono ?_
  rintro e z ⟨e1, e2, e3, e4⟩
  have e5 := e2.news h3.qa.new
  have hd := e5.wal.disk
  have hs := e4.size
  rw [M.now_nil _ hl] at h7
  have hd' := hd.mono (Q := fun j => (R j ∧ j ∉ F) ∧ j < z.heap.size) (fun k hk e => ⟨e, hk⟩)
  refine ⟨e1, ⟨fun j => (R j ∧ j ∉ F) ∧ j < z.heap.size, _, T, ?_, e3, e5.calm, e5.ws.disk, h7, hB.trans (e4.below (by omega) (fun k hk e => by have := h0 _ e.1; omega)), by omega, fun j hj => Nat.lt_of_lt_of_le (h3.old hj) hs, fun j e => ⟨⟨h0 _ e.1.1, e.1.2⟩, e.2⟩⟩, e4⟩
  rw [← h6]
  exact hd'
theorem QD.below (H : QD a N w2 d F I n x) : Below N w2 x := by
  obtain ⟨P, dd, T, h1, h2, h3, h4, h5, h6, h7⟩ := H
  exact h6
theorem QD.beside (H : QD a N w2 d F I n x) (hb : Below x.heap.size x z) : QD a N w2 d F I n z := by
  obtain ⟨P, dd, T, h1, h2, h3, h4, h5, h6, h7, h8, h9⟩ := H
  have hs := hb.size
  exact ⟨P, dd, T, h1.kept (Kept.of_below hb (fun _ => False)) (fun _ _ => id), h2, h3, h4, h5, h6.trans (hb.mono h7), by omega, fun j e => by have := h8 j e; omega, fun j e => ⟨(h9 j e).1, by have := (h9 j e).2; omega⟩⟩
theorem QD.restart (H : QD a N w2 d F I n x) (hn : n ≤ 400000) : Calls Tryz.prog 15 #[.pointer (some ⟨d, 0, none⟩), .slice none 0 0] x fun e z => e = .returned (.tuple #[]) ∧ QD a N w2 d F I n z ∧ Kept (fun j => N ≤ j ∧ j ∉ F) x z := by
  obtain ⟨P, dd, T, h1, h2, h3, h4, h5, h6, h7, h8, h9⟩ := H
  have hls := h4.restart h2 (M.odd 0 (fun _ => 0))
  have hops := h4.ops
  refine (restart_any none 0 0 (fun _ => 0) x h1 (by omega) (fun i hi => absurd hi (by omega)) (fun h0 => absurd h0 (by omega))).mono ?_
  rintro e z ⟨z1, z2, z3⟩
  have hs := z3.size
  exact ⟨z1, ⟨P, _, T, z2, rfl, hls.2, hls.1, h5, h6.trans (z3.below h7 (fun k hk e => by have := (h9 k e).1; omega)), by omega, fun j e => by have := h8 j e; omega, fun j e => ⟨(h9 j e).1, by have := (h9 j e).2; omega⟩⟩, z3.mono (fun k _ e => (h9 k e).1)⟩
/-- The log is opened anew: another wal; the law's own blocks are none of its. -/
theorem QD.opens (H : QD a N w2 d F I n x) (hn : n ≤ 400000) (hE : Env10 w2) (hET : ErrT w2) (h1' : 0 < N) (h2' : 1 < N) : Calls Tryz.prog 16 #[.pointer (some ⟨d, 0, none⟩), .int .i64 (a.fr : Nat), .int .i64 (a.mn : Nat)] x fun e z => ∃ b2, e = .returned (.tuple #[.pointer (some ⟨b2, 0, none⟩), .int .i64 0]) ∧ QS a (fun j => N ≤ j ∧ j ∉ F) N w2 b2 d [] I false 0 (n + 5000) z ∧ Kept (fun j => N ≤ j ∧ j ∉ F) x z := by
  obtain ⟨P, dd, T, h1, h2, h3, h4, h5, h6, h7, h8, h9⟩ := H
  refine (open_calm h1 (fun k e => (h9 k e).2) (hE.low h6 h1') (fun e => by have := (h9 _ e).1; omega) (hET.low h6 h2') (fun e => by have := (h9 _ e).1; omega) h4 h3 (by omega)).mono ?_
  rintro e z ⟨b2, s, z1, z2, z3, z4, z5, z6, z7, z8, z9⟩
  have hs := z9.size
  have hk : Kept (fun j => N ≤ j ∧ j ∉ F) x z := z9.mono (fun k _ e => (h9 k e).1)
  have hq : QA a (fun j => N ≤ j ∧ j ∉ F) z b2 s T (n + 5000) := ⟨z2.mono (fun j _ e => e.elim (fun e => (h9 j e).1) (fun e => ⟨by omega, fun e' => by have := h8 j e'; omega⟩)), fun j hj => ⟨by omega, fun e' => by have := h8 j e'; omega⟩⟩
  refine ⟨b2, z1, ⟨z, s, T, fun j e => e.1, h6.trans (hk.below h7 (fun k hk e => by have := e.1; omega)), by omega, QF.start hq, z3, by rw [z4]; simp, z8, ?_⟩, hk⟩
  rw [M.now_nil _ z4]
  exact h5
end
end Go.Proofs.YtmgchfjfkdkaoaaGreatDoor
