/-
  Walks over wal.staged and wal.sectorsOf: what a shadow tells is looked through, or gathered.
-/
import Derived.Test.YtmgchfjfkdkaoaaGreatDoorNC
import Derived.Test.YtmgchfjfkdkaoaaGreatDoorMQ
import Derived.Test.YtmgchfjfkdkaoaaGreatDoorMR
import Derived.Test.YtmgchfjfkdkaoaaGreatDoorMS
namespace Go.Proofs.YtmgchfjfkdkaoaaGreatDoor
open Go.RowKit Go.Maps Go.Shelf
attribute [local go_sem] Oper.semAt_some

/-- Is a thing over this place? -/
def M.has14 (i : Int) (L : List (Int × Value)) : Bool := L.any (fun p => p.1 == i)
theorem M.has14_yes {i : Int} {L : List (Int × Value)} {k : Nat} (hk : k < L.length) (h : (L[k]'hk).1 = i) : M.has14 i L = true := List.any_eq_true.2 ⟨_, List.getElem_mem hk, by simp [h]⟩
theorem M.has14_no {i : Int} {L : List (Int × Value)} (h : ∀ k (hk : k < L.length), (L[k]'hk).1 ≠ i) : M.has14 i L = false := by
  rw [M.has14, List.any_eq_false]
  intro p hp
  obtain ⟨k, hk, rfl⟩ := List.getElem_of_mem hp
  simpa using h k hk

/-- In the midst of staged: so many are not the one. -/
structure StgAt (w : World) (i : Int) (L : List (Int × Value)) (s : Nat) (X : World) (k : Nat) (W : World) : Prop where
  b3 : Box W w.heap.size 3 #[.int .i64 i]
  b4 : Box W (w.heap.size + 1) 4 #[.bool false]
  low : Below w.heap.size w W
  seg : ∀ j, s ≤ j → j < X.heap.size → W.heap[j]? = X.heap[j]?
  sl : w.heap.size + 4 ≤ s
  mid : s ≤ X.heap.size
  size : X.heap.size ≤ W.heap.size
  no : ∀ j (hj : j < L.length), j < k → (L[j]'hj).1 ≠ i
/-- Behind one that is the one. -/
structure StgEnd (w : World) (i : Int) (L : List (Int × Value)) (W : World) : Prop where
  b4 : Box W (w.heap.size + 1) 4 #[.bool true]
  low : Below w.heap.size w W
  yes : M.has14 i L = true

set_option maxRecDepth 100000 in
set_option maxHeartbeats 4000000 in
theorem staged_in (i : Int) (w : World) {wb b : Nat} {P : Nat → Prop} {L K : List (Int × Value)} (c10 : w.cell? ⟨wb, 10, none⟩ = some (.pointer (some ⟨b, 0, none⟩))) (h : Sh 128 w b P L K) (hl : L.length ≤ 100000) :
    CallsIn Fence.wide 4 Tryz.prog 81 #[.pointer (some ⟨wb, 0, none⟩), .int .i64 i] w fun e w' => e = .returned (.bool (M.has14 i L)) ∧ Below w.heap.size w w' := by
  have hwb : wb < w.heap.size := World.block_lt_of_cell? w _ c10
  obtain ⟨lo, so, h, -, -, -⟩ := h
  have hbl := h.box.lt
  obtain ⟨W0, hW0⟩ : ∃ x, x = (w.alloc (.cells #[.int .i64 i] 3)).alloc (.cells #[.bool false] 4) := ⟨_, rfl⟩
  have hb0 : Below w.heap.size w W0 := by rw [hW0]; exact ((Below.refl _ w).alloc (Nat.le_refl _) _).alloc (by simp) _
  have hz0 : W0.heap.size = w.heap.size + 2 := by rw [hW0]; simp
  have h3 : Box W0 w.heap.size 3 #[.int .i64 i] := by rw [hW0]; exact (Box.new w 3 #[.int .i64 i]).below ((Below.refl (w.heap.size + 1) _).alloc (by simp) _) (by omega)
  have h4 : Box W0 (w.heap.size + 1) 4 #[.bool false] := by
    rw [hW0]
    have := Box.new (w.alloc (.cells #[.int .i64 i] 3)) 4 #[.bool false]
    rwa [World.size_alloc] at this
  have d10 : W0.cell? ⟨wb, 10, none⟩ = some (.pointer (some ⟨b, 0, none⟩)) := (hb0.cell (p := ⟨wb, 10, none⟩) hwb).trans c10
  obtain ⟨w1, hw1⟩ : ∃ x, x = W0.alloc (.cells #[.pointer (some ⟨b, 0, none⟩)] 60) := ⟨_, rfl⟩
  have HF : Hid (∀ x, CallsIn Fence.wide x Tryz.prog 95 #[.pointer (some ⟨b, 0, none⟩)] W0 fun e w' => e = .returned (.func (.func 131) #[] #[.pointer (some ⟨w.heap.size + 2, 0, none⟩)]) ∧ w' = w1) := by
    intro x
    rw [hw1, ← hz0]
    exact callsIn_wide.2 (Q.fresh_any _ W0)
  have hb1 : Below W0.heap.size W0 w1 := by rw [hw1]; exact (Below.refl _ _).alloc (Nat.le_refl _) _
  have hz1 : w1.heap.size = w.heap.size + 3 := by rw [hw1, World.size_alloc, hz0]
  have g3 := h3.below hb1 (by omega)
  have g4 := h4.below hb1 (by omega)
  have gl := hb0.trans (hb1.mono (by omega))
  have g5 : Box w1 (w.heap.size + 2) 60 #[.pointer (some ⟨b, 0, none⟩)] := by rw [hw1, ← hz0]; exact Box.new _ _ _
  have HH := Lib.hid h
  have HZ : Hid (w1.heap.size = w.heap.size + 3 ∧ L.length ≤ 100000) := ⟨hz1, hl⟩
  rw [hW0] at d10
  have HG3 := Lib.hid g3
  have HG4 := Lib.hid g4
  have HG5 := Lib.hid g5
  have HGL := Lib.hid gl
  clear h hw1 hb1 h3 h4 c10 hb0 hz0 hz1 hl g3 g4 g5 gl
  refine callsIn_of_wp_marks Tryz.func81 rfl trivial ?_ rfl
  simp only [Tryz.ntmps81, List.size_toArray, List.length_cons, List.length_nil, Nat.reduceAdd, Nat.reduceSub, Array.replicate_succ, Array.replicate_zero, List.push_toArray, List.append_toArray, List.nil_append, List.cons_append]
  gi_wp2_with (refine ⟨trivial, ?_⟩; gi_at_call 95; try rw [← hW0]; refine (HF.out _).mono ?_; rintro e w1 ⟨rfl, hw1'⟩; subst hw1')
  clear d10 hW0 HF
  refine range_gl (m := 1) (gf := 131) (lb := #[.pointer (some ⟨w.heap.size + 2, 0, none⟩)]) rfl (enters_of Tryz.func131 (by kernel_rfl) rfl) L.length
    (fun k hk => #[.int .i64 (L[k]'hk).1, (L[k]'hk).2]) (fun _ _ => rfl)
    (fun W => (Box W w.heap.size 3 #[.int .i64 i] ∧ Box W (w.heap.size + 1) 4 #[.bool false] ∧ Below w.heap.size w W) ∧ ShAt 128 W b lo so L K ∧ W.cell? ⟨w.heap.size + 2, 0, none⟩ = some (.pointer (some ⟨b, 0, none⟩)))
    (StgAt w i L) (StgEnd w i L)
    ?h0 ?hst ?hIp ?hEp
    (fun k hk => { tmps := #[.pointer (some ⟨wb, 0, none⟩), .int .i64 i, undef, .pointer (some ⟨w.heap.size, 0, none⟩), .pointer (some ⟨w.heap.size + 1, 0, none⟩), .int .i64 (L[k]'hk).1, .pointer (some ⟨wb, 0, none⟩), .pointer (some ⟨wb, 0, none⟩), .pointer (some ⟨wb, 10, none⟩), .pointer (some ⟨b, 0, none⟩), .func (.func 131) #[] #[.pointer (some ⟨w.heap.size + 2, 0, none⟩)], .int .i64 (L[k]'hk).1, (L[k]'hk).2, undef, undef, undef], defers := [] })
    ?hit ?hassign ?hbody ?hdone ?hstop
  case h0 =>
    intro o o'
    have hz1 := HZ.out.1
    have gl := HGL.out
    have g3 := HG3.out
    have g4 := HG4.out
    have g5 := HG5.out
    have hbo : Below w1.heap.size w1 ((w1.alloc o).alloc o') := ((Below.refl _ w1).alloc (Nat.le_refl _) _).alloc (by simp) _
    have hbz : Below w.heap.size w ((w1.alloc o).alloc o') := gl.trans (hbo.mono gl.size)
    exact ⟨⟨g3.below hbo (by omega), g4.below hbo (by omega), hbz⟩, HH.out.kept (Kept.of_below hbz (fun _ => False)) id (fun _ _ => id) (fun _ _ => id), (hbo.cell (p := ⟨w.heap.size + 2, 0, none⟩) (by simp only; omega)).trans ((g5.cell 0).trans rfl)⟩
  case hst =>
    rintro W X ⟨h1, h2, h3⟩ hz hX
    have hz1 := HZ.out.1
    obtain ⟨b3, b4, low⟩ := h1
    exact ⟨b3.below hX b3.lt, b4.below hX b4.lt, low.trans (hX.mono low.size), fun _ _ _ => rfl, by omega, hX.size, Nat.le_refl _, fun j hj h => absurd h (by omega)⟩
  case hIp =>
    intro s X k W l o h h1 h2 h3
    have hz1 := HZ.out.1
    have hk := Q.Kept.putObj W l o
    exact ⟨hk.box h.b3 (by omega), hk.box h.b4 (by omega), h.low.trans (hk.below h.low.size (fun j hj => by omega)), fun j e1 e2 => (World.putObj_heap_other (by omega)).trans (h.seg j e1 e2), h.sl, h.mid, by rw [World.putObj_size]; exact h.size, h.no⟩
  case hEp =>
    intro W l o h h1 h2
    have hz1 := HZ.out.1
    have hk := Q.Kept.putObj W l o
    exact ⟨hk.box h.b4 (by omega), h.low.trans (hk.below h.low.size (fun j hj => by omega)), h.yes⟩
  case hit =>
    intro l J0 J D hJ0 hS hJ hY W hW
    exact Q.fresh14_in 1 l J0 J D (fun W h => ⟨(hJ0 W h).2.1.loose, (hJ0 W h).2.2, (hJ0 W h).2.1.c0⟩) hS (fun s X k W h => (hJ s X k W h).seg) hY W hW HZ.out.2
  case hassign =>
    intro l k hk W K hK
    clear HG3 HG4 HG5 HGL HH HZ
    gi_wp2
    exact hK
  case hbody =>
    intro l s X k hk W hs hI
    have c3 := hI.b3.cell 0
    have c4 := hI.b4.cell 0
    have f4 := hI.b4.frozen 0
    simp only [List.getElem?_toArray, List.getElem?_cons_zero] at c3 c4
    have HI := Lib.hid hI
    obtain ⟨at_, hat⟩ : ∃ x, x = (L[k]'hk).1 := ⟨_, rfl⟩
    obtain ⟨y, hy'⟩ : ∃ x, x = (L[k]'hk).2 := ⟨_, rfl⟩
    have HAT := Lib.hid hat
    rw [← hat, ← hy']
    clear hat hy' hI HH HG3 HG4 HG5 HGL
    by_cases he : at_ = i
    · have HX : Hid (goesOr14 w1.heap.size W (StgAt w i L s X (k + 1)) (StgEnd w i L) .ret ⟨#[], []⟩ (W.setCell ⟨w.heap.size + 1, 0, none⟩ (.bool true))) := by
        have hk4 := (Kept.refl (fun j => j = w.heap.size + 1) W).set (fun _ => rfl) 0 (.bool true)
        refine ⟨hk4.size, hk4.block _ (by have hz1 := HZ.out.1; have := HI.out.sl; have := HI.out.mid; have := HI.out.size; omega) (by have hz1 := HZ.out.1; omega), hk4.block _ (by have hz1 := HZ.out.1; have := HI.out.sl; have := HI.out.mid; have := HI.out.size; omega) (by have hz1 := HZ.out.1; omega), HI.out.b4.set 0 _, HI.out.low.trans (hk4.below HI.out.low.size (fun j hj => by omega)), M.has14_yes hk (HAT.out.symm.trans he)⟩
      gi_wp2_with fail
      exact HX.out
    · have hne : (at_ == i) = false := by rw [beq_eq_false_iff_ne]; exact he
      have HX : Hid (goesOr14 w1.heap.size W (StgAt w i L s X (k + 1)) (StgEnd w i L) .normal ⟨#[], []⟩ W) := by
        refine ⟨Nat.le_refl _, rfl, rfl, HI.out.b3, HI.out.b4, HI.out.low, HI.out.seg, HI.out.sl, HI.out.mid, HI.out.size, fun j hj h => ?_⟩
        by_cases e : j < k
        · exact HI.out.no j hj e
        · have : j = k := by omega
          subst this
          rw [← HAT.out]
          exact he
      gi_wp2_with fail
      exact HX.out
  case hdone =>
    intro s X W hI hs hK
    have hz1 := HZ.out.1
    have hno : M.has14 i L = false := M.has14_no (fun k hk => hI.no k hk hk)
    have c4 := hI.b4.cell 0
    have f4 := hI.b4.frozen 0
    simp only [List.getElem?_toArray, List.getElem?_cons_zero] at c4
    have hk4 := (Kept.refl (fun j => j = w.heap.size + 1) W).set (fun _ => rfl) 0 (.bool false)
    have hKX : (W.setCell ⟨w.heap.size + 1, 0, none⟩ (.bool false)).heap[w1.heap.size]? = some (.deferred (some [])) := (Below.heap_setCell _ _ _ _ (by simp only; omega)).trans hK
    have hTK := run_takeDeferred (P := Tryz.prog) hKX
    have HL : Hid (Below w.heap.size w ((W.setCell ⟨w.heap.size + 1, 0, none⟩ (.bool false)).putObj w1.heap.size (.deferred none))) := (hI.low.trans (hk4.below hI.low.size (fun j hj => by omega))).trans ((Q.Kept.putObj _ _ _).below (by have := hI.low.size; have := hk4.size; omega) (fun j hj => by omega))
    have c5 : ((W.setCell ⟨w.heap.size + 1, 0, none⟩ (.bool false)).putObj w1.heap.size (.deferred none)).cell? ⟨w.heap.size + 1, 0, none⟩ = some (.bool false) := by
      have := (Q.Kept.putObj (W.setCell ⟨w.heap.size + 1, 0, none⟩ (.bool false)) w1.heap.size (.deferred none)).box (hI.b4.set 0 (.bool false)) (by omega)
      exact (this.cell 0).trans rfl
    clear hI HH hK hKX hk4 hz1 hs HG3 HG4 HG5 HGL
    gi_wp2_with fail
    rw [hno]
    refine ⟨by simp, .inl ⟨_, _, rfl, hTK, ?_⟩⟩
    exact ⟨.bool false, by simp [results, Tryz.results81, go_sem, *], rfl, HL.out⟩
  case hstop =>
    intro W hE hK
    have hz1 := HZ.out.1
    have hTK := run_takeDeferred (P := Tryz.prog) hK
    have hk4 := Q.Kept.putObj W w1.heap.size (.deferred none)
    have HL : Hid (Below w.heap.size w (W.putObj w1.heap.size (.deferred none))) := hE.low.trans (hk4.below hE.low.size (fun j hj => by omega))
    have c5 : (W.putObj w1.heap.size (.deferred none)).cell? ⟨w.heap.size + 1, 0, none⟩ = some (.bool true) := ((hk4.box hE.b4 (by omega)).cell 0).trans rfl
    have hyes := hE.yes
    clear hE HH hK hk4 hz1 HG3 HG4 HG5 HGL
    gi_wp2_with fail
    rw [hyes]
    refine ⟨by simp, .inl ⟨_, _, rfl, hTK, ?_⟩⟩
    exact ⟨.bool true, by simp [results, Tryz.results81, go_sem, *], rfl, HL.out⟩

theorem staged_any (i : Int) (w : World) {wb b : Nat} {P : Nat → Prop} {L K : List (Int × Value)} (c10 : w.cell? ⟨wb, 10, none⟩ = some (.pointer (some ⟨b, 0, none⟩))) (h : Sh 128 w b P L K) (hl : L.length ≤ 100000) :
    Calls Tryz.prog 81 #[.pointer (some ⟨wb, 0, none⟩), .int .i64 i] w fun e w' => e = .returned (.bool (M.has14 i L)) ∧ Below w.heap.size w w' := callsIn_wide.1 (staged_in i w c10 h hl)

/-- Things over places that are sectors, as the shadow has them. -/
def M.vs14 (l : List (Nat × ByteArray)) : List (Int × Value) := l.map fun p => ((p.1 : Int), .string p.2)
theorem M.vs14_len (l : List (Nat × ByteArray)) : (M.vs14 l).length = l.length := by simp [M.vs14]
theorem M.vs14_at (l : List (Nat × ByteArray)) (k : Nat) (hk : k < (M.vs14 l).length) : (M.vs14 l)[k]'hk = (((l[k]'(by simpa [M.vs14] using hk)).1 : Int), .string (l[k]'(by simpa [M.vs14] using hk)).2) := by simp [M.vs14]
theorem M.cells_snoc14 : ∀ (l : List (Nat × ByteArray)) (p : Nat × ByteArray), M.cells (l ++ [p]) = M.cells l ++ [.int .i64 (p.1 : Nat), .string p.2]
  | [], _ => rfl
  | q :: l, p => by simp [M.cells, M.cells_snoc14 l p]

/-- In the midst of sectorsOf: so many are gathered. -/
structure GatAt (w : World) (l : List (Nat × ByteArray)) (s : Nat) (X : World) (k : Nat) (W : World) : Prop where
  row : ∃ v, Box W w.heap.size 66 #[v] ∧ W.ownsRow X.heap.size 111 2 v k (M.cells (l.take k))
  low : Below w.heap.size w W
  seg : ∀ j, s ≤ j → j < X.heap.size → W.heap[j]? = X.heap[j]?
  sl : w.heap.size + 3 ≤ s
  mid : s ≤ X.heap.size
  size : X.heap.size ≤ W.heap.size

/-- What a function tells that is ranged over. -/
def Tells14 (w : World) (f sb : Nat) (l : List (Nat × ByteArray)) : Prop := (∀ args y, (callFunc f args).run Tryz.prog y = .ok (.enter f args) y) ∧
  ∀ (n i : Nat) (J0 : World → Prop) (J : Nat → World → Nat → World → Prop), (∀ W, J0 W → Below w.heap.size w W) → (∀ W X, J0 W → Below W.heap.size W X → J W.heap.size X 0 X) →
    (∀ s X k W, J s X k W → ∀ j, s ≤ j → j < X.heap.size → W.heap[j]? = X.heap[j]?) →
    (∀ s X k (hk : k < l.length) W, J s X k W → YieldAt Fence.wide n Tryz.prog i #[.int .i64 ((l[k]'hk).1 : Nat), .string (l[k]'hk).2] W fun e W' => e = .returned (.bool true) ∧ J s X (k + 1) W') → ∀ W, J0 W →
    CallsIn Fence.wide (n + 2) Tryz.prog f #[.func (.yield i) #[] #[], .pointer (some ⟨sb, 0, none⟩)] W fun e W' => (∃ v, e = .returned v) ∧ ∃ s X, J s X l.length W'

set_option maxRecDepth 100000 in
set_option maxHeartbeats 4000000 in
theorem sectorsOf_in (f sb : Nat) (l : List (Nat × ByteArray)) (hl : l.length ≤ 100000) (w : World) (hT : Tells14 w f sb l) :
    CallsIn Fence.wide 4 Tryz.prog 61 #[.func (.func f) #[] #[.pointer (some ⟨sb, 0, none⟩)]] w fun e w' => ∃ v, e = .returned v ∧ w'.ownsRow 0 111 2 v l.length (M.cells l) ∧ Below w.heap.size w w' ∧ ∀ g, v.ownBlock = some g → w.heap.size ≤ g := by
  obtain ⟨hen, hit⟩ := hT
  have HI := Lib.hid hit
  have HL := Lib.hid hl
  obtain ⟨w1, hw1⟩ : ∃ x, x = w.alloc (.cells #[.slice none 0 0] 66) := ⟨_, rfl⟩
  have HB1 : Hid (Below w.heap.size w w1) := by rw [hw1]; exact (Below.refl _ w).alloc (Nat.le_refl _) _
  have HZ : Hid (w1.heap.size = w.heap.size + 1) := by show w1.heap.size = _; rw [hw1]; simp
  have HX1 : Hid (Box w1 w.heap.size 66 #[.slice none 0 0]) := by rw [hw1]; exact Box.new _ _ _
  clear hit hl
  refine callsIn_of_wp_marks Tryz.func61 rfl trivial ?_ rfl
  simp only [Tryz.ntmps61, List.size_toArray, List.length_cons, List.length_nil, Nat.reduceAdd, Nat.reduceSub, Array.replicate_succ, Array.replicate_zero, List.push_toArray, List.append_toArray, List.nil_append, List.cons_append]
  gi_wp2_with fail
  rw [← hw1]
  clear hw1
  refine range_grow (m := 1) (gf := f) (lb := #[.pointer (some ⟨sb, 0, none⟩)]) rfl hen l.length
    (fun k hk => #[.int .i64 ((l[k]'hk).1 : Nat), .string (l[k]'hk).2]) (fun _ _ => rfl)
    (fun W => Box W w.heap.size 66 #[.slice none 0 0] ∧ Below w.heap.size w W)
    (GatAt w l)
    ?h0 ?hst ?hIp
    (fun k hk => { tmps := #[.func (.func f) #[] #[.pointer (some ⟨sb, 0, none⟩)], undef, .slice none 0 0, .pointer (some ⟨w.heap.size, 0, none⟩), .int .i64 ((l[k]'hk).1 : Nat), .string (l[k]'hk).2, .func (.func f) #[] #[.pointer (some ⟨sb, 0, none⟩)], .int .i64 ((l[k]'hk).1 : Nat), .string (l[k]'hk).2, undef, undef, undef, undef, undef, undef, undef], defers := [] })
    ?hit ?hassign ?hbody ?hdone
  case h0 =>
    intro o o'
    have hz1 := HZ.out
    have hbo : Below w1.heap.size w1 ((w1.alloc o).alloc o') := ((Below.refl _ w1).alloc (Nat.le_refl _) _).alloc (by simp) _
    exact ⟨HX1.out.below hbo HX1.out.lt, HB1.out.trans (hbo.mono (by omega))⟩
  case hst =>
    rintro W X ⟨h1, h2⟩ hz hX
    have hz1 := HZ.out
    exact ⟨⟨_, h1.below hX h1.lt, World.ownsRow_nil _ _ _ _⟩, h2.trans (hX.mono h2.size), fun _ _ _ => rfl, by omega, hX.size, Nat.le_refl _⟩
  case hIp =>
    intro s X k W i o h h1 h2 h3
    have hz1 := HZ.out
    have hk := Q.Kept.putObj W i o
    obtain ⟨v, hb, ho⟩ := h.row
    have hm := h.mid
    exact ⟨⟨v, hk.box hb (by omega), hk.owns14 ho (fun g e => by have := (ho.lt g e).1; omega)⟩, h.low.trans (hk.below h.low.size (fun j hj => by omega)), fun j e1 e2 => (World.putObj_heap_other (by omega)).trans (h.seg j e1 e2), h.sl, h.mid, by rw [World.putObj_size]; exact h.size⟩
  case hit =>
    intro i J0 J hJ0 hS hJ hY W hW
    exact HI.out 1 i J0 J (fun W h => (hJ0 W h).2) hS (fun s X k W h => (hJ s X k W h).seg) hY W hW
  case hassign =>
    intro i k hk W K hK
    clear hen HI HL HB1 HZ HX1
    gi_wp2
    exact hK
  case hbody =>
    intro i s X k hk W hs hI
    obtain ⟨v, hb, ho⟩ := hI.row
    have c3 := hb.cell 0
    simp only [List.getElem?_toArray, List.getElem?_cons_zero] at c3
    obtain ⟨at_, hat⟩ : ∃ x, x = (l[k]'hk).1 := ⟨_, rfl⟩
    obtain ⟨y, hy'⟩ : ∃ x, x = (l[k]'hk).2 := ⟨_, rfl⟩
    obtain ⟨i0, hi, hz0, hz1, hz2⟩ : ∃ i0, Tryz.prog.info? 111 = some i0 ∧ i0.zero = some (.agg #[.int .i64 0, .string ⟨#[]⟩]) ∧ i0.size = 2 ∧ i0.bytes = 24 := by
      have h := infoSec14
      cases hq : Tryz.prog.info? 111 with
      | none => simp [hq] at h
      | some i0 => simp [hq] at h; exact ⟨i0, rfl, h.1, h.2.1, h.2.2⟩
    obtain ⟨xs, hxs⟩ : ∃ x, x = M.cells (l.take k) := ⟨_, rfl⟩
    obtain ⟨Xs, hXs⟩ : ∃ x, x = X.heap.size := ⟨_, rfl⟩
    rw [← hXs, ← hxs] at ho
    have hvn : ∀ g, v.ownBlock = some g → Xs ≤ g := fun g e => (ho.lt g e).1
    have hsl := hI.sl
    have hmid := hI.mid
    have hsz := hI.size
    have hz1 := HZ.out
    have HRow := Lib.hid ho
    have HMo : Hid (∀ v' w3 o, w3.ownsRow Xs 111 2 v' (k + 1) (xs ++ [.int .i64 (at_ : Nat), .string y]) → (W.alloc o).grownBy w3 v.ownBlock → w3.cell? ⟨w.heap.size, 0, none⟩ = some v ∧ w3.frozen? ⟨w.heap.size, 0, none⟩ = false ∧ Hid (goesOn13 w1.heap.size W (GatAt w l s X (k + 1)) .normal ⟨#[], []⟩ (w3.setCell ⟨w.heap.size, 0, none⟩ v'))) := by
      intro v' w3 o h1 h2
      have k1 : Kept (fun j => Xs ≤ j) W w3 := ((Kept.refl _ W).alloc o).grown h2 (fun g e _ => hvn g e)
      have hb3 : Box w3 w.heap.size 66 #[v] := k1.box hb (by omega)
      have k2 : Kept (fun j => Xs ≤ j ∨ j = w.heap.size) W (w3.setCell ⟨w.heap.size, 0, none⟩ v') := Kept.set (g := w.heap.size) (P := fun j => Xs ≤ j ∨ j = w.heap.size) (k1.mono (fun _ _ e => Or.inl e)) (fun _ => Or.inr rfl) 0 v'
      have k3 : Kept (fun j => j = w.heap.size) w3 (w3.setCell ⟨w.heap.size, 0, none⟩ v') := (Kept.refl (fun j => j = w.heap.size) w3).set (fun _ => rfl) 0 v'
      refine ⟨(hb3.cell 0).trans rfl, hb3.frozen 0, ⟨k2.size, k2.block _ (by omega) (by omega), k2.block _ (by omega) (by omega), ⟨_, hb3.set 0 v', ?_⟩, hI.low.trans (k2.below hI.low.size (fun j hj => by omega)), fun j e1 e2 => (k2.block j (by omega) (by omega)).trans (hI.seg j e1 e2), hsl, hmid, by have := k2.size; omega⟩⟩
      rw [← hXs]
      have e4 : M.cells (l.take (k + 1)) = xs ++ [.int .i64 (at_ : Nat), .string y] := by
        rw [List.take_succ_eq_append_getElem hk, M.cells_snoc14, hxs, hat, hy']
      rw [e4]
      exact k3.owns14 h1 (fun g e e' => by have := (h1.lt g e).1; omega)
    have HMx : Hid (k + 1 ≤ maxLen ∧ (k + 1) * 24 ≤ 140737488355328 ∧ Xs ≤ W.heap.size) := by
      have hl := HL.out
      refine ⟨?_, by omega, by omega⟩
      have : k + 1 ≤ 100000 := by omega
      exact Nat.le_trans this (by decide)
    rw [← hat, ← hy']
    clear hat hy' hI hb ho hxs hXs hvn hsl hmid hsz hz1 HI HL HB1 HZ HX1 hs hen
    gi_wp2_with (first
      | (gi_at_builtin
         refine wpListIn_append_own _ rfl _ _ 66 rfl Xs 111 i0 (.agg #[.int .i64 0, .string ⟨#[]⟩]) 2 24 Tryz.underlying66 hi hz0 hz1 hz2 rfl (by decide) v k xs rfl (HRow.out.alloc _) ⟨W.heap.size, 0, none⟩ 1 1 [.int .i64 (at_ : Nat), .string y] rfl rfl (cell2_new14 _ _ _ _) (fun u hu => by simp at hu; rcases hu with rfl | rfl <;> rfl) HMx.out.1 HMx.out.2.1 (by rw [World.size_alloc]; exact Nat.le_succ_of_le HMx.out.2.2) ?_
         intro v' w3 ho3 hg3 _
         obtain ⟨A2, c2, rfl, _⟩ := owns_shape14 ho3
         obtain ⟨q2, q3, HX⟩ := HMo.out _ w3 _ ho3 hg3
         clear ho3 hg3 HMo))
    exact HX.out
  case hdone =>
    intro s X W hI hs hK
    obtain ⟨v, hb, ho⟩ := hI.row
    have hn : ∀ g, v.ownBlock = some g → X.heap.size ≤ g := fun g e => (ho.lt g e).1
    have hz1 := HZ.out
    have hm := hI.mid
    have hsl := hI.sl
    have c3 := hb.cell 0
    simp only [List.getElem?_toArray, List.getElem?_cons_zero] at c3
    have hTK := run_takeDeferred (P := Tryz.prog) hK
    have hk4 := Q.Kept.putObj W w1.heap.size (.deferred none)
    rw [List.take_length] at ho
    have HF : Hid ((W.putObj w1.heap.size (.deferred none)).ownsRow 0 111 2 v l.length (M.cells l) ∧ Below w.heap.size w (W.putObj w1.heap.size (.deferred none)) ∧ ∀ g, v.ownBlock = some g → w.heap.size ≤ g) :=
      ⟨owns_mono14 (hk4.owns14 ho (fun g e => by have := hn g e; omega)) (Nat.zero_le _), hI.low.trans (hk4.below hI.low.size (fun j hj => by omega)), fun g e => by have := hn g e; omega⟩
    clear hI HB1 HI HL HX1 hK hk4 hz1 hs hb ho hn hm hsl hen
    gi_wp2_with fail
    refine ⟨by simp, .inl ⟨_, _, rfl, hTK, ?_⟩⟩
    exact ⟨v, by simp [results, Tryz.results61, go_sem, *], v, rfl, HF.out⟩

theorem sectorsOf_any (f sb : Nat) (l : List (Nat × ByteArray)) (hl : l.length ≤ 100000) (w : World) (hT : Tells14 w f sb l) :
    Calls Tryz.prog 61 #[.func (.func f) #[] #[.pointer (some ⟨sb, 0, none⟩)]] w fun e w' => ∃ v, e = .returned v ∧ w'.ownsRow 0 111 2 v l.length (M.cells l) ∧ Below w.heap.size w w' ∧ ∀ g, v.ownBlock = some g → w.heap.size ≤ g := callsIn_wide.1 (sectorsOf_in f sb l hl w hT)

/-- Fresh's function, and Kept's. -/
theorem fresh_tells {w : World} {b sb : Nat} {P : Nat → Prop} {l : List (Nat × ByteArray)} {K : List (Int × Value)} (h : Sh 128 w b P (M.vs14 l) K) (hs : w.cell? ⟨sb, 0, none⟩ = some (.pointer (some ⟨b, 0, none⟩))) (hl : l.length ≤ 100000) : Tells14 w 131 sb l := by
  refine ⟨enters_of Tryz.func131 (by kernel_rfl) rfl, ?_⟩
  obtain ⟨lo, so, h, -, -, -⟩ := h
  intro n i J0 J hB hS hF hY W hW
  have hm := Q.fresh14_in n i (L := M.vs14 l) (o := lo) (b := b) (sb := sb) J0 J (fun _ => False) (fun W h0 => ?_) hS hF (fun s X k hk W hJ => ?_) W hW (by rw [M.vs14_len]; exact hl)
  · refine hm.mono ?_
    rintro e W' ⟨hv, h | h⟩
    · rw [M.vs14_len] at h
      exact ⟨hv, h⟩
    · exact h.elim
  · have hk := Kept.of_below (hB W h0) (fun _ => False)
    have h2 := h.kept hk id (fun _ _ => id) (fun _ _ => id)
    exact ⟨h2.loose, hk.cell hs id, h2.c0⟩
  · have hk' : k < l.length := by rwa [M.vs14_len] at hk
    rw [M.vs14_at l k hk]
    exact (hY s X k hk' W hJ).mono (fun e W' h => Or.inl h)
theorem kept_tells {w : World} {b sb : Nat} {P : Nat → Prop} {l : List (Nat × ByteArray)} {L : List (Int × Value)} (h : Sh 128 w b P L (M.vs14 l)) (hs : w.cell? ⟨sb, 0, none⟩ = some (.pointer (some ⟨b, 0, none⟩))) (hl : l.length ≤ 100000) : Tells14 w 99 sb l := by
  refine ⟨enters_of Tryz.func99 (by kernel_rfl) rfl, ?_⟩
  obtain ⟨lo, so, h, -, -, -⟩ := h
  intro n i J0 J hB hS hF hY W hW
  have hm := Q.kept14_in n i (L := M.vs14 l) (o := so) (b := b) (sb := sb) J0 J (fun W h0 => ?_) hS hF (fun s X k hk W hJ => ?_) W hW (by rw [M.vs14_len]; exact hl)
  · rw [M.vs14_len] at hm
    exact hm
  · have hk := Kept.of_below (hB W h0) (fun _ => False)
    have h2 := h.kept hk id (fun _ _ => id) (fun _ _ => id)
    exact ⟨h2.stays, hk.cell hs id, h2.c1⟩
  · have hk' : k < l.length := by rwa [M.vs14_len] at hk
    rw [M.vs14_at l k hk]
    exact hY s X k hk' W hJ
end Go.Proofs.YtmgchfjfkdkaoaaGreatDoor
