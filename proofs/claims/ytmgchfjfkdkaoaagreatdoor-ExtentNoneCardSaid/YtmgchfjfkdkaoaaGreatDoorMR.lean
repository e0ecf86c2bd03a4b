/-
  Walks over shadow.walk and Fresh's function where they are ranged over, at things that are strings. Walks over shadow.Keep, at things that are strings: Fresh is ranged over, by a body that lays things down.
-/
import Derived.Test.YtmgchfjfkdkaoaaGreatDoorMQ
import Derived.Shelf.Abstract
import Derived.Shelf.RegionOpen
import Derived.OwnWalkIn
import Derived.TacticsInMore
import Derived.LoopNIn
import Derived.LoopIn
import Derived.Deep.OwnRows
import Derived.Deep.RegionHeld3
namespace Go.Proofs.YtmgchfjfkdkaoaaGreatDoor.Q
open Go.RowKit Go.Maps Go.Shelf
set_option maxRecDepth 100000
attribute [local go_sem] Oper.semAt_some

/-- The copy and the places that shadow.walk has made: all from block s on is as it was in X. -/
theorem made_kept {s g cap : Nat} {o' : Option Nat} {L : List (Int × Value)} {w1 X W : World} (hm : MapV w1 o' L) (ho : ∀ k, o' = some k → s ≤ k) (hb : Below w1.heap.size w1 X) (hr : X.ownsRow w1.heap.size 3 1 (.slice (some ⟨g, 0, none⟩) L.length cap) L.length (M.ks L)) (hs : s ≤ w1.heap.size)
    (hF : ∀ j, s ≤ j → j < X.heap.size → W.heap[j]? = X.heap[j]?) : MapV W o' L ∧ ∀ k (hk : k < L.length), W.cell? ⟨g, k, none⟩ = some (.int .i64 (L[k]'hk).1) := by
  have hg := hr.lt g rfl
  constructor
  · rcases hm with h | ⟨b, D, rfl, h1, h2⟩
    · exact Or.inl h
    · have hlt := h1.lt
      obtain ⟨es, clock, hbb, F, hz, hD⟩ := h1
      exact Or.inr ⟨b, D, rfl, ⟨es, clock, ((hF b (ho b rfl) (Nat.lt_of_lt_of_le hlt hb.size)).trans (hb.block b hlt)).trans hbb, F, hz, hD⟩, h2⟩
  · intro k hk
    have hc := hr.cells (g := g) rfl k _ (M.ks_at L k hk)
    rw [blk_add] at hc
    exact (World.cell?_of_block (hF g (by omega) hg.2)).trans hc

set_option maxHeartbeats 2000000 in
theorem tell13_in (n l : Nat) {o : Option Nat} {L : List (Int × Value)} (J0 : World → Prop) (J : Nat → World → Nat → World → Prop) (hJ0 : ∀ W, J0 W → MapV W o L) (hS : ∀ W X, J0 W → Below W.heap.size W X → J W.heap.size X 0 X)
    (hF : ∀ s X k W, J s X k W → ∀ j, s ≤ j → j < X.heap.size → W.heap[j]? = X.heap[j]?)
    (hY : ∀ s X k (hk : k < L.length) W, J s X k W → YieldAt Fence.wide n Tryz.prog l #[.int .i64 (L[k]'hk).1, (L[k]'hk).2] W fun e W' => e = .returned (.bool true) ∧ J s X (k + 1) W')
    (W : World) (h0 : J0 W) (hl : L.length ≤ 100000) :
    CallsIn Fence.wide (n + 1) Tryz.prog 100 #[.map o, .func (.yield l) #[] #[]] W fun e W' => (∃ v, e = .returned v) ∧ ∃ s X, J s X L.length W' := by
  have hfn : ∀ (f : Fn) (a b : Array Value) (W : World), (binOp .eql 150 (.func f a b) .nilFunc).run Tryz.prog W = .ok (.bool false) W := fun f a b W => eql_fn W _ f a b Tryz.underlying150
  have HC : Hid (∀ x, CallsIn Fence.wide x Tryz.prog 135 #[.map o] W fun e w' => ∃ o', e = .returned (.map o') ∧ MapV w' o' L ∧ Below W.heap.size W w' ∧ ∀ k, o' = some k → W.heap.size ≤ k) := fun x => callsIn_wide.2 (clone_any W (hJ0 W h0))
  obtain ⟨len, hlen⟩ : ∃ x, x = L.length := ⟨_, rfl⟩
  have HP : Hid (∀ x w (o : Option Nat), MapV w o L → CallsIn Fence.wide x Tryz.prog 136 #[.map o] w fun e w' => ∃ g cap, e = .returned (.slice (some ⟨g, 0, none⟩) len cap) ∧
      w'.ownsRow w.heap.size 3 1 (.slice (some ⟨g, 0, none⟩) len cap) len (M.ks L) ∧ Below w.heap.size w w') := by
    rw [hlen]
    exact fun x w o h => callsIn_wide.2 (places_any w h hl)
  have HM : Hid (∀ (o' : Option Nat) (w1 X : World) (g cap : Nat), MapV w1 o' L → (∀ k, o' = some k → W.heap.size ≤ k) → Below W.heap.size W w1 → Below w1.heap.size w1 X → X.ownsRow w1.heap.size 3 1 (.slice (some ⟨g, 0, none⟩) len cap) len (M.ks L) →
      J W.heap.size X 0 X ∧ ∀ k wr, J W.heap.size X k wr → MapV wr o' L ∧ ∀ k (hk : k < L.length), wr.cell? ⟨g, k, none⟩ = some (.int .i64 (L[k]'hk).1)) :=
    fun o' w1 X g cap h1 h2 h3 h4 h5 => ⟨hS W X h0 (h3.trans (h4.mono h3.size)), fun k wr hk => made_kept h1 h2 h4 (by rw [hlen] at h5; exact h5) h3.size (hF _ _ _ _ hk)⟩
  have HY := Lib.hid hY
  have HU := Lib.hid (fun (w : World) (o : Option Nat) (h : MapV w o L) => h.up)
  clear hY hS hF hJ0 h0
  rw [← hlen] at hl
  rw [← hlen]
  have HN := Lib.hid hlen
  clear hlen
  refine callsIn_of_wp Tryz.func100 rfl trivial ?_ rfl
  simp only [Tryz.ntmps100, List.size_toArray, List.length_cons, List.length_nil, Nat.reduceAdd, Nat.reduceSub, Array.replicate_succ, Array.replicate_zero, List.push_toArray, List.append_toArray, List.nil_append, List.cons_append]
  gi_wp2_with (first
    | (refine ⟨trivial, ?_⟩; gi_at_call 135; refine (HC.out _).mono ?_; rintro e w1 ⟨o', rfl, hm1, hb1, ho1⟩)
    | (refine ⟨trivial, ?_⟩; gi_at_call 136; refine (HP.out _ _ _ hm1).mono ?_; rintro e X ⟨g, cap, rfl, hr2, hb2⟩
       obtain ⟨hj0, hkk⟩ := HM.out o' w1 X g cap hm1 ho1 hb1 hb2 hr2
       have HU1 := Lib.hid (HU.out _ _ hm1)
       have HK := Lib.hid hkk
       have HJ := Lib.hid hj0
       clear hm1 ho1 hb1 hb2 hr2 hj0 hkk HC HP HM))
  gi_loopw [14] (fun i wr => ∃ k : Nat, k ≤ len ∧ i = .int .i64 k ∧ J W.heap.size X k wr) (fun i _ => len - (intOf i).toNat)
  case atStart => exact ⟨0, Nat.zero_le _, rfl, HJ.out⟩
  case round =>
    obtain ⟨k, hk, rfl, hJk⟩ := hrel
    have HJk := Lib.hid hJk
    clear hJk
    by_cases hlt : k < len
    · have hlt' : (k : Int) < (len : Int) := by omega
      have hk0 : (0 : Int) ≤ (k : Int) := by omega
      have hkl : k < L.length := by rw [← HN.out]; exact hlt
      obtain ⟨hmk, hck⟩ := HK.out k wr HJk.out
      have hc := hck k hkl
      have hlk := hmk.look1 Tryz.underlying126 (zeroE13 wr) (M.find_of_mem HU1.out (List.getElem_mem hkl))
      obtain ⟨fn, tmps, assign, body, hy, hR⟩ := HY.out W.heap.size X k hkl wr HJk.out
      obtain ⟨at_, hat⟩ : ∃ x, x = (L[k]'hkl).1 := ⟨_, rfl⟩
      obtain ⟨y, hy'⟩ : ∃ x, x = (L[k]'hkl).2 := ⟨_, rfl⟩
      rw [← hat] at hc hlk hy
      rw [← hy'] at hlk hy
      clear hat hy' hmk hck HY HK hkl
      gi_wp2_with fail
      refine hR.mono ?_
      rintro e W3 ⟨rfl, hJ3⟩
      clear hc hlk hy
      gi_wp2_with fail
      go_roundw
      case rel => exact ⟨k + 1, by omega, by go_num, hJ3⟩
      case measure => simp [intOf]; omega
    · have e : k = len := by omega
      subst e
      gi_wp2_with fail
      go_end0
      exact ⟨⟨_, rfl⟩, _, _, HJk.out⟩

set_option maxHeartbeats 1000000 in
theorem fresh1_in (n l : Nat) {b sb : Nat} {o : Option Nat} {L : List (Int × Value)} (J0 : World → Prop) (J : Nat → World → Nat → World → Prop) (hJ0 : ∀ W, J0 W → MapV W o L ∧ W.cell? ⟨sb, 0, none⟩ = some (.pointer (some ⟨b, 0, none⟩)) ∧ W.cell? ⟨b, 0, none⟩ = some (.map o)) (hS : ∀ W X, J0 W → Below W.heap.size W X → J W.heap.size X 0 X)
    (hF : ∀ s X k W, J s X k W → ∀ j, s ≤ j → j < X.heap.size → W.heap[j]? = X.heap[j]?)
    (hY : ∀ s X k (hk : k < L.length) W, J s X k W → YieldAt Fence.wide n Tryz.prog l #[.int .i64 (L[k]'hk).1, (L[k]'hk).2] W fun e W' => e = .returned (.bool true) ∧ J s X (k + 1) W')
    (W : World) (h0 : J0 W) (hl : L.length ≤ 100000) :
    CallsIn Fence.wide (n + 2) Tryz.prog 131 #[.func (.yield l) #[] #[], .pointer (some ⟨sb, 0, none⟩)] W fun e W' => (∃ v, e = .returned v) ∧ ∃ s X, J s X L.length W' := by
  obtain ⟨-, c0, c1⟩ := hJ0 W h0
  have HT := Lib.hid (tell13_in n l J0 J (fun W h => (hJ0 W h).1) hS hF hY W h0 hl)
  clear hJ0 hS hF hY h0
  refine callsIn_of_wp Tryz.func131 rfl trivial ?_ rfl
  simp only [Tryz.ntmps131, List.size_toArray, List.length_cons, List.length_nil, Nat.reduceAdd, Nat.reduceSub, Array.replicate_succ, Array.replicate_zero, List.push_toArray, List.append_toArray, List.nil_append, List.cons_append]
  gi_wp2_with (refine ⟨trivial, ?_⟩; gi_at_call 100; refine HT.out.mono ?_; rintro e W3 ⟨⟨v, rfl⟩, hJ3⟩)
  go_end0
  exact ⟨⟨_, rfl⟩, hJ3⟩
end Go.Proofs.YtmgchfjfkdkaoaaGreatDoor.Q
namespace Go.Proofs.YtmgchfjfkdkaoaaGreatDoor.Q
open Go.RowKit Go.Maps Go.Shelf
set_option maxRecDepth 100000
attribute [local go_sem] Oper.semAt_some

theorem Kept.putObj (W : World) (l : Nat) (o : Obj) : Kept (fun j => j = l) W (W.putObj l o) :=
  ⟨rfl, rfl, rfl, by simp, fun _ _ hk => World.putObj_heap_other hk⟩
theorem follows13 : Tryz.prog.follows .mixedOrders = true := by kernel_rfl

/-- The midst of Keep: the first k of the loose ones lie among those that stay. -/
structure KeepAt (T : TypeId) (w : World) (b : Nat) (lo so : Option Nat) (L K : List (Int × Value)) (s : Nat) (X : World) (k : Nat) (W : World) : Prop where
  sh : ∃ so', ShAt T W b lo so' L (M.puts (L.take k) K) ∧ ∀ j, so' = some j → so = some j ∨ X.heap.size ≤ j
  ptr : W.cell? ⟨w.heap.size, 0, none⟩ = some (.pointer (some ⟨b, 0, none⟩))
  kept : Kept (fun j => j = b ∨ so = some j) w W
  seg : ∀ j, s ≤ j → j < X.heap.size → W.heap[j]? = X.heap[j]?
  low : w.heap.size + 4 ≤ s
  mid : s ≤ X.heap.size
  size : X.heap.size ≤ W.heap.size

section
variable {T : TypeId} {w W X : World} {b : Nat} {lo so : Option Nat} {L K : List (Int × Value)} {s k : Nat}
theorem KeepAt.start (h : ShAt T W b lo so L K) (hp : W.cell? ⟨w.heap.size, 0, none⟩ = some (.pointer (some ⟨b, 0, none⟩))) (hb : Below w.heap.size w W) (hz : w.heap.size + 4 ≤ W.heap.size) (hX : Below W.heap.size W X) : KeepAt T w b lo so L K W.heap.size X 0 X :=
  ⟨⟨so, h.kept (Kept.of_below hX (fun _ => False)) id (fun _ _ => id) (fun _ _ => id), fun _ e => Or.inl e⟩, (hX.cell (p := ⟨w.heap.size, 0, none⟩) (by simp only; omega)).trans hp, (Kept.of_below hb _).trans ((Kept.of_below hX (fun _ => False)).mono (fun _ _ e => e.elim)), fun _ _ _ => rfl, hz, hX.size, Nat.le_refl _⟩
theorem KeepAt.putObj (hw : ShAt T w b lo so L K) (h : KeepAt T w b lo so L K s X k W) (l : Nat) (o : Obj) (h1 : w.heap.size + 2 ≤ l) (h2 : l < w.heap.size + 4) : KeepAt T w b lo so L K s X k (W.putObj l o) := by
  have hk := Kept.putObj W l o
  have hbl := hw.box.lt
  have hlow := h.low
  have hmid := h.mid
  obtain ⟨so', hs, ho⟩ := h.sh
  refine ⟨⟨so', hs.kept hk (by omega) (fun j e => by have := hw.loose.lt e; omega) (fun j e => ?_), ho⟩, hk.cell h.ptr (by simp only; omega), h.kept.next hk (fun i hi e => by omega), fun j hj hj' => (hk.block j (Nat.lt_of_lt_of_le hj' h.size) (by omega)).trans (h.seg j hj hj'), h.low, h.mid, Nat.le_trans h.size hk.size⟩
  rcases ho j e with e | e
  · have := hw.stays.lt e; omega
  · omega
/-- One more lies there. -/
theorem KeepAt.step (hw : ShAt T w b lo so L K) (h : KeepAt T w b lo so L K s X k W) (hk : k < L.length) (hl : L.length + K.length ≤ 100000) :
    ∃ so', W.cell? ⟨b, 1, none⟩ = some (.map so') ∧ Hid (MapV W so' (M.puts (L.take k) K) ∧ (M.puts (L.take k) K).length ≤ 100000 ∧ ∀ w2 b2, MapV w2 (some b2) (M.ins (L[k]'hk).1 (L[k]'hk).2 (M.puts (L.take k) K)) → Kept (fun j => so' = some j) W w2 → (so' = some b2 ∨ W.heap.size ≤ b2) →
      w2.cell? ⟨w.heap.size, 0, none⟩ = some (.pointer (some ⟨b, 0, none⟩)) ∧ w2.cell? ⟨b, 1, none⟩ = some (.map so') ∧ w2.frozen? ⟨b, 1, none⟩ = false ∧
        Hid (goesOn13 (w.heap.size + 2) W (KeepAt T w b lo so L K s X (k + 1)) .normal ⟨#[], []⟩ (w2.setCell ⟨b, 1, none⟩ (.map (some b2))))) := by
  obtain ⟨so', hs, ho⟩ := h.sh
  have hbl := hw.box.lt
  have hlow := h.low
  have hmid := h.mid
  have hsz := h.size
  refine ⟨so', hs.c1, hs.stays, ?_, fun w2 b2 hm hk2 hb2 => ?_⟩
  · have h1 := M.puts_len (L.take k) K
    have h2 : (L.take k).length ≤ L.length := by rw [List.length_take]; exact Nat.min_le_right _ _
    omega
  · obtain ⟨c1, f1, hX⟩ := hs.set1 hk2 hm (fun j e => by injection e with e; subst e; exact hb2)
    obtain ⟨hsh, hkk⟩ := hX
    have hso : ∀ j, so' = some j → j < w.heap.size ∨ X.heap.size ≤ j := fun j e => (ho j e).imp (fun e => hw.stays.lt e) id
    have hso1 : ∀ j, w.heap.size ≤ j → j < X.heap.size → ¬ (j = b ∨ so' = some j) := fun j h1 h2 e => e.elim (fun e => by omega) (fun e => by have := hso j e; omega)
    have hp2 : w2.cell? ⟨w.heap.size, 0, none⟩ = some (.pointer (some ⟨b, 0, none⟩)) := hk2.cell h.ptr (fun e => by have := hso _ e; simp only at this; omega)
    refine ⟨hp2, c1, f1, hkk.size, hkk.block _ (by omega) (hso1 _ (by omega) (by omega)), hkk.block _ (by omega) (hso1 _ (by omega) (by omega)), ⟨some b2, ?_, fun j e => ?_⟩, ?_, ?_, fun j hj hj' => (hkk.block j (by omega) (hso1 j (by omega) hj')).trans (h.seg j hj hj'), h.low, h.mid, Nat.le_trans h.size hkk.size⟩
    · have e : L.take (k + 1) = L.take k ++ [L[k]'hk] := List.take_succ_eq_append_getElem hk
      rw [e, M.puts_snoc]
      exact hsh
    · injection e with e
      subst e
      rcases hb2 with e | e
      · exact ho _ e
      · right; omega
    · exact (cell_set_other (p := ⟨w.heap.size, 0, none⟩) (by simp only; omega)).trans hp2
    · refine h.kept.next hkk (fun i hi e => e.imp id (fun e => ?_))
      rcases ho i e with e | e
      · exact e
      · omega
/-- All lie there: the loose ones are let go. -/
theorem KeepAt.done (h : KeepAt T w b lo so L K s X L.length W) : ∃ lo', W.cell? ⟨b, 0, none⟩ = some (.map lo') ∧ W.frozen? ⟨b, 0, none⟩ = false ∧ b < W.heap.size ∧
    Hid (∃ so', ShAt T (W.setCell ⟨b, 0, none⟩ (.map none)) b none so' [] (M.puts L K) ∧ (∀ j, so' = some j → so = some j ∨ X.heap.size ≤ j) ∧ Kept (fun j => j = b ∨ so = some j) w (W.setCell ⟨b, 0, none⟩ (.map none))) := by
  obtain ⟨so', hs, ho⟩ := h.sh
  rw [List.take_length] at hs
  have hk : Kept (fun k => k = b) W (W.setCell ⟨b, 0, none⟩ (.map none)) := Kept.set (P := fun k => k = b) (Kept.refl _ W) (fun _ => rfl) 0 _
  obtain ⟨c0, f0, hX⟩ := hs.set0 (o := none) (M := []) (Kept.refl _ W) (MapV.nil W) (fun _ e => by cases e)
  exact ⟨lo, c0, f0, hs.box.lt, so', hX.1, ho, h.kept.next hk (fun i hi e => Or.inl e)⟩
end

set_option maxHeartbeats 2000000 in
theorem keep_in (w : World) {b : Nat} {lo so : Option Nat} {L K : List (Int × Value)} (h : ShAt 128 w b lo so L K) (hl : L.length + K.length ≤ 100000) :
    CallsIn Fence.wide 4 Tryz.prog 97 #[.pointer (some ⟨b, 0, none⟩)] w fun e w' => e = .returned (.tuple #[]) ∧ ∃ so', ShAt 128 w' b none so' [] (M.puts L K) ∧ (∀ j, so' = some j → so = some j ∨ w.heap.size ≤ j) ∧ Kept (fun j => j = b ∨ so = some j) w w' := by
  have hbl := h.box.lt
  have HF : Hid (∀ x w, CallsIn Fence.wide x Tryz.prog 95 #[.pointer (some ⟨b, 0, none⟩)] w fun e w' => e = .returned (.func (.func 131) #[] #[.pointer (some ⟨w.heap.size, 0, none⟩)]) ∧ w' = w.alloc (.cells #[.pointer (some ⟨b, 0, none⟩)] 60)) := fun x w => callsIn_wide.2 (fresh_any _ w)
  have HW : Hid (∀ x w o Q k y, MapV w o Q → (Lit.int .i64 k).wf = true → Q.length ≤ 100000 → CallsIn Fence.wide x Tryz.prog 113 #[.map o, .int .i64 k, y] w fun e w' => ∃ b, e = .returned (.map (some b)) ∧ MapV w' (some b) (M.ins k y Q) ∧ Kept (fun j => o = some j) w w' ∧ (o = some b ∨ w.heap.size ≤ b)) := fun x w o Q k y h1 h2 h3 => callsIn_wide.2 (with_any w h1 k y h2 h3)
  have HWF := Lib.hid h.loose.wf
  have HH := Lib.hid h
  have HL := Lib.hid hl
  clear h hl
  refine callsIn_of_wp_marks Tryz.func97 rfl trivial ?_ rfl
  simp only [Tryz.ntmps97, List.size_toArray, List.length_cons, List.length_nil, Nat.reduceAdd, Nat.reduceSub, Array.replicate_succ, Array.replicate_zero, List.push_toArray, List.append_toArray, List.nil_append, List.cons_append]
  gi_wp2_with (refine ⟨trivial, ?_⟩; gi_at_call 95; refine (HF.out _ _).mono ?_; rintro e w1 ⟨rfl, hw1⟩
               have HW1 := Lib.hid hw1
               clear hw1)
  have hz1 : (w.alloc (.cells #[.pointer (some ⟨b, 0, none⟩)] 60)).heap.size = w.heap.size + 1 := by simp
  have hz2 : w1.heap.size = w.heap.size + 2 := by rw [HW1.out]; simp
  have hb1 : Below w.heap.size w w1 := by rw [HW1.out]; exact ((Below.refl _ w).alloc (Nat.le_refl _) _).alloc (by simp) _
  have hB0 : Box w1 w.heap.size 60 #[.pointer (some ⟨b, 0, none⟩)] := by
    rw [HW1.out]
    exact (Below.heap_alloc _ _ _ (by simp)).trans (heap_alloc_new w _)
  have hB1 : Box w1 (w.heap.size + 1) 60 #[.pointer (some ⟨b, 0, none⟩)] := by
    rw [HW1.out]
    have := heap_alloc_new (w.alloc (.cells #[.pointer (some ⟨b, 0, none⟩)] 60)) (.cells #[.pointer (some ⟨b, 0, none⟩)] 60)
    rwa [World.size_alloc] at this
  clear HW1 HF
  refine range_grow (m := 1) (gf := 131) (lb := #[.pointer (some ⟨w.heap.size + 1, 0, none⟩)]) rfl (enters_of Tryz.func131 (by kernel_rfl) rfl) L.length
    (fun k hk => #[.int .i64 (L[k]'hk).1, (L[k]'hk).2]) (fun _ _ => rfl)
    (fun W => ShAt 128 W b lo so L K ∧ W.cell? ⟨w.heap.size, 0, none⟩ = some (.pointer (some ⟨b, 0, none⟩)) ∧ W.cell? ⟨w.heap.size + 1, 0, none⟩ = some (.pointer (some ⟨b, 0, none⟩)) ∧ Below w.heap.size w W)
    (KeepAt 128 w b lo so L K)
    ?h0 ?hst ?hIp
    (fun k hk => { tmps := #[.pointer (some ⟨b, 0, none⟩), .pointer (some ⟨w.heap.size, 0, none⟩), .int .i64 (L[k]'hk).1, (L[k]'hk).2, .pointer (some ⟨b, 0, none⟩), .bool false, .pointer (some ⟨b, 0, none⟩), .func (.func 131) #[] #[.pointer (some ⟨w.heap.size + 1, 0, none⟩)], .int .i64 (L[k]'hk).1, (L[k]'hk).2, undef, undef, undef, undef, undef, undef, undef, undef, undef, undef, undef, undef, undef], defers := [] })
    ?hit ?hassign ?hbody ?hdone
  case h0 =>
    intro o o'
    have hbo : Below w1.heap.size w1 ((w1.alloc o).alloc o') := ((Below.refl _ w1).alloc (Nat.le_refl _) _).alloc (by simp) _
    have hk : Kept (fun _ => False) w ((w1.alloc o).alloc o') := (Kept.of_below hb1 _).trans (Kept.of_below hbo _)
    exact ⟨HH.out.kept hk id (fun _ _ => id) (fun _ _ => id), (hbo.cell (p := ⟨w.heap.size, 0, none⟩) (by simp only; omega)).trans ((hB0.cell 0).trans rfl), (hbo.cell (p := ⟨w.heap.size + 1, 0, none⟩) (by simp only; omega)).trans ((hB1.cell 0).trans rfl), hb1.trans (hbo.mono hb1.size)⟩
  case hst =>
    rintro W X ⟨h1, h2, h3, h4⟩ hz hX
    exact KeepAt.start h1 h2 h4 (by omega) hX
  case hIp =>
    intro s X k W l o h h1 h2 h3
    exact h.putObj HH.out l o (by omega) (by omega)
  case hit =>
    intro l J0 J hJ0 hS hJ hY W hW
    exact fresh1_in 1 l J0 J (fun W h => ⟨(hJ0 W h).1.loose, (hJ0 W h).2.2.1, (hJ0 W h).1.c0⟩) hS (fun s X k W h => (hJ s X k W h).seg) hY W hW (by have := HL.out; omega)
  case hassign =>
    intro l k hk W K hK
    gi_wp2
    exact hK
  case hbody =>
    intro l s X k hk W hs hI
    obtain ⟨so', c1, HX⟩ := hI.step HH.out hk HL.out
    have c2 := hI.ptr
    have HWk : Hid (Calls Tryz.prog 113 #[.map so', .int .i64 (L[k]'hk).1, (L[k]'hk).2] W.drew fun e w' => ∃ b, e = .returned (.map (some b)) ∧ MapV w' (some b) (M.ins (L[k]'hk).1 (L[k]'hk).2 (M.puts (L.take k) K)) ∧ Kept (fun j => so' = some j) W.drew w' ∧ (so' = some b ∨ W.drew.heap.size ≤ b)) :=
      with_any W.drew (HX.out.1.drewN 1) _ _ (HWF.out _ (List.getElem_mem hk)) HX.out.2.1
    have HY := Lib.hid HX.out.2.2
    have HE : Hid (∀ W' Z, goesOn13 (w.heap.size + 2) W Z .normal ⟨#[], []⟩ W' → goesOn13 w1.heap.size W Z .normal ⟨#[], []⟩ W') := fun W' Z h => by rw [hz2]; exact h
    have HP3 : Hid (∀ (w2 : World) b2, w2.cell? ⟨w.heap.size, 0, none⟩ = some (.pointer (some ⟨b, 0, none⟩)) → (w2.setCell ⟨b, 1, none⟩ (.map (some b2))).cell? ⟨w.heap.size, 0, none⟩ = some (.pointer (some ⟨b, 0, none⟩))) :=
      fun w2 b2 h => (cell_set_other (p := ⟨w.heap.size, 0, none⟩) (by simp only; omega)).trans h
    obtain ⟨at_, hat⟩ : ∃ x, x = (L[k]'hk).1 := ⟨_, rfl⟩
    obtain ⟨y, hy'⟩ : ∃ x, x = (L[k]'hk).2 := ⟨_, rfl⟩
    rw [← hat, ← hy'] at HWk HY
    rw [← hat, ← hy']
    clear hat hy' HX hI HWF HH HL HW hz1 hz2 hb1 hB0 hB1 hs
    gi_wp2_with fail
    -- region
    refine region_round (fun y => y.cell? ⟨w.heap.size, 0, none⟩ = some (.pointer (some ⟨b, 0, none⟩))) (by kernel_rfl) (by kernel_rfl) (fun _ _ h => h) c2 (fun hHeld => ?_)
    refine wpAnyH_take (i := 0) (oi := ?_) (v := ?_) ?_ (by kernel_rfl) (by kernel_rfl) (by kernel_rfl) ?_ ?_ (by assumption) ?_
    rotate_left 2
    · (simp only [List.getElem?_toArray, List.getElem?_cons_zero]; rfl)
    rotate_left
    · (refine Or.inl ⟨by rfl, ?_⟩; intro w hSw; (try dsimp only at hSw); go_simp; try with_reducible rfl)
    rotate_right
    · exact fun _ _ _ h => h
    simp only [Act.put, List.setIfInBounds_toArray, List.set_cons_zero, List.set_cons_succ]
    refine wpAnyH_take (i := 1) (oi := ?_) (v := ?_) ?_ (by kernel_rfl) (by kernel_rfl) (by kernel_rfl) ?_ ?_ (by assumption) ?_
    rotate_left 2
    · (simp only [List.getElem?_toArray, List.getElem?_cons_zero, List.getElem?_cons_succ]; rfl)
    rotate_left
    · (refine Or.inl ⟨by rfl, ?_⟩; intro w hSw; (try dsimp only at hSw); go_simp; try with_reducible rfl)
    rotate_right
    · exact fun _ _ _ h => h
    simp only [Act.put, List.setIfInBounds_toArray, List.set_cons_zero, List.set_cons_succ]
    refine wpAnyH_take (i := 2) (oi := ?_) (v := ?_) ?_ (by kernel_rfl) (by kernel_rfl) (by kernel_rfl) ?_ ?_ (by assumption) ?_
    rotate_left 2
    · (simp only [List.getElem?_toArray, List.getElem?_cons_zero, List.getElem?_cons_succ]; rfl)
    rotate_left
    · (refine Or.inl ⟨by rfl, ?_⟩; intro w hSw; (try dsimp only at hSw); go_simp; try with_reducible rfl)
    rotate_right
    · exact fun _ _ _ h => h
    simp only [Act.put, List.setIfInBounds_toArray, List.set_cons_zero, List.set_cons_succ]
    refine wpAnyH_take (i := 3) (oi := ?_) (v := ?_) ?_ (by kernel_rfl) (by kernel_rfl) (by kernel_rfl) ?_ ?_ (by assumption) ?_
    rotate_left 2
    · (simp only [List.getElem?_toArray, List.getElem?_cons_zero, List.getElem?_cons_succ]; rfl)
    rotate_left
    · (refine Or.inl ⟨by rfl, ?_⟩; intro w hSw; (try dsimp only at hSw); go_simp; try with_reducible rfl)
    rotate_right
    · exact fun _ _ _ h => h
    simp only [Act.put, List.setIfInBounds_toArray, List.set_cons_zero, List.set_cons_succ]
    refine wpAnyH_take (i := 5) (oi := ?_) (v := ?_) ?_ (by kernel_rfl) (by kernel_rfl) (by kernel_rfl) ?_ ?_ (by assumption) ?_
    rotate_left 2
    · (simp only [List.getElem?_toArray, List.getElem?_cons_zero, List.getElem?_cons_succ]; rfl)
    rotate_left
    · (refine Or.inl ⟨by rfl, ?_⟩; intro w hSw; (try dsimp only at hSw); go_simp; try with_reducible rfl)
    rotate_right
    · exact fun _ _ _ h => h
    simp only [Act.put, List.setIfInBounds_toArray, List.set_cons_zero, List.set_cons_succ]
    refine wpAnyH_take (i := 6) (oi := ?_) (v := ?_) ?_ (by kernel_rfl) (by kernel_rfl) (by kernel_rfl) ?_ ?_ (by assumption) ?_
    rotate_left 2
    · (simp only [List.getElem?_toArray, List.getElem?_cons_zero, List.getElem?_cons_succ]; rfl)
    rotate_left
    · (refine Or.inl ⟨by rfl, ?_⟩; intro w hSw; (try dsimp only at hSw); go_simp; try with_reducible rfl)
    rotate_right
    · exact fun _ _ _ h => h
    simp only [Act.put, List.setIfInBounds_toArray, List.set_cons_zero, List.set_cons_succ]
    refine wpAnyH_ready (rs := [4]) (by kernel_rfl) (by simp) ?_
    refine AllReadyH.cons (o := ?_) ?_ (fun K hK => ?_) AllReadyH.nil
    rotate_left
    · (simp only [List.getElem?_toArray, List.getElem?_cons_zero, List.getElem?_cons_succ]; rfl)
    go_simp
    refine hK.out _ _ (by first | exact hHeld | exact p2 | exact HP3.out w2 b2 p2) (fun hHeld => ?_)
    clear hK K
    try simp only [Act.put, List.setIfInBounds_toArray, List.set_cons_zero, List.set_cons_succ]
    refine wpAnyH_ready (rs := [7]) (by kernel_rfl) (by simp) ?_
    refine AllReadyH.cons (o := ?_) ?_ (fun K hK => ?_) AllReadyH.nil
    rotate_left
    · (simp only [List.getElem?_toArray, List.getElem?_cons_zero, List.getElem?_cons_succ]; rfl)
    go_simp
    go_at_call 113; refine HWk.out.mono ?_; rintro e w2 ⟨b2, rfl, hm2, hk2, hb2⟩; obtain ⟨p2, d2, f2, HG⟩ := HY.out w2 b2 hm2 ((Kept.refl _ W).drew.trans hk2) hb2; clear hm2 hk2 hb2
    refine hK.out _ _ (by first | exact hHeld | exact p2 | exact HP3.out w2 b2 p2) (fun hHeld => ?_)
    clear hK K
    refine wpAnyH_take (i := 8) (oi := ?_) (v := ?_) ?_ (by kernel_rfl) (by kernel_rfl) (by kernel_rfl) ?_ ?_ (by assumption) ?_
    rotate_left 2
    · (simp only [List.getElem?_toArray, List.getElem?_cons_zero, List.getElem?_cons_succ]; rfl)
    rotate_left
    · (refine Or.inl ⟨by rfl, ?_⟩; intro w hSw; (try dsimp only at hSw); go_simp; try with_reducible rfl)
    rotate_right
    · exact fun _ _ _ h => h
    simp only [Act.put, List.setIfInBounds_toArray, List.set_cons_zero, List.set_cons_succ]
    refine wpAnyH_take (i := 9) (oi := ?_) (v := ?_) ?_ (by kernel_rfl) (by kernel_rfl) (by kernel_rfl) ?_ ?_ (by assumption) ?_
    rotate_left 2
    · (simp only [List.getElem?_toArray, List.getElem?_cons_zero, List.getElem?_cons_succ]; rfl)
    rotate_left
    · (refine Or.inl ⟨by rfl, ?_⟩; intro w hSw; (try dsimp only at hSw); go_simp; try with_reducible rfl)
    rotate_right
    · exact fun _ _ _ h => h
    simp only [Act.put, List.setIfInBounds_toArray, List.set_cons_zero, List.set_cons_succ]
    refine wpAnyH_ready (rs := [10]) (by kernel_rfl) (by simp) ?_
    refine AllReadyH.cons (o := ?_) ?_ (fun K hK => ?_) AllReadyH.nil
    rotate_left
    · (simp only [List.getElem?_toArray, List.getElem?_cons_zero, List.getElem?_cons_succ]; rfl)
    go_simp
    refine hK.out _ _ (by first | exact hHeld | exact p2 | exact HP3.out w2 b2 p2) (fun hHeld => ?_)
    clear hK K
    try simp only [Act.put, List.setIfInBounds_toArray, List.set_cons_zero, List.set_cons_succ]
    refine wpAnyH_done (by kernel_rfl) ?_ _
    -- end
    exact HE.out _ _ HG.out
  case hdone =>
    intro s X W hI hs hK
    obtain ⟨lo', c0, f0, hbW, HX⟩ := hI.done
    have c2 := hI.ptr
    have hlow := hI.low
    have hmid := hI.mid
    have hKX : (W.setCell ⟨b, 0, none⟩ (.map none)).heap[w1.heap.size]? = some (.deferred (some [])) := (Below.heap_setCell _ _ _ _ (by simp only; omega)).trans hK
    have hTK := run_takeDeferred (P := Tryz.prog) hKX
    have HF : Hid (∃ so', ShAt 128 ((W.setCell ⟨b, 0, none⟩ (.map none)).putObj w1.heap.size (.deferred none)) b none so' [] (M.puts L K) ∧ (∀ j, so' = some j → so = some j ∨ w.heap.size ≤ j) ∧ Kept (fun j => j = b ∨ so = some j) w ((W.setCell ⟨b, 0, none⟩ (.map none)).putObj w1.heap.size (.deferred none))) := by
      obtain ⟨so', h1, h2, h3⟩ := HX.out
      have hk := Kept.putObj (W.setCell ⟨b, 0, none⟩ (.map none)) w1.heap.size (.deferred none)
      refine ⟨so', h1.kept hk (by omega) (fun _ e => (by cases e)) (fun j e => ?_), fun j e => (h2 j e).imp id (fun e => by omega), h3.next hk (fun i hi e => by omega)⟩
      rcases h2 j e with e | e
      · have := HH.out.stays.lt e; omega
      · omega
    clear HX hI HWF HH HL HW hz1 hb1 hB0 hB1 hs hK hKX hlow hmid
    gi_wp2_with fail
    refine ⟨by simp, .inl ⟨_, _, rfl, hTK, ?_⟩⟩
    exact ⟨_, results_none rfl _ _ _, rfl, HF.out⟩

theorem keep_any {P : Nat → Prop} (w : World) {b : Nat} {L K : List (Int × Value)} (h : Sh 128 w b P L K) (hl : L.length + K.length ≤ 100000) :
    Calls Tryz.prog 97 #[.pointer (some ⟨b, 0, none⟩)] w fun e w' => e = .returned (.tuple #[]) ∧ Sh 128 w' b (M.plus13 P w.heap.size) [] (M.puts L K) ∧ Kept P w w' := by
  obtain ⟨lo, so, h, p1, p2, p3⟩ := h
  refine (callsIn_wide.1 (keep_in w h hl)).mono ?_
  rintro e w' ⟨rfl, so', h1, h2, h3⟩
  exact ⟨rfl, ⟨_, _, h1, Or.inl p1, fun _ e => (by cases e), fun j e => (h2 j e).imp (p3 j) id⟩, h3.mono (fun j _ e => e.elim (fun e => by rw [e]; exact p1) (fun e => p3 j e))⟩
end Go.Proofs.YtmgchfjfkdkaoaaGreatDoor.Q
