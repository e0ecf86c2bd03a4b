/-
  Walks over shadow.walk and Fresh's function where they are ranged over, at things that are ints.
-/
import Derived.Test.YtfklbinccpdnmaaZWith
import Derived.Test.YtfklbinccpdnmaaZRange
import Derived.Shelf.Abstract
import Derived.Shelf.RegionOpen
import Derived.OwnWalkIn
import Derived.TacticsInMore
import Derived.LoopNIn
import Derived.LoopIn
import Derived.Deep.OwnRows
namespace Go.Proofs.Ytfklbinccpdnmaa
open Go.RowKit Go.Maps Go.Shelf
attribute [local go_sem] Oper.semAt_some

/-- The copy and the places that shadow.walk has made: all from block s on is as it was in X. -/
theorem made_kept {s g cap : Nat} {o' : Option Nat} {L : List (Int × Value)} {w1 X W : World} (hm : MapV w1 o' L) (ho : ∀ k, o' = some k → s ≤ k) (hb : Below w1.heap.size w1 X) (hr : X.ownsRow w1.heap.size 3 1 (.slice (some ⟨g, 0, none⟩) L.length cap) L.length (M.ks L)) (hs : s ≤ w1.heap.size)
    (hF : ∀ j, s ≤ j → j < X.heap.size → W.heap[j]? = X.heap[j]?) : MapV W o' L ∧ ∀ k (hk : k < L.length), W.cell? ⟨g, k, none⟩ = some (.int .i64 (L[k]'hk).1) := by
  have hg := hr.lt g rfl
  constructor
  · rcases hm with h | ⟨b, D, rfl, h1, h2⟩
    · exact Or.inl h
    · have hlt := h1.lt
      obtain ⟨es, clock, hbb, F, hz, hD⟩ := h1
      exact Or.inr ⟨b, D, rfl, ⟨es, clock, ((hF b (ho b rfl) (Nat.lt_of_lt_of_le hlt hb.size)).trans (hb.block b hlt)).trans hbb, F, hz, hD⟩, h2⟩
  · intro k hk
    have hc := hr.cells (g := g) rfl k _ (M.ks_at L k hk)
    rw [blk_add] at hc
    exact (World.cell?_of_block (hF g (by omega) hg.2)).trans hc

set_option maxRecDepth 100000 in
set_option maxHeartbeats 2000000 in
theorem tell13_in (n l : Nat) {o : Option Nat} {L : List (Int × Value)} (J0 : World → Prop) (J : Nat → World → Nat → World → Prop) (hJ0 : ∀ W, J0 W → MapV W o L) (hS : ∀ W X, J0 W → Below W.heap.size W X → J W.heap.size X 0 X)
    (hF : ∀ s X k W, J s X k W → ∀ j, s ≤ j → j < X.heap.size → W.heap[j]? = X.heap[j]?)
    (hY : ∀ s X k (hk : k < L.length) W, J s X k W → YieldAt Fence.wide n Try.prog l #[.int .i64 (L[k]'hk).1, (L[k]'hk).2] W fun e W' => e = .returned (.bool true) ∧ J s X (k + 1) W')
    (W : World) (h0 : J0 W) (hl : L.length ≤ 100000) :
    CallsIn Fence.wide (n + 1) Try.prog 31 #[.map o, .func (.yield l) #[] #[]] W fun e W' => (∃ v, e = .returned v) ∧ ∃ s X, J s X L.length W' := by
  have hfn : ∀ (f : Fn) (a b : Array Value) (W : World), (binOp .eql 50 (.func f a b) .nilFunc).run Try.prog W = .ok (.bool false) W := fun f a b W => eql_fn W _ f a b Try.underlying50
  have HC : Hid (∀ x, CallsIn Fence.wide x Try.prog 35 #[.map o] W fun e w' => ∃ o', e = .returned (.map o') ∧ MapV w' o' L ∧ Below W.heap.size W w' ∧ ∀ k, o' = some k → W.heap.size ≤ k) := fun x => callsIn_wide.2 (clone_any W (hJ0 W h0))
  obtain ⟨len, hlen⟩ : ∃ x, x = L.length := ⟨_, rfl⟩
  have HP : Hid (∀ x w (o : Option Nat), MapV w o L → CallsIn Fence.wide x Try.prog 36 #[.map o] w fun e w' => ∃ g cap, e = .returned (.slice (some ⟨g, 0, none⟩) len cap) ∧
      w'.ownsRow w.heap.size 3 1 (.slice (some ⟨g, 0, none⟩) len cap) len (M.ks L) ∧ Below w.heap.size w w') := by
    rw [hlen]
    exact fun x w o h => callsIn_wide.2 (places_any w h hl)
  have HM : Hid (∀ (o' : Option Nat) (w1 X : World) (g cap : Nat), MapV w1 o' L → (∀ k, o' = some k → W.heap.size ≤ k) → Below W.heap.size W w1 → Below w1.heap.size w1 X → X.ownsRow w1.heap.size 3 1 (.slice (some ⟨g, 0, none⟩) len cap) len (M.ks L) →
      J W.heap.size X 0 X ∧ ∀ k wr, J W.heap.size X k wr → MapV wr o' L ∧ ∀ k (hk : k < L.length), wr.cell? ⟨g, k, none⟩ = some (.int .i64 (L[k]'hk).1)) :=
    fun o' w1 X g cap h1 h2 h3 h4 h5 => ⟨hS W X h0 (h3.trans (h4.mono h3.size)), fun k wr hk => made_kept h1 h2 h4 (by rw [hlen] at h5; exact h5) h3.size (hF _ _ _ _ hk)⟩
  have HY := Lib.hid hY
  have HU := Lib.hid (fun (w : World) (o : Option Nat) (h : MapV w o L) => h.up)
  clear hY hS hF hJ0 h0
  rw [← hlen] at hl
  rw [← hlen]
  have HN := Lib.hid hlen
  clear hlen
  refine callsIn_of_wp Try.func31 rfl trivial ?_ rfl
  simp only [Try.ntmps31, List.size_toArray, List.length_cons, List.length_nil, Nat.reduceAdd, Nat.reduceSub, Array.replicate_succ, Array.replicate_zero, List.push_toArray, List.append_toArray, List.nil_append, List.cons_append]
  gi_wp2_with (first
    | (refine ⟨trivial, ?_⟩; gi_at_call 35; refine (HC.out _).mono ?_; rintro e w1 ⟨o', rfl, hm1, hb1, ho1⟩)
    | (refine ⟨trivial, ?_⟩; gi_at_call 36; refine (HP.out _ _ _ hm1).mono ?_; rintro e X ⟨g, cap, rfl, hr2, hb2⟩
       obtain ⟨hj0, hkk⟩ := HM.out o' w1 X g cap hm1 ho1 hb1 hb2 hr2
       have HU1 := Lib.hid (HU.out _ _ hm1)
       have HK := Lib.hid hkk
       have HJ := Lib.hid hj0
       clear hm1 ho1 hb1 hb2 hr2 hj0 hkk HC HP HM))
  gi_loopw [14] (fun i wr => ∃ k : Nat, k ≤ len ∧ i = .int .i64 k ∧ J W.heap.size X k wr) (fun i _ => len - (intOf i).toNat)
  case atStart => exact ⟨0, Nat.zero_le _, rfl, HJ.out⟩
  case round =>
    obtain ⟨k, hk, rfl, hJk⟩ := hrel
    have HJk := Lib.hid hJk
    clear hJk
    by_cases hlt : k < len
    · have hlt' : (k : Int) < (len : Int) := by omega
      have hk0 : (0 : Int) ≤ (k : Int) := by omega
      have hkl : k < L.length := by rw [← HN.out]; exact hlt
      obtain ⟨hmk, hck⟩ := HK.out k wr HJk.out
      have hc := hck k hkl
      have hlk := hmk.look1 Try.underlying51 (zeroE13 wr) (M.find_of_mem HU1.out (List.getElem_mem hkl))
      obtain ⟨fn, tmps, assign, body, hy, hR⟩ := HY.out W.heap.size X k hkl wr HJk.out
      obtain ⟨at_, hat⟩ : ∃ x, x = (L[k]'hkl).1 := ⟨_, rfl⟩
      obtain ⟨y, hy'⟩ : ∃ x, x = (L[k]'hkl).2 := ⟨_, rfl⟩
      rw [← hat] at hc hlk hy
      rw [← hy'] at hlk hy
      clear hat hy' hmk hck HY HK hkl
      gi_wp2_with fail
      refine hR.mono ?_
      rintro e W3 ⟨rfl, hJ3⟩
      clear hc hlk hy
      gi_wp2_with fail
      go_roundw
      case rel => exact ⟨k + 1, by omega, by go_num, hJ3⟩
      case measure => simp [intOf]; omega
    · have e : k = len := by omega
      subst e
      gi_wp2_with fail
      go_end0
      exact ⟨⟨_, rfl⟩, _, _, HJk.out⟩

set_option maxHeartbeats 1000000 in
theorem fresh1_in (n l : Nat) {b sb : Nat} {o : Option Nat} {L : List (Int × Value)} (J0 : World → Prop) (J : Nat → World → Nat → World → Prop) (hJ0 : ∀ W, J0 W → MapV W o L ∧ W.cell? ⟨sb, 0, none⟩ = some (.pointer (some ⟨b, 0, none⟩)) ∧ W.cell? ⟨b, 0, none⟩ = some (.map o)) (hS : ∀ W X, J0 W → Below W.heap.size W X → J W.heap.size X 0 X)
    (hF : ∀ s X k W, J s X k W → ∀ j, s ≤ j → j < X.heap.size → W.heap[j]? = X.heap[j]?)
    (hY : ∀ s X k (hk : k < L.length) W, J s X k W → YieldAt Fence.wide n Try.prog l #[.int .i64 (L[k]'hk).1, (L[k]'hk).2] W fun e W' => e = .returned (.bool true) ∧ J s X (k + 1) W')
    (W : World) (h0 : J0 W) (hl : L.length ≤ 100000) :
    CallsIn Fence.wide (n + 2) Try.prog 30 #[.func (.yield l) #[] #[], .pointer (some ⟨sb, 0, none⟩)] W fun e W' => (∃ v, e = .returned v) ∧ ∃ s X, J s X L.length W' := by
  obtain ⟨-, c0, c1⟩ := hJ0 W h0
  have HT := Lib.hid (tell13_in n l J0 J (fun W h => (hJ0 W h).1) hS hF hY W h0 hl)
  clear hJ0 hS hF hY h0
  refine callsIn_of_wp Try.func30 rfl trivial ?_ rfl
  simp only [Try.ntmps30, List.size_toArray, List.length_cons, List.length_nil, Nat.reduceAdd, Nat.reduceSub, Array.replicate_succ, Array.replicate_zero, List.push_toArray, List.append_toArray, List.nil_append, List.cons_append]
  gi_wp2_with (refine ⟨trivial, ?_⟩; gi_at_call 31; refine HT.out.mono ?_; rintro e W3 ⟨⟨v, rfl⟩, hJ3⟩)
  go_end0
  exact ⟨⟨_, rfl⟩, hJ3⟩
end Go.Proofs.Ytfklbinccpdnmaa
