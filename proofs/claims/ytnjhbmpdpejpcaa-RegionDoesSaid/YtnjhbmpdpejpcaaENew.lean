/-
  Walk over solderref08.New.
-/
import Derived.Test.YtnjhbmpdpejpcaaERestart
import Derived.Deep.RegionLaw
import Derived.Deep.AppendLies
namespace Go.Proofs.Ytnjhbmpdpejpcaa
open Go.RowKit

/-- A new disk of the document's. -/
def M.newR (c : Nat) : M.R := ⟨List.replicate c M.zero, List.replicate c M.zero, [], 0, [], 0, false⟩

/-- While it is made: so many sectors are sure. -/
structure Making (w y : World) (b : Nat) (zz : ByteArray) (k : Nat) (SV : Value) : Prop where
  box : Box y b 51 #[SV, .slice none 0 0, .slice none 0 0, .int .i64 0, .slice none 0 0, .int .i64 0, .bool false]
  row : y.ownsRow 0 9 1 SV k (List.replicate k (.string zz))
  ne : ∀ g, SV.ownBlock = some g → w.heap.size ≤ g ∧ g ≠ b
  low : w.heap.size ≤ b
  below : Below w.heap.size w y
theorem Making.more {w y y3 : World} {b g c k : Nat} {zz : ByteArray} {SV : Value} (h : Making w y b zz k SV) {o1 o2 : Obj} (ho : y3.ownsRow 0 9 1 (.slice (some ⟨g, 0, none⟩) (k + 1) c) (k + 1) (List.replicate k (.string zz) ++ [.string zz])) (hgr : ((y.alloc o1).alloc o2).grownBy y3 SV.ownBlock) (hat : SV.ownBlock = some g ∨ g = y.heap.size + 2) :
    y3.cell? ⟨b, 0, none⟩ = some SV ∧ y3.frozen? ⟨b, 0, none⟩ = false ∧ Hid (Making w (y3.setCell ⟨b, 0, none⟩ (.slice (some ⟨g, 0, none⟩) (k + 1) c)) b zz (k + 1) (.slice (some ⟨g, 0, none⟩) (k + 1) c)) := by
  have hbl := h.box.lt
  have hsz := h.below.size
  have hk3 : Kept (fun j => SV.ownBlock = some j) y y3 := Kept.grown (Kept.alloc (Kept.alloc (Kept.refl _ y) o1) o2) hgr (fun j e _ => e)
  have hB := hk3.box h.box (fun e => (h.ne b e).2 rfl)
  have hk4 : Kept (fun j => j = b) y3 (y3.setCell ⟨b, 0, none⟩ (.slice (some ⟨g, 0, none⟩) (k + 1) c)) := Kept.set' (P := fun j => j = b) rfl 0 _
  have hgb : w.heap.size ≤ g ∧ g ≠ b := hat.elim (fun e => h.ne g e) (fun e => ⟨by omega, by omega⟩)
  refine ⟨by simpa using hB.cell 0, hB.frozen 0, by simpa using hB.set 0 (.slice (some ⟨g, 0, none⟩) (k + 1) c), ?_, fun j e => own_slice e ▸ hgb, h.low, ?_⟩
  · rw [List.replicate_succ']
    exact hk4.owns ho (fun j e => by rw [← own_slice e]; exact hgb.2)
  · have h1 : Below w.heap.size y y3 := hk3.below hsz (fun j hj e => by have := (h.ne j e).1; omega)
    exact (h.below.trans h1).trans (hk4.below (Nat.le_trans hsz hk3.size) (fun j hj e => by have := h.low; omega))
theorem Making.done {w y w2 : World} {b g c k : Nat} {SV : Value} (h : Making w y b M.zero k SV) (hk : k ≤ 1000) (ho : w2.ownsRow 0 9 1 (.slice (some ⟨g, 0, none⟩) k c) k (List.replicate k (.string M.zero))) (hk2 : Kept (fun _ => False) y w2) (hg : y.heap.size ≤ g) :
    w2.cell? ⟨b, 1, none⟩ = some (.slice none 0 0) ∧ w2.frozen? ⟨b, 1, none⟩ = false ∧ Hid (Ref (w2.setCell ⟨b, 1, none⟩ (.slice (some ⟨g, 0, none⟩) k c)) b (fun j => w.heap.size ≤ j) (M.newR k) ∧ Below w.heap.size w (w2.setCell ⟨b, 1, none⟩ (.slice (some ⟨g, 0, none⟩) k c))) := by
  have hbl := h.box.lt
  have hsz := h.below.size
  have hB := hk2.box h.box (fun e => e)
  have hk4 : Kept (fun j => j = b) w2 (w2.setCell ⟨b, 1, none⟩ (.slice (some ⟨g, 0, none⟩) k c)) := Kept.set' (P := fun j => j = b) rfl 1 _
  have hgb : g ≠ b := by omega
  have hr : (List.replicate k M.zero).map Value.string = List.replicate k (.string M.zero) := by simp
  refine ⟨by simpa using hB.cell 1, hB.frozen 1, ⟨SV, .slice (some ⟨g, 0, none⟩) k c, .slice none 0 0, .slice none 0 0, ⟨?_, ?_, ?_, World.ownsRow_nil _ _ _ _, World.ownsRow_nil _ _ _ _, rfl, by simpa [M.newR] using hk, fun p hp => (by cases hp), Nat.le_refl _, Nat.zero_le _, fun j e => (h.ne j e).2, fun j e => own_slice e ▸ hgb, fun j e => (by cases e), fun j e => (by cases e)⟩, h.low, fun j e => (h.ne j e).1, fun j e => (by rw [← own_slice e]; omega), fun j e => (by cases e), fun j e => (by cases e)⟩, ?_⟩
  · simpa [M.newR] using hB.set 1 (.slice (some ⟨g, 0, none⟩) k c)
  · show World.ownsRow _ _ _ _ _ (List.replicate k M.zero).length ((List.replicate k M.zero).map Value.string)
    rw [hr, List.length_replicate]
    exact hk4.owns (hk2.owns h.row (fun _ _ e => e)) (fun j e => (h.ne j e).2)
  · show World.ownsRow _ _ _ _ _ (List.replicate k M.zero).length ((List.replicate k M.zero).map Value.string)
    rw [hr, List.length_replicate]
    exact hk4.owns ho (fun j e => by rw [← own_slice e]; exact hgb)
  · exact (h.below.trans (hk2.below hsz (fun _ _ e => e))).trans (hk4.below (Nat.le_trans hsz hk2.size) (fun j hj e => by have := h.low; omega))

set_option maxRecDepth 100000 in
set_option maxHeartbeats 2000000 in
theorem rnew_any (n : Int) (w : World) : Calls Try.prog 9 #[.int .i64 n] w fun e w' => ∃ b, e = .returned (.pointer (some ⟨b, 0, none⟩)) ∧ Ref w' b (fun j => w.heap.size ≤ j) (M.newR (M.held n)) ∧ Below w.heap.size w w' := by
  obtain ⟨i0, hi, hz0, hz1, hz2⟩ := info_parts infoS
  have hmx : min (max n 0) 1000 = ((M.held n : Nat) : Int) := by
    unfold M.held
    split
    · omega
    · split <;> omega
  have hcl := M.held_le n
  obtain ⟨c, hc⟩ : ∃ c, c = M.held n := ⟨_, rfl⟩
  rw [← hc] at hmx hcl
  rw [← hc]
  clear hc
  obtain ⟨R, hR⟩ : ∃ R, R = M.nils 64 := ⟨_, rfl⟩
  obtain ⟨zz, hzz⟩ : ∃ zz, zz = M.zero := ⟨_, rfl⟩
  have hmk : ∀ W : World, (Instr.makeSlice 60 (.int .i64 64) (.int .i64 64)).run Try.prog W = .ok (.slice (some ⟨W.heap.size, 0, none⟩) 64 64) (W.alloc (.cells R 5)) := fun W => by rw [hR]; exact make_nils 64 (by omega) W
  have hcvA : ∀ W : World, Sem.run Try.prog (convert 60 9 (.slice (some ⟨W.heap.size, 0, none⟩) 64 64)) (W.alloc (.cells R 5)) = .ok (.string zz) (W.alloc (.cells R 5)) := fun W => by rw [hR, hzz]; exact conv_nils 64 _ _ (Box.new _ _ _)
  have hcvB : ∀ W : World, Sem.run Try.prog (convert 60 9 (.slice (some ⟨W.heap.size, 0, none⟩) 64 64)) (W.alloc (.cells R 5)).drew = .ok (.string zz) (W.alloc (.cells R 5)).drew := fun W => by rw [hR, hzz]; exact conv_nils 64 _ _ (Box.new _ _ _)
  have HZZ := Lib.hid hzz
  clear hR hzz
  have HM0 : Hid (Making w (w.alloc (.cells #[.slice none 0 0, .slice none 0 0, .slice none 0 0, .int .i64 0, .slice none 0 0, .int .i64 0, .bool false] 51)) w.heap.size zz 0 (.slice none 0 0)) :=
    ⟨Box.new _ _ _, World.ownsRow_nil _ _ _ _, fun g e => (by cases e), Nat.le_refl _, (Below.refl _ _).alloc (Nat.le_refl _) _⟩
  go_enter Try.func9, Try.ntmps9
  go_wp2_with fail
  obtain ⟨y0, hy0⟩ : ∃ y, y = w.alloc (.cells #[.slice none 0 0, .slice none 0 0, .slice none 0 0, .int .i64 0, .slice none 0 0, .int .i64 0, .bool false] 51) := ⟨_, rfl⟩
  obtain ⟨b, hb⟩ : ∃ b, b = w.heap.size := ⟨_, rfl⟩
  rw [← hy0, ← hb] at HM0
  rw [← hy0, ← hb]
  clear hy0 hb
  go_loopw [4] (fun i wr => ∃ k : Nat, k ≤ c ∧ i = .int .i64 k ∧ ∃ SV, Making w wr b zz k SV) (fun i _ => c - (intOf i).toNat)
  case atStart => exact ⟨0, Nat.zero_le _, rfl, _, HM0.out⟩
  case round =>
    clear HM0
    obtain ⟨k, hk, rfl, SV, hM⟩ := hrel
    obtain ⟨SA, sc, rfl, _⟩ := owns_shape hM.row
    have c0 := hM.box.cell 0
    simp only [List.getElem?_toArray, List.getElem?_cons_zero] at c0
    by_cases hlt : k < c
    · have hlt' : (k : Int) < (c : Int) := by omega
      have HN : Hid (k + 1 ≤ maxLen ∧ (k + 1) * 16 ≤ 140737488355328) := by refine ⟨?_, ?_⟩ <;> (try unfold maxLen) <;> omega
      have hbl := hM.box.lt
      have d1 : (wr.alloc (.cells R 5)).cell? ⟨b, 0, none⟩ = some (.slice SA k sc) := (World.cell?_of_block (Below.heap_alloc _ _ _ hbl)).trans c0
      have d2 : ((wr.alloc (.cells R 5)).alloc (.cells #[.string zz] 9)).cell? ⟨b, 0, none⟩ = some (.slice SA k sc) := (World.cell?_of_block (Below.heap_alloc _ _ _ (by rw [World.size_alloc]; show b < _; omega))).trans d1
      obtain ⟨xs, hxs⟩ : ∃ xs, xs = List.replicate k (Value.string zz) := ⟨_, rfl⟩
      have HO : Hid (((wr.alloc (.cells R 5)).alloc (.cells #[.string zz] 9)).drew.ownsRow 0 9 1 (.slice SA k sc) k xs) := by rw [hxs]; exact ((hM.row.alloc _).alloc _)
      have HC : Hid (∀ j u, [Value.string zz][j]? = some u → ((wr.alloc (.cells R 5)).alloc (.cells #[.string zz] 9)).drew.cell? ((⟨wr.heap.size + 1, 0, none⟩ : Addr).add j) = some u) := by
        have := cell_one_new (wr.alloc (.cells R 5)) (.string zz) 9
        rw [World.size_alloc] at this
        exact this
      have HL : Hid (∀ (y3 : World) (g c : Nat), y3.ownsRow 0 9 1 (.slice (some ⟨g, 0, none⟩) (k + 1) c) (k + 1) (xs ++ [.string zz]) → ((wr.alloc (.cells R 5)).alloc (.cells #[.string zz] 9)).drew.grownBy y3 (Value.slice SA k sc).ownBlock → ((Value.slice SA k sc).ownBlock = some g ∨ g = wr.heap.size + 2) →
          y3.cell? ⟨b, 0, none⟩ = some (.slice SA k sc) ∧ y3.frozen? ⟨b, 0, none⟩ = false ∧ Hid (Making w (y3.setCell ⟨b, 0, none⟩ (.slice (some ⟨g, 0, none⟩) (k + 1) c)) b zz (k + 1) (.slice (some ⟨g, 0, none⟩) (k + 1) c))) := by
        intro y3 g c p1 p2 p3
        rw [hxs] at p1
        have p2' : ((wr.alloc (.cells R 5)).alloc (.cells #[.string zz] 9)).grownBy y3 (Value.slice SA k sc).ownBlock := ⟨p2.os, p2.tape, p2.output, p2.size, p2.block⟩
        exact hM.more p1 p2' p3
      clear hM hxs HZZ
      go_wp2_with fail
      go_region_law (refine step_append_lies _ rfl _ _ 48 rfl 0 9 i0 (.string ⟨#[]⟩) 1 16 Try.underlying48 hi hz0 hz1 hz2 rfl (by decide) (.slice SA k sc) k xs rfl (by exact HO.out) ⟨wr.heap.size + 1, 0, none⟩ 1 1 [.string zz] rfl rfl (by exact HC.out) (fun x hx => by simp at hx; subst hx; rfl) (by omega) HN.out.1 HN.out.2 (Nat.zero_le _) (wr.heap.size + 2) (by simp [World.drew]) ?_; intro g3 k3 w3 hown3 hgrow3 hat3 _; obtain ⟨p1, p2, HX⟩ := HL.out w3 g3 k3 hown3 hgrow3 hat3; clear hown3 hgrow3 hat3)
      all_goals
        go_wp2_with fail
        go_roundw
        case rel => exact ⟨k + 1, by omega, by go_num, _, HX.out⟩
        case measure => simp [intOf]; omega
    · have hlt' : ¬ (k : Int) < (c : Int) := by omega
      have e : k = c := by omega
      subst e
      have c0a : (wr.alloc (.cells #[] 9)).cell? ⟨b, 0, none⟩ = some (.slice SA k sc) := (World.cell?_of_block (Below.heap_alloc _ _ _ hM.box.lt)).trans c0
      obtain ⟨xs, hxs⟩ : ∃ xs, xs = List.replicate k (Value.string zz) := ⟨_, rfl⟩
      have HO : Hid (wr.ownsRow 0 9 1 (.slice SA k sc) k xs) := by rw [hxs]; exact hM.row
      have HOne : Hid (∀ u ∈ xs, u.oneCell' = true) := by
        rw [hxs]
        intro u hu
        rw [List.eq_of_mem_replicate hu]
        rfl
      have HN : Hid (k ≤ maxLen ∧ k * 16 ≤ 140737488355328) := by refine ⟨?_, ?_⟩ <;> (try unfold maxLen) <;> omega
      have HL : Hid (∀ w2 g c, w2.ownsRow 0 9 1 (.slice (some ⟨g, 0, none⟩) k c) k xs → Kept (fun _ => False) wr w2 → wr.heap.size ≤ g → w2.cell? ⟨b, 1, none⟩ = some (.slice none 0 0) ∧ w2.frozen? ⟨b, 1, none⟩ = false ∧ Hid (Ref (w2.setCell ⟨b, 1, none⟩ (.slice (some ⟨g, 0, none⟩) k c)) b (fun j => w.heap.size ≤ j) (M.newR k) ∧ Below w.heap.size w (w2.setCell ⟨b, 1, none⟩ (.slice (some ⟨g, 0, none⟩) k c)))) := by
        intro w2 g c p1 p2 p3
        rw [hxs, HZZ.out] at p1
        rw [HZZ.out] at hM
        exact hM.done hcl p1 p2 p3
      clear hM hxs hlt hmk hcvA hcvB
      go_wp2_with (at_builtin
                   refine wpList_append_copy rfl _ _ 48 rfl 9 i0 (.string ⟨#[]⟩) 1 16 Try.underlying48 hi hz0 hz1 hz2 rfl (by decide) wr.heap.size rfl rfl (.slice SA k sc) k xs rfl HO.out HOne.out HN.out.1 HN.out.2 ?_
                   intro g2 k2 w2 ho2 hk2 hg2
                   obtain ⟨q1, q2, HX⟩ := HL.out w2 g2 k2 ho2 hk2 hg2
                   clear ho2 hk2 hg2 HL HO c0 c0a)
      go_ret
      exact ⟨b, rfl, HX.out⟩
end Go.Proofs.Ytnjhbmpdpejpcaa
