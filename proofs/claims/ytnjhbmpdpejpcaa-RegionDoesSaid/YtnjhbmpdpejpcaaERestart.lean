/-
  Walks over solderref08's Restart(nil) and New.
-/
import Derived.Test.YtnjhbmpdpejpcaaEFlush
import Derived.Test.YtnjhbmpdpejpcaaDNils
namespace Go.Proofs.Ytnjhbmpdpejpcaa
open Go.RowKit

/-- The disk behind a restart of which nothing survives. -/
def M.restartR (r : M.R) : M.R := ⟨r.sure, r.sure, [], r.ops, [], 0, false⟩

theorem RefAt.again {w w2 : World} {b g c n : Nat} {SV EV WV FV : Value} {r : M.R} (h : RefAt w b SV EV WV FV r) (hn : n = r.seen.length) (he : r.seen = r.sure) (ho : w2.ownsRow 0 9 1 (.slice (some ⟨g, 0, none⟩) n c) n (r.seen.map Value.string)) (hk2 : Kept (fun _ => False) w w2) (hg : w.heap.size ≤ g) :
    w2.cell? ⟨b, 0, none⟩ = some SV ∧ w2.frozen? ⟨b, 0, none⟩ = false ∧ ∃ y2 y3 y4 y5 : World, (w2.setCell ⟨b, 0, none⟩ (.slice (some ⟨g, 0, none⟩) n c)).cell? ⟨b, 2, none⟩ = some WV ∧ (w2.setCell ⟨b, 0, none⟩ (.slice (some ⟨g, 0, none⟩) n c)).frozen? ⟨b, 2, none⟩ = false ∧
      (w2.setCell ⟨b, 0, none⟩ (.slice (some ⟨g, 0, none⟩) n c)).setCell ⟨b, 2, none⟩ (.slice none 0 0) = y2 ∧ y2.cell? ⟨b, 4, none⟩ = some FV ∧ y2.frozen? ⟨b, 4, none⟩ = false ∧
      y2.setCell ⟨b, 4, none⟩ (.slice none 0 0) = y3 ∧ y3.cell? ⟨b, 5, none⟩ = some (.int .i64 r.at_) ∧ y3.frozen? ⟨b, 5, none⟩ = false ∧
      y3.setCell ⟨b, 5, none⟩ (.int .i64 0) = y4 ∧ y4.cell? ⟨b, 6, none⟩ = some (.bool r.off) ∧ y4.frozen? ⟨b, 6, none⟩ = false ∧
      y4.setCell ⟨b, 6, none⟩ (.bool false) = y5 ∧ Hid (RefAt y5 b (.slice (some ⟨g, 0, none⟩) n c) EV (.slice none 0 0) (.slice none 0 0) (M.restartR r) ∧ Kept (fun j => j = b) w y5) := by
  subst hn
  have hbl := h.box.lt
  have hh := h.kept hk2 (fun e => e) (fun _ _ e => e) (fun _ _ e => e) (fun _ _ e => e) (fun _ _ e => e)
  have h1 := hh.sure1 ho h.len (by omega)
  have h2 := h1.wait1 (WV' := .slice none 0 0) (L := []) (World.ownsRow_nil _ _ _ _) (fun p hp => by cases hp) (Nat.zero_le _) (fun k e => by cases e)
  have h3 := h2.fails1 (FV' := .slice none 0 0) (L := []) (World.ownsRow_nil _ _ _ _) (Nat.zero_le _) (fun k e => by cases e)
  have h4 := h3.poke (i := 5) (u := .int .i64 0) (r' := ⟨r.seen, r.seen, [], r.ops, [], 0, r.off⟩) rfl rfl rfl rfl (Nat.le_refl _) rfl
  have h5 := h4.poke (i := 6) (u := .bool false) (r' := ⟨r.seen, r.seen, [], r.ops, [], 0, false⟩) rfl rfl rfl rfl (Nat.le_refl _) rfl
  refine ⟨hh.c0, hh.box.frozen 0, _, _, _, _, h1.c2, h1.box.frozen 2, rfl, h2.c4, h2.box.frozen 4, rfl, h3.c5, h3.box.frozen 5, rfl, h4.c6, h4.box.frozen 6, rfl, ?_, ?_⟩
  · show RefAt _ _ _ _ _ _ ⟨r.sure, r.sure, [], r.ops, [], 0, false⟩
    rw [← he]
    exact h5
  · exact (((((hk2.mono (fun _ _ e => e.elim)).trans (Kept.set' (P := fun j => j = b) rfl 0 _)).trans (Kept.set' (P := fun j => j = b) rfl 2 _)).trans (Kept.set' (P := fun j => j = b) rfl 4 _)).trans (Kept.set' (P := fun j => j = b) rfl 5 _)).trans (Kept.set' (P := fun j => j = b) rfl 6 _)

set_option maxRecDepth 100000 in
set_option maxHeartbeats 1000000 in
theorem rrestart_at (w : World) {b : Nat} {SV EV WV FV : Value} {r : M.R} (h : RefAt w b SV EV WV FV r) (ho : r.ops ≤ 1099511627776) :
    Calls Try.prog 25 #[.pointer (some ⟨b, 0, none⟩), .slice none 0 0] w fun e w' => e = .returned (.tuple #[]) ∧
      ∃ SV' EV', RefAt w' b SV' EV' (.slice none 0 0) (.slice none 0 0) (M.restartR r) ∧ (∀ g, SV'.ownBlock = some g → w.heap.size ≤ g) ∧ (∀ g, EV'.ownBlock = some g → w.heap.size ≤ g) ∧ Kept (fun k => k = b) w w' := by
  obtain ⟨i0, hi, hz0, hz1, hz2⟩ := info_parts infoS
  obtain ⟨EA, ec, rfl, _⟩ := owns_shape h.seen
  obtain ⟨SA, sc, rfl, _⟩ := owns_shape h.sure
  obtain ⟨WA, wc, rfl, _⟩ := owns_shape h.wait
  obtain ⟨FA, fc, rfl, _⟩ := owns_shape h.fails
  have hmany := h.many
  have hsome := h.some_
  have c0 : (w.alloc (.cells #[] 9)).cell? ⟨b, 0, none⟩ = some (.slice SA r.sure.length sc) := (World.cell?_of_block (Below.heap_alloc _ _ _ h.box.lt)).trans h.c0
  have hbl := h.box.lt
  obtain ⟨n, hn⟩ : ∃ n, n = r.sure.length := ⟨_, rfl⟩
  obtain ⟨xs, hxs⟩ : ∃ xs, xs = r.sure.map Value.string := ⟨_, rfl⟩
  obtain ⟨m, hm⟩ : ∃ m, m = r.wait.length := ⟨_, rfl⟩
  have HN : Hid (n ≤ maxLen ∧ n * 16 ≤ 140737488355328) := by refine ⟨?_, ?_⟩ <;> (try unfold maxLen) <;> omega
  have hm40 : (m : Int) ≤ 1099511627776 := by omega
  have HOne : Hid (∀ u ∈ xs, u.oneCell' = true) := by rw [hxs]; exact strs_one _
  have HO1 : Hid (w.ownsRow 0 9 1 (.slice SA n sc) n xs) := by rw [hn, hxs]; exact h.sure
  have HL1 : Hid (∀ w1 g c, w1.ownsRow 0 9 1 (.slice (some ⟨g, 0, none⟩) n c) n xs → Kept (fun _ => False) w w1 → w.heap.size ≤ g →
      w1.cell? ⟨b, 1, none⟩ = some (.slice EA r.seen.length ec) ∧ w1.frozen? ⟨b, 1, none⟩ = false ∧ Hid (RefAt (w1.setCell ⟨b, 1, none⟩ (.slice (some ⟨g, 0, none⟩) n c)) b (.slice SA r.sure.length sc) (.slice (some ⟨g, 0, none⟩) n c) (.slice WA m wc) (.slice FA r.fails.length fc) { r with seen := r.sure } ∧ Kept (fun j => j = b) w (w1.setCell ⟨b, 1, none⟩ (.slice (some ⟨g, 0, none⟩) n c)))) := by
    intro w1 g c h1 h2 h3
    rw [hxs] at h1
    rw [hn] at h1 ⊢
    rw [hm]
    have hh := h.kept h2 (fun e => e) (fun _ _ e => e) (fun _ _ e => e) (fun _ _ e => e) (fun _ _ e => e)
    exact ⟨hh.c1, hh.box.frozen 1, hh.seen1 (L := r.sure) h1 rfl (by omega), (h2.mono (fun _ _ e => e.elim)).trans (Kept.set' (P := fun j => j = b) rfl 1 _)⟩
  have HL2 : Hid (∀ y w2 g c g2 c2, RefAt y b (.slice SA r.sure.length sc) (.slice (some ⟨g, 0, none⟩) n c) (.slice WA m wc) (.slice FA r.fails.length fc) { r with seen := r.sure } → w2.ownsRow 0 9 1 (.slice (some ⟨g2, 0, none⟩) n c2) n xs → Kept (fun _ => False) y w2 → y.heap.size ≤ g2 →
      w2.cell? ⟨b, 0, none⟩ = some (.slice SA r.sure.length sc) ∧ w2.frozen? ⟨b, 0, none⟩ = false ∧ ∃ y2 y3 y4 y5 : World, (w2.setCell ⟨b, 0, none⟩ (.slice (some ⟨g2, 0, none⟩) n c2)).cell? ⟨b, 2, none⟩ = some (.slice WA m wc) ∧ (w2.setCell ⟨b, 0, none⟩ (.slice (some ⟨g2, 0, none⟩) n c2)).frozen? ⟨b, 2, none⟩ = false ∧
        (w2.setCell ⟨b, 0, none⟩ (.slice (some ⟨g2, 0, none⟩) n c2)).setCell ⟨b, 2, none⟩ (.slice none 0 0) = y2 ∧ y2.cell? ⟨b, 4, none⟩ = some (.slice FA r.fails.length fc) ∧ y2.frozen? ⟨b, 4, none⟩ = false ∧
        y2.setCell ⟨b, 4, none⟩ (.slice none 0 0) = y3 ∧ y3.cell? ⟨b, 5, none⟩ = some (.int .i64 r.at_) ∧ y3.frozen? ⟨b, 5, none⟩ = false ∧
        y3.setCell ⟨b, 5, none⟩ (.int .i64 0) = y4 ∧ y4.cell? ⟨b, 6, none⟩ = some (.bool r.off) ∧ y4.frozen? ⟨b, 6, none⟩ = false ∧
        y4.setCell ⟨b, 6, none⟩ (.bool false) = y5 ∧ Hid (RefAt y5 b (.slice (some ⟨g2, 0, none⟩) n c2) (.slice (some ⟨g, 0, none⟩) n c) (.slice none 0 0) (.slice none 0 0) (M.restartR r) ∧ Kept (fun j => j = b) y y5)) := by
    intro y w2 g c g2 c2 hy h1 h2 h3
    rw [hxs] at h1
    exact hy.again (r := { r with seen := r.sure }) hn rfl h1 h2 h3
  have HY : Hid (∀ y g c, RefAt y b (.slice SA r.sure.length sc) (.slice (some ⟨g, 0, none⟩) n c) (.slice WA m wc) (.slice FA r.fails.length fc) { r with seen := r.sure } → y.cell? ⟨b, 2, none⟩ = some (.slice WA m wc) ∧ (y.alloc (.cells #[] 9)).cell? ⟨b, 1, none⟩ = some (.slice (some ⟨g, 0, none⟩) n c) ∧ Hid (y.ownsRow 0 9 1 (.slice (some ⟨g, 0, none⟩) n c) n xs)) := by
    intro y g c hy
    refine ⟨hy.c2, (World.cell?_of_block (Below.heap_alloc _ _ _ hy.box.lt)).trans hy.c1, ?_⟩
    have := hy.seen
    rw [hn, hxs]
    rw [hn] at this
    exact this
  rw [← hn] at c0
  clear h ho hmany hsome hn hxs hm
  go_enter Try.func25, Try.ntmps25
  go_wp2_with (at_builtin
               refine wpList_append_copy rfl _ _ 48 rfl 9 i0 (.string ⟨#[]⟩) 1 16 Try.underlying48 hi hz0 hz1 hz2 rfl (by decide) w.heap.size rfl rfl (.slice SA n sc) n xs rfl HO1.out HOne.out HN.out.1 HN.out.2 ?_
               intro g1 k1 w1 ho1 hk1 hg1
               obtain ⟨p1, p2, HX1⟩ := HL1.out w1 g1 k1 ho1 hk1 hg1
               have HG1 := Lib.hid hg1
               clear ho1 hk1 hg1 HL1 HO1 c0)
  obtain ⟨y, hy⟩ : ∃ y, y = w1.setCell ⟨b, 1, none⟩ (.slice (some ⟨g1, 0, none⟩) n k1) := ⟨_, rfl⟩
  rw [← hy] at HX1 ⊢
  clear hy p1 p2
  obtain ⟨e2, e1, HO2⟩ := HY.out y g1 k1 HX1.out.1
  clear HY
  go_loopw [4] (fun i wr => wr = y ∧ ∃ k : Nat, k ≤ m ∧ i = .int .i64 k) (fun i _ => m - (intOf i).toNat)
  case atStart => exact ⟨rfl, 0, Nat.zero_le _, rfl⟩
  case round =>
    obtain ⟨rfl, k, hk, rfl⟩ := hrel
    by_cases hlt : k < m
    · have hlt' : (k : Int) < (m : Int) := by omega
      have hk0 : decide ((k : Int) < 0) = false := by simp
      go_wp2_with fail
      go_roundw
      case rel => exact ⟨trivial, k + 1, by omega, by go_num⟩
      case measure => simp [intOf]; omega
    · have hlt' : ¬ (k : Int) < (m : Int) := by omega
      go_wp2_with (at_builtin
                   refine wpList_append_copy rfl _ _ 48 rfl 9 i0 (.string ⟨#[]⟩) 1 16 Try.underlying48 hi hz0 hz1 hz2 rfl (by decide) wr.heap.size rfl rfl (.slice (some ⟨g1, 0, none⟩) n k1) n xs rfl HO2.out HOne.out HN.out.1 HN.out.2 ?_
                   intro g2 k2 w2 ho2 hk2 hg2
                   obtain ⟨q1, q2, y2, y3, y4, y5, q3, q4, hy2, q5, q6, hy3, q7, q8, hy4, q9, q10, hy5, HX5⟩ := HL2.out wr w2 g1 k1 g2 k2 HX1.out.1 ho2 hk2 hg2
                   subst hy2
                   subst hy3
                   subst hy4
                   subst hy5
                   have HG2 := Lib.hid hg2
                   clear ho2 hk2 hg2 HL2 HO2 e1 e2)
      go_end0
      exact ⟨rfl, _, _, HX5.out.1, fun g e => (by rw [← own_slice e]; exact Nat.le_trans HX1.out.2.size HG2.out), fun g e => (by rw [← own_slice e]; exact HG1.out), HX1.out.2.trans HX5.out.2⟩
theorem rrestart_any (w : World) {b : Nat} {P : Nat → Prop} {r : M.R} (h : Ref w b P r) (ho : r.ops ≤ 1099511627776) :
    Calls Try.prog 25 #[.pointer (some ⟨b, 0, none⟩), .slice none 0 0] w fun e w' => e = .returned (.tuple #[]) ∧ Ref w' b (M.plus P w.heap.size) (M.restartR r) ∧ Kept P w w' := by
  obtain ⟨SV, EV, WV, FV, h, p0, p1, p2, p3, p4⟩ := h
  refine (rrestart_at w h ho).mono ?_
  rintro e w' ⟨rfl, SV', EV', hA, hs, he, hk⟩
  exact ⟨rfl, ⟨SV', EV', _, _, hA, Or.inl p0, fun k e => Or.inr (hs k e), fun k e => Or.inr (he k e), fun k e => (by cases e), fun k e => (by cases e)⟩, hk.mono (fun k _ e => e ▸ p0)⟩
end Go.Proofs.Ytnjhbmpdpejpcaa
