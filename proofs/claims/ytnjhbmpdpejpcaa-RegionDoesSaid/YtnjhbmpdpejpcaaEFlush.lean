/-
  Walks over solderref08's Flush, Fail and Restart(nil).
-/
import Derived.Test.YtnjhbmpdpejpcaaEWrite
namespace Go.Proofs.Ytnjhbmpdpejpcaa
open Go.RowKit

theorem strs_one (L : List ByteArray) : ∀ u ∈ L.map Value.string, u.oneCell' = true := fun u hu => by
  obtain ⟨q, _, rfl⟩ := List.mem_map.1 hu
  rfl
theorem ints_one (L : List Int) : ∀ u ∈ L.map (Value.int .i64), u.oneCell' = true := fun u hu => by
  obtain ⟨q, _, rfl⟩ := List.mem_map.1 hu
  rfl
theorem own_slice {g n c k : Nat} (e : (Value.slice (some ⟨g, 0, none⟩) n c).ownBlock = some k) : g = k := by simpa [Value.ownBlock] using e

/-- The disk behind a flush. -/
def M.rflushR (r : M.R) : M.R := if M.callE r = 0 then { M.callR r with sure := r.seen, wait := [] } else M.callR r

/-- What is seen is copied to what is sure. -/
theorem RefAt.flushed {w w1 : World} {b g c n : Nat} {SV EV WV FV : Value} {r : M.R} (h : RefAt w b SV EV WV FV r) (hn : n = r.seen.length) (ho : w1.ownsRow 0 9 1 (.slice (some ⟨g, 0, none⟩) n c) n (r.seen.map Value.string)) (hk1 : Kept (fun _ => False) w w1) (hg : w.heap.size ≤ g) :
    w1.cell? ⟨b, 0, none⟩ = some SV ∧ w1.frozen? ⟨b, 0, none⟩ = false ∧ (w1.setCell ⟨b, 0, none⟩ (.slice (some ⟨g, 0, none⟩) n c)).cell? ⟨b, 2, none⟩ = some WV ∧ (w1.setCell ⟨b, 0, none⟩ (.slice (some ⟨g, 0, none⟩) n c)).frozen? ⟨b, 2, none⟩ = false ∧
      Hid (RefAt ((w1.setCell ⟨b, 0, none⟩ (.slice (some ⟨g, 0, none⟩) n c)).setCell ⟨b, 2, none⟩ (.slice none 0 0)) b (.slice (some ⟨g, 0, none⟩) n c) EV (.slice none 0 0) FV { r with sure := r.seen, wait := [] } ∧
        Kept (fun j => j = b) w ((w1.setCell ⟨b, 0, none⟩ (.slice (some ⟨g, 0, none⟩) n c)).setCell ⟨b, 2, none⟩ (.slice none 0 0))) := by
  subst hn
  have hbl := h.box.lt
  have hh := h.kept hk1 (fun e => e) (fun _ _ e => e) (fun _ _ e => e) (fun _ _ e => e) (fun _ _ e => e)
  have h1 := hh.sure1 ho h.len (by omega)
  have h2 := h1.wait1 (WV' := .slice none 0 0) (L := []) (World.ownsRow_nil _ _ _ _) (fun p hp => by cases hp) (Nat.zero_le _) (fun k e => by cases e)
  exact ⟨hh.c0, hh.box.frozen 0, h1.c2, h1.box.frozen 2, h2, ((hk1.mono (fun _ _ e => e.elim)).trans (Kept.set' (P := fun j => j = b) rfl 0 _)).trans (Kept.set' (P := fun j => j = b) rfl 2 _)⟩

set_option maxHeartbeats 1000000 in
theorem rflush_at (w : World) {b : Nat} {SV EV WV FV : Value} {r : M.R} (h : RefAt w b SV EV WV FV r) (ho : r.ops ≤ 1099511627776) :
    Calls Try.prog 20 #[.pointer (some ⟨b, 0, none⟩)] w fun e w' => e = .returned (.int .i64 (M.callE r)) ∧
      ∃ SV' WV', RefAt w' b SV' EV WV' FV (M.rflushR r) ∧ (∀ g, SV'.ownBlock = some g → SV.ownBlock = some g ∨ w.heap.size ≤ g) ∧ (∀ g, WV'.ownBlock = some g → WV.ownBlock = some g) ∧ Kept (fun k => k = b) w w' := by
  obtain ⟨i0, hi, hz0, hz1, hz2⟩ := info_parts infoS
  have HC := Lib.hid (rcall_at w h ho)
  unfold M.rflushR
  by_cases hE : M.callE r = 0
  · rw [if_pos hE]
    rw [hE] at HC ⊢
    obtain ⟨EA, ec, rfl, _⟩ := owns_shape h.seen
    obtain ⟨SA, sc, rfl, _⟩ := owns_shape h.sure
    obtain ⟨WA, wc, rfl, _⟩ := owns_shape h.wait
    obtain ⟨n, hn⟩ : ∃ n, n = r.seen.length := ⟨_, rfl⟩
    obtain ⟨xs, hxs⟩ : ∃ xs, xs = r.seen.map Value.string := ⟨_, rfl⟩
    have HN : Hid (n ≤ maxLen ∧ n * 16 ≤ 140737488355328) := by
      have := h.many
      have := h.len
      refine ⟨?_, ?_⟩ <;> (try unfold maxLen) <;> omega
    have HOne : Hid (∀ u ∈ xs, u.oneCell' = true) := by rw [hxs]; exact strs_one _
    have HB : Hid (∀ y, RefAt y b (.slice SA r.sure.length sc) (.slice EA r.seen.length ec) (.slice WA r.wait.length wc) FV (M.callR r) → y.ownsRow 0 9 1 (.slice EA n ec) n xs ∧ (y.alloc (.cells #[] 9)).cell? ⟨b, 1, none⟩ = some (.slice EA n ec)) := fun y hy => by
      rw [hn, hxs]
      exact ⟨hy.seen, (World.cell?_of_block (Below.heap_alloc _ _ _ hy.box.lt)).trans hy.c1⟩
    have HF : Hid (∀ y w1 g c, RefAt y b (.slice SA r.sure.length sc) (.slice EA r.seen.length ec) (.slice WA r.wait.length wc) FV (M.callR r) → w1.ownsRow 0 9 1 (.slice (some ⟨g, 0, none⟩) n c) n xs → Kept (fun _ => False) y w1 → y.heap.size ≤ g → w1.cell? ⟨b, 0, none⟩ = some (.slice SA r.sure.length sc) ∧ w1.frozen? ⟨b, 0, none⟩ = false ∧ (w1.setCell ⟨b, 0, none⟩ (.slice (some ⟨g, 0, none⟩) n c)).cell? ⟨b, 2, none⟩ = some (.slice WA r.wait.length wc) ∧ (w1.setCell ⟨b, 0, none⟩ (.slice (some ⟨g, 0, none⟩) n c)).frozen? ⟨b, 2, none⟩ = false ∧
        Hid (RefAt ((w1.setCell ⟨b, 0, none⟩ (.slice (some ⟨g, 0, none⟩) n c)).setCell ⟨b, 2, none⟩ (.slice none 0 0)) b (.slice (some ⟨g, 0, none⟩) n c) (.slice EA r.seen.length ec) (.slice none 0 0) FV { M.callR r with sure := r.seen, wait := [] } ∧
          Kept (fun j => j = b) y ((w1.setCell ⟨b, 0, none⟩ (.slice (some ⟨g, 0, none⟩) n c)).setCell ⟨b, 2, none⟩ (.slice none 0 0)))) := fun y w1 g c hy h1 h2 h3 => by
      rw [hxs] at h1
      exact hy.flushed (r := M.callR r) hn h1 h2 h3
    clear h ho hE hn hxs
    go_enter Try.func20, Try.ntmps20
    go_wp2_with fail
    refine HC.out.mono ?_
    rintro e w1 ⟨rfl, hA, hk⟩
    have c1 := (HB.out w1 hA).2
    have HO1 := Lib.hid (HB.out w1 hA).1
    have HA := Lib.hid hA
    have HK := Lib.hid hk
    clear hA hk HC HB
    go_wp2_with (at_builtin
                 refine wpList_append_copy rfl _ _ 48 rfl 9 i0 (.string ⟨#[]⟩) 1 16 Try.underlying48 hi hz0 hz1 hz2 rfl (by decide) w1.heap.size rfl rfl (.slice EA n ec) n xs rfl HO1.out HOne.out HN.out.1 HN.out.2 ?_
                 intro g2 c2 w2 ho2 hk2 hg2
                 obtain ⟨p1, p2, p3, p4, HX⟩ := HF.out w1 w2 g2 c2 HA.out ho2 hk2 hg2
                 have HG := Lib.hid hg2
                 clear ho2 hk2 hg2 HF HO1 c1)
    go_ret
    exact ⟨rfl, _, _, HX.out.1, fun g e => Or.inr (by rw [← own_slice e]; exact Nat.le_trans HK.out.size HG.out), fun g e => (by cases e), HK.out.trans HX.out.2⟩
  · rw [if_neg hE]
    obtain ⟨E, hEE⟩ : ∃ E, E = M.callE r := ⟨_, rfl⟩
    rw [← hEE] at HC hE ⊢
    have hE' : (E == 0) = false := by rw [beq_eq_false_iff_ne]; exact hE
    clear hEE h ho
    go_enter Try.func20, Try.ntmps20
    go_wp2_with fail
    refine HC.out.mono ?_
    rintro e w1 ⟨rfl, hA, hk⟩
    have HA := Lib.hid hA
    have HK := Lib.hid hk
    clear hA hk
    go_wp2_with fail
    go_ret
    exact ⟨rfl, SV, WV, HA.out, fun g e => Or.inl e, fun g e => e, HK.out⟩
theorem rflush_any (w : World) {b : Nat} {P : Nat → Prop} {r : M.R} (h : Ref w b P r) (ho : r.ops ≤ 1099511627776) :
    Calls Try.prog 20 #[.pointer (some ⟨b, 0, none⟩)] w fun e w' => e = .returned (.int .i64 (M.callE r)) ∧ Ref w' b (M.plus P w.heap.size) (M.rflushR r) ∧ Kept P w w' := by
  obtain ⟨SV, EV, WV, FV, h, p0, p1, p2, p3, p4⟩ := h
  refine (rflush_at w h ho).mono ?_
  rintro e w' ⟨rfl, SV', WV', hA, hs, hw, hk⟩
  exact ⟨rfl, ⟨SV', EV, WV', FV, hA, Or.inl p0, fun k e => (hs k e).imp (p1 k) id, fun k e => Or.inl (p2 k e), fun k e => Or.inl (p3 k (hw k e)), fun k e => Or.inl (p4 k e)⟩, hk.mono (fun k _ e => e ▸ p0)⟩
end Go.Proofs.Ytnjhbmpdpejpcaa
