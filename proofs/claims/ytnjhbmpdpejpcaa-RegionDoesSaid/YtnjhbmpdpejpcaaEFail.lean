/-
  Walks over solderref08's Fail, and over disk.Fail and disk.DownAt.
-/
import Derived.Test.YtnjhbmpdpejpcaaEFlush
import Derived.Test.YtnjhbmpdpejpcaaDRead
namespace Go.Proofs.Ytnjhbmpdpejpcaa
open Go.RowKit

theorem infoI : (Try.prog.info? 3).map (fun i => (i.zero, i.size, i.bytes)) = some (some (.int .i64 0), 1, 8) := by kernel_rfl

/-- The document's disk behind Fail. -/
def M.rfailR (r : M.R) (x : Int) : M.R := if (r.ops : Int) < x ∧ x ∉ r.fails ∧ r.fails.length < 100 then { r with fails := r.fails ++ [x] } else r
theorem RefAt.failed {w w3 w4 : World} {b g c n : Nat} {SV EV WV FV : Value} {r : M.R} {x : Int} {o : Obj} (h : RefAt w b SV EV WV FV r) (hn : n = r.fails.length) (hl : r.fails.length < 100) {g3 : Nat} (hk3 : Kept (fun _ => False) w w3) (hg3 : w.heap.size ≤ g3) (hgr : (w3.alloc o).grownBy w4 (some g3)) (hat : some g3 = some g ∨ g = w3.heap.size + 1)
    (ho : w4.ownsRow 0 3 1 (.slice (some ⟨g, 0, none⟩) (n + 1) c) (n + 1) (r.fails.map (Value.int .i64) ++ [.int .i64 x])) :
    w4.cell? ⟨b, 4, none⟩ = some FV ∧ w4.frozen? ⟨b, 4, none⟩ = false ∧
      Hid (RefAt (w4.setCell ⟨b, 4, none⟩ (.slice (some ⟨g, 0, none⟩) (n + 1) c)) b SV EV WV (.slice (some ⟨g, 0, none⟩) (n + 1) c) { r with fails := r.fails ++ [x] } ∧ w.heap.size ≤ g ∧ Kept (fun j => j = b) w (w4.setCell ⟨b, 4, none⟩ (.slice (some ⟨g, 0, none⟩) (n + 1) c))) := by
  have hz3 := hk3.size
  have hbl := h.box.lt
  have hg : w.heap.size ≤ g := hat.elim (fun e => by injection e with e; omega) (fun e => by omega)
  have hk4 : Kept (fun _ => False) w w4 := (hk3.alloc _).grown hgr (fun j e hj => by injection e with e; omega)
  have hh := h.kept hk4 (fun e => e) (fun _ _ e => e) (fun _ _ e => e) (fun _ _ e => e) (fun _ _ e => e)
  have hll : (r.fails ++ [x]).length = n + 1 := by rw [hn]; simp
  have ho' : w4.ownsRow 0 3 1 (.slice (some ⟨g, 0, none⟩) (n + 1) c) (r.fails ++ [x]).length ((r.fails ++ [x]).map (Value.int .i64)) := by
    rw [hll, List.map_append]
    exact ho
  have hx := hh.fails1 ho' (by rw [hll]; omega) (fun j e => by have := own_slice e; omega)
  exact ⟨hh.c4, hh.box.frozen 4, hx, hg, (hk4.mono (fun _ _ e => e.elim)).trans (Kept.set' (P := fun j => j = b) rfl 4 _)⟩

set_option maxRecDepth 100000 in
set_option maxHeartbeats 1000000 in
theorem rfail_at (x : Int) (w : World) {b : Nat} {SV EV WV FV : Value} {r : M.R} (h : RefAt w b SV EV WV FV r) :
    Calls Try.prog 23 #[.pointer (some ⟨b, 0, none⟩), .int .i64 x] w fun e w' => e = .returned (.tuple #[]) ∧
      ∃ FV', RefAt w' b SV EV WV FV' (M.rfailR r x) ∧ (∀ g, FV'.ownBlock = some g → FV.ownBlock = some g ∨ w.heap.size ≤ g) ∧ Kept (fun k => k = b) w w' := by
  obtain ⟨i0, hi, hz0, hz1, hz2⟩ := info_parts infoI
  obtain ⟨FA, fc, rfl, _⟩ := owns_shape h.fails
  have c3 := h.c3
  have c4 := h.c4
  have hfew := h.few
  have HH := Lib.hid (rhas_any r.fails x _ w h.fails (by omega))
  have HA := Lib.hid h
  have c4a : (w.alloc (.cells #[] 3)).cell? ⟨b, 4, none⟩ = some (.slice FA r.fails.length fc) := (World.cell?_of_block (Below.heap_alloc _ _ _ h.box.lt)).trans h.c4
  unfold M.rfailR
  by_cases h1 : (r.ops : Int) < x
  · by_cases h2 : x ∈ r.fails
    · rw [if_neg (fun e => e.2.1 h2)]
      rw [decide_eq_true h2] at HH
      clear h h2
      go_enter Try.func23, Try.ntmps23
      go_wp2_with fail
      refine HH.out.mono ?_
      rintro e w1 ⟨rfl, rfl⟩
      go_wp2_with fail
      go_end0
      exact ⟨rfl, _, HA.out, fun g e => Or.inl e, Kept.refl _ _⟩
    · rw [decide_eq_false h2] at HH
      by_cases h3 : r.fails.length < 100
      · rw [if_pos ⟨h1, h2, h3⟩]
        obtain ⟨n, hn⟩ : ∃ n, n = r.fails.length := ⟨_, rfl⟩
        obtain ⟨xs, hxs⟩ : ∃ xs, xs = r.fails.map (Value.int .i64) := ⟨_, rfl⟩
        have HO1 : Hid (w.ownsRow 0 3 1 (.slice FA n fc) n xs) := by rw [hn, hxs]; exact h.fails
        have HOne : Hid (∀ u ∈ xs, u.oneCell' = true) := by rw [hxs]; exact ints_one _
        have HN : Hid (n ≤ maxLen ∧ n * 8 ≤ 140737488355328 ∧ n + 1 ≤ maxLen ∧ (n + 1) * 8 ≤ 140737488355328) := by refine ⟨?_, ?_, ?_, ?_⟩ <;> (try unfold maxLen) <;> omega
        have HL : Hid (∀ (w3 w4 : World) (g3 c3 g4 c4 : Nat), Kept (fun _ => False) w w3 → w.heap.size ≤ g3 → (w3.alloc (.cells #[.int .i64 x] 3)).grownBy w4 (some g3) → (some g3 = some g4 ∨ g4 = w3.heap.size + 1) → w4.ownsRow 0 3 1 (.slice (some ⟨g4, 0, none⟩) (n + 1) c4) (n + 1) (xs ++ [.int .i64 x]) →
            w4.cell? ⟨b, 4, none⟩ = some (.slice FA n fc) ∧ w4.frozen? ⟨b, 4, none⟩ = false ∧ Hid (RefAt (w4.setCell ⟨b, 4, none⟩ (.slice (some ⟨g4, 0, none⟩) (n + 1) c4)) b SV EV WV (.slice (some ⟨g4, 0, none⟩) (n + 1) c4) { r with fails := r.fails ++ [x] } ∧ w.heap.size ≤ g4 ∧ Kept (fun j => j = b) w (w4.setCell ⟨b, 4, none⟩ (.slice (some ⟨g4, 0, none⟩) (n + 1) c4)))) := by
          intro w3 w4 g3 c3 g4 c4 p1 p2 p3 p4 p5
          rw [hxs] at p5
          have := h.failed hn h3 p1 p2 p3 p4 p5
          rw [hn] at this ⊢
          exact this
        rw [← hn] at c4 c4a h3 HH
        have h3' : (n : Int) < 100 := by omega
        clear h h2 hn hxs hfew HA
        go_enter Try.func23, Try.ntmps23
        go_wp2_with fail
        refine HH.out.mono ?_
        rintro e w1 ⟨rfl, rfl⟩
        clear HH
        go_wp2_with (first
          | (at_builtin
             refine wpList_append_lies _ rfl _ _ 49 rfl 0 3 i0 (.int .i64 0) 1 8 Try.underlying49 hi hz0 hz1 hz2 rfl (by decide) _ _ _ rfl (HW3.out.alloc _) ⟨w3.heap.size, 0, none⟩ 1 1 [.int .i64 x] rfl rfl (cell_one_new _ _ _) (fun u hu => by simp at hu; subst hu; rfl) (by omega) HN.out.2.2.1 HN.out.2.2.2 (Nat.zero_le _) _ rfl ?_
             intro g4 k4 w4 ho4 hgr4 hat4 _
             obtain ⟨q1, q2, HX4⟩ := HL.out w3 w4 g3 k3 g4 k4 HK3.out HG3.out hgr4 (hat4.imp id (fun e => by rw [e, World.size_alloc])) ho4
             clear ho4 hgr4 hat4 HL HW3)
          | (at_builtin
             refine wpList_append_copy rfl _ _ 49 rfl 3 i0 (.int .i64 0) 1 8 Try.underlying49 hi hz0 hz1 hz2 rfl (by decide) w1.heap.size rfl rfl (.slice FA n fc) n xs rfl HO1.out HOne.out HN.out.1 HN.out.2.1 ?_
             intro g3 k3 w3 ho3 hk3 hg3
             have HW3 := Lib.hid ho3
             have HK3 := Lib.hid hk3
             have HG3 := Lib.hid hg3
             clear ho3 hk3 hg3))
        go_end0
        exact ⟨rfl, _, HX4.out.1, fun g e => Or.inr (by rw [← own_slice e]; exact HX4.out.2.1), HX4.out.2.2⟩
      · rw [if_neg (fun e => h3 e.2.2)]
        have h3' : ¬ (r.fails.length : Int) < 100 := by omega
        clear h h2 h3
        go_enter Try.func23, Try.ntmps23
        go_wp2_with fail
        refine HH.out.mono ?_
        rintro e w1 ⟨rfl, rfl⟩
        go_wp2_with fail
        go_end0
        exact ⟨rfl, _, HA.out, fun g e => Or.inl e, Kept.refl _ _⟩
  · rw [if_neg (fun e => h1 e.1)]
    have h1' : decide ((r.ops : Int) < x) = false := by simpa using h1
    clear h h1 HH
    go_enter Try.func23, Try.ntmps23
    go_wp2_with fail
    go_end0
    exact ⟨rfl, _, HA.out, fun g e => Or.inl e, Kept.refl _ _⟩
theorem rfail_any (x : Int) (w : World) {b : Nat} {P : Nat → Prop} {r : M.R} (h : Ref w b P r) :
    Calls Try.prog 23 #[.pointer (some ⟨b, 0, none⟩), .int .i64 x] w fun e w' => e = .returned (.tuple #[]) ∧ Ref w' b (M.plus P w.heap.size) (M.rfailR r x) ∧ Kept P w w' := by
  obtain ⟨SV, EV, WV, FV, h, p0, p1, p2, p3, p4⟩ := h
  refine (rfail_at x w h).mono ?_
  rintro e w' ⟨rfl, FV', hA, hf, hk⟩
  exact ⟨rfl, ⟨SV, EV, WV, FV', hA, Or.inl p0, fun k e => Or.inl (p1 k e), fun k e => Or.inl (p2 k e), fun k e => Or.inl (p3 k e), fun k e => (hf k e).imp (p4 k) id⟩, hk.mono (fun k _ e => e ▸ p0)⟩
end Go.Proofs.Ytnjhbmpdpejpcaa
