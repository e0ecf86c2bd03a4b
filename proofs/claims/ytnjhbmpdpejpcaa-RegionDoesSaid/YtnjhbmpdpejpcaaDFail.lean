/-
  Walk over disk.Fail.
-/
import Derived.Test.YtnjhbmpdpejpcaaDRead
namespace Go.Proofs.Ytnjhbmpdpejpcaa
open Go.RowKit Go.Maps

theorem infoN : (Try.prog.info? 3).map (fun i => (i.zero, i.size, i.bytes)) = some (some (.int .i64 0), 1, 8) := by kernel_rfl
/-- The disk behind Fail. -/
def M.failD (d : M.D) (x : Int) : M.D := if (d.ops : Int) < x ∧ d.fails.length < 100 ∧ x ∉ d.fails then { d with fails := d.fails ++ [x] } else d

theorem DiskAt.failed {w w3 : World} {b sb mb g c n : Nat} {WV FV : Value} {d : M.D} {x : Int} {o : Obj} (h : DiskAt w b sb mb WV FV d) (hn : n = d.fails.length) (hgr : (w.alloc o).grownBy w3 FV.ownBlock) (hat : FV.ownBlock = some g ∨ g = w.heap.size + 1)
    (ho : w3.ownsRow 0 3 1 (.slice (some ⟨g, 0, none⟩) (n + 1) c) (n + 1) (d.fails.map (Value.int .i64) ++ [.int .i64 x])) :
    w3.cell? ⟨b, 4, none⟩ = some FV ∧ w3.frozen? ⟨b, 4, none⟩ = false ∧
      Hid (DiskAt (w3.setCell ⟨b, 4, none⟩ (.slice (some ⟨g, 0, none⟩) (n + 1) c)) b sb mb WV (.slice (some ⟨g, 0, none⟩) (n + 1) c) { d with fails := d.fails ++ [x] } ∧ (FV.ownBlock = some g ∨ w.heap.size ≤ g) ∧ Kept (fun j => j = b ∨ FV.ownBlock = some j) w (w3.setCell ⟨b, 4, none⟩ (.slice (some ⟨g, 0, none⟩) (n + 1) c))) := by
  have hbl := h.box.lt
  have hsl := h.sure.lt
  have hml := h.mlt
  have hk3 : Kept (fun j => FV.ownBlock = some j) w w3 := Kept.grown (Kept.alloc (Kept.refl _ w) o) hgr (fun j e _ => e)
  have hgn : g ≠ b ∧ g ≠ sb ∧ g ≠ mb ∧ WV.ownBlock ≠ some g := hat.elim (fun e => h.fn g e) (fun e => ⟨by omega, by omega, by omega, fun e' => by have := (h.writes.lt g e').2; omega⟩)
  have hB3 := hk3.box h.box (fun e => (h.fn b e).1 rfl)
  have hk4 : Kept (fun j => j = b) w3 (w3.setCell ⟨b, 4, none⟩ (.slice (some ⟨g, 0, none⟩) (n + 1) c)) := Kept.set' (P := fun j => j = b) rfl 4 _
  have hk : Kept (fun j => j = b ∨ FV.ownBlock = some j) w (w3.setCell ⟨b, 4, none⟩ (.slice (some ⟨g, 0, none⟩) (n + 1) c)) := (hk3.mono (fun _ _ e => Or.inr e)).trans (hk4.mono (fun _ _ e => Or.inl e))
  have hll : (d.fails ++ [x]).length = n + 1 := by rw [hn]; simp
  have hgo : ∀ k, (Value.slice (some ⟨g, 0, none⟩) (n + 1) c).ownBlock = some k → g = k := fun k e => by simpa [Value.ownBlock] using e
  obtain ⟨m, hm1, hm2⟩ := h.map
  refine ⟨by simpa using hB3.cell 4, hB3.frozen 4, ⟨by simpa using hB3.set 4 (.slice (some ⟨g, 0, none⟩) (n + 1) c), hk.box h.sure (fun e => e.elim (fun e => h.bs e.symm) (fun e => (h.fn sb e).2.1 rfl)), ⟨m, hk.map hm1 (fun e => e.elim (fun e => h.bm e.symm) (fun e => (h.fn mb e).2.2.1 rfl)), hm2⟩, hk.owns h.writes (fun j e e' => e'.elim (fun e' => (h.wn j e).1 e') (fun e' => (h.fn j e').2.2.2 e)), ?_, ⟨h.inv.many, h.inv.sure, h.inv.lies, h.inv.wide, h.inv.some_⟩, h.bs, h.bm, h.sm, h.wn, fun k e => hgo k e ▸ hgn⟩, hat.imp id (fun e => by omega), hk⟩
  show World.ownsRow _ _ _ _ _ (d.fails ++ [x]).length ((d.fails ++ [x]).map (Value.int .i64))
  rw [hll, List.map_append]
  exact hk4.owns ho (fun k e => by rw [← hgo k e]; exact hgn.1)

theorem contains_any (zs : List Int) (x : Int) (v : Value) (w : World) (hv : w.ownsRow 0 3 1 v zs.length (zs.map (Value.int .i64))) :
    Calls Try.prog 43 #[v, .int .i64 x] w fun e w' => e = .returned (.bool (decide (x ∈ zs))) ∧ w' = w := by
  have hd : zs.contains x = decide (x ∈ zs) := by simp
  rw [← hd]
  rcases owned_ints hv with ⟨e, hz⟩ | ⟨g, cap, e, h1, h2, _, h3, _⟩
  · rw [e, hz]
    exact Try.slices_Contains_int_empty none 0 x w
  · rw [e]
    have := Try.slices_Contains_int g 0 zs.length cap zs x w (Nat.le_refl _) (by unfold maxLen at h2; omega) h3
    rwa [List.take_length] at this

set_option maxHeartbeats 1000000 in
theorem fail_at (x : Int) (w : World) {b sb mb : Nat} {WV FV : Value} {d : M.D} (h : DiskAt w b sb mb WV FV d) :
    Calls Try.prog 21 #[.pointer (some ⟨b, 0, none⟩), .int .i64 x] w fun e w' => e = .returned (.tuple #[]) ∧
      ∃ FV', DiskAt w' b sb mb WV FV' (M.failD d x) ∧ (∀ g, FV'.ownBlock = some g → FV.ownBlock = some g ∨ w.heap.size ≤ g) ∧ Kept (fun j => j = b ∨ FV.ownBlock = some j) w w' := by
  obtain ⟨i0, hi, hz0, hz1, hz2⟩ := info_parts infoN
  obtain ⟨FA, fc, rfl, _⟩ := owns_shape h.fails
  have c3 := h.c3
  have c4 := h.c4
  have HH := Lib.hid (contains_any d.fails x _ w h.fails)
  have HA := Lib.hid h
  unfold M.failD
  by_cases h1 : (d.ops : Int) < x
  · have h1' : decide (x ≤ (d.ops : Int)) = false := by simp; omega
    by_cases h3 : d.fails.length < 100
    · have h3' : decide ((100 : Int) ≤ (d.fails.length : Int)) = false := by simp; omega
      by_cases h2 : x ∈ d.fails
      · rw [if_neg (fun e => e.2.2 h2)]
        rw [decide_eq_true h2] at HH
        clear h h2 h1 h3
        go_enter Try.func21, Try.ntmps21
        go_wp2_with fail
        refine HH.out.mono ?_
        rintro e w1 ⟨rfl, rfl⟩
        go_wp2_with fail
        exact bodyPost_ret (results_none rfl _ _ _) rfl ⟨rfl, _, HA.out, fun g e => Or.inl e, Kept.refl _ _⟩
      · rw [if_pos ⟨h1, h3, h2⟩]
        rw [decide_eq_false h2] at HH
        obtain ⟨n, hn⟩ : ∃ n, n = d.fails.length := ⟨_, rfl⟩
        obtain ⟨xs, hxs⟩ : ∃ xs, xs = d.fails.map (Value.int .i64) := ⟨_, rfl⟩
        have HO1 : Hid (w.ownsRow 0 3 1 (.slice FA n fc) n xs) := by rw [hn, hxs]; exact h.fails
        have HN : Hid (n + 1 ≤ maxLen ∧ (n + 1) * 8 ≤ 140737488355328) := by refine ⟨?_, ?_⟩ <;> (try unfold maxLen) <;> omega
        have HL : Hid (∀ (w3 : World) (g c : Nat), (w.alloc (.cells #[.int .i64 x] 3)).grownBy w3 (Value.slice FA n fc).ownBlock → ((Value.slice FA n fc).ownBlock = some g ∨ g = w.heap.size + 1) → w3.ownsRow 0 3 1 (.slice (some ⟨g, 0, none⟩) (n + 1) c) (n + 1) (xs ++ [.int .i64 x]) →
            w3.cell? ⟨b, 4, none⟩ = some (.slice FA n fc) ∧ w3.frozen? ⟨b, 4, none⟩ = false ∧ Hid (DiskAt (w3.setCell ⟨b, 4, none⟩ (.slice (some ⟨g, 0, none⟩) (n + 1) c)) b sb mb WV (.slice (some ⟨g, 0, none⟩) (n + 1) c) { d with fails := d.fails ++ [x] } ∧ ((Value.slice FA n fc).ownBlock = some g ∨ w.heap.size ≤ g) ∧ Kept (fun j => j = b ∨ (Value.slice FA n fc).ownBlock = some j) w (w3.setCell ⟨b, 4, none⟩ (.slice (some ⟨g, 0, none⟩) (n + 1) c)))) := by
          intro w3 g c p1 p2 p3
          rw [hxs] at p3
          rw [hn] at p1 p2 p3 ⊢
          exact h.failed rfl p1 p2 p3
        rw [← hn] at c4 h3' HH ⊢
        clear h h1 h2 h3 hn hxs HA
        go_enter Try.func21, Try.ntmps21
        go_wp2_with fail
        refine HH.out.mono ?_
        rintro e w1 ⟨rfl, rfl⟩
        clear HH
        go_wp2_with (at_builtin
                     refine wpList_append_lies _ rfl _ _ 49 rfl 0 3 i0 (.int .i64 0) 1 8 Try.underlying49 hi hz0 hz1 hz2 rfl (by decide) _ _ _ rfl (HO1.out.alloc _) ⟨w1.heap.size, 0, none⟩ 1 1 [.int .i64 x] rfl rfl (cell_one_new _ _ _) (fun u hu => by simp at hu; subst hu; rfl) (by omega) HN.out.1 HN.out.2 (Nat.zero_le _) _ rfl ?_
                     intro g4 k4 w4 ho4 hgr4 hat4 _
                     obtain ⟨q1, q2, HX4⟩ := HL.out w4 g4 k4 hgr4 (hat4.imp id (fun e => by rw [e, World.size_alloc])) ho4
                     clear ho4 hgr4 hat4 HL HO1 c3 c4)
        go_end0
        exact ⟨rfl, _, HX4.out.1, fun g e => (by have : g4 = g := (by simpa [Value.ownBlock] using e); rw [← this]; exact HX4.out.2.1), HX4.out.2.2⟩
    · rw [if_neg (fun e => h3 e.2.1)]
      have h3' : decide ((100 : Int) ≤ (d.fails.length : Int)) = true := by simp; omega
      clear h h1 h3 HH
      go_enter Try.func21, Try.ntmps21
      go_wp2_with fail
      exact bodyPost_ret (results_none rfl _ _ _) rfl ⟨rfl, _, HA.out, fun g e => Or.inl e, Kept.refl _ _⟩
  · rw [if_neg (fun e => h1 e.1)]
    have h1' : decide (x ≤ (d.ops : Int)) = true := by simp; omega
    clear h h1 HH
    go_enter Try.func21, Try.ntmps21
    go_wp2_with fail
    exact bodyPost_ret (results_none rfl _ _ _) rfl ⟨rfl, _, HA.out, fun g e => Or.inl e, Kept.refl _ _⟩
theorem fail_any (x : Int) (w : World) {b : Nat} {P : Nat → Prop} {d : M.D} (h : Disk w b P d) :
    Calls Try.prog 21 #[.pointer (some ⟨b, 0, none⟩), .int .i64 x] w fun e w' => e = .returned (.tuple #[]) ∧ Disk w' b (M.plus P w.heap.size) (M.failD d x) ∧ Kept P w w' := by
  obtain ⟨sb, mb, WV, FV, h, p1, p2, p3, p4, p5⟩ := h
  refine (fail_at x w h).mono ?_
  rintro e w' ⟨rfl, FV', hA, hf, hk⟩
  exact ⟨rfl, ⟨sb, mb, WV, FV', hA, Or.inl p1, Or.inl p2, Or.inl p3, fun k e => Or.inl (p4 k e), fun k e => (hf k e).imp (p5 k) id⟩, hk.mono (fun k _ e => e.elim (fun e => e ▸ p1) (p5 k))⟩
end Go.Proofs.Ytnjhbmpdpejpcaa
