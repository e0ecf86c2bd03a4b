/-
  Walks over disk.lay and disk.Write.
-/
import Derived.Test.YtnjhbmpdpejpcaaDBegin
import Derived.Maps.OwnOps
import Derived.Deep.AppendLies
namespace Go.Proofs.Ytnjhbmpdpejpcaa
open Go.RowKit Go.Maps

theorem infoSec : (Try.prog.info? 80).map (fun i => (i.zero, i.size, i.bytes)) = some (some (.agg #[.int .i64 0, .string ⟨#[]⟩]), 2, 24) := by kernel_rfl
theorem cell2_new (w : World) (x y : Value) (t : TypeId) : ∀ j u, [x, y][j]? = some u → (w.alloc (.cells #[x, y] t)).cell? ((⟨w.heap.size, 0, none⟩ : Addr).add j) = some u := by
  intro j u hj
  rw [blk_add, (Box.new w t #[x, y]).cell]
  simpa using hj

/-- A write lies behind the others. -/
theorem DiskAt.laid {w w1 w3 : World} {b sb mb g cap k : Nat} {WV FV : Value} {d : M.D} {m : DataW Unit} {s : ByteArray} {o : Obj} (h : DiskAt w b sb mb WV FV d) (hm : M.MapIs m d.L) (hkS : k < d.S.length) (hs : s.size = 64) (hlt : d.L.length < d.ops)
    (hown1 : w1.ownsMap Try.prog 3 (plainElem Try.prog 3) mb (d.L.length + 1) (m.put (.int .i64 k) (.lit (.int .i64 (d.L.length : Nat))))) (hk1 : Kept (fun k => k = mb) w w1)
    (hown3 : w3.ownsRow 0 80 2 (.slice (some ⟨g, 0, none⟩) (d.L.length + 1) cap) (d.L.length + 1) (M.cells d.L ++ [.int .i64 (k : Nat), .string s])) (hg3 : (w1.alloc o).grownBy w3 WV.ownBlock) (hat : WV.ownBlock = some g ∨ g = w1.heap.size + 1) :
    w3.cell? ⟨b, 1, none⟩ = some WV ∧ w3.frozen? ⟨b, 1, none⟩ = false ∧
      Hid (DiskAt (w3.setCell ⟨b, 1, none⟩ (.slice (some ⟨g, 0, none⟩) (d.L.length + 1) cap)) b sb mb (.slice (some ⟨g, 0, none⟩) (d.L.length + 1) cap) FV { d with L := d.L ++ [(k, s)] } ∧ (WV.ownBlock = some g ∨ w.heap.size ≤ g) ∧
        Kept (fun j => j = b ∨ j = mb ∨ WV.ownBlock = some j) w (w3.setCell ⟨b, 1, none⟩ (.slice (some ⟨g, 0, none⟩) (d.L.length + 1) cap))) := by
  have hz1 := hk1.size
  have hwb := h.writes.lt
  have hfb := h.fails.lt
  have hsl := h.sure.lt
  have hbl := h.box.lt
  have hml := h.mlt
  have hk3 : Kept (fun j => j = mb ∨ WV.ownBlock = some j) w w3 := Kept.grown (Kept.alloc (hk1.mono (fun _ _ h => Or.inl h)) o) hg3 (fun j e _ => Or.inr e)
  have hnb : b ≠ g := fun e => hat.elim (fun e' => (h.wn g e').1 e.symm) (fun e' => by omega)
  have hns : sb ≠ g := fun e => hat.elim (fun e' => (h.wn g e').2.1 e.symm) (fun e' => by omega)
  have hnm : mb ≠ g := fun e => hat.elim (fun e' => (h.wn g e').2.2 e.symm) (fun e' => by omega)
  have hB3 : Box w3 b 67 _ := hk3.box h.box (fun e => e.elim (fun e => h.bm e) (fun e => (h.wn b e).1 rfl))
  have hk4 : Kept (fun j => j = b) w3 (w3.setCell ⟨b, 1, none⟩ (.slice (some ⟨g, 0, none⟩) (d.L.length + 1) cap)) := Kept.set' (P := fun j => j = b) rfl 1 _
  have hk : Kept (fun j => j = b ∨ j = mb ∨ WV.ownBlock = some j) w (w3.setCell ⟨b, 1, none⟩ (.slice (some ⟨g, 0, none⟩) (d.L.length + 1) cap)) :=
    (hk3.mono (fun _ _ h => Or.inr h)).trans (hk4.mono (fun _ _ h => Or.inl h))
  have hown1' : w3.ownsMap Try.prog 3 (plainElem Try.prog 3) mb (d.L.length + 1) (m.put (.int .i64 k) (.lit (.int .i64 (d.L.length : Nat)))) :=
    (hown1.alloc o).kept hg3 (fun e => (h.wn mb e.symm).2.2 rfl)
  have hll : (d.L ++ [(k, s)]).length = d.L.length + 1 := by simp
  refine ⟨by simpa using hB3.cell 1, hB3.frozen 1, ⟨?_, ?_, ⟨_, ?_, hm.put k s⟩, ?_, ?_, ?_, h.bs, h.bm, h.sm, ?_, ?_⟩, hat.imp id (fun e => by omega), hk⟩
  · simpa using hB3.set 1 (.slice (some ⟨g, 0, none⟩) (d.L.length + 1) cap)
  · exact hk.box h.sure (fun e => e.elim (fun e => h.bs e.symm) (fun e => e.elim (fun e => h.sm e) (fun e => (h.wn sb e).2.1 rfl)))
  · show World.ownsMap _ _ _ _ _ (d.L ++ [(k, s)]).length _
    rw [hll]
    exact hk4.map hown1' (Ne.symm h.bm)
  · show World.ownsRow _ _ _ _ _ (d.L ++ [(k, s)]).length (M.cells (d.L ++ [(k, s)]))
    rw [hll, M.cells_snoc]
    exact hk4.owns hown3 (fun j e => by
      have : g = j := by simpa [Value.ownBlock] using e
      rw [← this]
      exact Ne.symm hnb)
  · exact hk.owns h.fails (fun j e e' => e'.elim (fun e' => (h.fn j e).1 e') (fun e' => e'.elim (fun e' => (h.fn j e).2.2.1 e') (fun e' => (h.fn j e).2.2.2 e')))
  · refine ⟨h.inv.many, h.inv.sure, fun p hp => ?_, fun p hp => ?_, by show (d.L ++ [(k, s)]).length ≤ d.ops; rw [hll]; omega⟩
    · rcases List.mem_append.1 hp with hp | hp
      · exact h.inv.lies p hp
      · rw [List.mem_singleton.1 hp]; exact hkS
    · rcases List.mem_append.1 hp with hp | hp
      · exact h.inv.wide p hp
      · rw [List.mem_singleton.1 hp]; exact hs
  · intro j e
    have : g = j := by simpa [Value.ownBlock] using e
    rw [← this]
    exact ⟨Ne.symm hnb, Ne.symm hns, Ne.symm hnm⟩
  · intro j e
    refine ⟨(h.fn j e).1, (h.fn j e).2.1, (h.fn j e).2.2.1, fun e' => ?_⟩
    have : g = j := by simpa [Value.ownBlock] using e'
    rw [← this] at e
    rcases hat with e2 | e2
    · exact (h.fn g e).2.2.2 e2
    · have := (hfb g e).2
      omega

set_option maxRecDepth 100000 in
set_option maxHeartbeats 1000000 in
theorem lay_at (k : Nat) (s : ByteArray) (w : World) {b sb mb : Nat} {WV FV : Value} {d : M.D} (h : DiskAt w b sb mb WV FV d) (hk : k < d.S.length) (hs : s.size = 64) (hlt : d.L.length < d.ops) (ho : d.ops ≤ 1099511627777) :
    Calls Try.prog 56 #[.pointer (some ⟨b, 0, none⟩), .int .i64 k, .string s] w fun e w' => e = .returned (.tuple #[]) ∧
      ∃ WV', DiskAt w' b sb mb WV' FV { d with L := d.L ++ [(k, s)] } ∧ (∀ g, WV'.ownBlock = some g → WV.ownBlock = some g ∨ w.heap.size ≤ g) ∧ Kept (fun j => j = b ∨ j = mb ∨ WV.ownBlock = some j) w w' := by
  obtain ⟨i0, hi, hz0, hz1, hz2⟩ := info_parts infoSec
  have hmany := h.inv.many
  obtain ⟨m, hm1, hm2⟩ := h.map
  have c1 := h.c1
  have c2 := h.c2
  have f1 := h.box.frozen 1
  obtain ⟨A, cp, hA, hcp⟩ := owns_shape h.writes
  have HL : Hid (∀ w1 w3 g cap, w1.ownsMap Try.prog 3 (plainElem Try.prog 3) mb (d.L.length + 1) (m.put (.int .i64 k) (.lit (.int .i64 (d.L.length : Nat)))) → w.drew.grownBy w1 (some mb) →
      w3.ownsRow 0 80 2 (.slice (some ⟨g, 0, none⟩) (d.L.length + 1) cap) (d.L.length + 1) (M.cells d.L ++ [.int .i64 (k : Nat), .string s]) → (w1.alloc (.cells #[.int .i64 (k : Nat), .string s] 80)).grownBy w3 WV.ownBlock → (WV.ownBlock = some g ∨ g = w1.heap.size + 1) →
      w3.cell? ⟨b, 1, none⟩ = some WV ∧ w3.frozen? ⟨b, 1, none⟩ = false ∧
        Hid (DiskAt (w3.setCell ⟨b, 1, none⟩ (.slice (some ⟨g, 0, none⟩) (d.L.length + 1) cap)) b sb mb (.slice (some ⟨g, 0, none⟩) (d.L.length + 1) cap) FV { d with L := d.L ++ [(k, s)] } ∧ (WV.ownBlock = some g ∨ w.heap.size ≤ g) ∧
          Kept (fun j => j = b ∨ j = mb ∨ WV.ownBlock = some j) w (w3.setCell ⟨b, 1, none⟩ (.slice (some ⟨g, 0, none⟩) (d.L.length + 1) cap)))) :=
    fun w1 w3 g cap h1 h2 h3 h4 h5 => h.laid hm2 hk hs hlt h1 ((Kept.refl (fun k => k = mb) w).drew.grown h2 (fun j e _ => by injection e with e; exact e.symm)) h3 h4 h5
  have H1 : Hid (∀ w1, w.drew.grownBy w1 (some mb) → w1.cell? ⟨b, 1, none⟩ = some WV ∧ w1.frozen? ⟨b, 1, none⟩ = false ∧ Hid (w1.ownsRow 0 80 2 WV d.L.length (M.cells d.L))) := by
    intro w1 hg
    have hk1 : Kept (fun k => k = mb) w w1 := (Kept.refl (fun k => k = mb) w).drew.grown hg (fun j e _ => by injection e with e; exact e.symm)
    have hB := hk1.box h.box h.bm
    exact ⟨by simpa using hB.cell 1, hB.frozen 1, hk1.owns h.writes (fun j e => (h.wn j e).2.2)⟩
  have HO := Lib.hid hm1
  obtain ⟨n, hn⟩ : ∃ n, n = d.L.length := ⟨_, rfl⟩
  rw [← hn] at HL H1 HO hA hlt hcp
  obtain ⟨xs, hxs⟩ : ∃ xs, xs = M.cells d.L := ⟨_, rfl⟩
  rw [← hxs] at HL H1
  have hk63 : (k : Int) ≤ 9223372036854775807 := by omega
  have hwf : (Lit.int .i64 (k : Int)).wf = true := WalkArith.wf_i64 (by omega)
  have hwn : (Lit.int .i64 (n : Int)).wf = true := WalkArith.wf_i64 (by omega)
  subst hA
  have HN : Hid (n + 1 ≤ maxLen ∧ (n + 1) * 24 ≤ 140737488355328 ∧ n < maxLen) := by refine ⟨?_, ?_, ?_⟩ <;> (try unfold maxLen) <;> omega
  clear h hm1 hm2 hn hxs hk hs
  go_enter Try.func56, Try.ntmps56
  go_wp2_with fail
  go_still_tail 10, (by kernel_rfl)
  change wpList _ _ _ _ _ w.drew
  go_wp2_with (first
    | (at_mapUpdate
       refine wpList_mapUpdate_own _ rfl _ _ _ 65 rfl 3 3 keyI Try.underlying65 _ mb n m rfl HO.out.drew HN.out.2.2 _ _ _ rfl rfl (keyOf_int_mk Try.underlying3 hwf) _ [] (plainElem_int Try.underlying3 hwn) ?_
       intro w1 hown1 hgrow1
       obtain ⟨d1, g1, HW1⟩ := H1.out w1 hgrow1
       have HM1 := Lib.hid (And.intro hown1 hgrow1)
       clear hown1 hgrow1 H1 HO c1 c2 f1)
    | (at_builtin
       refine wpList_append_lies _ rfl _ _ 40 rfl 0 80 i0 (.agg #[.int .i64 0, .string ⟨#[]⟩]) 2 24 Try.underlying40 hi hz0 hz1 hz2 rfl (by decide) _ _ _ rfl (HW1.out.alloc _) ⟨w1.heap.size, 0, none⟩ 1 1 [.int .i64 (k : Nat), .string s] rfl rfl (cell2_new _ _ _ _) (fun x hx => by simp at hx; rcases hx with rfl | rfl <;> rfl) (by omega) HN.out.1 HN.out.2.1 (Nat.zero_le _) _ rfl ?_
       intro g3 c3 w3 hown3 hgrow3 hat3 _
       obtain ⟨p1, p2, HX⟩ := HL.out w1 w3 g3 c3 HM1.out.1 HM1.out.2 hown3 hgrow3 (hat3.imp id (fun e => by rw [e, World.size_alloc]))
       clear hown3 hgrow3 hat3 HM1 HW1 d1 g1 HL))
  go_end0
  exact ⟨rfl, _, HX.out.1, fun g e => by
    have : g3 = g := by simpa [Value.ownBlock] using e
    rw [← this]
    exact HX.out.2.1, HX.out.2.2⟩
end Go.Proofs.Ytnjhbmpdpejpcaa
