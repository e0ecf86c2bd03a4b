/-
  Walks over solderref08's put and Write.
-/
import Derived.Test.YtnjhbmpdpejpcaaECall
import Derived.Test.YtnjhbmpdpejpcaaDLay
namespace Go.Proofs.Ytnjhbmpdpejpcaa
open Go.RowKit

/-- One of an owned row is written. -/
theorem owns_set {w : World} {B g n cap : Nat} {t : TypeId} {xs : List Value} (h : w.ownsRow B t 1 (.slice (some ⟨g, 0, none⟩) n cap) n xs) (j : Nat) (u : Value) :
    (w.setCell ⟨g, j, none⟩ u).ownsRow B t 1 (.slice (some ⟨g, 0, none⟩) n cap) n (xs.set j u) ∧ w.frozen? ⟨g, j, none⟩ = false := by
  rcases h.2 with ⟨e, _⟩ | ⟨g', cap', cur, e, h1, h2, h3, h4, h5, h6⟩
  · cases e
  · injection e with e1 e2 e3
    injection e1 with e1
    injection e1 with e1
    subst e1
    subst e3
    have hB : Box w g t cur := h2
    refine ⟨⟨by rw [List.length_set]; exact h.1, Or.inr ⟨g, cap, cur.setIfInBounds j u, rfl, h1, hB.set j u, h3, h4, by simpa using h5, ?_⟩⟩, hB.frozen j⟩
    rw [← h6, Array.toList_setIfInBounds, ← List.take_set]
theorem RefAt.seen1 {w : World} {b g c : Nat} {SV EV WV FV : Value} {r : M.R} {L : List ByteArray} (h : RefAt w b SV EV WV FV r) (ho : w.ownsRow 0 9 1 (.slice (some ⟨g, 0, none⟩) L.length c) L.length (L.map Value.string)) (hl : L.length = r.sure.length) (hg : g ≠ b) :
    RefAt (w.setCell ⟨b, 1, none⟩ (.slice (some ⟨g, 0, none⟩) L.length c)) b SV (.slice (some ⟨g, 0, none⟩) L.length c) WV FV { r with seen := L } := by
  have hk : Kept (fun k => k = b) w (w.setCell ⟨b, 1, none⟩ (.slice (some ⟨g, 0, none⟩) L.length c)) := Kept.set' (P := fun k => k = b) rfl 1 _
  have hne : ∀ k, (Value.slice (some ⟨g, 0, none⟩) L.length c).ownBlock = some k → k ≠ b := fun k e => by
    have : g = k := by simpa [Value.ownBlock] using e
    rw [← this]; exact hg
  exact ⟨by simpa using h.box.set 1 (.slice (some ⟨g, 0, none⟩) L.length c), hk.owns h.sure h.ns, hk.owns ho hne, hk.owns h.wait h.nw, hk.owns h.fails h.nf, hl, h.many, h.lies, h.some_, h.few, h.ns, hne, h.nw, h.nf⟩
theorem RefAt.sure1 {w : World} {b g c : Nat} {SV EV WV FV : Value} {r : M.R} {L : List ByteArray} (h : RefAt w b SV EV WV FV r) (ho : w.ownsRow 0 9 1 (.slice (some ⟨g, 0, none⟩) L.length c) L.length (L.map Value.string)) (hl : L.length = r.sure.length) (hg : g ≠ b) :
    RefAt (w.setCell ⟨b, 0, none⟩ (.slice (some ⟨g, 0, none⟩) L.length c)) b (.slice (some ⟨g, 0, none⟩) L.length c) EV WV FV { r with sure := L } := by
  have hk : Kept (fun k => k = b) w (w.setCell ⟨b, 0, none⟩ (.slice (some ⟨g, 0, none⟩) L.length c)) := Kept.set' (P := fun k => k = b) rfl 0 _
  have hne : ∀ k, (Value.slice (some ⟨g, 0, none⟩) L.length c).ownBlock = some k → k ≠ b := fun k e => by
    have : g = k := by simpa [Value.ownBlock] using e
    rw [← this]; exact hg
  exact ⟨by simpa using h.box.set 0 (.slice (some ⟨g, 0, none⟩) L.length c), hk.owns ho hne, hk.owns h.seen h.ne, hk.owns h.wait h.nw, hk.owns h.fails h.nf, by show r.seen.length = L.length; rw [hl]; exact h.len, by show L.length ≤ 1000; rw [hl]; exact h.many, fun p hp => by show p.1 < L.length; rw [hl]; exact h.lies p hp, h.some_, h.few, hne, h.ne, h.nw, h.nf⟩
theorem RefAt.wait1 {w : World} {b : Nat} {SV EV WV WV' FV : Value} {r : M.R} {L : List (Nat × ByteArray)} (h : RefAt w b SV EV WV FV r) (ho : w.ownsRow 0 80 2 WV' L.length (M.cells L)) (hl : ∀ p ∈ L, p.1 < r.sure.length) (hn : L.length ≤ r.ops) (hg : ∀ k, WV'.ownBlock = some k → k ≠ b) :
    RefAt (w.setCell ⟨b, 2, none⟩ WV') b SV EV WV' FV { r with wait := L } := by
  have hk : Kept (fun k => k = b) w (w.setCell ⟨b, 2, none⟩ WV') := Kept.set' (P := fun k => k = b) rfl 2 _
  exact ⟨by simpa using h.box.set 2 WV', hk.owns h.sure h.ns, hk.owns h.seen h.ne, hk.owns ho hg, hk.owns h.fails h.nf, h.len, h.many, hl, hn, h.few, h.ns, h.ne, hg, h.nf⟩
theorem RefAt.fails1 {w : World} {b : Nat} {SV EV WV FV FV' : Value} {r : M.R} {L : List Int} (h : RefAt w b SV EV WV FV r) (ho : w.ownsRow 0 3 1 FV' L.length (L.map (Value.int .i64))) (hn : L.length ≤ 100) (hg : ∀ k, FV'.ownBlock = some k → k ≠ b) :
    RefAt (w.setCell ⟨b, 4, none⟩ FV') b SV EV WV FV' { r with fails := L } := by
  have hk : Kept (fun k => k = b) w (w.setCell ⟨b, 4, none⟩ FV') := Kept.set' (P := fun k => k = b) rfl 4 _
  exact ⟨by simpa using h.box.set 4 FV', hk.owns h.sure h.ns, hk.owns h.seen h.ne, hk.owns h.wait h.nw, hk.owns ho hg, h.len, h.many, h.lies, h.some_, hn, h.ns, h.ne, h.nw, hg⟩
theorem RefAt.write1 {w : World} {b g n c k : Nat} {SV WV FV : Value} {r : M.R} (h : RefAt w b SV (.slice (some ⟨g, 0, none⟩) n c) WV FV r) (hn : n = r.seen.length) (s : ByteArray) (h1 : SV.ownBlock ≠ some g) (h2 : WV.ownBlock ≠ some g) (h3 : FV.ownBlock ≠ some g) :
    RefAt (w.setCell ⟨g, k, none⟩ (.string s)) b SV (.slice (some ⟨g, 0, none⟩) n c) WV FV { r with seen := r.seen.set k s } ∧ w.frozen? ⟨g, k, none⟩ = false ∧ Kept (fun j => j = g) w (w.setCell ⟨g, k, none⟩ (.string s)) := by
  have hkk : Kept (fun j => j = g) w (w.setCell ⟨g, k, none⟩ (.string s)) := Kept.set' (P := fun j => j = g) rfl k _
  have hs := h.seen
  rw [← hn] at hs
  have ho := owns_set hs k (.string s)
  have hb := h.ne g rfl
  rw [← List.map_set] at ho
  refine ⟨⟨hkk.box h.box (Ne.symm hb), hkk.owns h.sure (fun j e e' => h1 (by rw [← e']; exact e)), ?_, hkk.owns h.wait (fun j e e' => h2 (by rw [← e']; exact e)), hkk.owns h.fails (fun j e e' => h3 (by rw [← e']; exact e)), by show (r.seen.set k s).length = _; rw [List.length_set]; exact h.len, h.many, h.lies, h.some_, h.few, h.ns, h.ne, h.nw, h.nf⟩, ho.2, hkk⟩
  show World.ownsRow _ _ _ _ _ (r.seen.set k s).length ((r.seen.set k s).map Value.string)
  rw [List.length_set, ← hn]
  exact ho.1

/-- What put needs to know once the texts are copied. -/
theorem RefAt.copied {w w1 : World} {b g c k n : Nat} {SV EV WV FV : Value} {r : M.R} (h : RefAt w b SV EV WV FV r) (hk : k < r.seen.length) (hn : n = r.seen.length) (s : ByteArray) (ho : w1.ownsRow 0 9 1 (.slice (some ⟨g, 0, none⟩) n c) n (r.seen.map Value.string)) (hk1 : Kept (fun _ => False) w w1) (hg : w.heap.size ≤ g) :
    w1.cell? ⟨b, 1, none⟩ = some EV ∧ w1.frozen? ⟨b, 1, none⟩ = false ∧ (w1.setCell ⟨b, 1, none⟩ (.slice (some ⟨g, 0, none⟩) n c)).cell? ⟨b, 1, none⟩ = some (.slice (some ⟨g, 0, none⟩) n c) ∧
      (∃ old, (w1.setCell ⟨b, 1, none⟩ (.slice (some ⟨g, 0, none⟩) n c)).cell? ⟨g, k, none⟩ = some (.string old)) ∧ (w1.setCell ⟨b, 1, none⟩ (.slice (some ⟨g, 0, none⟩) n c)).frozen? ⟨g, k, none⟩ = false ∧
      ((w1.setCell ⟨b, 1, none⟩ (.slice (some ⟨g, 0, none⟩) n c)).setCell ⟨g, k, none⟩ (.string s)).cell? ⟨b, 2, none⟩ = some WV ∧
      (((w1.setCell ⟨b, 1, none⟩ (.slice (some ⟨g, 0, none⟩) n c)).setCell ⟨g, k, none⟩ (.string s)).alloc (.cells #[] 80)).cell? ⟨b, 2, none⟩ = some WV ∧
      Hid (RefAt ((w1.setCell ⟨b, 1, none⟩ (.slice (some ⟨g, 0, none⟩) n c)).setCell ⟨g, k, none⟩ (.string s)) b SV (.slice (some ⟨g, 0, none⟩) n c) WV FV { r with seen := r.seen.set k s } ∧
        Kept (fun j => j = b) w ((w1.setCell ⟨b, 1, none⟩ (.slice (some ⟨g, 0, none⟩) n c)).setCell ⟨g, k, none⟩ (.string s))) := by
  subst hn
  have hbl := h.box.lt
  have hh := h.kept hk1 (fun e => e) (fun _ _ e => e) (fun _ _ e => e) (fun _ _ e => e) (fun _ _ e => e)
  have h1 := hh.seen1 ho h.len (by omega)
  have hkk : Kept (fun j => j = b) w1 (w1.setCell ⟨b, 1, none⟩ (.slice (some ⟨g, 0, none⟩) r.seen.length c)) := Kept.set' (P := fun j => j = b) rfl 1 _
  have hno : ∀ (V : Value), (∀ j, V.ownBlock = some j → j < w.heap.size) → V.ownBlock ≠ some g := fun V hV e => by have := hV g e; omega
  have h2 := h1.write1 (k := k) rfl s (hno SV (fun j e => (h.sure.lt j e).2)) (hno WV (fun j e => (h.wait.lt j e).2)) (hno FV (fun j e => (h.fails.lt j e).2))
  refine ⟨hh.c1, hh.box.frozen 1, h1.c1, ⟨_, owned_strs h1.seen (List.getElem?_eq_getElem hk)⟩, h2.2.1, h2.1.c2, (World.cell?_of_block (Below.heap_alloc _ _ _ h2.1.box.lt)).trans h2.1.c2, h2.1, ?_⟩
  exact ((hk1.mono (fun _ _ e => e.elim)).trans hkk).next h2.2.2 (fun j hj e => by omega)

set_option maxRecDepth 100000 in
set_option maxHeartbeats 1000000 in
theorem rput_at (k : Nat) (s : ByteArray) (w : World) {b : Nat} {SV EV WV FV : Value} {r : M.R} (h : RefAt w b SV EV WV FV r) (hk : k < r.seen.length) (hw : r.wait.length < r.ops) (hops : r.ops ≤ 1099511627777) :
    Calls Try.prog 59 #[.pointer (some ⟨b, 0, none⟩), .int .i64 k, .string s] w fun e w' => e = .returned (.tuple #[]) ∧
      ∃ EV' WV', RefAt w' b SV EV' WV' FV { r with seen := r.seen.set k s, wait := r.wait ++ [(k, s)] } ∧ (∀ g, EV'.ownBlock = some g → w.heap.size ≤ g) ∧ (∀ g, WV'.ownBlock = some g → w.heap.size ≤ g) ∧ Kept (fun j => j = b) w w' := by
  obtain ⟨i0, hi, hz0, hz1, hz2⟩ := info_parts infoS
  obtain ⟨i1, hj, hy0, hy1, hy2⟩ := info_parts infoSec
  obtain ⟨EA, ec, rfl, _⟩ := owns_shape h.seen
  obtain ⟨WA, wc, rfl, _⟩ := owns_shape h.wait
  have hmany := h.many
  have hlen := h.len
  have hbl := h.box.lt
  have c1 := h.c1
  have f1 := h.box.frozen 1
  obtain ⟨n, hn⟩ : ∃ n, n = r.seen.length := ⟨_, rfl⟩
  obtain ⟨m, hm⟩ : ∃ m, m = r.wait.length := ⟨_, rfl⟩
  obtain ⟨xs, hxs⟩ : ∃ xs, xs = r.seen.map Value.string := ⟨_, rfl⟩
  obtain ⟨ys, hys⟩ : ∃ ys, ys = M.cells r.wait := ⟨_, rfl⟩
  have HSeen : Hid (w.ownsRow 0 9 1 (.slice EA n ec) n xs) := by rw [hn, hxs]; exact h.seen
  have HOne : Hid (∀ u ∈ xs, u.oneCell' = true) := by
    rw [hxs]
    intro u hu
    obtain ⟨q, _, rfl⟩ := List.mem_map.1 hu
    rfl
  have HOne2 : Hid (∀ u ∈ ys, u.oneCell' = true) := by
    rw [hys]
    have : ∀ L : List (Nat × ByteArray), ∀ u ∈ M.cells L, u.oneCell' = true := by
      intro L
      induction L with
      | nil => intro u hu; cases hu
      | cons p L ih =>
        intro u hu
        rw [M.cells] at hu
        rcases List.mem_cons.1 hu with rfl | hu
        · rfl
        · rcases List.mem_cons.1 hu with rfl | hu
          · rfl
          · exact ih u hu
    exact this _
  have HN : Hid (n ≤ maxLen ∧ n * 16 ≤ 140737488355328 ∧ m ≤ maxLen ∧ m * 24 ≤ 140737488355328 ∧ m + 1 ≤ maxLen ∧ (m + 1) * 24 ≤ 140737488355328) := by refine ⟨?_, ?_, ?_, ?_, ?_, ?_⟩ <;> (try unfold maxLen) <;> omega
  have HL1 : Hid (∀ w1 g c, w1.ownsRow 0 9 1 (.slice (some ⟨g, 0, none⟩) n c) n xs → Kept (fun _ => False) w w1 → w.heap.size ≤ g → w1.cell? ⟨b, 1, none⟩ = some (.slice EA n ec) ∧ w1.frozen? ⟨b, 1, none⟩ = false ∧ (w1.setCell ⟨b, 1, none⟩ (.slice (some ⟨g, 0, none⟩) n c)).cell? ⟨b, 1, none⟩ = some (.slice (some ⟨g, 0, none⟩) n c) ∧
      (∃ old, (w1.setCell ⟨b, 1, none⟩ (.slice (some ⟨g, 0, none⟩) n c)).cell? ⟨g, k, none⟩ = some (.string old)) ∧ (w1.setCell ⟨b, 1, none⟩ (.slice (some ⟨g, 0, none⟩) n c)).frozen? ⟨g, k, none⟩ = false ∧
      ((w1.setCell ⟨b, 1, none⟩ (.slice (some ⟨g, 0, none⟩) n c)).setCell ⟨g, k, none⟩ (.string s)).cell? ⟨b, 2, none⟩ = some (.slice WA m wc) ∧
      (((w1.setCell ⟨b, 1, none⟩ (.slice (some ⟨g, 0, none⟩) n c)).setCell ⟨g, k, none⟩ (.string s)).alloc (.cells #[] 80)).cell? ⟨b, 2, none⟩ = some (.slice WA m wc) ∧
      Hid (RefAt ((w1.setCell ⟨b, 1, none⟩ (.slice (some ⟨g, 0, none⟩) n c)).setCell ⟨g, k, none⟩ (.string s)) b SV (.slice (some ⟨g, 0, none⟩) n c) (.slice WA m wc) FV { r with seen := r.seen.set k s } ∧
        Kept (fun j => j = b) w ((w1.setCell ⟨b, 1, none⟩ (.slice (some ⟨g, 0, none⟩) n c)).setCell ⟨g, k, none⟩ (.string s)))) := by
    rw [hxs, hm]
    intro w1 g c h1 h2 h3
    have := h.copied hk hn s h1 h2 h3
    rwa [← hn] at this
  have HL2 : Hid (∀ (y w3 w4 : World) (g1 c1 g3 c3 g4 c4 : Nat), RefAt y b SV (.slice (some ⟨g1, 0, none⟩) n c1) (.slice WA m wc) FV { r with seen := r.seen.set k s } → Kept (fun j => j = b) w y → Kept (fun _ => False) y w3 → y.heap.size ≤ g3 → (w3.alloc (.cells #[.int .i64 (k : Nat), .string s] 80)).grownBy w4 (some g3) → (some g3 = some g4 ∨ g4 = w3.heap.size + 1) →
      w4.ownsRow 0 80 2 (.slice (some ⟨g4, 0, none⟩) (m + 1) c4) (m + 1) (ys ++ [.int .i64 (k : Nat), .string s]) → w4.cell? ⟨b, 2, none⟩ = some (.slice WA m wc) ∧ w4.frozen? ⟨b, 2, none⟩ = false ∧
        Hid (RefAt (w4.setCell ⟨b, 2, none⟩ (.slice (some ⟨g4, 0, none⟩) (m + 1) c4)) b SV (.slice (some ⟨g1, 0, none⟩) n c1) (.slice (some ⟨g4, 0, none⟩) (m + 1) c4) FV { r with seen := r.seen.set k s, wait := r.wait ++ [(k, s)] } ∧ w.heap.size ≤ g4 ∧ Kept (fun j => j = b) w (w4.setCell ⟨b, 2, none⟩ (.slice (some ⟨g4, 0, none⟩) (m + 1) c4)))) := by
    intro y w3 w4 g1 c1 g3 c3 g4 c4 hy hky hk3 hg3 hgr hat ho4
    have hz := hky.size
    have hz3 := hk3.size
    have hby := hy.box.lt
    have hg4 : y.heap.size ≤ g4 := hat.elim (fun e => by injection e with e; omega) (fun e => by omega)
    have hk4 : Kept (fun _ => False) y w4 := (hk3.alloc _).grown hgr (fun j e hj => by injection e with e; omega)
    have hh := hy.kept hk4 (fun e => e) (fun _ _ e => e) (fun _ _ e => e) (fun _ _ e => e) (fun _ _ e => e)
    have hll : (r.wait ++ [(k, s)]).length = m + 1 := by rw [hm]; simp
    have ho4' : w4.ownsRow 0 80 2 (.slice (some ⟨g4, 0, none⟩) (m + 1) c4) (r.wait ++ [(k, s)]).length (M.cells (r.wait ++ [(k, s)])) := by
      rw [hll, M.cells_snoc, ← hys]
      exact ho4
    have hx := hh.wait1 ho4' (fun p hp => by
      rcases List.mem_append.1 hp with hp | hp
      · exact h.lies p hp
      · rw [List.mem_singleton.1 hp]; show k < r.sure.length; omega) (by rw [hll]; show m + 1 ≤ r.ops; omega) (fun j e => by
      have : g4 = j := by simpa [Value.ownBlock] using e
      omega)
    exact ⟨hh.c2, hh.box.frozen 2, hx, by omega, (hky.next hk4 (fun _ _ e => e.elim)).trans (Kept.set' (P := fun j => j = b) rfl 2 _)⟩
  have HY : Hid (∀ y g1 c1, RefAt y b SV (.slice (some ⟨g1, 0, none⟩) n c1) (.slice WA m wc) FV { r with seen := r.seen.set k s } → y.ownsRow 0 80 2 (.slice WA m wc) m ys) := fun y g1 c1 hy => by
    have := hy.wait
    rw [hys, hm]
    rw [hm] at this
    exact this
  have hk0 : (0 : Int) ≤ (k : Int) := by omega
  have hkn : (k : Int) < (n : Int) := by omega
  rw [← hn] at c1
  clear h hk hw hops hmany hlen hn hm hxs hys
  go_enter Try.func59, Try.ntmps59
  go_wp2_with (first
    | (at_builtin
       refine wpList_append_copy rfl _ _ 48 rfl 9 i0 (.string ⟨#[]⟩) 1 16 Try.underlying48 hi hz0 hz1 hz2 rfl (by decide) w.heap.size rfl rfl (.slice EA n ec) n xs rfl HSeen.out HOne.out HN.out.1 HN.out.2.1 ?_
       intro g1 k1 w1 ho1 hk1 hg1
       obtain ⟨p1, p2, p3, ⟨old, p4⟩, p5, p6, p7, HX1⟩ := HL1.out w1 g1 k1 ho1 hk1 hg1
       have HG1 := Lib.hid hg1
       clear ho1 hk1 hg1 HL1 HSeen c1 f1)
    | (at_builtin
       refine wpList_append_lies _ rfl _ _ 40 rfl 0 80 i1 (.agg #[.int .i64 0, .string ⟨#[]⟩]) 2 24 Try.underlying40 hj hy0 hy1 hy2 rfl (by decide) _ _ _ rfl (HW3.out.alloc _) ⟨w3.heap.size, 0, none⟩ 1 1 [.int .i64 (k : Nat), .string s] rfl rfl (cell2_new _ _ _ _) (fun x hx => by simp at hx; rcases hx with rfl | rfl <;> rfl) (by omega) HN.out.2.2.2.2.1 HN.out.2.2.2.2.2 (Nat.zero_le _) _ rfl ?_
       intro g4 k4 w4 ho4 hgr4 hat4 _
       obtain ⟨q1, q2, HX4⟩ := HL2.out _ w3 w4 g1 k1 g3 k3 g4 k4 HX1.out.1 HX1.out.2 HK3.out HG3.out hgr4 (hat4.imp id (fun e => by rw [e, World.size_alloc])) ho4
       clear ho4 hgr4 hat4 HL2 HW3)
    | (at_builtin
       refine wpList_append_copy rfl _ _ 40 rfl 80 i1 (.agg #[.int .i64 0, .string ⟨#[]⟩]) 2 24 Try.underlying40 hj hy0 hy1 hy2 rfl (by decide) w1.heap.size (by simp [World.setCell]) rfl (.slice WA m wc) m ys rfl (HY.out _ _ _ HX1.out.1) HOne2.out HN.out.2.2.1 HN.out.2.2.2.1 ?_
       intro g3 k3 w3 ho3 hk3 hg3
       have HW3 := Lib.hid ho3
       have HK3 := Lib.hid hk3
       have HG3 := Lib.hid hg3
       clear ho3 hk3 hg3))
  go_end0
  exact ⟨rfl, _, _, HX4.out.1, fun g e => (by have : g1 = g := (by simpa [Value.ownBlock] using e); rw [← this]; exact HG1.out), fun g e => (by have : g4 = g := (by simpa [Value.ownBlock] using e); rw [← this]; exact HX4.out.2.1), HX4.out.2.2⟩
end Go.Proofs.Ytnjhbmpdpejpcaa
