/-
  Walks over disk.takeFail and disk.begin.
-/
import Derived.Test.YtnjhbmpdpejpcaaDNew
import Derived.Sort.Row
import Derived.Lib.Slices
namespace Go.Proofs.Ytnjhbmpdpejpcaa
open Go.RowKit Go.Maps Go.Sort

/-- Where the first one of a number stands. -/
theorem M.idx_cases (zs : List Int) (x : Int) : (x ∉ zs ∧ Lib.idxOf zs x = -1) ∨ ∃ i : Nat, x ∈ zs ∧ i < zs.length ∧ Lib.idxOf zs x = (i : Int) ∧ zs.take i ++ zs.drop (i + 1) = zs.erase x := by
  have gen : ∀ (zs : List Int) (k : Nat), (x ∉ zs ∧ Lib.idxFrom zs x k = -1) ∨ ∃ i : Nat, x ∈ zs ∧ i < zs.length ∧ Lib.idxFrom zs x k = ((k + i : Nat) : Int) ∧ zs.take i ++ zs.drop (i + 1) = zs.erase x := by
    intro zs
    induction zs with
    | nil => intro k; exact Or.inl ⟨by simp, rfl⟩
    | cons z zs ih =>
      intro k
      by_cases hz : z = x
      · subst hz
        exact Or.inr ⟨0, by simp, by simp, by simp [Lib.idxFrom], by simp⟩
      · rcases ih (k + 1) with ⟨h1, h2⟩ | ⟨i, h1, h2, h3, h4⟩
        · exact Or.inl ⟨by simp [h1, Ne.symm hz], by simp [Lib.idxFrom, hz, h2]⟩
        · refine Or.inr ⟨i + 1, by simp [h1], by simp [h2], ?_, ?_⟩
          · rw [Lib.idxFrom, if_neg hz, h3]
            congr 1
            omega
          · rw [List.erase_cons_tail (by simpa using hz), ← h4]
            simp
  rcases gen zs 0 with h | ⟨i, h1, h2, h3, h4⟩
  · exact Or.inl h
  · exact Or.inr ⟨i, h1, h2, by rw [Lib.idxOf, h3, Nat.zero_add], h4⟩

/-- What an owned row of numbers holds. -/
theorem owned_ints {w : World} {B : Nat} {v : Value} {zs : List Int} (h : w.ownsRow B 3 1 v zs.length (zs.map (Value.int .i64))) :
    (v = .slice none 0 0 ∧ zs = []) ∨ ∃ g cap, v = .slice (some ⟨g, 0, none⟩) zs.length cap ∧ zs.length ≤ cap ∧ cap ≤ maxLen ∧ g < w.heap.size ∧ (∀ j, j < zs.length → w.cell? ⟨g, 0 + j, none⟩ = some (.int .i64 (zs.getD j 0))) ∧ Holds (Value.int .i64) w g 0 zs.toArray := by
  rcases h.2 with ⟨e, hn⟩ | ⟨g, cap, cur, e, h1, h2, h3, h4, h5, h6⟩
  · exact Or.inl ⟨e, List.eq_nil_of_length_eq_zero hn⟩
  · have hc : ∀ j, j < zs.length → w.cell? ⟨g, 0 + j, none⟩ = some (.int .i64 (zs.getD j 0)) := by
      intro j hj
      rw [Nat.zero_add, cell_of_row w g j cur _ _ h2]
      have : (cur.toList.take (zs.length * 1))[j]? = some (.int .i64 (zs.getD j 0)) := by
        rw [h6, List.getElem?_map, List.getElem?_eq_getElem hj]
        simp [hj]
      rw [List.getElem?_take_of_lt (by omega)] at this
      simpa using this
    refine Or.inr ⟨g, cap, e, h3, h4, lt_of_block h2, hc, fun j hj => ⟨?_, ?_⟩⟩
    · have hj' : j < zs.length := by simpa using hj
      rw [hc j hj']
      simp [hj']
    · rw [Nat.zero_add]
      have h2' : Box w g 3 cur := h2
      exact h2'.frozen j

theorem putRow_kept (w : World) (q g off : Nat) (d : Array Int) : Kept (fun k => k = g) w (putRow (Value.int .i64) (Sort.ahead w q) g off d) :=
  ⟨rfl, rfl, rfl, by simp, fun k _ hp => by
    show ((Sort.ahead w q).heap.modify g _)[k]? = w.heap[k]?
    rw [Array.getElem?_modify, if_neg (fun e => hp e.symm)]
    rfl⟩
/-- What is left of an owned row of numbers once one was deleted. -/
theorem owned_deleted {w : World} {B g cap i : Nat} {zs : List Int} (q : Nat) (h : w.ownsRow B 3 1 (.slice (some ⟨g, 0, none⟩) zs.length cap) zs.length (zs.map (Value.int .i64))) (hi : i < zs.length) :
    (putRow (Value.int .i64) (Sort.ahead w q) g 0 (zs.take i ++ zs.drop (i + 1) ++ List.replicate (i + 1 - i) 0).toArray).ownsRow B 3 1 (.slice (some ⟨g, 0, none⟩) (zs.length - (i + 1 - i)) cap) (zs.take i ++ zs.drop (i + 1)).length ((zs.take i ++ zs.drop (i + 1)).map (Value.int .i64)) := by
  rcases h.2 with ⟨e, _⟩ | ⟨g', cap', cur, e, h1, h2, h3, h4, h5, h6⟩
  · cases e
  · injection e with e1 e2 e3
    injection e1 with e1
    injection e1 with e1
    subst e1
    subst e3
    have hl : (zs.take i ++ zs.drop (i + 1)).length = zs.length - 1 := by simp; omega
    have hsz : (zs.take i ++ zs.drop (i + 1) ++ List.replicate (i + 1 - i) (0 : Int)).toArray.size = zs.length := by simp; omega
    refine ⟨by simp, Or.inr ⟨g, cap, putCells (Value.int .i64) 0 (zs.take i ++ zs.drop (i + 1) ++ List.replicate (i + 1 - i) 0).toArray cur, by rw [hl]; congr 1; omega, h1, ?_, by omega, h4, by simpa [putCells] using h5, ?_⟩⟩
    · show ((Sort.ahead w q).heap.modify g _)[g]? = _
      have h2' : (Sort.ahead w q).heap[g]? = some (.cells cur 3 (0, 0)) := h2
      rw [Array.getElem?_modify, if_pos rfl, h2']
      rfl
    · apply List.ext_getElem?
      intro j
      by_cases hj : j < (zs.take i ++ zs.drop (i + 1)).length
      · have hjc : j < cur.size := by omega
        rw [List.getElem?_take_of_lt (by omega), List.getElem?_map, List.getElem?_eq_getElem hj, Array.getElem?_toList]
        simp only [putCells, Array.getElem?_mapIdx, Array.getElem?_eq_getElem hjc, Option.map_some]
        rw [if_pos ⟨Nat.zero_le _, by rw [hsz]; omega⟩, Nat.sub_zero, getElem!_pos _ j (by rw [hsz]; omega)]
        congr 2
        rw [List.getElem_toArray, List.getElem_append_left hj]
      · rw [List.getElem?_eq_none (by rw [List.length_take]; omega), List.getElem?_eq_none (by rw [List.length_map]; omega)]

theorem Kept.set' {P : Nat → Prop} {w : World} {g : Nat} (hg : P g) (i : Nat) (u : Value) : Kept P w (w.setCell ⟨g, i, none⟩ u) := (Kept.refl P w).set (fun _ => hg) i u

/-- A cell of the disk's own block is written. -/
theorem DiskAt.poke {w : World} {b sb mb : Nat} {WV FV : Value} {d d' : M.D} (h : DiskAt w b sb mb WV FV d) {i : Nat} {u : Value} (hS : d'.S = d.S) (hL : d'.L = d.L) (hF : d'.fails = d.fails) (ho : d.ops ≤ d'.ops)
    (hb : (#[.slice (some ⟨sb, 0, none⟩) d.S.length d.S.length, WV, .map (some mb), .int .i64 (d.ops : Nat), FV, .int .i64 d.da, .bool d.dn] : Array Value).setIfInBounds i u = #[.slice (some ⟨sb, 0, none⟩) d.S.length d.S.length, WV, .map (some mb), .int .i64 (d'.ops : Nat), FV, .int .i64 d'.da, .bool d'.dn]) :
    DiskAt (w.setCell ⟨b, i, none⟩ u) b sb mb WV FV d' := by
  have hk : Kept (fun k => k = b) w (w.setCell ⟨b, i, none⟩ u) := Kept.set' (P := fun k => k = b) rfl i u
  obtain ⟨m, hm1, hm2⟩ := h.map
  refine ⟨?_, ?_, ⟨m, ?_, ?_⟩, ?_, ?_, ?_, h.bs, h.bm, h.sm, h.wn, h.fn⟩
  · rw [hS, ← hb]
    exact h.box.set i u
  · rw [hS]
    exact hk.box h.sure (Ne.symm h.bs)
  · rw [hL]
    exact hk.map hm1 (Ne.symm h.bm)
  · rw [hL]
    exact hm2
  · rw [hL]
    exact hk.owns h.writes (fun k e => (h.wn k e).1)
  · rw [hF]
    exact hk.owns h.fails (fun k e => (h.fn k e).1)
  · exact ⟨by rw [hS]; exact h.inv.many, by rw [hS]; exact h.inv.sure, by rw [hS, hL]; exact h.inv.lies, by rw [hL]; exact h.inv.wide, by rw [hL]; exact Nat.le_trans h.inv.some_ ho⟩

theorem DiskAt.deleted {w w1 : World} {b sb mb g cap i j : Nat} {WV : Value} {d : M.D} {x : Int} (h : DiskAt w b sb mb WV (.slice (some ⟨g, 0, none⟩) d.fails.length cap) d) (hj : j = i + 1) (hi : i < d.fails.length) (he : d.fails.take i ++ d.fails.drop (i + 1) = d.fails.erase x) (q : Nat)
    (hw : w1 = putRow (Value.int .i64) (Sort.ahead w q) g 0 (d.fails.take i ++ d.fails.drop j ++ List.replicate (j - i) 0).toArray) :
    w1.cell? ⟨b, 4, none⟩ = some (.slice (some ⟨g, 0, none⟩) d.fails.length cap) ∧ w1.frozen? ⟨b, 4, none⟩ = false ∧
      Hid (DiskAt (w1.setCell ⟨b, 4, none⟩ (.slice (some ⟨g, 0, none⟩) (d.fails.length - (j - i)) cap)) b sb mb WV (.slice (some ⟨g, 0, none⟩) (d.fails.length - (j - i)) cap) { d with fails := d.fails.erase x } ∧
        Kept (fun k => k = b ∨ k = g) w (w1.setCell ⟨b, 4, none⟩ (.slice (some ⟨g, 0, none⟩) (d.fails.length - (j - i)) cap))) := by
  subst hj
  have hk1 : Kept (fun k => k = g) w w1 := by rw [hw]; exact putRow_kept w q g 0 _
  have hg := h.fn g rfl
  have hB1 := hk1.box h.box (Ne.symm hg.1)
  have hk2 : Kept (fun k => k = b) w1 (w1.setCell ⟨b, 4, none⟩ (.slice (some ⟨g, 0, none⟩) (d.fails.length - (i + 1 - i)) cap)) := Kept.set' (P := fun k => k = b) rfl 4 _
  have hk : Kept (fun k => k = b ∨ k = g) w (w1.setCell ⟨b, 4, none⟩ (.slice (some ⟨g, 0, none⟩) (d.fails.length - (i + 1 - i)) cap)) :=
    (hk1.mono (fun _ _ h => Or.inr h)).trans (hk2.mono (fun _ _ h => Or.inl h))
  have ho := owned_deleted q h.fails hi
  rw [← hw, he] at ho
  refine ⟨by simpa using hB1.cell 4, hB1.frozen 4, ⟨?_, ?_, ?_, ?_, ?_, ⟨h.inv.many, h.inv.sure, h.inv.lies, h.inv.wide, h.inv.some_⟩, h.bs, h.bm, h.sm, h.wn, ?_⟩, hk⟩
  · simpa using hB1.set 4 (.slice (some ⟨g, 0, none⟩) (d.fails.length - (i + 1 - i)) cap)
  · exact hk.box h.sure (fun e => e.elim (fun e => h.bs e.symm) (fun e => hg.2.1 e.symm))
  · obtain ⟨m, hm1, hm2⟩ := h.map
    exact ⟨m, hk.map hm1 (fun e => e.elim (fun e => h.bm e.symm) (fun e => hg.2.2.1 e.symm)), hm2⟩
  · exact hk.owns h.writes (fun k e e' => e'.elim (fun e' => (h.wn k e).1 e') (fun e' => hg.2.2.2 (by rw [← e']; exact e)))
  · exact hk2.owns ho (fun k e => by
      have : g = k := by simpa [Value.ownBlock] using e
      rw [← this]
      exact hg.1)
  · intro k e
    have : g = k := by simpa [Value.ownBlock] using e
    rw [← this]
    exact hg

set_option maxHeartbeats 1000000 in
theorem takeFail_at (x : Int) (w : World) {b sb mb : Nat} {WV FV : Value} {d : M.D} (h : DiskAt w b sb mb WV FV d) :
    Calls Try.prog 62 #[.pointer (some ⟨b, 0, none⟩), .int .i64 x] w fun e w' => e = .returned (.bool (decide (x ∈ d.fails))) ∧
      ∃ FV', DiskAt w' b sb mb WV FV' { d with fails := d.fails.erase x } ∧ FV'.ownBlock = FV.ownBlock ∧ Kept (fun k => k = b ∨ FV.ownBlock = some k) w w' := by
  have c4 := h.c4
  rcases M.idx_cases d.fails x with ⟨hx, hix⟩ | ⟨i, hx, hil, hix, he⟩
  · have HI : Hid (Calls Try.prog 61 #[FV, .int .i64 x] w fun e w' => e = .returned (.int .i64 (-1)) ∧ w' = w) := by
      rcases owned_ints h.fails with ⟨e, hf⟩ | ⟨g, cap, e, h1, h2, _, h3, _⟩
      · rw [e, ← hix, hf]
        exact Try.slices_Index_int_empty none 0 x w
      · rw [e, ← hix]
        have := Try.slices_Index_int g 0 d.fails.length cap d.fails x w (Nat.le_refl _) (by unfold maxLen at h2; omega) h3
        rwa [List.take_length] at this
    have HE : Hid (DiskAt w b sb mb WV FV { d with fails := d.fails.erase x }) := by
      rw [List.erase_of_not_mem hx]
      exact h
    have hd : decide (x ∈ d.fails) = false := by simpa using hx
    rw [hd]
    clear h hx hix hd
    go_enter Try.func62, Try.ntmps62
    go_wp2_with fail
    refine HI.out.mono ?_
    rintro e w1 ⟨rfl, rfl⟩
    go_wp2_with fail
    go_ret
    exact ⟨rfl, FV, HE.out, rfl, Kept.refl _ _⟩
  · rcases owned_ints h.fails with ⟨_, hf⟩ | ⟨g, cap, rfl, h1, h2, _, h3, h4⟩
    · rw [hf] at hil
      simp at hil
    · have hil' : i < d.fails.length := hil
      have HI : Hid (Calls Try.prog 61 #[.slice (some ⟨g, 0, none⟩) d.fails.length cap, .int .i64 x] w fun e w' => e = .returned (.int .i64 (i : Nat)) ∧ w' = w) := by
        rw [← hix]
        have := Try.slices_Index_int g 0 d.fails.length cap d.fails x w (Nat.le_refl _) (by unfold maxLen at h2; omega) h3
        rwa [List.take_length] at this
      have HD := Lib.hid (Try.slices_Delete_int g 0 cap i (i + 1) d.fails w h4 h1 (by unfold maxLen at h2; omega) (by omega) (by omega))
      have hd : decide (x ∈ d.fails) = true := by simpa using hx
      rw [hd]
      have hi63 : (i : Int) + 1 ≤ 9223372036854775807 := by unfold maxLen at h2; omega
      have hi0 : (0 : Int) ≤ (i : Int) := by omega
      have hi0' : decide ((i : Int) < 0) = false := by simp
      obtain ⟨j, hj⟩ : ∃ j, j = i + 1 := ⟨_, rfl⟩
      have hji : (i : Int) + 1 = (j : Int) := by omega
      have hj63 : (j : Int) ≤ 9223372036854775807 := by omega
      have hwj : IntKind.i64.wrap ((i : Int) + 1) = (j : Int) := by rw [IntKind.wrap_i64]; omega
      rw [← hj] at HD
      have HX := Lib.hid (fun q w1 => h.deleted (w1 := w1) hj hil he q)
      have HJ := Lib.hid hj
      clear h hx hix hd h1 h2 h3 h4 hil hil' he hj hi63
      go_enter Try.func62, Try.ntmps62
      go_wp2_with fail
      refine HI.out.mono ?_
      rintro e w1 ⟨rfl, rfl⟩
      go_wp2_with fail
      refine HD.out.mono ?_
      rintro e w2 ⟨rfl, q, hw2⟩
      obtain ⟨k4, f4, HY⟩ := HX.out q w2 hw2
      clear hw2 HX HD HI
      go_wp2_with fail
      go_ret
      exact ⟨rfl, _, HY.out.1, rfl, HY.out.2.mono (fun k _ e => e.imp id (fun e => by rw [e]; rfl))⟩

/-- What a call comes to ahead of what it does. -/
def M.beginE (d : M.D) : Int := if d.dn = true then 31 else if d.da = (d.ops + 1 : Nat) then 31 else if ((d.ops + 1 : Nat) : Int) ∈ d.fails then 30 else 0
/-- The disk behind it. -/
def M.beginD (d : M.D) : M.D := ⟨d.S, d.L, d.ops + 1, d.fails.erase ((d.ops + 1 : Nat) : Int), d.da, d.dn || decide (d.da = (d.ops + 1 : Nat))⟩

theorem begin_nil (w : World) : Calls Try.prog 47 #[.pointer none] w fun e w' => e = .returned (.int .i64 10) ∧ w' = w := by
  go_enter Try.func47, Try.ntmps47
  go_wp2_with fail
  go_ret
  exact ⟨rfl, rfl⟩

theorem DiskAt.counted {w : World} {b sb mb : Nat} {WV FV : Value} {d : M.D} (h : DiskAt w b sb mb WV FV d) (n : Nat) (hn : n = d.ops + 1) : DiskAt (w.setCell ⟨b, 3, none⟩ (.int .i64 (n : Nat))) b sb mb WV FV { d with ops := n } :=
  h.poke rfl rfl rfl (by subst hn; exact Nat.le_succ _) rfl
theorem DiskAt.downed {w : World} {b sb mb : Nat} {WV FV : Value} {d : M.D} (h : DiskAt w b sb mb WV FV d) : DiskAt (w.setCell ⟨b, 6, none⟩ (.bool true)) b sb mb WV FV { d with dn := true } :=
  h.poke rfl rfl rfl (Nat.le_refl _) rfl

set_option maxHeartbeats 1000000 in
theorem begin_at (w : World) {b sb mb : Nat} {WV FV : Value} {d : M.D} (h : DiskAt w b sb mb WV FV d) (ho : d.ops ≤ 1099511627776) :
    Calls Try.prog 47 #[.pointer (some ⟨b, 0, none⟩)] w fun e w' => e = .returned (.int .i64 (M.beginE d)) ∧
      ∃ FV', DiskAt w' b sb mb WV FV' (M.beginD d) ∧ FV'.ownBlock = FV.ownBlock ∧ Kept (fun k => k = b ∨ FV.ownBlock = some k) w w' := by
  have c3 := h.c3
  have f3 := h.box.frozen 3
  obtain ⟨n, hn⟩ : ∃ n, n = d.ops + 1 := ⟨_, rfl⟩
  have hni : (d.ops : Int) + 1 = (n : Int) := by omega
  have hn63 : (n : Int) ≤ 9223372036854775807 := by omega
  have hnw : wrap64 (n : Int) = (n : Int) := by unfold wrap64; omega
  have hc := h.counted n hn
  have HT := Lib.hid (takeFail_at (n : Int) _ hc)
  have c3' := hc.c3
  simp only at c3'
  have HK1 : Hid (Kept (fun k => k = b ∨ FV.ownBlock = some k) w (w.setCell ⟨b, 3, none⟩ (.int .i64 (n : Nat)))) := Kept.set' (P := fun k => k = b ∨ FV.ownBlock = some k) (Or.inl rfl) 3 _
  have HE : Hid (M.beginE d = if d.dn = true then 31 else if d.da = (n : Nat) then 31 else if (n : Int) ∈ d.fails then 30 else 0) := by rw [hn]; exact rfl
  have HD : Hid (M.beginD d = ⟨d.S, d.L, n, d.fails.erase (n : Int), d.da, d.dn || decide (d.da = (n : Nat))⟩) := by rw [hn]; exact rfl
  rw [HE.out, HD.out]
  clear HE HD hn hc h ho
  obtain ⟨w0, hw0⟩ : ∃ x, x = w.setCell ⟨b, 3, none⟩ (.int .i64 (n : Nat)) := ⟨_, rfl⟩
  obtain ⟨fl, hfl⟩ : ∃ fl : Bool, fl = decide ((n : Int) ∈ d.fails) := ⟨_, rfl⟩
  rw [← hw0] at HT HK1 c3'
  rw [← hfl] at HT
  have HW0 := Lib.hid hw0
  have HF := Lib.hid hfl
  clear hw0 hfl
  have HB : Hid (∀ y FV', DiskAt y b sb mb WV FV' ⟨d.S, d.L, n, d.fails.erase (n : Int), d.da, d.dn⟩ → Kept (fun k => k = b ∨ FV.ownBlock = some k) w0 y → FV'.ownBlock = FV.ownBlock →
      y.cell? ⟨b, 3, none⟩ = some (.int .i64 (n : Nat)) ∧ y.cell? ⟨b, 5, none⟩ = some (.int .i64 d.da) ∧ y.cell? ⟨b, 6, none⟩ = some (.bool d.dn) ∧ y.frozen? ⟨b, 6, none⟩ = false ∧ Hid (Kept (fun k => k = b ∨ FV.ownBlock = some k) w y)) :=
    fun y FV' hy hk _ => ⟨hy.c3, hy.c5, hy.c6, hy.box.frozen 6, HK1.out.trans hk⟩
  clear HK1
  cases hdn : d.dn with
  | true =>
    rw [if_pos rfl, Bool.true_or]
    rw [hdn] at HB
    have HH := Lib.hid hdn
    clear hdn
    go_enter Try.func47, Try.ntmps47
    go_wp2_with fail
    rw [← HW0.out]
    refine HT.out.mono ?_
    rintro e w2 ⟨rfl, FV', hA, hfv, hk⟩
    rw [HH.out] at hA
    obtain ⟨d3, d5, d6, g6, HK2⟩ := HB.out w2 FV' hA hk hfv
    have HA := Lib.hid hA
    have HV := Lib.hid hfv
    clear hA hfv hk HT HB c3 f3 c3'
    go_wp2_with fail
    go_ret
    exact ⟨rfl, FV', HA.out, HV.out, HK2.out⟩
  | false =>
    rw [if_neg (by simp), Bool.false_or]
    rw [hdn] at HB
    have HH := Lib.hid hdn
    clear hdn
    by_cases hda : d.da = (n : Int)
    · rw [if_pos hda]
      have HDA := Lib.hid hda
      clear hda
      go_enter Try.func47, Try.ntmps47
      go_wp2_with fail
      rw [← HW0.out]
      refine HT.out.mono ?_
      rintro e w2 ⟨rfl, FV', hA, hfv, hk⟩
      rw [HH.out] at hA
      obtain ⟨d3, d5, d6, g6, HK2⟩ := HB.out w2 FV' hA hk hfv
      have HX : Hid (∀ m, DiskAt ((w2.drewN m).setCell ⟨b, 6, none⟩ (.bool true)) b sb mb WV FV' ⟨d.S, d.L, n, d.fails.erase (n : Int), d.da, true⟩ ∧ Kept (fun k => k = b ∨ FV.ownBlock = some k) w ((w2.drewN m).setCell ⟨b, 6, none⟩ (.bool true))) :=
        fun m => ⟨(hA.drewN m).downed, (HK2.out.drewN m).trans (Kept.set' (P := fun k => k = b ∨ FV.ownBlock = some k) (Or.inl rfl) 6 _)⟩
      have HV := Lib.hid hfv
      rw [HDA.out] at d5
      clear hA hfv hk HT HB c3 f3 c3'
      go_wp2_with fail
      go_quiet (fail)
      go_wp2_with fail
      go_ret
      exact ⟨rfl, FV', by rw [decide_eq_true HDA.out]; exact (HX.out _).1, HV.out, (HX.out _).2⟩
    · rw [if_neg hda]
      have HDA := Lib.hid hda
      have hdb : ((n : Int) == d.da) = false := by rw [beq_eq_false_iff_ne]; exact fun e => hda e.symm
      clear hda
      have hff : (fl = true ∧ (n : Int) ∈ d.fails) ∨ (fl = false ∧ ¬ (n : Int) ∈ d.fails) := by
        have := HF.out
        by_cases h : (n : Int) ∈ d.fails
        · exact Or.inl ⟨by rw [this]; simpa using h, h⟩
        · exact Or.inr ⟨by rw [this]; simpa using h, h⟩
      rcases hff with ⟨rfl, hff⟩ | ⟨rfl, hff⟩
      · rw [if_pos hff]
        clear hff HF
        go_enter Try.func47, Try.ntmps47
        go_wp2_with fail
        rw [← HW0.out]
        refine HT.out.mono ?_
        rintro e w2 ⟨rfl, FV', hA, hfv, hk⟩
        rw [HH.out] at hA
        obtain ⟨d3, d5, d6, g6, HK2⟩ := HB.out w2 FV' hA hk hfv
        have HA := Lib.hid hA
        have HV := Lib.hid hfv
        clear hA hfv hk HT HB c3 f3 c3'
        go_wp2_with fail
        go_quiet (fail)
        go_wp2_with fail
        go_ret
        exact ⟨rfl, FV', by rw [decide_eq_false HDA.out]; exact HA.out.drewN _, HV.out, HK2.out.drewN _⟩
      · rw [if_neg hff]
        clear hff HF
        go_enter Try.func47, Try.ntmps47
        go_wp2_with fail
        rw [← HW0.out]
        refine HT.out.mono ?_
        rintro e w2 ⟨rfl, FV', hA, hfv, hk⟩
        rw [HH.out] at hA
        obtain ⟨d3, d5, d6, g6, HK2⟩ := HB.out w2 FV' hA hk hfv
        have HA := Lib.hid hA
        have HV := Lib.hid hfv
        clear hA hfv hk HT HB c3 f3 c3'
        go_wp2_with fail
        go_quiet (fail)
        go_wp2_with fail
        go_ret
        exact ⟨rfl, FV', by rw [decide_eq_false HDA.out]; exact HA.out.drewN _, HV.out, HK2.out.drewN _⟩
end Go.Proofs.Ytnjhbmpdpejpcaa
