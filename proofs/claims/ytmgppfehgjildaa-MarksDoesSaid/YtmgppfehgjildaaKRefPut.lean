/-
  Walks over solderref07: Put, Next.
-/
import Derived.Test.YtmgppfehgjildaaKRef
import Derived.Test.YtmgppfehgjildaaKAdd
import Derived.Test.YtmgppfehgjildaaKSame
namespace Go.Proofs.Ytmgppfehgjildaa
open Go.RowKit

/-- The cells of a row of bools. -/
def M.bools (m : Nat) (f : Nat → Bool) : List Value := (List.range m).map (fun i => Value.bool (f i))
theorem M.bools_at (m : Nat) (f : Nat → Bool) (j : Nat) (h : j < m) : (M.bools m f)[j]? = some (.bool (f j)) := by simp [M.bools, h]
theorem own_none (u : World) (t : TypeId) : (u.alloc (.cells #[] t)).ownsRow u.heap.size t 1 (.slice (some ⟨u.heap.size, 0, none⟩) 0 0) 0 [] :=
  ⟨rfl, Or.inr ⟨_, 0, #[], rfl, Nat.le_refl _, heap_alloc_new u _, Nat.le_refl _, Nat.zero_le _, rfl, rfl⟩⟩
section
variable {b g c m : Nat} {f : Nat → Bool}
theorem RSet.put_end {w w3 : World} {h3 c3 : Nat} (h : RSet w b g c m f) (hown : w3.ownsRow w.heap.size 4 1 (.slice (some ⟨h3, 0, none⟩) m c3) m (M.bools m f)) (hk : Kept (fun _ => False) w w3) (i : Nat) (hi : i < m) (v : Bool) :
    w3.cell? ⟨h3, i, none⟩ = some (.bool (f i)) ∧ w3.frozen? ⟨h3, i, none⟩ = false ∧ (w3.setCell ⟨h3, i, none⟩ (.bool v)).cell? ⟨b, 0, none⟩ = some (.slice (some ⟨g, 0, none⟩) m c) ∧ (w3.setCell ⟨h3, i, none⟩ (.bool v)).frozen? ⟨b, 0, none⟩ = false ∧
      Hid (RSet ((w3.setCell ⟨h3, i, none⟩ (.bool v)).setCell ⟨b, 0, none⟩ (.slice (some ⟨h3, 0, none⟩) m c3)) b h3 c3 m (M.put f i v) ∧ w.heap.size ≤ h3 ∧ Kept (fun k => k = b) w ((w3.setCell ⟨h3, i, none⟩ (.bool v)).setCell ⟨b, 0, none⟩ (.slice (some ⟨h3, 0, none⟩) m c3))) := by
  have hbl := h.box.lt
  rcases hown.2 with ⟨e, _⟩ | ⟨g', cap', cur, e, h1, h2, hc3, h4, h5, h6⟩
  · cases e
  · injection e with e1 e2 e3
    injection e1 with e1
    injection e1 with e1
    subst e1
    subst e3
    have hB3 : Box w3 h3 4 cur := h2
    have hcur : ∀ j, j < m → cur[j]? = some (.bool (f j)) := fun j hj => by
      have : (cur.toList.take (m * 1))[j]? = some (.bool (f j)) := by rw [h6]; exact M.bools_at m f j hj
      rw [List.getElem?_take_of_lt (by omega)] at this
      simpa using this
    have hbb : Box w3 b 42 #[.slice (some ⟨g, 0, none⟩) m c] := hk.box h.box (fun h => h)
    have hne : b ≠ h3 := by omega
    have hbs : Box (w3.setCell ⟨h3, i, none⟩ (.bool v)) b 42 #[.slice (some ⟨g, 0, none⟩) m c] := (Below.heap_setCell w3 ⟨h3, i, none⟩ _ b hne).trans hbb
    have hB4 := hB3.set i (.bool v)
    have hB5 : Box ((w3.setCell ⟨h3, i, none⟩ (.bool v)).setCell ⟨b, 0, none⟩ (.slice (some ⟨h3, 0, none⟩) m c3)) h3 4 (cur.setIfInBounds i (.bool v)) := (Below.heap_setCell _ ⟨b, 0, none⟩ _ h3 (Ne.symm hne)).trans hB4
    refine ⟨(hB3.cell i).trans (hcur i hi), hB3.frozen i, (hbs.cell 0).trans rfl, hbs.frozen 0, ⟨by simpa using hbs.set 0 (.slice (some ⟨h3, 0, none⟩) m c3), ⟨_, hB5, fun j hj => ?_⟩, hc3, h.le, h.low.put hi v, hne⟩, h1, ?_⟩
    · rw [Array.getElem?_setIfInBounds]
      by_cases e : i = j
      · subst e
        have : i < cur.size := (Array.getElem?_eq_some_iff.1 (hcur i hi)).1
        rw [if_pos rfl, if_pos this, M.put_same]
      · rw [if_neg e, M.put_other f v (Ne.symm e)]
        exact hcur j hj
    · exact Kept.set (P := fun k => k = b) (Kept.set (P := fun k => k = b) (hk.mono (fun _ _ h => h.elim)) (fun hh => absurd hh (by omega)) i _) (fun _ => rfl) 0 _

theorem refPut_out (i : Int) (v : Bool) (w : World) (h : RSet w b g c m f) (hi : i < 0 ∨ (m : Int) ≤ i) :
    Calls Try.prog 11 #[.pointer (some ⟨b, 0, none⟩), .int .i64 i, .bool v] w fun e w' => e = .returned (.bool false) ∧ w' = w := by
  have h0 := h.c0
  clear h
  by_cases hn : i < 0
  · have hd : decide (i < 0) = true := by simpa using hn
    clear hn hi
    go_enter Try.func11, Try.ntmps11
    go_wp2_with fail
    go_ret
    exact ⟨rfl, rfl⟩
  · have hd : decide (i < 0) = false := by simpa using hn
    have hd2 : decide ((m : Int) ≤ i) = true := by simpa using hi.resolve_left hn
    clear hn hi
    go_enter Try.func11, Try.ntmps11
    go_wp2_with fail
    go_ret
    exact ⟨rfl, rfl⟩
theorem refPut_same (i : Nat) (v : Bool) (w : World) (h : RSet w b g c m f) (hi : i < m) (hf : f i = v) :
    Calls Try.prog 11 #[.pointer (some ⟨b, 0, none⟩), .int .i64 i, .bool v] w fun e w' => e = .returned (.bool false) ∧ w' = w := by
  have h0 := h.c0
  have h1 := h.c1 i hi
  rw [hf] at h1
  have hd : decide ((i : Int) < 0) = false := by simp
  have hd2 : decide ((m : Int) ≤ (i : Int)) = false := by simp; omega
  have hj0 : (0 : Int) ≤ (i : Int) := by omega
  have hj1 : (i : Int) < (m : Int) := by omega
  have hvv : (v == v) = true := by simp
  clear h hf
  go_enter Try.func11, Try.ntmps11
  go_wp2_with fail
  go_ret
  exact ⟨rfl, rfl⟩

set_option maxHeartbeats 1000000 in
theorem refPut_new (i : Nat) (v : Bool) (w : World) (h : RSet w b g c m f) (hi : i < m) (hf : f i = !v) :
    Calls Try.prog 11 #[.pointer (some ⟨b, 0, none⟩), .int .i64 i, .bool v] w fun e w' => e = .returned (.bool true) ∧
      (∃ g' c', RSet w' b g' c' m (M.put f i v) ∧ w.heap.size ≤ g') ∧ Kept (fun k => k = b) w w' := by
  obtain ⟨i0, hii, hz0, hz1, hz2⟩ := info_parts infoB
  have h0 := h.c0
  have h1 := h.c1 i hi
  rw [hf] at h1
  have hm := h.le
  have hd : decide ((i : Int) < 0) = false := by simp
  have hd2 : decide ((m : Int) ≤ (i : Int)) = false := by simp; omega
  have hj0 : (0 : Int) ≤ (i : Int) := by omega
  have hj1 : (i : Int) < (m : Int) := by omega
  have hvv : ((!v) == v) = false := by cases v <;> rfl
  have HR := Lib.hid h
  have hca : (w.alloc (.cells #[] 4)).cell? ⟨b, 0, none⟩ = some (.slice (some ⟨g, 0, none⟩) m c) := (World.cell?_of_block (Below.heap_alloc _ _ _ h.box.lt)).trans h0
  have HN : Hid (∀ j u, (M.bools m f)[j]? = some u → (w.alloc (.cells #[] 4)).cell? ((⟨g, 0, none⟩ : Addr).add j) = some u) := fun j u hj => by
    have hjm : j < m := by
      have := (List.getElem?_eq_some_iff.1 hj).1
      simpa [M.bools] using this
    rw [M.bools_at m f j hjm] at hj
    injection hj with hj
    rw [← hj, blk_add]
    exact (World.cell?_of_block (Below.heap_alloc _ _ _ h.glt)).trans (h.c1 j hjm)
  have HLn : Hid ((M.bools m f).length = m * 1) := by simp [Hid, M.bools]
  have HOn : Hid (∀ u ∈ M.bools m f, u.oneCell' = true) := fun u hu => by
    obtain ⟨j, _, rfl⟩ := List.mem_map.1 hu
    rfl
  have HO := Lib.hid (own_none w 4)
  have HK0 : Hid (Kept (fun _ => False) w (w.alloc (.cells #[] 4))) := (Kept.refl _ w).alloc _
  clear h hf
  go_enter Try.func11, Try.ntmps11
  go_wp2_with (at_builtin; refine wpList_append_lies _ rfl _ _ 40 rfl w.heap.size 4 i0 (.bool false) 1 1 Try.underlying40 hii hz0 hz1 hz2 rfl (by decide) _ _ _ rfl HO.out ⟨g, 0, none⟩ m c (M.bools m f) rfl HLn.out HN.out HOn.out (by omega) (by unfold maxLen; omega) (by omega) (by simp) _ rfl ?_
               intro h3 c3 w3 hown3 hgrow3 _ _
               rw [Nat.zero_add] at hown3
               rw [Nat.zero_add]
               have hk3 := HK0.out.grown hgrow3 (fun q e hq => absurd hq (by have := (HO.out.lt q e).1; omega))
               obtain ⟨p1, p2, p3, p4, HX⟩ := HR.out.put_end hown3 hk3 i hi v
               clear hown3 hgrow3 hk3 h0 h1 hca)
  go_ret
  exact ⟨rfl, ⟨_, _, HX.out.1, HX.out.2.1⟩, HX.out.2.2⟩

/-- What Put answers. -/
def M.putB (m : Nat) (f : Nat → Bool) (i : Int) (v : Bool) : Bool := decide (0 ≤ i) && decide (i < (m : Int)) && (f i.toNat != v)
theorem M.putB_true (m : Nat) (f : Nat → Bool) (i : Int) : M.putB m f i true = M.addB m f i := by
  unfold M.putB M.addB
  cases f i.toNat <;> simp
theorem M.putB_false {m : Nat} {f : Nat → Bool} (h : M.Below m f) (i : Int) : M.putB m f i false = M.hasI f i := by
  by_cases hi : i < 0 ∨ (m : Int) ≤ i
  · rw [M.hasI_out h hi]
    unfold M.putB
    rcases hi with hi | hi
    · have : ¬ 0 ≤ i := by omega
      simp [this]
    · have : ¬ i < (m : Int) := by omega
      simp [this]
  · unfold M.putB M.hasI
    have h1 : i < (m : Int) := by omega
    simp [h1]
theorem refPut_any (i : Int) (v : Bool) (w : World) (h : RSet w b g c m f) :
    Calls Try.prog 11 #[.pointer (some ⟨b, 0, none⟩), .int .i64 i, .bool v] w fun e w' => e = .returned (.bool (M.putB m f i v)) ∧
      (∃ g' c', RSet w' b g' c' m (M.putI m f i v) ∧ (g' = g ∨ w.heap.size ≤ g')) ∧ Kept (fun k => k = b) w w' := by
  by_cases hi : i < 0 ∨ (m : Int) ≤ i
  · have e : M.putB m f i v = false := by
      unfold M.putB
      rcases hi with hi | hi
      · have : ¬ 0 ≤ i := by omega
        simp [this]
      · have : ¬ i < (m : Int) := by omega
        simp [this]
    rw [e, M.putI_out m f i v hi]
    refine (refPut_out i v w h hi).mono ?_
    rintro e w' ⟨rfl, rfl⟩
    exact ⟨rfl, ⟨g, c, h, Or.inl rfl⟩, Kept.refl _ _⟩
  · obtain ⟨j, rfl⟩ : ∃ j : Nat, i = j := ⟨i.toNat, by omega⟩
    have hj : j < m := by omega
    have e : M.putB m f (j : Int) v = (f j != v) := by
      unfold M.putB
      have h2 : (j : Int) < (m : Int) := by omega
      simp [h2]
    rw [e, M.putI_in m f j v hj]
    by_cases hf : f j = v
    · have e2 : (f j != v) = false := by simp [hf]
      rw [e2, M.put_id f j v hf]
      refine (refPut_same j v w h hj hf).mono ?_
      rintro e w' ⟨rfl, rfl⟩
      exact ⟨rfl, ⟨g, c, h, Or.inl rfl⟩, Kept.refl _ _⟩
    · have hf' : f j = !v := by cases hh : f j <;> cases hv : v <;> simp_all
      have e2 : (f j != v) = true := by simp [hf]
      rw [e2]
      refine (refPut_new j v w h hj hf').mono ?_
      rintro e w' ⟨rfl, ⟨g', c', h1, h2⟩, h3⟩
      exact ⟨rfl, ⟨g', c', h1, Or.inr h2⟩, h3⟩

theorem M.next_at {a : Int} {i : Nat} (hi : i < (M.nums m f).length) (ha : a ≤ ((M.nums m f)[i]'hi : Nat)) (hn : ∀ j (hj : j < (M.nums m f).length), j < i → (((M.nums m f)[j]'hj : Nat) : Int) < a) : M.next m f a = some ((M.nums m f)[i]'hi) := by
  have hmem := M.nums_mem.1 (List.getElem_mem hi)
  refine M.next_some hmem.1 hmem.2 ha (fun k hk hf => ?_)
  obtain ⟨j, hj, rfl⟩ := List.getElem_of_mem (M.nums_mem.2 ⟨Nat.lt_trans hk hmem.1, hf⟩)
  refine hn j hj ?_
  rcases Nat.lt_trichotomy j i with h | h | h
  · exact h
  · subst h; exact absurd hk (Nat.lt_irrefl _)
  · exact absurd (M.nums_rise hj h) (by omega)
theorem M.next_first {a : Int} (h0 : 0 < (M.nums m f).length) (hn : ∀ j (hj : j < (M.nums m f).length), (((M.nums m f)[j]'hj : Nat) : Int) < a) : M.next m f a = some ((M.nums m f)[0]'h0) := by
  have hmem := M.nums_mem.1 (List.getElem_mem h0)
  refine M.next_round (fun k hk hf => ?_) hmem.1 hmem.2 (fun k hk => ?_)
  · obtain ⟨j, hj, rfl⟩ := List.getElem_of_mem (M.nums_mem.2 ⟨hk, hf⟩)
    exact hn j hj
  · cases hf : f k with
    | false => rfl
    | true =>
      obtain ⟨j, hj, rfl⟩ := List.getElem_of_mem (M.nums_mem.2 ⟨Nat.lt_trans hk hmem.1, hf⟩)
      rcases Nat.lt_trichotomy j 0 with h | h | h
      · omega
      · subst h; exact absurd hk (Nat.lt_irrefl _)
      · exact absurd (M.nums_rise hj h) (by omega)
theorem M.next_no {a : Int} (h0 : (M.nums m f).length = 0) : M.next m f a = none := by
  refine M.next_none (fun k hk => ?_)
  cases hf : f k with
  | false => rfl
  | true =>
    have := M.nums_mem.2 (And.intro hk hf)
    rw [List.eq_nil_of_length_eq_zero h0] at this
    cases this

set_option maxHeartbeats 1000000 in
theorem refNext_any (a : Int) (w : World) (h : RSet w b g c m f) :
    Calls Try.prog 14 #[.pointer (some ⟨b, 0, none⟩), .int .i64 a] w fun e w' => e = .returned (.tuple #[.int .i64 (M.num (M.next m f a)), .bool (M.next m f a).isSome]) ∧ Below w.heap.size w w' := by
  have HA := Lib.hid (refAll_any w h)
  have hm := h.le
  clear h
  obtain ⟨o, ho⟩ : ∃ o, o = M.next m f a := ⟨_, rfl⟩
  rw [← ho]
  have HO := Lib.hid ho
  clear ho
  go_enter Try.func14, Try.ntmps14
  go_wp2_with fail
  refine HA.out.mono ?_
  rintro e w1 ⟨⟨v, rfl, hv⟩, hb1⟩
  obtain ⟨A, cap, rfl, _, hc⟩ := hv.parts
  have HC := Lib.hid hc
  have HB := Lib.hid hb1
  clear hv hc hb1 HA
  have hlen := M.nums_len m f
  obtain ⟨len, hl⟩ : ∃ len, len = (M.nums m f).length := ⟨_, rfl⟩
  rw [← hl] at hlen
  rw [← hl]
  have HL := Lib.hid hl
  clear hl
  go_wp2_with fail
  go_loopw [7] (fun i wr => ∃ k : Nat, k ≤ len ∧ i = .int .i64 k ∧ (∀ j (hj : j < (M.nums m f).length), j < k → (((M.nums m f)[j]'hj : Nat) : Int) < a) ∧ wr = w1) (fun i _ => len - (intOf i).toNat)
  case atStart => exact ⟨0, Nat.zero_le _, rfl, fun j _ hj => absurd hj (by omega), rfl⟩
  case round =>
    obtain ⟨k, hk, rfl, hall, rfl⟩ := hrel
    have HK := Lib.hid hall
    clear hall
    by_cases hlt : k < len
    · have hlt' : (k : Int) < (len : Int) := by omega
      have hk0 : (0 : Int) ≤ (k : Int) := by omega
      have hkl : k < (M.nums m f).length := by rw [← HL.out]; exact hlt
      obtain ⟨g1, rfl, hcell⟩ := HC.out k hkl
      obtain ⟨x, hx⟩ : ∃ x, x = (M.nums m f)[k]'hkl := ⟨_, rfl⟩
      rw [← hx] at hcell
      have HX := Lib.hid hx
      clear hx
      by_cases ha : a ≤ (x : Int)
      · have HE : Hid (o = some x) := by
          have h2 := M.next_at hkl (by rw [← HX.out]; exact ha) (fun j hj hjk => HK.out j hj hjk)
          rw [← HX.out] at h2
          exact HO.out.trans h2
        go_wp2_with fail
        go_ret2
        rw [HE.out]
        exact ⟨rfl, HB.out⟩
      · have ha' : (x : Int) < a := by omega
        clear ha
        go_wp2_with fail
        go_roundw
        case rel => exact ⟨k + 1, by omega, by go_num, fun j hj hjk => by
          by_cases e : j = k
          · subst e; rw [← HX.out]; exact ha'
          · exact HK.out j hj (by omega), trivial⟩
        case measure => simp [intOf]; omega
    · have ek : k = len := by omega
      subst ek
      by_cases h0 : k = 0
      · have HE : Hid (o = none) := HO.out.trans (M.next_no (by rw [← HL.out]; exact h0))
        subst h0
        go_wp2_with fail
        go_ret2
        rw [HE.out]
        exact ⟨rfl, HB.out⟩
      · have hkl : 0 < (M.nums m f).length := by rw [← HL.out]; omega
        have HE : Hid (o = some ((M.nums m f)[0]'hkl)) := HO.out.trans (M.next_first hkl (fun j hj => HK.out j hj (by rw [HL.out]; exact hj)))
        obtain ⟨g1, rfl, hcell⟩ := HC.out 0 hkl
        obtain ⟨x, hx⟩ : ∃ x, x = (M.nums m f)[0]'hkl := ⟨_, rfl⟩
        rw [← hx] at hcell HE
        clear hx hkl
        have hk1 : (0 : Int) < (k : Int) := by omega
        have hk2 : ((k : Int) == 0) = false := by rw [beq_eq_false_iff_ne]; omega
        go_wp2_with fail
        go_ret2
        rw [HE.out]
        exact ⟨rfl, HB.out⟩
end
end Go.Proofs.Ytmgppfehgjildaa
