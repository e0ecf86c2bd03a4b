/-
  Walks over ring.Drop and ring.Pop, at things that are ints.
-/
import Derived.Test.YtlpcjfjjfnnbcaaRPush
namespace Go.Proofs.Ytlpcjfjjfnnbcaa
open Go.RowKit

/-- The first thing is taken out. -/
theorem Ring.pop {w u : World} {b g most : Nat} {A : Option Addr} {ss : List Int} {f : Nat} {x : Int} {L : List Int} (h : Ring w b g most A ss f (x :: L)) (he : u.heap = (w.setCell ⟨g, f, none⟩ (.int .i64 0)).heap) :
    Ring ((u.setCell ⟨b, 1, none⟩ (.int .i64 (((f + 1) % ss.length : Nat) : Int))).setCell ⟨b, 2, none⟩ (.int .i64 (L.length : Nat))) b g most A (ss.set f 0) ((f + 1) % ss.length) L := by
  have hl := h.lies.le
  simp only [List.length_cons] at hl
  have hs : 0 < ss.length := by omega
  have hg := (h.full hs).2
  have hne := h.ne hs
  refine ⟨?_, Or.inr ⟨(h.full hs).1, ?_⟩, h.lies.pop 0, by rw [List.length_set]; exact h.le, h.most, fun _ => hne⟩
  · have h1 : Box u b 56 #[.slice A ss.length ss.length, .int .i64 f, .int .i64 (x :: L).length, .int .i64 most] := by
      unfold Box
      rw [he]
      exact (Below.heap_setCell _ _ _ _ (by simpa using hne)).trans h.box
    have h2 := (h1.set 1 (.int .i64 (((f + 1) % ss.length : Nat) : Int))).set 2 (.int .i64 (L.length : Nat))
    rw [List.length_set]
    simpa using h2
  · have h1 := hg.set f (.int .i64 0)
    rw [List.setIfInBounds_toArray, ← List.map_set] at h1
    unfold Box at h1
    rw [← he] at h1
    exact (Below.heap_setCell _ _ _ _ (by simpa using Ne.symm hne)).trans ((Below.heap_setCell _ _ _ _ (by simpa using Ne.symm hne)).trans h1)

/-- What Drop needs to know of a ring that holds a thing. -/
theorem Ring.popFacts {w : World} {b g most : Nat} {A : Option Addr} {ss : List Int} {f : Nat} {x : Int} {t : List Int} (h : Ring w b g most A ss f (x :: t)) :
    ∃ (z q : Nat) (y : Int), f < z ∧ z ≤ 1000 ∧ q < z ∧ w.cell? ⟨b, 0, none⟩ = some (.slice (some ⟨g, 0, none⟩) z z) ∧ w.cell? ⟨b, 1, none⟩ = some (.int .i64 f) ∧ w.cell? ⟨b, 2, none⟩ = some (.int .i64 ((t.length + 1 : Nat) : Int)) ∧ w.frozen? ⟨b, 1, none⟩ = false ∧ w.frozen? ⟨b, 2, none⟩ = false ∧
      w.cell? ⟨g, f, none⟩ = some (.int .i64 y) ∧ w.frozen? ⟨g, f, none⟩ = false ∧ b ≠ g ∧ t.length < 1000 ∧
      (∀ u : World, u.heap = (w.setCell ⟨g, f, none⟩ (.int .i64 0)).heap → Calls Try.prog 27 #[.pointer (some ⟨b, 0, none⟩), .int .i64 1] u fun e w' => e = .returned (.int .i64 (q : Nat)) ∧ ∃ m, w' = u.drewN m) ∧
      (∀ u : World, u.heap = (w.setCell ⟨g, f, none⟩ (.int .i64 0)).heap → Ring ((u.setCell ⟨b, 1, none⟩ (.int .i64 (q : Nat))).setCell ⟨b, 2, none⟩ (.int .i64 (t.length : Nat))) b g most A (ss.set f 0) q t) := by
  have hl := h.lies.le
  simp only [List.length_cons] at hl
  have hs : 0 < ss.length := by omega
  have hle := h.le
  have hm := h.most
  have hf := h.lies.f1 hs
  refine ⟨ss.length, (f + 1) % ss.length, ss[f]'hf, hf, by omega, Nat.mod_lt _ hs, ?_, h.box1, h.box2, h.box.frozen 1, h.box.frozen 2, h.cell (h.full hs).1 _ hf, (h.full hs).2.frozen _, h.ne hs, by omega, fun u he => ?_, fun u he => h.pop he⟩
  · rw [← (h.full hs).1]
    exact h.box0
  · have hb : Box u b 56 #[.slice A ss.length ss.length, .int .i64 f, .int .i64 (x :: t).length, .int .i64 most] := by
      unfold Box
      rw [he]
      exact (Below.heap_setCell _ _ _ _ (by simpa using h.ne hs)).trans h.box
    exact slotOf_box _ hb hs hf (by omega) 1 (by omega)

theorem drop_nil (n : Int) (w : World) : Calls Try.prog 14 #[.pointer none, .int .i64 n] w fun e w' => e = .returned (.int .i64 0) ∧ w' = w := by
  have hc : n < 0 ∨ n = 0 ∨ 0 < n := by omega
  rcases hc with h | rfl | h
  all_goals
    go_enter Try.func14, Try.ntmps14
    go_wp2_with fail
    refine (len_nil w).mono ?_
    rintro e w1 ⟨rfl, rfl⟩
    go_wp2_with fail
    go_loopw [12] (fun i wr => i = .int .i64 0 ∧ wr = w1) (fun _ _ => 0)
    case atStart => exact ⟨rfl, rfl⟩
    case round =>
      obtain ⟨rfl, rfl⟩ := hrel
      go_wp2_with fail
      go_ret
      exact ⟨rfl, rfl⟩
theorem drop_none (n : Int) (w : World) {b g most : Nat} {A : Option Addr} {ss : List Int} {f : Nat} {L : List Int} (hR : Ring w b g most A ss f L) (hn : n ≤ 0) :
    Calls Try.prog 14 #[.pointer (some ⟨b, 0, none⟩), .int .i64 n] w fun e w' => e = .returned (.int .i64 0) ∧ w' = w := by
  have HC := Lib.hid (len_any w hR)
  clear hR
  obtain ⟨k, hk⟩ : ∃ k, k = L.length := ⟨_, rfl⟩
  rw [← hk] at HC
  clear hk
  have hk0 : (0 : Int) ≤ (k : Int) := by omega
  have hc : n < 0 ∨ n = 0 := by omega
  clear hn
  have hkc : k = 0 ∨ 0 < (k : Int) := by omega
  rcases hc with h | rfl
  all_goals
    rcases hkc with rfl | hkc
  all_goals
    go_enter Try.func14, Try.ntmps14
    go_wp2_with fail
    refine HC.out.mono ?_
    rintro e w1 ⟨rfl, rfl⟩
    go_wp2_with fail
    go_loopw [12] (fun i wr => i = .int .i64 0 ∧ wr = w1) (fun _ _ => 0)
    case atStart => exact ⟨rfl, rfl⟩
    case round =>
      obtain ⟨rfl, rfl⟩ := hrel
      go_wp2_with fail
      go_ret
      exact ⟨rfl, rfl⟩

set_option maxRecDepth 100000 in
set_option maxHeartbeats 2000000 in
theorem drop_some (n : Int) (w : World) {b g most : Nat} {A : Option Addr} {ss : List Int} {f : Nat} {L : List Int} (hR : Ring w b g most A ss f L) (hn : 0 < n) :
    Calls Try.prog 14 #[.pointer (some ⟨b, 0, none⟩), .int .i64 n] w fun e w' => e = .returned (.int .i64 (M.few n L.length : Nat)) ∧
      (∃ ss' f', Ring w' b g most A ss' f' (L.drop (M.few n L.length))) ∧ Kept (fun k => k = b ∨ k = g) w w' := by
  have HC := Lib.hid (len_any w hR)
  have HR := Lib.hid hR
  have hm := hR.most
  have hle := hR.le
  have hll := hR.lies.le
  clear hR
  obtain ⟨k, hk⟩ : ∃ k, k = L.length := ⟨_, rfl⟩
  rw [← hk] at HC hll
  have HK := Lib.hid hk
  obtain ⟨c, hc⟩ : ∃ c, c = M.few n L.length := ⟨_, rfl⟩
  have hck : c ≤ k := by rw [hc, hk]; exact M.few_le _ _
  have hcc : (n = (c : Int) ∧ ¬ (k : Int) < (c : Int) ∧ ¬ k < c) ∨ ((k : Int) < n ∧ c = k) := by
    rw [hc, M.few, if_neg (by omega), ← hk]
    by_cases h : (k : Int) < n
    · rw [if_pos h]; exact Or.inr ⟨h, rfl⟩
    · rw [if_neg h]; exact Or.inl ⟨by omega, by omega, by omega⟩
  rw [← hc]
  clear hk hc
  rcases hcc with ⟨rfl, h1, h2⟩ | ⟨h1, rfl⟩
  all_goals
    go_enter Try.func14, Try.ntmps14
    go_wp2_with fail
    refine HC.out.mono ?_
    rintro e w1 ⟨rfl, rfl⟩
    go_wp2_with fail
    go_loopw [12] (fun i wr => ∃ j : Nat, j ≤ c ∧ i = .int .i64 j ∧ (∃ ss' f', Ring wr b g most A ss' f' (L.drop j)) ∧ Kept (fun k => k = b ∨ k = g) w1 wr) (fun i _ => c - (intOf i).toNat)
    case atStart => exact ⟨0, Nat.zero_le _, rfl, ⟨_, _, HR.out⟩, Kept.refl _ _⟩
    case round =>
      obtain ⟨j, hj, rfl, ⟨ss', f', hRj⟩, hkj⟩ := hrel
      have HRj := Lib.hid hRj
      have HKj := Lib.hid hkj
      clear hRj hkj HR HC
      by_cases hlt : j < c
      · have hlt' : (j : Int) < (c : Int) := by omega
        have hjl : j < L.length := by have := HK.out; omega
        obtain ⟨x, hx⟩ : ∃ x, x = L[j]'hjl := ⟨_, rfl⟩
        have HRj' := HRj
        rw [List.drop_eq_getElem_cons hjl, ← hx] at HRj'
        obtain ⟨z, q, y, hfz, hz, hqz, h0, h1, h2, f1, f2, hc, fc, hbg, ht, HS, HP⟩ := HRj'.out.popFacts
        have HS := Lib.hid HS
        have HP := Lib.hid HP
        obtain ⟨m, hm⟩ : ∃ m, m = (L.drop (j + 1)).length := ⟨_, rfl⟩
        rw [← hm] at h2 HP ht
        obtain ⟨m1, hm1⟩ : ∃ m1, m1 = m + 1 := ⟨_, rfl⟩
        rw [← hm1] at h2
        have x1' : (m1 : Int) - 1 = (m : Int) := by omega
        have hf0 : (0 : Int) ≤ (f' : Int) := by omega
        have hf1 : (f' : Int) < (z : Int) := by omega
        clear hx HRj' HRj hjl hm hm1
        go_wp2_with fail
        go_region_held3 (fun y => y.cell? ⟨b, 0, none⟩ = some (.slice (some ⟨g, 0, none⟩) z z) ∧ y.cell? ⟨b, 1, none⟩ = some (.int .i64 f')) (first | exact ⟨h0, h1⟩ | exact ⟨(cell_set_other (p := ⟨b, 0, none⟩) hbg).trans h0, (cell_set_other (p := ⟨b, 1, none⟩) hbg).trans h1⟩)
          (first | fail)
        rename_i hHeld
        obtain ⟨u, hu⟩ : ∃ u, u = (wr.setCell ⟨g, f', none⟩ (.int .i64 0)).drew := ⟨_, rfl⟩
        have he : u.heap = (wr.setCell ⟨g, f', none⟩ (.int .i64 0)).heap := by rw [hu]; rfl
        have HSu := Lib.hid (HS.out u he)
        have HPu : Hid (∀ m3, Ring (((u.drewN m3).setCell ⟨b, 1, none⟩ (.int .i64 (q : Nat))).setCell ⟨b, 2, none⟩ (.int .i64 (m : Nat))) b g most A (ss'.set f' 0) q (L.drop (j + 1))) := fun m3 => HP.out (u.drewN m3) he
        have HKu : Hid (Kept (fun k => k = b ∨ k = g) w1 u) := by rw [hu]; exact (HKj.out.set (fun _ => Or.inr rfl) f' _).drew
        have g1 : u.cell? ⟨b, 1, none⟩ = some (.int .i64 f') := by rw [hu]; exact (cell_set_other (p := ⟨b, 1, none⟩) hbg).trans h1
        have g2 : u.cell? ⟨b, 2, none⟩ = some (.int .i64 m1) := by rw [hu]; exact (cell_set_other (p := ⟨b, 2, none⟩) hbg).trans h2
        have e1 : u.frozen? ⟨b, 1, none⟩ = false := by rw [hu, frozen_drew_own, World.frozen?_setCell]; exact f1
        have e2 : u.frozen? ⟨b, 2, none⟩ = false := by rw [hu, frozen_drew_own, World.frozen?_setCell]; exact f2
        rw [← hu]
        clear hu he HS HP HKj h0 h1 h2 f1 f2 hc fc
        go_wp2_with fail
        refine HSu.out.mono ?_
        rintro e u2 ⟨rfl, m3, hu2⟩
        have HPv : Hid (Ring ((u2.setCell ⟨b, 1, none⟩ (.int .i64 (q : Nat))).setCell ⟨b, 2, none⟩ (.int .i64 (m : Nat))) b g most A (ss'.set f' 0) q (L.drop (j + 1))) := by rw [hu2]; exact HPu.out m3
        have HKv : Hid (Kept (fun k => k = b ∨ k = g) w1 u2) := by rw [hu2]; exact HKu.out.drewN m3
        have g1' : u2.cell? ⟨b, 1, none⟩ = some (.int .i64 f') := by rw [hu2]; exact g1
        have g2' : (u2.setCell ⟨b, 1, none⟩ (.int .i64 (q : Nat))).cell? ⟨b, 2, none⟩ = some (.int .i64 m1) := by
          rw [World.cell?_setCell_other _ _ _ _ (by simp), hu2]; exact g2
        have e1' : u2.frozen? ⟨b, 1, none⟩ = false := by rw [hu2]; exact e1
        have e2' : u2.frozen? ⟨b, 2, none⟩ = false := by rw [hu2]; exact e2
        clear hu2 HPu HKu g1 g2 e1 e2 hHeld
        go_wp2_with fail
        go_roundw
        case rel => exact ⟨j + 1, by omega, by go_num, ⟨_, _, HPv.out⟩, (HKv.out.set (fun _ => Or.inl rfl) 1 _).set (fun _ => Or.inl rfl) 2 _⟩
        case measure => simp [intOf]; omega
      · have e : j = c := by omega
        subst e
        go_wp2_with fail
        go_ret
        exact ⟨rfl, ⟨_, _, HRj.out⟩, HKj.out⟩

theorem drop_any (n : Int) (w : World) {b g most : Nat} {A : Option Addr} {ss : List Int} {f : Nat} {L : List Int} (hR : Ring w b g most A ss f L) :
    Calls Try.prog 14 #[.pointer (some ⟨b, 0, none⟩), .int .i64 n] w fun e w' => e = .returned (.int .i64 (M.few n L.length : Nat)) ∧
      (∃ ss' f', Ring w' b g most A ss' f' (L.drop (M.few n L.length))) ∧ Kept (fun k => k = b ∨ k = g) w w' := by
  by_cases h : 0 < n
  · exact drop_some n w hR h
  · have e : M.few n L.length = 0 := by
      unfold M.few
      split
      · rfl
      · rw [if_neg (by omega)]; omega
    rw [e]
    refine (drop_none n w hR (by omega)).mono ?_
    rintro e w' ⟨rfl, rfl⟩
    exact ⟨rfl, ⟨_, _, hR⟩, Kept.refl _ _⟩

theorem pop_nil (w : World) : Calls Try.prog 11 #[.pointer none] w fun e w' => e = .returned (.tuple #[.int .i64 0, .bool false]) ∧ w' = w := by
  go_enter Try.func11, Try.ntmps11
  go_wp2_with fail
  refine (at_nil 0 w).mono ?_
  rintro e w1 ⟨rfl, rfl⟩
  go_wp2_with fail
  refine (drop_nil 1 w1).mono ?_
  rintro e w2 ⟨rfl, rfl⟩
  go_wp2_with fail
  go_ret2
  exact ⟨rfl, rfl⟩
theorem pop_none (w : World) {b g most : Nat} {A : Option Addr} {ss : List Int} {f : Nat} (hR : Ring w b g most A ss f []) :
    Calls Try.prog 11 #[.pointer (some ⟨b, 0, none⟩)] w fun e w' => e = .returned (.tuple #[.int .i64 0, .bool false]) ∧
      (∃ ss' f', Ring w' b g most A ss' f' []) ∧ Kept (fun k => k = b ∨ k = g) w w' := by
  have HA := Lib.hid (at_none 0 w hR (Or.inr (by simp)))
  have HD := Lib.hid (fun n => drop_any 1 (w.drewN n) (hR.drewN n))
  clear hR
  go_enter Try.func11, Try.ntmps11
  go_wp2_with fail
  refine HA.out.mono ?_
  rintro e w1 ⟨rfl, n, rfl⟩
  go_wp2_with fail
  refine (HD.out n).mono ?_
  rintro e w2 ⟨rfl, hR2, hk2⟩
  have H2 := Lib.hid hR2
  have HK := Lib.hid hk2
  clear hR2 hk2
  go_wp2_with fail
  go_ret2
  exact ⟨rfl, by simpa using H2.out, ((Kept.refl _ w).drewN n).trans HK.out⟩
theorem pop_some (w : World) {b g most : Nat} {A : Option Addr} {ss : List Int} {f : Nat} {x : Int} {L : List Int} (hR : Ring w b g most A ss f (x :: L)) :
    Calls Try.prog 11 #[.pointer (some ⟨b, 0, none⟩)] w fun e w' => e = .returned (.tuple #[.int .i64 x, .bool true]) ∧
      (∃ ss' f', Ring w' b g most A ss' f' L) ∧ Kept (fun k => k = b ∨ k = g) w w' := by
  have HA : Hid (Calls Try.prog 15 #[.pointer (some ⟨b, 0, none⟩), .int .i64 0] w fun e w' => e = .returned (.tuple #[.int .i64 x, .bool true]) ∧ ∃ n, w' = w.drewN n) := at_some 0 w hR (by simp)
  have HD := Lib.hid (fun n => drop_any 1 (w.drewN n) (hR.drewN n))
  have e1 : M.few 1 (x :: L).length = 1 := by
    unfold M.few
    rw [if_neg (by omega), if_neg (by simp only [List.length_cons]; omega)]
    rfl
  rw [e1] at HD
  clear hR e1
  go_enter Try.func11, Try.ntmps11
  go_wp2_with fail
  refine HA.out.mono ?_
  rintro e w1 ⟨rfl, n, rfl⟩
  go_wp2_with fail
  refine (HD.out n).mono ?_
  rintro e w2 ⟨rfl, hR2, hk2⟩
  have H2 := Lib.hid hR2
  have HK := Lib.hid hk2
  clear hR2 hk2
  go_wp2_with fail
  go_ret2
  exact ⟨rfl, H2.out, ((Kept.refl _ w).drewN n).trans HK.out⟩
end Go.Proofs.Ytlpcjfjjfnnbcaa
