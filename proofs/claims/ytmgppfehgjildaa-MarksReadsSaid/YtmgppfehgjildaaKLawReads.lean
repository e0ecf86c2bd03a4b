/-
  Walk over solderlaw07.MarksReads.
-/
import Derived.Test.YtmgppfehgjildaaKNone
import Derived.Test.YtmgppfehgjildaaKRefRead
import Derived.Test.YtmgppfehgjildaaKSame
namespace Go.Proofs.Ytmgppfehgjildaa
open Go.RowKit

set_option maxHeartbeats 4000000 in
set_option maxRecDepth 100000 in
theorem marksReads_few (n : Int) (s : ByteArray) (w : World) (hs : s.size ≤ 3000) :
    Calls Try.prog 4 #[.int .i64 n, .string s] w fun e w' => e = .returned (.bool true) ∧ Below w.heap.size w w' := by
  have hd : decide ((3000 : Int) < (s.size : Int)) = false := by simp; omega
  have HR1 := Lib.hid (fun x => read_any n s x)
  have HR2 := Lib.hid (fun x => refRead_any n s x)
  obtain ⟨m, hm⟩ : ∃ m, m = M.most n := ⟨_, rfl⟩
  obtain ⟨l, hl⟩ : ∃ l, l = s.data.toList := ⟨_, rfl⟩
  rw [← hm, ← hl] at HR1 HR2
  obtain ⟨er, her⟩ : ∃ er, er = M.readE m l := ⟨_, rfl⟩
  unfold ReadPost at HR1
  unfold RReadPost at HR2
  rw [← her] at HR1 HR2
  have hee : (er == er) = true := by simp
  have hee2 : (er != er) = false := by simp
  clear hm hl her
  go_enter Try.func4, Try.ntmps4
  go_wp2_with fail
  refine (works_any w).mono ?_
  rintro e w1 ⟨rfl, hb1⟩
  have HB1 := Lib.hid hb1
  clear hb1
  go_wp2_with fail
  refine (HR1.out w1).mono ?_
  rintro e w2 ⟨p, rfl, hp1, hp0, hb2⟩
  have HP1 := Lib.hid hp1
  have HP0 := Lib.hid hp0
  have HB2 : Hid (Below w.heap.size w w2) := HB1.out.trans (hb2.mono HB1.out.size)
  clear hp1 hp0 hb2 HB1
  go_wp2_with fail
  refine (HR2.out w2).mono ?_
  rintro e w3 ⟨p', rfl, hq1, hq0, hb3⟩
  have HQ1 := Lib.hid hq1
  have HQ0 := Lib.hid hq0
  have HBW3 := Lib.hid hb3
  have HB3 : Hid (Below w.heap.size w w3) := HB2.out.trans (hb3.mono HB2.out.size)
  clear hq1 hq0 hb3
  by_cases h0 : er = 0
  · obtain ⟨a, rfl, _, hA⟩ := HP0.out h0
    obtain ⟨b, g, c, rfl, hRb⟩ := HQ0.out h0
    have HA3 := Lib.hid (hA.below HBW3.out hA.box.lt)
    have HRb := Lib.hid hRb
    have hm1 := hRb.le
    clear hA hRb HP1 HP0 HQ1 HQ0 h0 HBW3 HB2
    have HS : Hid (∀ y, Below w3.heap.size w3 y → Set y a m (M.bitAt l) ∧ RSet y b g c m (M.bitAt l)) := fun y hy => ⟨HA3.out.below hy HA3.out.box.lt, HRb.out.below hy⟩
    have hlen := M.nums_len m (M.bitAt l)
    have HT : Hid ((M.nums m (M.bitAt l)).take 2000 = M.nums m (M.bitAt l)) := List.take_of_length_le (by omega)
    have C1 : Hid (∀ x, Below w3.heap.size w3 x → Calls Try.prog 21 #[.pointer (some ⟨a, 0, none⟩), .int .i64 2000] x fun e y => (∃ v, e = .returned v ∧ Ints y v (M.nums m (M.bitAt l))) ∧ Below w3.heap.size w3 y ∧ y.cell? ⟨b, 0, none⟩ = some (.slice (some ⟨g, 0, none⟩) m c)) := fun x hx => by
      refine (all_some x (HS.out x hx).1 2000 (by omega)).mono ?_
      rintro e y ⟨⟨v, he, hv⟩, hb⟩
      rw [HT.out] at hv
      have hy := hx.trans (hb.mono hx.size)
      exact ⟨⟨v, he, hv⟩, hy, (HS.out y hy).2.c0⟩
    have C2 : Hid (∀ x u, Below w3.heap.size w3 x → Ints x u (M.nums m (M.bitAt l)) → Calls Try.prog 19 #[.pointer (some ⟨b, 0, none⟩)] x fun e y => (∃ v, e = .returned v ∧ Ints y v (M.nums m (M.bitAt l))) ∧ Ints y u (M.nums m (M.bitAt l)) ∧ Below w3.heap.size w3 y ∧ y.cell? ⟨b, 0, none⟩ = some (.slice (some ⟨g, 0, none⟩) m c)) := fun x u hx hu => by
      refine (refAll_any x (HS.out x hx).2).mono ?_
      rintro e y ⟨⟨v, he, hv⟩, hb⟩
      have hy := hx.trans (hb.mono hx.size)
      exact ⟨⟨v, he, hv⟩, hu.below hb, hy, (HS.out y hy).2.c0⟩
    have C3 : Hid (∀ x u v, Below w3.heap.size w3 x → Ints x u (M.nums m (M.bitAt l)) → Ints x v (M.nums m (M.bitAt l)) → Calls Try.prog 20 #[u, v] x fun e y => e = .returned (.bool true) ∧ Below w3.heap.size w3 y ∧ y.cell? ⟨b, 0, none⟩ = some (.slice (some ⟨g, 0, none⟩) m c)) := fun x u v hx hu hv => by
      refine (same_any x hu hv (by omega)).mono ?_
      rintro e y ⟨he, n, hn⟩
      have hy : Below w3.heap.size w3 y := by rw [hn]; exact below_drewN hx n
      exact ⟨he, hy, (HS.out y hy).2.c0⟩
    have C4 : Hid (∀ x, Below w3.heap.size w3 x → Calls Try.prog 23 #[.pointer (some ⟨a, 0, none⟩)] x fun e y => e = .returned (.int .i64 (m : Nat)) ∧ Below w3.heap.size w3 y ∧ y.cell? ⟨b, 0, none⟩ = some (.slice (some ⟨g, 0, none⟩) m c)) := fun x hx => by
      refine (many_any x (HS.out x hx).1).mono ?_
      rintro e y ⟨he, rfl⟩
      exact ⟨he, hx, (HS.out _ hx).2.c0⟩
    have hb0 : Below w3.heap.size w3 w3 := Below.refl _ _
    have hS0 := (HS.out w3 hb0).2.c0
    have hmm : ((m : Int) == (m : Int)) = true := by simp
    clear HA3 HRb HT hlen HS
    go_wp2_with fail
    go_region_held3 (fun y => y.cell? ⟨b, 0, none⟩ = some (.slice (some ⟨g, 0, none⟩) m c)) (first | assumption)
      (first
        | (go_at_call 21; refine (C1.out _ (by first | assumption | exact Below.drew (by assumption))).mono ?_; rintro e w4 ⟨⟨v4, rfl, hv4⟩, hb4, hS4⟩)
        | (go_at_call 19; refine (C2.out _ _ (by first | assumption | exact Below.drew (by assumption)) hv4).mono ?_; rintro e w5 ⟨⟨v5, rfl, hv5⟩, hu5, hb5, hS5⟩)
        | (go_at_call 20; refine (C3.out _ _ _ (by first | assumption | exact Below.drew (by assumption)) hu5 hv5).mono ?_; rintro e w6 ⟨rfl, hb6, hS6⟩)
        | (go_at_call 23; refine (C4.out _ (by first | assumption | exact Below.drew (by assumption))).mono ?_; rintro e w7 ⟨rfl, hb7, hS7⟩))
    all_goals (have HB7 : Hid (Below w.heap.size w w7) := HB3.out.trans (hb7.mono HB3.out.size); clear hb0 hb4 hb5 hb6 hb7 hS0 hS4 hS5 hS6 hS7 hv4 hv5 hu5)
    all_goals go_wp2_with fail
    all_goals go_ret
    all_goals exact ⟨rfl, HB7.out⟩
  · obtain rfl := HP1.out h0
    obtain rfl := HQ1.out h0
    clear h0 HP1 HP0 HQ1 HQ0 HBW3 HB2
    go_wp2_with fail
    go_quiet (fail)
    go_wp2_with fail
    go_ret
    exact ⟨rfl, below_drewN HB3.out _⟩

theorem marksReads_walk (n : Int) (_n0 : -9223372036854775808 ≤ n) (_n9 : n ≤ 9223372036854775807) (s : ByteArray) (w : World) :
    Calls Try.prog 4 #[.int .i64 n, .string s] w fun e w' => e = .returned (.bool true) ∧ Below w.heap.size w w' := by
  by_cases hl : s.size ≤ 3000
  · exact marksReads_few n s w hl
  · have hd : decide ((3000 : Int) < (s.size : Int)) = true := by simp; omega
    go_enter Try.func4, Try.ntmps4
    go_wp2_with fail
    refine (works_any _).mono ?_
    rintro e w1 ⟨rfl, hb1⟩
    have HB1 := Lib.hid hb1
    clear hb1
    go_wp2_with fail
    go_ret
    exact ⟨rfl, HB1.out⟩
end Go.Proofs.Ytmgppfehgjildaa
