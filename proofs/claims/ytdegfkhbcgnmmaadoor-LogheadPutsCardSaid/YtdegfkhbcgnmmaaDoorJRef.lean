/-
  Walks over solderref10.Put and number.
-/
import Derived.Test.YtdegfkhbcgnmmaaDoorJPut
import Derived.Test.YtdegfkhbcgnmmaaDoorFRdF
import Derived.Deep.RegionHeld3
import Derived.Handy
namespace Go.Proofs.YtdegfkhbcgnmmaaDoor
open Go.RowKit

/-- A call that leaves the old blocks alone, in a region where more is held. -/
theorem Held.call {P : Program} {f : Nat} {args : Array Value} {x W : World} {v : Value} {S : World → Prop} (hS : Hid (∀ y, Below W.heap.size W y → S y)) (hb : Below W.heap.size W x)
    (h : Calls P f args x fun e y => e = .returned v ∧ Below x.heap.size x y) : Calls P f args x fun e y => e = .returned v ∧ Below W.heap.size W y ∧ S y :=
  h.mono fun _ y ⟨he, h1⟩ => have h2 : Below W.heap.size W y := hb.trans (h1.mono hb.size); ⟨he, h2, hS.out y h2⟩

set_option maxHeartbeats 1000000 in
theorem rput10_any (g q a : Int) (w : World) :
    Calls Tryd.prog 9 #[.agg #[.int .i64 g, .int .i64 q, .int .i64 a]] w fun e w' => e = .returned (M.hput ⟨g, q, a⟩) ∧ Below w.heap.size w w' := by
  have C0 := Lib.hid (fun x => rmay10_any g q a x)
  have HB := Lib.hid (below1 w (.cells #[.int .i64 g, .int .i64 q, .int .i64 a] 23))
  have HX := Lib.hid (B3.new w 23 g q a)
  unfold M.hput
  by_cases hm : M.hmay ⟨g, q, a⟩ = true
  · rw [if_pos hm]
    rw [hm] at C0
    obtain ⟨s1, s2, e1, e2, e3, z1, z2⟩ := M.hparts _ hm
    simp only at e1 e2 e3
    obtain ⟨⟨_, g9⟩, ⟨_, q9⟩, _, a9⟩ := (M.hmay_iff _).1 hm
    simp only at g9 q9 a9
    have C1 := Lib.hid (fun x => rput_any ⟨#[76]⟩ g 6 x (by decide) (by omega))
    have C2 := Lib.hid (fun x => rput_any s1 q 6 x (by omega) (by omega))
    have C3 := Lib.hid (fun x => rput_any s2 a 2 x (by omega) (by omega))
    have z3 := M.hfront_size ⟨g, q, a⟩
    have z4 := M.hsum_size ⟨g, q, a⟩
    have C4 := Lib.hid (fun x => rtail10 (M.hfront ⟨g, q, a⟩) x (by omega))
    have C5 := Lib.hid (fun x => rpad_any (M.hfront ⟨g, q, a⟩ ++ M.tail (M.hfront ⟨g, q, a⟩)) (by omega) x)
    rw [e1] at C1
    rw [e2] at C2
    rw [e3] at C3
    have z5 := M.tail_size (M.hfront ⟨g, q, a⟩)
    have HW : Hid (M.hwhole ⟨g, q, a⟩ = M.pad (M.hfront ⟨g, q, a⟩ ++ M.tail (M.hfront ⟨g, q, a⟩))) := rfl
    obtain ⟨s3, hs3⟩ : ∃ x, x = M.hfront ⟨g, q, a⟩ := ⟨_, rfl⟩
    rw [← hs3] at C3 C4 C5 HW z3 z5
    obtain ⟨s4, hs4⟩ : ∃ x, x = M.tail s3 := ⟨_, rfl⟩
    rw [← hs4] at C4 C5 HW z5
    obtain ⟨s5, hs5⟩ : ∃ x, x = M.pad (s3 ++ s4) := ⟨_, rfl⟩
    rw [← hs5] at C5 HW
    rw [HW.out]
    clear e1 e2 e3 hs3 hs4 hs5 z4 z1 z2 g9 q9 a9 hm
    go_enter Tryd.func9, Tryd.ntmps9
    go_wp2_with fail
    refine (C0.out _).mono ?_
    rintro e w1 ⟨rfl, hb1⟩
    have H1 := Lib.hid (HX.out.below hb1 HX.out.lt)
    have HB1 := Lib.hid (HB.out.trans (hb1.mono HB.out.size))
    clear hb1
    have HS : Hid (∀ y, Below w1.heap.size w1 y → y.cell? ⟨w.heap.size, 0, none⟩ = some (.int .i64 g) ∧ y.cell? ⟨w.heap.size, 1, none⟩ = some (.int .i64 q) ∧ y.cell? ⟨w.heap.size, 2, none⟩ = some (.int .i64 a)) := fun y hb => (H1.out.below hb H1.out.lt).cells
    have hb0 : Below w1.heap.size w1 w1 := Below.refl _ _
    have hS0 := HS.out w1 hb0
    go_wp2_with fail
    go_region_held3 (fun y => y.cell? ⟨w.heap.size, 0, none⟩ = some (.int .i64 g) ∧ y.cell? ⟨w.heap.size, 1, none⟩ = some (.int .i64 q) ∧ y.cell? ⟨w.heap.size, 2, none⟩ = some (.int .i64 a)) (first | assumption)
      (first
        | (go_at_call 19; with_reducible refine (Held.call HS (by first | assumption | exact Below.drew (by assumption)) (C1.out _)).mono ?_; rintro e w2 ⟨rfl, hb2, hS2⟩)
        | (go_at_call 19; with_reducible refine (Held.call HS (by first | assumption | exact Below.drew (by assumption)) (C2.out _)).mono ?_; rintro e w3 ⟨rfl, hb3, hS3⟩)
        | (go_at_call 19; with_reducible refine (Held.call HS (by first | assumption | exact Below.drew (by assumption)) (C3.out _)).mono ?_; rintro e w4 ⟨rfl, hb4, hS4⟩))
    have HB4 := Lib.hid (HB1.out.trans (hb4.mono HB1.out.size))
    go_wp2_with fail
    refine (C4.out _).mono ?_
    rintro e w5 ⟨rfl, hb5⟩
    have HB5 : Hid (Below w.heap.size w w5) := by show Below _ _ _; first | exact HB4.out.trans (hb5.mono HB4.out.size) | exact HB4.out.drew.trans (hb5.mono HB4.out.size)
    clear hb5
    go_wp2_with fail
    refine (C5.out _).mono ?_
    rintro e w6 ⟨rfl, hb6⟩
    subst hb6
    go_wp2_with fail
    go_ret2
    exact ⟨rfl, HB5.out⟩
  · rw [if_neg hm]
    have hm' : M.hmay ⟨g, q, a⟩ = false := by simpa using hm
    rw [hm'] at C0
    clear hm hm'
    go_enter Tryd.func9, Tryd.ntmps9
    go_wp2_with fail
    refine (C0.out _).mono ?_
    rintro e w1 ⟨rfl, hb1⟩
    have HB1 := Lib.hid (HB.out.trans (hb1.mono HB.out.size))
    clear hb1
    go_wp2_with fail
    go_ret2
    exact ⟨rfl, HB1.out⟩

theorem number10_any (s : ByteArray) (hs : s.size ≤ 6) (w : World) :
    Calls Tryd.prog 25 #[.string s] w fun e w' => e = .returned (.int .i64 (M.num s.data.toList : Nat)) ∧ w' = w := by
  go_enter Tryd.func25, Tryd.ntmps25
  go_wp2_with fail
  go_loop [3, 4] (fun v j => ∃ k : Nat, k ≤ s.size ∧ j = .int .i64 k ∧ v = .int .i64 (M.num (s.data.toList.take k) : Nat)) (fun _ j => s.size - (intOf j).toNat)
  case atStart => exact ⟨0, Nat.zero_le _, rfl, rfl⟩
  case round =>
    obtain ⟨k, hk, rfl, rfl⟩ := hrel
    have hq := num_take_lt s k (by omega) hk
    by_cases hlt : k < s.size
    · have HT : Hid (M.num (s.data.toList.take (k + 1)) = 256 * M.num (s.data.toList.take k) + (s[k]'hlt).toNat) := take_at s k hlt
      obtain ⟨c, hc⟩ : ∃ c, c = s[k]'hlt := ⟨_, rfl⟩
      rw [← hc] at HT
      have x0 : ∀ h : k < s.size, s[k]'h = c := fun _ => hc.symm
      have hcb := c.toNat_lt
      obtain ⟨q, hq'⟩ : ∃ q, q = M.num (s.data.toList.take k) := ⟨_, rfl⟩
      rw [← hq'] at hq HT
      rw [← hq']
      clear hq' hc
      go_wp2_with fail
      go_round
      case rel => exact ⟨k + 1, by omega, by go_num, by rw [HT.out]; go_num⟩
      case measure => simp [intOf]; omega
    · have e : s.data.toList.take k = s.data.toList := List.take_of_length_le (by rw [Array.length_toList]; exact Nat.not_lt.mp hlt)
      rw [e] at hq ⊢
      obtain ⟨q, hq'⟩ : ∃ q, q = M.num s.data.toList := ⟨_, rfl⟩
      rw [← hq'] at hq ⊢
      have HQ := Lib.hid hq'
      clear hq' e
      go_wp2_with fail
      go_ret
      refine ⟨?_, rfl⟩
      rw [← HQ.out]
      rfl
end Go.Proofs.YtdegfkhbcgnmmaaDoor
