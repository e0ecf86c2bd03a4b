/-
  Walk over solderlaw08.works.
-/
import Derived.Test.YtjmkpjapagfdlaaDCalm
import Derived.Test.YtjmkpjapagfdlaaDNils
import Derived.Deep.RegionWith
namespace Go.Proofs.Ytjmkpjapagfdlaa
open Go.RowKit Go.Maps

/-- A disk, and a row of bytes beside it. -/
structure DkM (R : Array Value) (w y : World) (N b B : Nat) (d : M.D) : Prop where
  dk : Dk w y N b (fun k => N ≤ k ∧ k ≠ B) d
  row : Box y B 5 R
  lt : N ≤ B
theorem Dk.made {R : Array Value} {w y : World} {N b : Nat} {d : M.D} (h : Dk w y N b (fun k => N ≤ k) d) : DkM R w (y.alloc (.cells R 5)) N b y.heap.size d :=
  ⟨⟨(h.disk.mono (fun k hk e => ⟨e, by omega⟩)).kept ((Kept.refl (fun _ => False) y).alloc _) (fun _ _ => id), fun k e => e.1, fun k hk => by rw [World.size_alloc] at hk; have := h.le; exact ⟨by omega, by omega⟩, h.below.alloc h.le _, by rw [World.size_alloc]; exact Nat.le_trans h.le (Nat.le_succ _)⟩, Box.new _ _ _, h.le⟩
theorem DkM.out {R : Array Value} {w y : World} {N b B : Nat} {d : M.D} (h : DkM R w y N b B d) : Dk w y N b (fun k => N ≤ k) d :=
  ⟨h.dk.disk.mono (fun _ _ e => e.1), fun _ e => e, fun k hk => (h.dk.up k hk).1, h.dk.below, h.dk.le⟩
theorem DkM.drew {R : Array Value} {w y : World} {N b B : Nat} {d : M.D} (h : DkM R w y N b B d) : DkM R w y.drew N b B d := ⟨h.dk.drew, h.row, h.lt⟩

/-- What works() writes. -/
def M.text : ByteArray := M.zeros 63 ++ ⟨#[120]⟩
theorem M.text_size : M.text.size = 64 := by decide
def M.d1 : M.D := M.writeC (M.new 2) 1 M.text
def M.d2 : M.D := M.flushC M.d1
def M.d3 : M.D := M.writeC M.d2 1 M.zero
def M.d4 (f : Nat → Bool) : M.D := M.restartD M.d3 f
theorem M.d1_is : M.d1 = ⟨[M.zero, M.zero], [(1, M.text)], 1, [], 0, false⟩ := by
  have : M.wrong (M.new 2).S.length 1 M.text = 0 := by decide
  unfold M.d1 M.writeC
  rw [if_pos this]
  rfl
theorem M.d2_is : M.d2 = ⟨[M.zero, M.text], [], 2, [], 0, false⟩ := by
  unfold M.d2
  rw [M.d1_is]
  rfl
theorem M.d3_is : M.d3 = ⟨[M.zero, M.text], [(1, M.zero)], 3, [], 0, false⟩ := by
  have : M.wrong 2 1 M.zero = 0 := by decide
  unfold M.d3
  rw [M.d2_is]
  unfold M.writeC
  show (if M.wrong 2 1 M.zero = 0 then _ else _) = _
  rw [if_pos this]
  rfl
theorem M.d4_is (z : Nat → Int) : M.d4 (M.odd 0 z) = ⟨[M.zero, M.text], [], 3, [], 0, false⟩ := by
  unfold M.d4
  rw [M.d3_is]
  rfl

section
variable {R : Array Value} {w y : World} {N b B : Nat}
theorem w1 (h : Dk w y N b (fun k => N ≤ k) (M.new 2)) : Calls Try.prog 17 #[.pointer (some ⟨b, 0, none⟩), .int .i64 1, .string M.text] y fun e y' => e = .returned (.int .i64 0) ∧ Dk w y' N b (fun k => N ≤ k) M.d1 :=
  (kwrite h (M.calm_new 2) (by decide) 1 M.text).mono fun e y' ⟨h1, h2, _⟩ => ⟨h1.trans (by rw [show M.wrong (M.new 2).S.length 1 M.text = 0 by decide]), h2⟩
theorem w1M (h : DkM R w y N b B (M.new 2)) : Calls Try.prog 17 #[.pointer (some ⟨b, 0, none⟩), .int .i64 1, .string M.text] y fun e y' => e = .returned (.int .i64 0) ∧ DkM R w y' N b B M.d1 :=
  (kwrite h.dk (M.calm_new 2) (by decide) 1 M.text).mono fun e y' ⟨h1, h2, h3⟩ => ⟨h1.trans (by rw [show M.wrong (M.new 2).S.length 1 M.text = 0 by decide]), h2, h3.box h.row (fun e => e.2 rfl), h.lt⟩
theorem calm1 : M.Calm M.d1 := (M.calm_new 2).write _ _
theorem calm2 : M.Calm M.d2 := calm1.flush
theorem w2 (h : Dk w y N b (fun k => N ≤ k) M.d1) : Calls Try.prog 18 #[.pointer (some ⟨b, 0, none⟩)] y fun e y' => e = .returned (.int .i64 0) ∧ Dk w y' N b (fun k => N ≤ k) M.d2 :=
  (kflush h calm1 (by rw [M.d1_is]; decide)).mono fun e y' ⟨h1, h2, _⟩ => ⟨h1, h2⟩
theorem w2M (h : DkM R w y N b B M.d1) : Calls Try.prog 18 #[.pointer (some ⟨b, 0, none⟩)] y fun e y' => e = .returned (.int .i64 0) ∧ DkM R w y' N b B M.d2 :=
  (kflush h.dk calm1 (by rw [M.d1_is]; decide)).mono fun e y' ⟨h1, h2, h3⟩ => ⟨h1, h2, h3.box h.row (fun e => e.2 rfl), h.lt⟩
theorem w3 (h : Dk w y N b (fun k => N ≤ k) M.d2) : Calls Try.prog 17 #[.pointer (some ⟨b, 0, none⟩), .int .i64 1, .string M.zero] y fun e y' => e = .returned (.int .i64 0) ∧ Dk w y' N b (fun k => N ≤ k) M.d3 :=
  (kwrite h calm2 (by rw [M.d2_is]; decide) 1 M.zero).mono fun e y' ⟨h1, h2, _⟩ => ⟨h1.trans (by rw [M.d2_is, show M.wrong _ 1 M.zero = 0 by decide]), h2⟩
theorem w4 (h : Dk w y N b (fun k => N ≤ k) M.d3) : Calls Try.prog 15 #[.pointer (some ⟨b, 0, none⟩), .slice none 0 0] y fun e y' => e = .returned (.tuple #[]) ∧ Dk w y' N b (fun k => N ≤ k) (M.d4 (M.odd 0 (fun _ => 0))) :=
  (krestart h (by rw [M.d3_is]; decide) none 0 0 (fun _ => 0) (fun i hi => absurd hi (by omega)) (fun h => absurd h (by omega))).mono fun e y' ⟨h1, h2, _⟩ => ⟨h1, h2⟩
theorem w5 (h : Dk w y N b (fun k => N ≤ k) (M.d4 (M.odd 0 (fun _ => 0)))) : Calls Try.prog 19 #[.pointer (some ⟨b, 0, none⟩), .int .i64 1] y fun e y' => e = .returned (.tuple #[.string M.text, .int .i64 0]) ∧ Dk w y' N b (fun k => N ≤ k) (M.readC (M.d4 (M.odd 0 (fun _ => 0)))) := by
  have h1 := kread h (M.calm_restart _ _) (by rw [M.d4_is]; decide) 1 (by rw [M.d4_is]; decide)
  rw [show M.seen (M.d4 (M.odd 0 (fun _ => 0))).S (M.d4 (M.odd 0 (fun _ => 0))).L 1 = M.text by rw [M.d4_is]; rfl] at h1
  exact h1.mono fun e y' ⟨h1, h2, _⟩ => ⟨h1, h2⟩
theorem w6 (h : Dk w y N b (fun k => N ≤ k) (M.readC (M.d4 (M.odd 0 (fun _ => 0))))) : (Calls Try.prog 14 #[.pointer (some ⟨b, 0, none⟩)] y fun e y' => e = .returned (.int .i64 2) ∧ y' = y) ∧
    (Calls Try.prog 11 #[.pointer (some ⟨b, 0, none⟩)] y fun e y' => e = .returned (.int .i64 4) ∧ y' = y) := by
  have h1 := ksectors h
  have h2 := kops h
  rw [M.d4_is] at h1 h2
  exact ⟨h1, h2⟩
end

/-- What works() makes use of, the texts and the disks by names of their own. -/
theorem works_parts : ∃ (R : Array Value) (q z : ByteArray) (d0 d1 d2 d3 d4 d5 : M.D),
    (q.size = 63 ∧ ∀ W : World, Sem.run Try.prog (convert 41 9 (.slice (some ⟨W.heap.size, 0, none⟩) 63 63)) (W.alloc (.cells (M.nils 63) 5)) = .ok (.string q) (W.alloc (.cells (M.nils 63) 5))) ∧
    (∀ w y : World, Below w.heap.size w y → Calls Try.prog 8 #[.int .i64 2] y fun e y' => ∃ b, e = .returned (.pointer (some ⟨b, 0, none⟩)) ∧ Dk w y' w.heap.size b (fun k => w.heap.size ≤ k) d0) ∧
    (∀ (w y : World) (N b : Nat), Dk w y N b (fun k => N ≤ k) d0 → Calls Try.prog 17 #[.pointer (some ⟨b, 0, none⟩), .int .i64 1, .string (q ++ (⟨#[120]⟩ : ByteArray))] y fun e y' => e = .returned (.int .i64 0) ∧ Dk w y' N b (fun k => N ≤ k) d1) ∧
    (∀ (w y : World) (N b B : Nat), DkM R w y N b B d0 → Calls Try.prog 17 #[.pointer (some ⟨b, 0, none⟩), .int .i64 1, .string (q ++ (⟨#[120]⟩ : ByteArray))] y fun e y' => e = .returned (.int .i64 0) ∧ DkM R w y' N b B d1) ∧
    (∀ (w y : World) (N b : Nat), Dk w y N b (fun k => N ≤ k) d1 → Calls Try.prog 18 #[.pointer (some ⟨b, 0, none⟩)] y fun e y' => e = .returned (.int .i64 0) ∧ Dk w y' N b (fun k => N ≤ k) d2) ∧
    (∀ (w y : World) (N b B : Nat), DkM R w y N b B d1 → Calls Try.prog 18 #[.pointer (some ⟨b, 0, none⟩)] y fun e y' => e = .returned (.int .i64 0) ∧ DkM R w y' N b B d2) ∧
    (∀ (w y : World) (N b : Nat), Dk w y N b (fun k => N ≤ k) d2 → Calls Try.prog 17 #[.pointer (some ⟨b, 0, none⟩), .int .i64 1, .string z] y fun e y' => e = .returned (.int .i64 0) ∧ Dk w y' N b (fun k => N ≤ k) d3) ∧
    (∀ (w y : World) (N b : Nat), Dk w y N b (fun k => N ≤ k) d3 → Calls Try.prog 15 #[.pointer (some ⟨b, 0, none⟩), .slice none 0 0] y fun e y' => e = .returned (.tuple #[]) ∧ Dk w y' N b (fun k => N ≤ k) d4) ∧
    (∀ (w y : World) (N b : Nat), Dk w y N b (fun k => N ≤ k) d4 → Calls Try.prog 19 #[.pointer (some ⟨b, 0, none⟩), .int .i64 1] y fun e y' => e = .returned (.tuple #[.string (q ++ (⟨#[120]⟩ : ByteArray)), .int .i64 0]) ∧ Dk w y' N b (fun k => N ≤ k) d5) ∧
    (∀ (w y : World) (N b : Nat), Dk w y N b (fun k => N ≤ k) d5 → (Calls Try.prog 14 #[.pointer (some ⟨b, 0, none⟩)] y fun e y' => e = .returned (.int .i64 2) ∧ y' = y) ∧
      (Calls Try.prog 11 #[.pointer (some ⟨b, 0, none⟩)] y fun e y' => e = .returned (.int .i64 4) ∧ y' = y)) ∧
    (∀ (y : World) (B : Nat), Box y B 5 R → Sem.run Try.prog (convert 41 9 (.slice (some ⟨B, 0, none⟩) 64 64)) y = .ok (.string z) y) ∧
    (∀ W : World, (Instr.makeSlice 41 (.int .i64 64) (.int .i64 64)).run Try.prog W = .ok (.slice (some ⟨W.heap.size, 0, none⟩) 64 64) (W.alloc (.cells R 5))) :=
  ⟨M.nils 64, M.zeros 63, M.zero, M.new 2, M.d1, M.d2, M.d3, _, _, ⟨rfl, fun W => conv_nils 63 _ _ (Box.new _ _ _)⟩, fun w y h => knew 2 w y h, fun _ _ _ _ h => w1 h, fun _ _ _ _ _ h => w1M h, fun _ _ _ _ h => w2 h, fun _ _ _ _ _ h => w2M h, fun _ _ _ _ h => w3 h, fun _ _ _ _ h => w4 h, fun _ _ _ _ h => w5 h, fun _ _ _ _ h => w6 h, fun y B h => conv_nils 64 y B h, fun W => make_nils 64 (by omega) W⟩

set_option maxRecDepth 100000 in
set_option maxHeartbeats 2000000 in
theorem works_any (w : World) : Calls Try.prog 6 #[] w fun e w' => e = .returned (.bool true) ∧ Below w.heap.size w w' := by
  obtain ⟨R, q, z, d0, d1, d2, d3, d4, d5, ⟨hq, hcv63⟩, hnew, hw1, hw1M, hw2, hw2M, hw3, hw4, hw5, hw6, hcv, hmk64⟩ := works_parts
  have hmk63 : ∀ W : World, (Instr.makeSlice 41 (.int .i64 63) (.int .i64 63)).run Try.prog W = .ok (.slice (some ⟨W.heap.size, 0, none⟩) 63 63) (W.alloc (.cells (M.nils 63) 5)) := fun W => make_nils 63 (by omega) W
  have hss : ((q ++ (⟨#[120]⟩ : ByteArray)).toList == (q ++ (⟨#[120]⟩ : ByteArray)).toList) = true := by simp
  have HN := Lib.hid (hnew w w (Below.refl _ _))
  have HW1 := Lib.hid hw1
  have HW1M := Lib.hid hw1M
  have HW2 := Lib.hid hw2
  have HW2M := Lib.hid hw2M
  have HW3 := Lib.hid hw3
  have HW4 := Lib.hid hw4
  have HW5 := Lib.hid hw5
  have HW6 := Lib.hid hw6
  have HCV := Lib.hid hcv
  clear hnew hw1 hw1M hw2 hw2M hw3 hw4 hw5 hw6 hcv
  go_enter Try.func6, Try.ntmps6
  go_wp2_with fail
  refine HN.out.mono ?_
  rintro e w1 ⟨b, rfl, hD⟩
  have HD : Hid (Dk w (w1.alloc (.cells (M.nils 63) 5)) w.heap.size b (fun k => w.heap.size ≤ k) d0) := hD.alloc _
  clear hD HN
  go_wp2_with fail
  obtain ⟨y, hy⟩ : ∃ y, y = w1.alloc (.cells (M.nils 63) 5) := ⟨_, rfl⟩
  obtain ⟨s, hs⟩ : ∃ s, s = q ++ (⟨#[120]⟩ : ByteArray) := ⟨_, rfl⟩
  rw [← hs] at HW1 HW1M HW5 hss
  rw [← hy] at HD ⊢
  rw [← hs]
  clear hy hmk63 hcv63 hs hq
  have hcvA : ∀ W : World, Sem.run Try.prog (convert 41 9 (.slice (some ⟨W.heap.size, 0, none⟩) 64 64)) (W.alloc (.cells R 5)) = .ok (.string z) (W.alloc (.cells R 5)) := fun W => HCV.out _ _ (Box.new _ _ _)
  have hcvB : ∀ W : World, Sem.run Try.prog (convert 41 9 (.slice (some ⟨W.heap.size, 0, none⟩) 64 64)) (W.alloc (.cells R 5)).drew = .ok (.string z) (W.alloc (.cells R 5)).drew := fun W => HCV.out _ _ (Box.new _ _ _)
  go_region_with ((first
    | (go_at_call 17
       with_reducible refine (HW1.out w _ w.heap.size _ (by first | exact HD.out | exact HD.out.drew)).mono ?_
       rintro e y1 ⟨rfl, h1⟩
       have HD1 := Lib.hid h1
       clear h1 HD)
    | (go_at_call 17
       with_reducible refine (HW1M.out w _ w.heap.size _ _ (by first | exact HD.out.made | exact HD.out.drew.made | exact HD.out.made.drew)).mono ?_
       rintro e y1 ⟨rfl, h1⟩
       have HM1 := Lib.hid h1
       have hcv1 := HCV.out _ _ h1.row
       clear h1 HD)
    | (go_at_call 18
       with_reducible refine (HW2.out w _ w.heap.size _ (by exact HD1.out)).mono ?_
       rintro e y2 ⟨rfl, h2⟩
       have HD2 := Lib.hid h2
       clear h2 HD1)
    | (go_at_call 18
       with_reducible refine (HW2M.out w _ w.heap.size _ _ (by first | exact HM1.out | exact HD1.out.made)).mono ?_
       rintro e y2 ⟨rfl, h2⟩
       have HM2 := Lib.hid h2
       have hcv2 := HCV.out _ _ h2.row
       clear h2)
    | (go_at_call 17
       with_reducible refine (HW3.out w _ w.heap.size _ (by first | exact HM2.out.out | exact HD2.out.alloc _)).mono ?_
       rintro e y3 ⟨rfl, h3⟩
       have HD3 := Lib.hid h3
       clear h3)))
  all_goals
    have HE := Lib.hid HD3.out
    clear HD3 HW1 HW1M HW2 HW2M HW3 HCV hcvA hcvB hmk64
    go_wp2_with fail
    refine (HW4.out w _ w.heap.size _ HE.out).mono ?_
    rintro e y4 ⟨rfl, h4⟩
    have HD4 := Lib.hid h4
    clear h4 HE HW4
    go_wp2_with fail
    refine (HW5.out w _ w.heap.size _ HD4.out).mono ?_
    rintro e y5 ⟨rfl, h5⟩
    have HD5 := Lib.hid h5
    clear h5 HD4 HW5
    go_wp2_with fail
    refine (HW6.out w _ w.heap.size _ HD5.out).1.mono ?_
    rintro e y6 ⟨rfl, rfl⟩
    go_wp2_with fail
    refine (HW6.out w _ w.heap.size _ HD5.out).2.mono ?_
    rintro e y7 ⟨rfl, rfl⟩
    go_wp2_with fail
    go_ret
    exact ⟨rfl, HD5.out.below⟩
end Go.Proofs.Ytjmkpjapagfdlaa
