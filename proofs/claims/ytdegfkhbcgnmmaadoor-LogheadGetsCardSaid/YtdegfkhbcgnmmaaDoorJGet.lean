/-
  Walks over loghead.Get and solderref10.Get.
-/
import Derived.Test.YtdegfkhbcgnmmaaDoorJRef
namespace Go.Proofs.YtdegfkhbcgnmmaaDoor
open Go.RowKit

/-- What Get answers. -/
def M.hgot (r : M.Hd × Int) : Value := .tuple #[.agg #[.int .i64 r.1.g, .int .i64 r.1.q, .int .i64 r.1.a], .int .i64 r.2]
theorem M.hgot_of {r : M.Hd × Int} {g q a e : Int} (h : r = (⟨g, q, a⟩, e)) : Ending.returned (.tuple #[.agg #[.int .i64 g, .int .i64 q, .int .i64 a], .int .i64 e]) = .returned (M.hgot r) := by rw [h]; rfl
theorem ne_of_toList {a b : ByteArray} (h : a ≠ b) : (a.toList == b.toList) = false := by
  rw [beq_eq_false_iff_ne]
  intro e
  apply h
  rw [ByteArray.toList_eq, ByteArray.toList_eq] at e
  exact M.ba_ext e
theorem L_toList : (⟨#[76]⟩ : ByteArray).toList = [76] := by rw [ByteArray.toList_eq]

theorem get10_size (s : ByteArray) (w : World) (h : s.size ≠ 64) :
    Calls Tryd.prog 10 #[.string s] w fun e w' => e = .returned (M.hgot (M.hget s)) ∧ Below w.heap.size w w' := by
  have HR : Hid (M.hget s = (⟨0, 0, 0⟩, 12)) := by show _ = _; unfold M.hget; rw [if_pos h]; rfl
  have hd : ((s.size : Int) == 64) = false := by rw [beq_eq_false_iff_ne]; omega
  have hd' : ((s.size : Int) != 64) = true := by rw [bne, hd]; rfl
  clear h
  go_enter Tryd.func10, Tryd.ntmps10
  go_wp2_with fail
  exact bodyPost_ret (v := .tuple #[.agg #[.int .i64 0, .int .i64 0, .int .i64 0], .int .i64 12]) (by simp [results, Tryd.results10, go_sem, *]) rfl ⟨M.hgot_of HR.out, below1 _ _⟩

set_option maxHeartbeats 2000000 in
theorem get10_form (s : ByteArray) (w : World) (h : s.size = 64) (h1 : s.extract 0 1 ≠ ⟨#[76]⟩) :
    Calls Tryd.prog 10 #[.string s] w fun e w' => e = .returned (M.hgot (M.hget s)) ∧ Below w.heap.size w w' := by
  have HR : Hid (M.hget s = (⟨0, 0, 0⟩, 4)) := by show _ = _; unfold M.hget; rw [if_neg (by simpa using h), if_pos h1]; rfl
  have hd : ((s.size : Int) == 64) = true := by rw [beq_iff_eq]; omega
  have hd' : ((s.size : Int) != 64) = false := by rw [bne, hd]; rfl
  have hne := ne_of_toList h1
  rw [L_toList] at hne
  have HC0 : Hid (∀ (b : Nat) (y : World), RdK w y b 28 #[.int .i64 0, .int .i64 0, .int .i64 0] s 0 → Calls Tryd.prog 23 #[.pointer (some ⟨b, 0, none⟩), .int .i64 1] y fun e y' => e = .returned (.string (s.extract 0 1)) ∧ RdK w y' b 28 #[.int .i64 0, .int .i64 0, .int .i64 0] s 1) := fun b y hR => hR.bytes 1 (by omega)
  obtain ⟨x, hx⟩ : ∃ x, x = s.extract 0 1 := ⟨_, rfl⟩
  rw [← hx] at hne HC0
  clear h h1 hx
  go_enter Tryd.func10, Tryd.ntmps10
  go_wp2_with fail
  refine (newK s w 28 #[.int .i64 0, .int .i64 0, .int .i64 0]).mono ?_
  rintro e w1 ⟨b, rfl, h1⟩
  have H1 := Lib.hid h1
  clear h1
  go_wp2_with fail
  refine (HC0.out _ _ H1.out).mono ?_
  rintro e w2 ⟨rfl, h2⟩
  have H2 := Lib.hid h2
  clear h2 H1
  obtain ⟨c0, c1, c2⟩ := B3.cells H2.out.box
  obtain ⟨f0, f1, f2⟩ := B3.frozen H2.out.box
  go_wp2_with fail
  exact bodyPost_ret (v := .tuple #[.agg #[.int .i64 0, .int .i64 0, .int .i64 0], .int .i64 4]) (by simp [results, Tryd.results10, go_sem, *]) rfl ⟨M.hgot_of HR.out, by (repeat refine Below.setCell ?_ (by simp) _); exact H2.out.below⟩

set_option maxHeartbeats 2000000 in
theorem get10_sum (s : ByteArray) (w : World) (h : s.size = 64) (h1 : s.extract 0 1 = ⟨#[76]⟩) (h2 : s.extract 15 19 ≠ M.tail (s.extract 0 15)) :
    Calls Tryd.prog 10 #[.string s] w fun e w' => e = .returned (M.hgot (M.hget s)) ∧ Below w.heap.size w w' := by
  have HR : Hid (M.hget s = (⟨0, 0, 0⟩, 5)) := by show _ = _; unfold M.hget; rw [if_neg (by simpa using h), if_neg (by simpa using h1), if_pos h2]; rfl
  have hd : ((s.size : Int) == 64) = true := by rw [beq_iff_eq]; omega
  have hd' : ((s.size : Int) != 64) = false := by rw [bne, hd]; rfl
  have HC0 : Hid (∀ (b : Nat) (y : World), RdK w y b 28 #[.int .i64 0, .int .i64 0, .int .i64 0] s 0 → Calls Tryd.prog 23 #[.pointer (some ⟨b, 0, none⟩), .int .i64 1] y fun e y' => e = .returned (.string (s.extract 0 1)) ∧ RdK w y' b 28 #[.int .i64 0, .int .i64 0, .int .i64 0] s 1) := fun b y hR => hR.bytes 1 (by omega)
  have HC1 : Hid (∀ (b : Nat) (y : World), RdK w y b 28 #[.int .i64 0, .int .i64 0, .int .i64 0] s 1 → Calls Tryd.prog 24 #[.pointer (some ⟨b, 0, none⟩), .int .i64 6] y fun e y' => e = .returned (.int .i64 (M.hnum s 1 7)) ∧ RdK w y' b 28 #[.int .i64 0, .int .i64 0, .int .i64 0] s 7) := fun b y hR => hR.num 6 (by decide) (by decide) (by omega)
  have HC2 : Hid (∀ (b : Nat) (y : World), RdK w y b 28 #[.int .i64 0, .int .i64 0, .int .i64 0] s 7 → Calls Tryd.prog 24 #[.pointer (some ⟨b, 0, none⟩), .int .i64 6] y fun e y' => e = .returned (.int .i64 (M.hnum s 7 13)) ∧ RdK w y' b 28 #[.int .i64 0, .int .i64 0, .int .i64 0] s 13) := fun b y hR => hR.num 6 (by decide) (by decide) (by omega)
  have HC3 : Hid (∀ (b : Nat) (y : World), RdK w y b 28 #[.int .i64 0, .int .i64 0, .int .i64 0] s 13 → Calls Tryd.prog 24 #[.pointer (some ⟨b, 0, none⟩), .int .i64 2] y fun e y' => e = .returned (.int .i64 (M.hnum s 13 15)) ∧ RdK w y' b 28 #[.int .i64 0, .int .i64 0, .int .i64 0] s 15) := fun b y hR => hR.num 2 (by decide) (by decide) (by omega)
  have HC4 : Hid (∀ (b hb : Nat) (y : World), RdK w y b 28 #[.int .i64 0, .int .i64 0, .int .i64 0] s 15 → B3 y hb 28 (M.hnum s 1 7) (M.hnum s 7 13) (M.hnum s 13 15) → b < hb → Calls Tryd.prog 23 #[.pointer (some ⟨b, 0, none⟩), .int .i64 4] y fun e y' => e = .returned (.string (s.extract 15 19)) ∧ RdK w y' b 28 #[.int .i64 0, .int .i64 0, .int .i64 0] s 19 ∧ B3 y' hb 28 (M.hnum s 1 7) (M.hnum s 7 13) (M.hnum s 13 15)) := fun b hb y hR hX hl => hR.bytes2 4 (by omega) hX hl
  have hne := ne_of_toList h2
  have HC5 := Lib.hid (fun x => tail10 (s.extract 0 15) x (by rw [ByteArray.size_extract]; omega))
  obtain ⟨g, hg⟩ : ∃ x, x = M.hnum s 1 7 := ⟨_, rfl⟩
  obtain ⟨q, hq⟩ : ∃ x, x = M.hnum s 7 13 := ⟨_, rfl⟩
  obtain ⟨a, ha⟩ : ∃ x, x = M.hnum s 13 15 := ⟨_, rfl⟩
  obtain ⟨x, hx⟩ : ∃ x, x = s.extract 15 19 := ⟨_, rfl⟩
  obtain ⟨t, ht⟩ : ∃ x, x = M.tail (s.extract 0 15) := ⟨_, rfl⟩
  rw [← hg] at HC1 HC4
  rw [← hq] at HC2 HC4
  rw [← ha] at HC3 HC4
  rw [← hx] at HC4
  rw [← ht] at HC5
  rw [h1] at HC0
  have hle : (15 : Int) ≤ (s.size : Int) := by omega
  rw [← hx, ← ht] at hne
  clear h1 h2 hg hq ha hx ht h
  go_enter Tryd.func10, Tryd.ntmps10
  go_wp2_with fail
  refine (newK s w 28 #[.int .i64 0, .int .i64 0, .int .i64 0]).mono ?_
  rintro e w1 ⟨b, rfl, h1⟩
  have H1 := Lib.hid h1
  clear h1
  go_wp2_with fail
  refine (HC0.out _ _ H1.out).mono ?_
  rintro e w2 ⟨rfl, h2⟩
  have H2 := Lib.hid h2
  clear h2 H1
  go_wp2_with fail
  refine (HC1.out _ _ H2.out).mono ?_
  rintro e w3 ⟨rfl, h3⟩
  have H3 := Lib.hid h3
  clear h3 H2
  go_wp2_with fail
  refine (HC2.out _ _ H3.out).mono ?_
  rintro e w4 ⟨rfl, h4⟩
  have H4 := Lib.hid h4
  clear h4 H3
  go_wp2_with fail
  refine (HC3.out _ _ H4.out).mono ?_
  rintro e w5 ⟨rfl, h5⟩
  have H5 := Lib.hid h5
  clear h5 H4
  go_wp2_with fail
  have H6 := Lib.hid (H5.out.alloc (.cells #[.int .i64 g, .int .i64 q, .int .i64 a] 28))
  have HX6 := Lib.hid (B3.new w5 28 g q a)
  have HN6 : Hid (b < w5.heap.size) := Box.lt H5.out.rd
  obtain ⟨w6, hw6⟩ : ∃ x, x = w5.alloc (.cells #[.int .i64 g, .int .i64 q, .int .i64 a] 28) := ⟨_, rfl⟩
  rw [← hw6] at H6 HX6 ⊢
  clear hw6
  obtain ⟨hb, hhb⟩ : ∃ x, x = w5.heap.size := ⟨_, rfl⟩
  rw [← hhb] at HX6 HN6 ⊢
  clear hhb
  go_wp2_with fail
  go_region_held3 (fun _ => True) (first | trivial)
    (first
      | (go_at_call 23; refine (HC4.out _ hb _ (by first | exact H6.out | exact H6.out.drew) (by first | exact HX6.out | exact HX6.out.below (Below.refl _ _).drew HX6.out.lt) HN6.out).mono ?_; rintro e w7 ⟨rfl, h7, hx7⟩; have H7 := Lib.hid h7; have HX7 := Lib.hid hx7; clear h7 hx7)
      | (go_at_call 17; refine (HC5.out _).mono ?_; rintro e w8 ⟨rfl, h8⟩; have H8 := Lib.hid ((show RdK w _ b 28 #[.int .i64 0, .int .i64 0, .int .i64 0] s 19 by first | exact H7.out | exact H7.out.drew).keep h8); have HX8 := Lib.hid (Box.below (show Box _ hb _ _ by first | exact HX7.out | exact Box.below HX7.out (Below.refl _ _).drew (Box.lt HX7.out)) h8 (Box.lt HX7.out)); clear h8))
  obtain ⟨c0, c1, c2⟩ := B3.cells H8.out.box
  obtain ⟨f0, f1, f2⟩ := B3.frozen H8.out.box
  go_wp2_with fail
  exact bodyPost_ret (v := .tuple #[.agg #[.int .i64 0, .int .i64 0, .int .i64 0], .int .i64 5]) (by simp [results, Tryd.results10, go_sem, *]) rfl ⟨M.hgot_of HR.out, by (repeat refine Below.setCell ?_ (by simp) _); exact H8.out.below⟩

set_option maxHeartbeats 2000000 in
theorem get10_not (s : ByteArray) (w : World) (h : s.size = 64) (h1 : s.extract 0 1 = ⟨#[76]⟩) (h2 : s.extract 15 19 = M.tail (s.extract 0 15)) (h3 : ¬ M.hmay (M.hread s) = true) :
    Calls Tryd.prog 10 #[.string s] w fun e w' => e = .returned (M.hgot (M.hget s)) ∧ Below w.heap.size w w' := by
  have HR : Hid (M.hget s = (⟨0, 0, 0⟩, 4)) := by show _ = _; unfold M.hget; rw [if_neg (by simpa using h), if_neg (by simpa using h1), if_neg (by simpa using h2), if_neg (fun e => h3 e.1)]; rfl
  have hd : ((s.size : Int) == 64) = true := by rw [beq_iff_eq]; omega
  have hd' : ((s.size : Int) != 64) = false := by rw [bne, hd]; rfl
  have HC0 : Hid (∀ (b : Nat) (y : World), RdK w y b 28 #[.int .i64 0, .int .i64 0, .int .i64 0] s 0 → Calls Tryd.prog 23 #[.pointer (some ⟨b, 0, none⟩), .int .i64 1] y fun e y' => e = .returned (.string (s.extract 0 1)) ∧ RdK w y' b 28 #[.int .i64 0, .int .i64 0, .int .i64 0] s 1) := fun b y hR => hR.bytes 1 (by omega)
  have HC1 : Hid (∀ (b : Nat) (y : World), RdK w y b 28 #[.int .i64 0, .int .i64 0, .int .i64 0] s 1 → Calls Tryd.prog 24 #[.pointer (some ⟨b, 0, none⟩), .int .i64 6] y fun e y' => e = .returned (.int .i64 (M.hnum s 1 7)) ∧ RdK w y' b 28 #[.int .i64 0, .int .i64 0, .int .i64 0] s 7) := fun b y hR => hR.num 6 (by decide) (by decide) (by omega)
  have HC2 : Hid (∀ (b : Nat) (y : World), RdK w y b 28 #[.int .i64 0, .int .i64 0, .int .i64 0] s 7 → Calls Tryd.prog 24 #[.pointer (some ⟨b, 0, none⟩), .int .i64 6] y fun e y' => e = .returned (.int .i64 (M.hnum s 7 13)) ∧ RdK w y' b 28 #[.int .i64 0, .int .i64 0, .int .i64 0] s 13) := fun b y hR => hR.num 6 (by decide) (by decide) (by omega)
  have HC3 : Hid (∀ (b : Nat) (y : World), RdK w y b 28 #[.int .i64 0, .int .i64 0, .int .i64 0] s 13 → Calls Tryd.prog 24 #[.pointer (some ⟨b, 0, none⟩), .int .i64 2] y fun e y' => e = .returned (.int .i64 (M.hnum s 13 15)) ∧ RdK w y' b 28 #[.int .i64 0, .int .i64 0, .int .i64 0] s 15) := fun b y hR => hR.num 2 (by decide) (by decide) (by omega)
  have HC4 : Hid (∀ (b hb : Nat) (y : World), RdK w y b 28 #[.int .i64 0, .int .i64 0, .int .i64 0] s 15 → B3 y hb 28 (M.hnum s 1 7) (M.hnum s 7 13) (M.hnum s 13 15) → b < hb → Calls Tryd.prog 23 #[.pointer (some ⟨b, 0, none⟩), .int .i64 4] y fun e y' => e = .returned (.string (s.extract 15 19)) ∧ RdK w y' b 28 #[.int .i64 0, .int .i64 0, .int .i64 0] s 19 ∧ B3 y' hb 28 (M.hnum s 1 7) (M.hnum s 7 13) (M.hnum s 13 15)) := fun b hb y hR hX hl => hR.bytes2 4 (by omega) hX hl
  have hne : ((s.extract 15 19).toList == (M.tail (s.extract 0 15)).toList) = true := by rw [h2]; exact str_eq_self _
  have HP := Lib.hid (fun x => put10_any (M.hnum s 1 7) (M.hnum s 7 13) (M.hnum s 13 15) x)
  have h3' : M.hput ⟨M.hnum s 1 7, M.hnum s 7 13, M.hnum s 13 15⟩ = .tuple #[.string ⟨#[]⟩, .int .i64 3] := by unfold M.hput; exact if_neg h3
  rw [h3'] at HP
  clear h3'
  have HC5 := Lib.hid (fun x => tail10 (s.extract 0 15) x (by rw [ByteArray.size_extract]; omega))
  obtain ⟨g, hg⟩ : ∃ x, x = M.hnum s 1 7 := ⟨_, rfl⟩
  obtain ⟨q, hq⟩ : ∃ x, x = M.hnum s 7 13 := ⟨_, rfl⟩
  obtain ⟨a, ha⟩ : ∃ x, x = M.hnum s 13 15 := ⟨_, rfl⟩
  obtain ⟨x, hx⟩ : ∃ x, x = s.extract 15 19 := ⟨_, rfl⟩
  obtain ⟨t, ht⟩ : ∃ x, x = M.tail (s.extract 0 15) := ⟨_, rfl⟩
  rw [← hg] at HC1 HC4
  rw [← hq] at HC2 HC4
  rw [← ha] at HC3 HC4
  rw [← hx] at HC4
  rw [← ht] at HC5
  rw [h1] at HC0
  have hle : (15 : Int) ≤ (s.size : Int) := by omega
  rw [← hx, ← ht] at hne
  rw [← hg, ← hq, ← ha] at HP
  clear h1 h2 hg hq ha hx ht h h3
  go_enter Tryd.func10, Tryd.ntmps10
  go_wp2_with fail
  refine (newK s w 28 #[.int .i64 0, .int .i64 0, .int .i64 0]).mono ?_
  rintro e w1 ⟨b, rfl, h1⟩
  have H1 := Lib.hid h1
  clear h1
  go_wp2_with fail
  refine (HC0.out _ _ H1.out).mono ?_
  rintro e w2 ⟨rfl, h2⟩
  have H2 := Lib.hid h2
  clear h2 H1
  go_wp2_with fail
  refine (HC1.out _ _ H2.out).mono ?_
  rintro e w3 ⟨rfl, h3⟩
  have H3 := Lib.hid h3
  clear h3 H2
  go_wp2_with fail
  refine (HC2.out _ _ H3.out).mono ?_
  rintro e w4 ⟨rfl, h4⟩
  have H4 := Lib.hid h4
  clear h4 H3
  go_wp2_with fail
  refine (HC3.out _ _ H4.out).mono ?_
  rintro e w5 ⟨rfl, h5⟩
  have H5 := Lib.hid h5
  clear h5 H4
  go_wp2_with fail
  have H6 := Lib.hid (H5.out.alloc (.cells #[.int .i64 g, .int .i64 q, .int .i64 a] 28))
  have HX6 := Lib.hid (B3.new w5 28 g q a)
  have HN6 : Hid (b < w5.heap.size) := Box.lt H5.out.rd
  obtain ⟨w6, hw6⟩ : ∃ x, x = w5.alloc (.cells #[.int .i64 g, .int .i64 q, .int .i64 a] 28) := ⟨_, rfl⟩
  rw [← hw6] at H6 HX6 ⊢
  clear hw6
  obtain ⟨hb, hhb⟩ : ∃ x, x = w5.heap.size := ⟨_, rfl⟩
  rw [← hhb] at HX6 HN6 ⊢
  clear hhb
  go_wp2_with fail
  go_region_held3 (fun _ => True) (first | trivial)
    (first
      | (go_at_call 23; refine (HC4.out _ hb _ (by first | exact H6.out | exact H6.out.drew) (by first | exact HX6.out | exact HX6.out.below (Below.refl _ _).drew HX6.out.lt) HN6.out).mono ?_; rintro e w7 ⟨rfl, h7, hx7⟩; have H7 := Lib.hid h7; have HX7 := Lib.hid hx7; clear h7 hx7)
      | (go_at_call 17; refine (HC5.out _).mono ?_; rintro e w8 ⟨rfl, h8⟩; have H8 := Lib.hid ((show RdK w _ b 28 #[.int .i64 0, .int .i64 0, .int .i64 0] s 19 by first | exact H7.out | exact H7.out.drew).keep h8); have HX8 := Lib.hid (Box.below (show Box _ hb _ _ by first | exact HX7.out | exact Box.below HX7.out (Below.refl _ _).drew (Box.lt HX7.out)) h8 (Box.lt HX7.out)); clear h8))
  obtain ⟨c0, c1, c2⟩ := B3.cells HX8.out
  go_wp2_with fail
  refine (HP.out _).mono ?_
  rintro e w9 ⟨rfl, h9⟩
  have HX9 := Lib.hid (B3.below HX8.out h9 (B3.lt HX8.out))
  have H9 := Lib.hid (H8.out.keep h9)
  clear h9 H8 HX8 c0 c1 c2
  obtain ⟨c0, c1, c2⟩ := B3.cells H9.out.box
  obtain ⟨f0, f1, f2⟩ := B3.frozen H9.out.box
  go_wp2_with fail
  exact bodyPost_ret (v := .tuple #[.agg #[.int .i64 0, .int .i64 0, .int .i64 0], .int .i64 4]) (by simp [results, Tryd.results10, go_sem, *]) rfl ⟨M.hgot_of HR.out, by (repeat refine Below.setCell ?_ (by simp) _); exact H9.out.below⟩

set_option maxHeartbeats 2000000 in
theorem get10_other (s : ByteArray) (w : World) (h : s.size = 64) (h1 : s.extract 0 1 = ⟨#[76]⟩) (h2 : s.extract 15 19 = M.tail (s.extract 0 15)) (h3 : M.hmay (M.hread s) = true) (h4 : M.hwhole (M.hread s) ≠ s) :
    Calls Tryd.prog 10 #[.string s] w fun e w' => e = .returned (M.hgot (M.hget s)) ∧ Below w.heap.size w w' := by
  have HR : Hid (M.hget s = (⟨0, 0, 0⟩, 4)) := by show _ = _; unfold M.hget; rw [if_neg (by simpa using h), if_neg (by simpa using h1), if_neg (by simpa using h2), if_neg (fun e => h4 e.2)]; rfl
  have hd : ((s.size : Int) == 64) = true := by rw [beq_iff_eq]; omega
  have hd' : ((s.size : Int) != 64) = false := by rw [bne, hd]; rfl
  have HC0 : Hid (∀ (b : Nat) (y : World), RdK w y b 28 #[.int .i64 0, .int .i64 0, .int .i64 0] s 0 → Calls Tryd.prog 23 #[.pointer (some ⟨b, 0, none⟩), .int .i64 1] y fun e y' => e = .returned (.string (s.extract 0 1)) ∧ RdK w y' b 28 #[.int .i64 0, .int .i64 0, .int .i64 0] s 1) := fun b y hR => hR.bytes 1 (by omega)
  have HC1 : Hid (∀ (b : Nat) (y : World), RdK w y b 28 #[.int .i64 0, .int .i64 0, .int .i64 0] s 1 → Calls Tryd.prog 24 #[.pointer (some ⟨b, 0, none⟩), .int .i64 6] y fun e y' => e = .returned (.int .i64 (M.hnum s 1 7)) ∧ RdK w y' b 28 #[.int .i64 0, .int .i64 0, .int .i64 0] s 7) := fun b y hR => hR.num 6 (by decide) (by decide) (by omega)
  have HC2 : Hid (∀ (b : Nat) (y : World), RdK w y b 28 #[.int .i64 0, .int .i64 0, .int .i64 0] s 7 → Calls Tryd.prog 24 #[.pointer (some ⟨b, 0, none⟩), .int .i64 6] y fun e y' => e = .returned (.int .i64 (M.hnum s 7 13)) ∧ RdK w y' b 28 #[.int .i64 0, .int .i64 0, .int .i64 0] s 13) := fun b y hR => hR.num 6 (by decide) (by decide) (by omega)
  have HC3 : Hid (∀ (b : Nat) (y : World), RdK w y b 28 #[.int .i64 0, .int .i64 0, .int .i64 0] s 13 → Calls Tryd.prog 24 #[.pointer (some ⟨b, 0, none⟩), .int .i64 2] y fun e y' => e = .returned (.int .i64 (M.hnum s 13 15)) ∧ RdK w y' b 28 #[.int .i64 0, .int .i64 0, .int .i64 0] s 15) := fun b y hR => hR.num 2 (by decide) (by decide) (by omega)
  have HC4 : Hid (∀ (b hb : Nat) (y : World), RdK w y b 28 #[.int .i64 0, .int .i64 0, .int .i64 0] s 15 → B3 y hb 28 (M.hnum s 1 7) (M.hnum s 7 13) (M.hnum s 13 15) → b < hb → Calls Tryd.prog 23 #[.pointer (some ⟨b, 0, none⟩), .int .i64 4] y fun e y' => e = .returned (.string (s.extract 15 19)) ∧ RdK w y' b 28 #[.int .i64 0, .int .i64 0, .int .i64 0] s 19 ∧ B3 y' hb 28 (M.hnum s 1 7) (M.hnum s 7 13) (M.hnum s 13 15)) := fun b hb y hR hX hl => hR.bytes2 4 (by omega) hX hl
  have hne : ((s.extract 15 19).toList == (M.tail (s.extract 0 15)).toList) = true := by rw [h2]; exact str_eq_self _
  have HP := Lib.hid (fun x => put10_any (M.hnum s 1 7) (M.hnum s 7 13) (M.hnum s 13 15) x)
  have h3' : M.hput ⟨M.hnum s 1 7, M.hnum s 7 13, M.hnum s 13 15⟩ = .tuple #[.string (M.hwhole (M.hread s)), .int .i64 0] := by unfold M.hput; exact if_pos h3
  rw [h3'] at HP
  have hweq : ((M.hwhole (M.hread s)).toList == s.toList) = false := ne_of_toList h4
  obtain ⟨u, hu⟩ : ∃ x, x = M.hwhole (M.hread s) := ⟨_, rfl⟩
  rw [← hu] at HP hweq
  clear h3' h4 hu
  have HC5 := Lib.hid (fun x => tail10 (s.extract 0 15) x (by rw [ByteArray.size_extract]; omega))
  obtain ⟨g, hg⟩ : ∃ x, x = M.hnum s 1 7 := ⟨_, rfl⟩
  obtain ⟨q, hq⟩ : ∃ x, x = M.hnum s 7 13 := ⟨_, rfl⟩
  obtain ⟨a, ha⟩ : ∃ x, x = M.hnum s 13 15 := ⟨_, rfl⟩
  obtain ⟨x, hx⟩ : ∃ x, x = s.extract 15 19 := ⟨_, rfl⟩
  obtain ⟨t, ht⟩ : ∃ x, x = M.tail (s.extract 0 15) := ⟨_, rfl⟩
  rw [← hg] at HC1 HC4
  rw [← hq] at HC2 HC4
  rw [← ha] at HC3 HC4
  rw [← hx] at HC4
  rw [← ht] at HC5
  rw [h1] at HC0
  have hle : (15 : Int) ≤ (s.size : Int) := by omega
  rw [← hx, ← ht] at hne
  rw [← hg, ← hq, ← ha] at HP
  clear h1 h2 hg hq ha hx ht h h3
  go_enter Tryd.func10, Tryd.ntmps10
  go_wp2_with fail
  refine (newK s w 28 #[.int .i64 0, .int .i64 0, .int .i64 0]).mono ?_
  rintro e w1 ⟨b, rfl, h1⟩
  have H1 := Lib.hid h1
  clear h1
  go_wp2_with fail
  refine (HC0.out _ _ H1.out).mono ?_
  rintro e w2 ⟨rfl, h2⟩
  have H2 := Lib.hid h2
  clear h2 H1
  go_wp2_with fail
  refine (HC1.out _ _ H2.out).mono ?_
  rintro e w3 ⟨rfl, h3⟩
  have H3 := Lib.hid h3
  clear h3 H2
  go_wp2_with fail
  refine (HC2.out _ _ H3.out).mono ?_
  rintro e w4 ⟨rfl, h4⟩
  have H4 := Lib.hid h4
  clear h4 H3
  go_wp2_with fail
  refine (HC3.out _ _ H4.out).mono ?_
  rintro e w5 ⟨rfl, h5⟩
  have H5 := Lib.hid h5
  clear h5 H4
  go_wp2_with fail
  have H6 := Lib.hid (H5.out.alloc (.cells #[.int .i64 g, .int .i64 q, .int .i64 a] 28))
  have HX6 := Lib.hid (B3.new w5 28 g q a)
  have HN6 : Hid (b < w5.heap.size) := Box.lt H5.out.rd
  obtain ⟨w6, hw6⟩ : ∃ x, x = w5.alloc (.cells #[.int .i64 g, .int .i64 q, .int .i64 a] 28) := ⟨_, rfl⟩
  rw [← hw6] at H6 HX6 ⊢
  clear hw6
  obtain ⟨hb, hhb⟩ : ∃ x, x = w5.heap.size := ⟨_, rfl⟩
  rw [← hhb] at HX6 HN6 ⊢
  clear hhb
  go_wp2_with fail
  go_region_held3 (fun _ => True) (first | trivial)
    (first
      | (go_at_call 23; refine (HC4.out _ hb _ (by first | exact H6.out | exact H6.out.drew) (by first | exact HX6.out | exact HX6.out.below (Below.refl _ _).drew HX6.out.lt) HN6.out).mono ?_; rintro e w7 ⟨rfl, h7, hx7⟩; have H7 := Lib.hid h7; have HX7 := Lib.hid hx7; clear h7 hx7)
      | (go_at_call 17; refine (HC5.out _).mono ?_; rintro e w8 ⟨rfl, h8⟩; have H8 := Lib.hid ((show RdK w _ b 28 #[.int .i64 0, .int .i64 0, .int .i64 0] s 19 by first | exact H7.out | exact H7.out.drew).keep h8); have HX8 := Lib.hid (Box.below (show Box _ hb _ _ by first | exact HX7.out | exact Box.below HX7.out (Below.refl _ _).drew (Box.lt HX7.out)) h8 (Box.lt HX7.out)); clear h8))
  obtain ⟨c0, c1, c2⟩ := B3.cells HX8.out
  go_wp2_with fail
  refine (HP.out _).mono ?_
  rintro e w9 ⟨rfl, h9⟩
  have HX9 := Lib.hid (B3.below HX8.out h9 (B3.lt HX8.out))
  have H9 := Lib.hid (H8.out.keep h9)
  clear h9 H8 HX8 c0 c1 c2
  obtain ⟨c0, c1, c2⟩ := B3.cells H9.out.box
  obtain ⟨f0, f1, f2⟩ := B3.frozen H9.out.box
  go_wp2_with fail
  exact bodyPost_ret (v := .tuple #[.agg #[.int .i64 0, .int .i64 0, .int .i64 0], .int .i64 4]) (by simp [results, Tryd.results10, go_sem, *]) rfl ⟨M.hgot_of HR.out, by (repeat refine Below.setCell ?_ (by simp) _); exact H9.out.below⟩

set_option maxHeartbeats 2000000 in
theorem get10_good (s : ByteArray) (w : World) (h : s.size = 64) (h1 : s.extract 0 1 = ⟨#[76]⟩) (h2 : s.extract 15 19 = M.tail (s.extract 0 15)) (h3 : M.hmay (M.hread s) = true) (h4 : M.hwhole (M.hread s) = s) :
    Calls Tryd.prog 10 #[.string s] w fun e w' => e = .returned (M.hgot (M.hget s)) ∧ Below w.heap.size w w' := by
  have HR : Hid (M.hget s = (M.hread s, 0)) := by show _ = _; unfold M.hget; rw [if_neg (by simpa using h), if_neg (by simpa using h1), if_neg (by simpa using h2), if_pos ⟨h3, h4⟩]
  unfold M.hread at HR
  have hd : ((s.size : Int) == 64) = true := by rw [beq_iff_eq]; omega
  have hd' : ((s.size : Int) != 64) = false := by rw [bne, hd]; rfl
  have HC0 : Hid (∀ (b : Nat) (y : World), RdK w y b 28 #[.int .i64 0, .int .i64 0, .int .i64 0] s 0 → Calls Tryd.prog 23 #[.pointer (some ⟨b, 0, none⟩), .int .i64 1] y fun e y' => e = .returned (.string (s.extract 0 1)) ∧ RdK w y' b 28 #[.int .i64 0, .int .i64 0, .int .i64 0] s 1) := fun b y hR => hR.bytes 1 (by omega)
  have HC1 : Hid (∀ (b : Nat) (y : World), RdK w y b 28 #[.int .i64 0, .int .i64 0, .int .i64 0] s 1 → Calls Tryd.prog 24 #[.pointer (some ⟨b, 0, none⟩), .int .i64 6] y fun e y' => e = .returned (.int .i64 (M.hnum s 1 7)) ∧ RdK w y' b 28 #[.int .i64 0, .int .i64 0, .int .i64 0] s 7) := fun b y hR => hR.num 6 (by decide) (by decide) (by omega)
  have HC2 : Hid (∀ (b : Nat) (y : World), RdK w y b 28 #[.int .i64 0, .int .i64 0, .int .i64 0] s 7 → Calls Tryd.prog 24 #[.pointer (some ⟨b, 0, none⟩), .int .i64 6] y fun e y' => e = .returned (.int .i64 (M.hnum s 7 13)) ∧ RdK w y' b 28 #[.int .i64 0, .int .i64 0, .int .i64 0] s 13) := fun b y hR => hR.num 6 (by decide) (by decide) (by omega)
  have HC3 : Hid (∀ (b : Nat) (y : World), RdK w y b 28 #[.int .i64 0, .int .i64 0, .int .i64 0] s 13 → Calls Tryd.prog 24 #[.pointer (some ⟨b, 0, none⟩), .int .i64 2] y fun e y' => e = .returned (.int .i64 (M.hnum s 13 15)) ∧ RdK w y' b 28 #[.int .i64 0, .int .i64 0, .int .i64 0] s 15) := fun b y hR => hR.num 2 (by decide) (by decide) (by omega)
  have HC4 : Hid (∀ (b hb : Nat) (y : World), RdK w y b 28 #[.int .i64 0, .int .i64 0, .int .i64 0] s 15 → B3 y hb 28 (M.hnum s 1 7) (M.hnum s 7 13) (M.hnum s 13 15) → b < hb → Calls Tryd.prog 23 #[.pointer (some ⟨b, 0, none⟩), .int .i64 4] y fun e y' => e = .returned (.string (s.extract 15 19)) ∧ RdK w y' b 28 #[.int .i64 0, .int .i64 0, .int .i64 0] s 19 ∧ B3 y' hb 28 (M.hnum s 1 7) (M.hnum s 7 13) (M.hnum s 13 15)) := fun b hb y hR hX hl => hR.bytes2 4 (by omega) hX hl
  have hne : ((s.extract 15 19).toList == (M.tail (s.extract 0 15)).toList) = true := by rw [h2]; exact str_eq_self _
  have HP := Lib.hid (fun x => put10_any (M.hnum s 1 7) (M.hnum s 7 13) (M.hnum s 13 15) x)
  have h3' : M.hput ⟨M.hnum s 1 7, M.hnum s 7 13, M.hnum s 13 15⟩ = .tuple #[.string (M.hwhole (M.hread s)), .int .i64 0] := by unfold M.hput; exact if_pos h3
  rw [h3'] at HP
  have hweq : ((M.hwhole (M.hread s)).toList == s.toList) = true := by rw [h4]; exact str_eq_self _
  obtain ⟨u, hu⟩ : ∃ x, x = M.hwhole (M.hread s) := ⟨_, rfl⟩
  rw [← hu] at HP hweq
  clear h3' h4 hu
  have HC5 := Lib.hid (fun x => tail10 (s.extract 0 15) x (by rw [ByteArray.size_extract]; omega))
  obtain ⟨g, hg⟩ : ∃ x, x = M.hnum s 1 7 := ⟨_, rfl⟩
  obtain ⟨q, hq⟩ : ∃ x, x = M.hnum s 7 13 := ⟨_, rfl⟩
  obtain ⟨a, ha⟩ : ∃ x, x = M.hnum s 13 15 := ⟨_, rfl⟩
  obtain ⟨x, hx⟩ : ∃ x, x = s.extract 15 19 := ⟨_, rfl⟩
  obtain ⟨t, ht⟩ : ∃ x, x = M.tail (s.extract 0 15) := ⟨_, rfl⟩
  rw [← hg] at HC1 HC4
  rw [← hq] at HC2 HC4
  rw [← ha] at HC3 HC4
  rw [← hx] at HC4
  rw [← ht] at HC5
  rw [h1] at HC0
  have hle : (15 : Int) ≤ (s.size : Int) := by omega
  rw [← hx, ← ht] at hne
  rw [← hg, ← hq, ← ha] at HP HR
  clear h1 h2 hg hq ha hx ht h h3
  go_enter Tryd.func10, Tryd.ntmps10
  go_wp2_with fail
  refine (newK s w 28 #[.int .i64 0, .int .i64 0, .int .i64 0]).mono ?_
  rintro e w1 ⟨b, rfl, h1⟩
  have H1 := Lib.hid h1
  clear h1
  go_wp2_with fail
  refine (HC0.out _ _ H1.out).mono ?_
  rintro e w2 ⟨rfl, h2⟩
  have H2 := Lib.hid h2
  clear h2 H1
  go_wp2_with fail
  refine (HC1.out _ _ H2.out).mono ?_
  rintro e w3 ⟨rfl, h3⟩
  have H3 := Lib.hid h3
  clear h3 H2
  go_wp2_with fail
  refine (HC2.out _ _ H3.out).mono ?_
  rintro e w4 ⟨rfl, h4⟩
  have H4 := Lib.hid h4
  clear h4 H3
  go_wp2_with fail
  refine (HC3.out _ _ H4.out).mono ?_
  rintro e w5 ⟨rfl, h5⟩
  have H5 := Lib.hid h5
  clear h5 H4
  go_wp2_with fail
  have H6 := Lib.hid (H5.out.alloc (.cells #[.int .i64 g, .int .i64 q, .int .i64 a] 28))
  have HX6 := Lib.hid (B3.new w5 28 g q a)
  have HN6 : Hid (b < w5.heap.size) := Box.lt H5.out.rd
  obtain ⟨w6, hw6⟩ : ∃ x, x = w5.alloc (.cells #[.int .i64 g, .int .i64 q, .int .i64 a] 28) := ⟨_, rfl⟩
  rw [← hw6] at H6 HX6 ⊢
  clear hw6
  obtain ⟨hb, hhb⟩ : ∃ x, x = w5.heap.size := ⟨_, rfl⟩
  rw [← hhb] at HX6 HN6 ⊢
  clear hhb
  go_wp2_with fail
  go_region_held3 (fun _ => True) (first | trivial)
    (first
      | (go_at_call 23; refine (HC4.out _ hb _ (by first | exact H6.out | exact H6.out.drew) (by first | exact HX6.out | exact HX6.out.below (Below.refl _ _).drew HX6.out.lt) HN6.out).mono ?_; rintro e w7 ⟨rfl, h7, hx7⟩; have H7 := Lib.hid h7; have HX7 := Lib.hid hx7; clear h7 hx7)
      | (go_at_call 17; refine (HC5.out _).mono ?_; rintro e w8 ⟨rfl, h8⟩; have H8 := Lib.hid ((show RdK w _ b 28 #[.int .i64 0, .int .i64 0, .int .i64 0] s 19 by first | exact H7.out | exact H7.out.drew).keep h8); have HX8 := Lib.hid (Box.below (show Box _ hb _ _ by first | exact HX7.out | exact Box.below HX7.out (Below.refl _ _).drew (Box.lt HX7.out)) h8 (Box.lt HX7.out)); clear h8))
  obtain ⟨c0, c1, c2⟩ := B3.cells HX8.out
  go_wp2_with fail
  refine (HP.out _).mono ?_
  rintro e w9 ⟨rfl, h9⟩
  have HX9 := Lib.hid (B3.below HX8.out h9 (B3.lt HX8.out))
  have H9 := Lib.hid (H8.out.keep h9)
  clear h9 H8 HX8 c0 c1 c2
  obtain ⟨d0, d1, d2⟩ := B3.cells HX9.out
  obtain ⟨c0, c1, c2⟩ := B3.cells H9.out.box
  obtain ⟨f0, f1, f2⟩ := B3.frozen H9.out.box
  have hne1 : (hb == w.heap.size) = false := by rw [beq_eq_false_iff_ne]; have := HN6.out; have := H9.out.lt; omega
  go_wp2_with fail
  exact bodyPost_ret (v := .tuple #[.agg #[.int .i64 g, .int .i64 q, .int .i64 a], .int .i64 0]) (by simp [results, Tryd.results10, go_sem, *]) rfl ⟨M.hgot_of HR.out, by (repeat refine Below.setCell ?_ (by simp) _); exact H9.out.below⟩

theorem get10_any (s : ByteArray) (w : World) :
    Calls Tryd.prog 10 #[.string s] w fun e w' => e = .returned (M.hgot (M.hget s)) ∧ Below w.heap.size w w' := by
  by_cases h : s.size = 64
  · by_cases h1 : s.extract 0 1 = ⟨#[76]⟩
    · by_cases h2 : s.extract 15 19 = M.tail (s.extract 0 15)
      · by_cases h3 : M.hmay (M.hread s) = true
        · by_cases h4 : M.hwhole (M.hread s) = s
          · exact get10_good s w h h1 h2 h3 h4
          · exact get10_other s w h h1 h2 h3 h4
        · exact get10_not s w h h1 h2 h3
      · exact get10_sum s w h h1 h2
    · exact get10_form s w h h1
  · exact get10_size s w h
end Go.Proofs.YtdegfkhbcgnmmaaDoor
