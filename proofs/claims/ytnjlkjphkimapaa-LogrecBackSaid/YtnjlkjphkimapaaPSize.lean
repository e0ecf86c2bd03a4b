/-
  Walks over logrec.begin, logrec.Size, solderref11.number and solderref11.Size.
-/
import Derived.Test.YtnjlkjphkimapaaPBld
import Derived.Test.YtnjlkjphkimapaaFRdK
namespace Go.Proofs.Ytnjlkjphkimapaa
open Go.RowKit Go.Deep

/-- In y, a later world than w, there is a reader that has read k of s's bytes. -/
structure RdB (w y : World) (b : Nat) (s : ByteArray) (k : Nat) : Prop where
  rd : RdF y b s ⟨k, 0⟩
  below : Below w.heap.size w y
  lt : w.heap.size ≤ b
section
variable {w y : World} {b : Nat} {s : ByteArray} {k : Nat}
theorem RdB.keep {z : World} (h : RdB w y b s k) (hb : Below y.heap.size y z) : RdB w z b s k := ⟨Box.below h.rd hb (Box.lt h.rd), h.below.trans (hb.mono h.below.size), h.lt⟩
theorem RdB.drew (h : RdB w y b s k) : RdB w y.drew b s k := h.keep (Below.refl _ _).drew
theorem RdB.step {z : World} {k' : Nat} (h : RdB w y b s k) (hr : RdF z b s ⟨k', 0⟩) (hg : y.grownBy z (some b)) : RdB w z b s k' :=
  ⟨hr, below_by h.below hg h.lt h.below.size, h.lt⟩
theorem RdB.num (h : RdB w y b s k) (z : Nat) (h1 : 1 ≤ z) (h7 : z ≤ 7) (hz : k + z ≤ s.size) :
    Calls Try.prog 29 #[.pointer (some ⟨b, 0, none⟩), .int .i64 (z : Nat)] y fun e y' => e = .returned (.int .i64 (M.hnum s k (k + z))) ∧ RdB w y' b s (k + z) ∧ y.grownBy y' (some b) := by
  refine (numF b s ⟨k, 0⟩ (z : Nat) (by omega) (by omega) y h.rd (by show k ≤ s.size; omega)).mono ?_
  rintro e y' ⟨h1', h2, h3⟩
  obtain ⟨e1, e2⟩ := M.num_at s k z h1 h7 hz
  rw [e1] at h1'
  rw [e2] at h2
  exact ⟨h1', h.step h2 h3, h3⟩
theorem RdB.bytes (h : RdB w y b s k) (z : Nat) (hz : k + z ≤ s.size) :
    Calls Try.prog 31 #[.pointer (some ⟨b, 0, none⟩), .int .i64 (z : Nat)] y fun e y' => e = .returned (.string (s.extract k (k + z))) ∧ RdB w y' b s (k + z) ∧ y.grownBy y' (some b) := by
  refine (bytesF b s ⟨k, 0⟩ (z : Nat) y h.rd (by show k ≤ s.size; omega)).mono ?_
  rintro e y' ⟨h1', h2, h3⟩
  obtain ⟨e1, e2⟩ := M.bytes_at s k z hz
  rw [e1] at h1'
  rw [e2] at h2
  exact ⟨h1', h.step h2 h3, h3⟩
theorem RdB.left (h : RdB w y b s k) (hk : k ≤ s.size) :
    Calls Try.prog 30 #[.pointer (some ⟨b, 0, none⟩)] y fun e y' => e = .returned (.int .i64 ((s.size - k : Nat) : Int)) ∧ y = y' := by
  have h' := leftF b s ⟨k, 0⟩ y h.rd hk
  have e : M.left s ⟨k, 0⟩ = ((s.size - k : Nat) : Int) := by show (s.size : Int) - (k : Int) = _; omega
  rw [e] at h'
  exact h'
end
theorem newB (s : ByteArray) (w y : World) (hb : Below w.heap.size w y) : Calls Try.prog 27 #[.string s] y fun e z => ∃ b, e = .returned (.pointer (some ⟨b, 0, none⟩)) ∧ RdB w z b s 0 := by
  refine (newF s y).mono ?_
  rintro e z ⟨h1, h2, h3⟩
  exact ⟨_, h1, h2, hb.trans (h3.mono hb.size), hb.size⟩

theorem ne_of_toList {a b : ByteArray} (h : a ≠ b) : (a.toList == b.toList) = false := by
  rw [beq_eq_false_iff_ne]
  intro e
  apply h
  rw [ByteArray.toList_eq, ByteArray.toList_eq] at e
  exact M.ba_ext e
theorem R_toList : (⟨#[82]⟩ : ByteArray).toList = [82] := by rw [ByteArray.toList_eq]

theorem begin_no (s : ByteArray) (w y : World) (b : Nat) (h : RdB w y b s 0) (hs : 1 ≤ s.size) (h1 : s.extract 0 1 ≠ ⟨#[82]⟩) :
    Calls Try.prog 28 #[.pointer (some ⟨b, 0, none⟩)] y fun e y' => e = .returned (.tuple #[.int .i64 0, .int .i64 0, .bool false]) ∧ Below w.heap.size w y' := by
  have C := Lib.hid (h.bytes 1 (by omega))
  obtain ⟨u, hu⟩ : ∃ u, u = s.extract 0 (0 + 1) := ⟨_, rfl⟩
  rw [← hu] at C
  have hu' : (u.toList == [82]) = false := by
    rw [← R_toList]
    exact ne_of_toList (by rw [hu]; exact h1)
  clear h hu h1
  go_enter Try.func28, Try.ntmps28
  go_wp2_with fail
  refine C.out.mono ?_
  rintro e y1 ⟨rfl, h1, _⟩
  have HB := Lib.hid h1.below
  clear h1
  go_wp2_with fail
  go_returns
  exact ⟨rfl, HB.out⟩
theorem begin_yes (s : ByteArray) (w y : World) (b : Nat) (h : RdB w y b s 0) (hs : 8 ≤ s.size) (h1 : s.extract 0 1 = ⟨#[82]⟩) :
    Calls Try.prog 28 #[.pointer (some ⟨b, 0, none⟩)] y fun e y' =>
      e = .returned (.tuple #[.int .i64 (M.gQ s), .int .i64 (M.hnum s 7 8), .bool (decide (1 ≤ M.hnum s 7 8 ∧ M.hnum s 7 8 ≤ 16))]) ∧ RdB w y' b s 8 := by
  have C := Lib.hid (h.bytes 1 (by omega))
  have C1 : Hid (∀ z, RdB w z b s 1 → Calls Try.prog 29 #[.pointer (some ⟨b, 0, none⟩), .int .i64 6] z fun e z' => e = .returned (.int .i64 (M.gQ s)) ∧ RdB w z' b s 7 ∧ z.grownBy z' (some b)) := fun z hz => hz.num 6 (by omega) (by omega) (by omega)
  have C2 : Hid (∀ z, RdB w z b s 7 → Calls Try.prog 29 #[.pointer (some ⟨b, 0, none⟩), .int .i64 1] z fun e z' => e = .returned (.int .i64 (M.hnum s 7 8)) ∧ RdB w z' b s 8 ∧ z.grownBy z' (some b)) := fun z hz => hz.num 1 (by omega) (by omega) (by omega)
  obtain ⟨u, hu⟩ : ∃ u, u = s.extract 0 (0 + 1) := ⟨_, rfl⟩
  rw [← hu] at C
  have hu' : (u.toList == [82]) = true := by
    rw [← R_toList, hu, beq_iff_eq]
    show (s.extract 0 1).toList = _
    rw [h1]
  obtain ⟨Q, hQ⟩ : ∃ Q, Q = M.gQ s := ⟨_, rfl⟩
  obtain ⟨m, hm⟩ : ∃ m, m = M.hnum s 7 8 := ⟨_, rfl⟩
  rw [← hQ] at C1 ⊢
  rw [← hm] at C2 ⊢
  clear h hu h1 hQ hm hs
  have hc : (decide (1 ≤ m) = false) ∨ (decide (1 ≤ m) = true ∧ decide (m ≤ 16) = false) ∨ (decide (1 ≤ m) = true ∧ decide (m ≤ 16) = true) := by
    cases decide (1 ≤ m) <;> cases decide (m ≤ 16) <;> simp
  have hd : Hid (decide (1 ≤ m ∧ m ≤ 16) = (decide (1 ≤ m) && decide (m ≤ 16))) := by show _ = _; rw [Bool.decide_and]
  rw [hd.out]
  clear hd
  rcases hc with d1 | ⟨d1, d2⟩ | ⟨d1, d2⟩
  · rw [d1]
    go_enter Try.func28, Try.ntmps28
    go_wp2_with fail
    refine C.out.mono ?_
    rintro e y1 ⟨rfl, h1, _⟩
    have H1 := Lib.hid h1
    clear h1
    go_wp2_with fail
    refine (C1.out _ H1.out).mono ?_
    rintro e y2 ⟨rfl, h2, _⟩
    have H2 := Lib.hid h2
    clear h2
    go_wp2_with fail
    refine (C2.out _ H2.out).mono ?_
    rintro e y3 ⟨rfl, h3, _⟩
    have H3 := Lib.hid h3
    clear h3
    go_wp2_with fail
    go_returns
    exact ⟨rfl, H3.out⟩
  all_goals
    rw [d1, d2]
    go_enter Try.func28, Try.ntmps28
    go_wp2_with fail
    refine C.out.mono ?_
    rintro e y1 ⟨rfl, h1, _⟩
    have H1 := Lib.hid h1
    clear h1
    go_wp2_with fail
    refine (C1.out _ H1.out).mono ?_
    rintro e y2 ⟨rfl, h2, _⟩
    have H2 := Lib.hid h2
    clear h2
    go_wp2_with fail
    refine (C2.out _ H2.out).mono ?_
    rintro e y3 ⟨rfl, h3, _⟩
    have H3 := Lib.hid h3
    clear h3
    go_wp2_with fail
    go_returns
    exact ⟨rfl, H3.out⟩

set_option maxHeartbeats 1000000 in
theorem size11_any (s : ByteArray) (q : Int) (w : World) :
    Calls Try.prog 14 #[.string s, .int .i64 q] w fun e w' => e = .returned (.tuple #[.int .i64 (M.szN s q), .int .i64 (M.szE s q)]) ∧ Below w.heap.size w w' := by
  by_cases hs : s.size = 64
  · have hd : ((s.size : Int) == 64) = true := by rw [beq_iff_eq]; omega
    have C := Lib.hid (newB s w w (Below.refl _ _))
    by_cases h1 : s.extract 0 1 = ⟨#[82]⟩
    · have C1 : Hid (∀ y b, RdB w y b s 0 → _) := fun y b h => begin_yes s w y b h (by omega) h1
      obtain ⟨m, hm⟩ : ∃ m, m = M.hnum s 7 8 := ⟨_, rfl⟩
      obtain ⟨Q, hQ⟩ : ∃ Q, Q = M.gQ s := ⟨_, rfl⟩
      rw [← hm, ← hQ] at C1
      by_cases h2 : 1 ≤ m ∧ m ≤ 16
      · rw [decide_eq_true h2] at C1
        by_cases h3 : Q = q
        · have hE : M.szE s q = 0 := by unfold M.szE; rw [if_neg (by simp [hs]), if_pos ⟨⟨h1, by rw [← hm]; exact h2⟩, by rw [← hQ]; exact h3⟩]
          have hN : M.szN s q = 1 + m := by rw [M.szN, if_pos hE, hm]
          rw [hE, hN]
          have h3' : (Q == q) = true := by simp [h3]
          have hm1 := h2.2
          have hm0 := h2.1
          clear hE hN h1 h2 h3 hm hQ hs
          go_enter Try.func14, Try.ntmps14
          go_wp2_with fail
          refine C.out.mono ?_
          rintro e w1 ⟨b, rfl, h1⟩
          have H1 := Lib.hid h1
          clear h1
          go_wp2_with fail
          refine (C1.out _ _ H1.out).mono ?_
          rintro e w2 ⟨rfl, h2⟩
          have H2 := Lib.hid h2.below
          clear h2
          go_wp2_with fail
          go_ret2
          exact ⟨rfl, H2.out⟩
        · have hE : M.szE s q = 8 := by unfold M.szE; rw [if_neg (by simp [hs]), if_neg (fun x => h3 (hQ.trans x.2))]
          have hN : M.szN s q = 0 := by rw [M.szN, if_neg (by rw [hE]; decide)]
          rw [hE, hN]
          have h3' : (Q == q) = false := by simp [h3]
          clear hE hN h1 h2 h3 hm hQ hs
          go_enter Try.func14, Try.ntmps14
          go_wp2_with fail
          refine C.out.mono ?_
          rintro e w1 ⟨b, rfl, h1⟩
          have H1 := Lib.hid h1
          clear h1
          go_wp2_with fail
          refine (C1.out _ _ H1.out).mono ?_
          rintro e w2 ⟨rfl, h2⟩
          have H2 := Lib.hid h2.below
          clear h2
          go_wp2_with fail
          go_ret2
          exact ⟨rfl, H2.out⟩
      · rw [decide_eq_false h2] at C1
        have hE : M.szE s q = 8 := by unfold M.szE; rw [if_neg (by simp [hs]), if_neg (fun x => h2 (by rw [hm]; exact x.1.2))]
        have hN : M.szN s q = 0 := by rw [M.szN, if_neg (by rw [hE]; decide)]
        rw [hE, hN]
        clear hE hN h1 h2 hm hQ hs
        go_enter Try.func14, Try.ntmps14
        go_wp2_with fail
        refine C.out.mono ?_
        rintro e w1 ⟨b, rfl, h1⟩
        have H1 := Lib.hid h1
        clear h1
        go_wp2_with fail
        refine (C1.out _ _ H1.out).mono ?_
        rintro e w2 ⟨rfl, h2⟩
        have H2 := Lib.hid h2.below
        clear h2
        go_wp2_with fail
        go_ret2
        exact ⟨rfl, H2.out⟩
    · have C1 : Hid (∀ y b, RdB w y b s 0 → _) := fun y b h => begin_no s w y b h (by omega) h1
      have hE : M.szE s q = 8 := by unfold M.szE; rw [if_neg (by simp [hs]), if_neg (fun x => h1 x.1.1)]
      have hN : M.szN s q = 0 := by rw [M.szN, if_neg (by rw [hE]; decide)]
      rw [hE, hN]
      clear hE hN h1 hs
      go_enter Try.func14, Try.ntmps14
      go_wp2_with fail
      refine C.out.mono ?_
      rintro e w1 ⟨b, rfl, h1⟩
      have H1 := Lib.hid h1
      clear h1
      go_wp2_with fail
      refine (C1.out _ _ H1.out).mono ?_
      rintro e w2 ⟨rfl, h2⟩
      have H2 := Lib.hid h2
      clear h2
      go_wp2_with fail
      go_ret2
      exact ⟨rfl, H2.out⟩
  · have hd : ((s.size : Int) == 64) = false := by rw [beq_eq_false_iff_ne]; omega
    have hE : M.szE s q = 12 := by unfold M.szE; rw [if_pos hs]
    have hN : M.szN s q = 0 := by rw [M.szN, if_neg (by rw [hE]; decide)]
    rw [hE, hN]
    clear hE hN hs
    go_enter Try.func14, Try.ntmps14
    go_wp2_with fail
    go_ret2
    exact ⟨rfl, Below.refl _ _⟩

theorem number11_any (s : ByteArray) (hs : s.size ≤ 6) (w : World) :
    Calls Try.prog 32 #[.string s] w fun e w' => e = .returned (.int .i64 (M.num s.data.toList : Nat)) ∧ w' = w := by
  go_enter Try.func32, Try.ntmps32
  go_wp2_with fail
  go_loop [3, 4] (fun v j => ∃ k : Nat, k ≤ s.size ∧ j = .int .i64 k ∧ v = .int .i64 (M.num (s.data.toList.take k) : Nat)) (fun _ j => s.size - (intOf j).toNat)
  case atStart => exact ⟨0, Nat.zero_le _, rfl, rfl⟩
  case round =>
    obtain ⟨k, hk, rfl, rfl⟩ := hrel
    have hq := num_take_lt s k (by omega) hk
    by_cases hlt : k < s.size
    · have HT : Hid (M.num (s.data.toList.take (k + 1)) = 256 * M.num (s.data.toList.take k) + (s[k]'hlt).toNat) := take_at s k hlt
      obtain ⟨c, hc⟩ : ∃ c, c = s[k]'hlt := ⟨_, rfl⟩
      rw [← hc] at HT
      have x0 : ∀ h : k < s.size, s[k]'h = c := fun _ => hc.symm
      have hcb := c.toNat_lt
      obtain ⟨q, hq'⟩ : ∃ q, q = M.num (s.data.toList.take k) := ⟨_, rfl⟩
      rw [← hq'] at hq HT
      rw [← hq']
      clear hq' hc
      go_wp2_with fail
      go_round
      case rel => exact ⟨k + 1, by omega, by go_num, by rw [HT.out]; go_num⟩
      case measure => simp [intOf]; omega
    · have e : s.data.toList.take k = s.data.toList := List.take_of_length_le (by rw [Array.length_toList]; exact Nat.not_lt.mp hlt)
      rw [e] at hq ⊢
      obtain ⟨q, hq'⟩ : ∃ q, q = M.num s.data.toList := ⟨_, rfl⟩
      rw [← hq'] at hq ⊢
      have HQ := Lib.hid hq'
      clear hq' e
      go_wp2_with fail
      go_ret
      refine ⟨?_, rfl⟩
      rw [← HQ.out]
      rfl
end Go.Proofs.Ytnjlkjphkimapaa
