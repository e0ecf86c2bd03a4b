/-
  Walks over solderref13.find and Get.
-/
import Derived.Test.YtfklbinccpdnmaaZRMath
namespace Go.Proofs.Ytfklbinccpdnmaa
open Go.RowKit Go.Maps

set_option maxHeartbeats 1000000 in
theorem rfind_any (w : World) {v : Value} {T : List (Int × Int)} (h : Things w v T) (k : Int) (hl : T.length ≤ 100000) :
    Calls Try.prog 28 #[v, .int .i64 k] w fun e w' => e = .returned (.tuple #[.int .i64 ((M.find k T).getD 0), .bool (M.find k T).isSome]) ∧ w' = w := by
  obtain ⟨A, c, rfl, hc⟩ := owns_shape13 h
  have HT := Lib.hid h
  clear h
  obtain ⟨o, ho⟩ : ∃ o, o = M.find k T := ⟨_, rfl⟩
  rw [← ho]
  have HO := Lib.hid ho
  clear ho
  obtain ⟨len, hlen⟩ : ∃ x, x = T.length := ⟨_, rfl⟩
  have HC : Hid (∀ j (hj : j < T.length), ∃ g, A = some ⟨g, 0, none⟩ ∧ w.cell? ⟨g, j * 2, none⟩ = some (.int .i64 (T[j]'hj).1) ∧ w.cell? ⟨g, j * 2 + 1, none⟩ = some (.int .i64 (T[j]'hj).2)) := by
    intro j hj
    obtain ⟨g, cap, e, _, h1, h2⟩ := HT.out.at_ hj
    injection e with e _ _
    exact ⟨g, e, h1, h2⟩
  rw [← hlen] at hl hc
  rw [← hlen]
  have HN := Lib.hid hlen
  clear hlen HT
  go_enter Try.func28, Try.ntmps28
  go_wp2_with fail
  go_loopw [6] (fun i wr => ∃ j : Nat, j ≤ len ∧ i = .int .i64 j ∧ wr = w ∧ ∀ i (hi : i < T.length), i < j → ¬ (T[i]'hi).1 = k) (fun i _ => len - (intOf i).toNat)
  case atStart => exact ⟨0, Nat.zero_le _, rfl, rfl, fun i hi h => absurd h (by omega)⟩
  case round =>
    obtain ⟨j, hj, rfl, rfl, hF⟩ := hrel
    have HF := Lib.hid hF
    clear hF
    by_cases hlt : j < len
    · have hjT : j < T.length := by rw [← HN.out]; exact hlt
      obtain ⟨g, rfl, c0, c1⟩ := HC.out j hjT
      have hj0 : (0 : Int) ≤ (j : Int) := by omega
      have hj1 : (j : Int) < (len : Int) := by omega
      by_cases he : (T[j]'hjT).1 = k
      · have HE : Hid (o = some (T[j]'hjT).2) := HO.out.trans (M.find_first HF.out hjT he)
        rw [he] at c0
        obtain ⟨y, hy⟩ : ∃ x, x = (T[j]'hjT).2 := ⟨_, rfl⟩
        rw [← hy] at c1 HE
        clear he hy hjT
        have hkk : (k == k) = true := by simp
        go_wp2_with fail
        go_ret2
        exact ⟨by rw [HE.out]; rfl, rfl⟩
      · have HE := Lib.hid he
        obtain ⟨x, hx⟩ : ∃ x, x = (T[j]'hjT).1 := ⟨_, rfl⟩
        rw [← hx] at c0 he
        have hne : (x == k) = false := by rw [beq_eq_false_iff_ne]; exact he
        clear he hx c1
        go_wp2_with fail
        go_roundw
        case rel => exact ⟨j + 1, by omega, by go_num, (by first | rfl | trivial), fun i hi hij => by
          by_cases e : i = j
          · subst e; exact HE.out
          · exact HF.out i hi (by omega)⟩
        case measure => simp [intOf]; omega
    · have e : j = len := by omega
      subst e
      have HE : Hid (o = none) := HO.out.trans (M.find_not (fun i hi => HF.out i hi (by rw [HN.out]; exact hi)))
      go_wp2_with fail
      go_ret2
      exact ⟨by rw [HE.out]; rfl, rfl⟩

/-- The document's shadow in block b of w. -/
structure RSh (w : World) (b : Nat) (kv lv : Value) (K L : List (Int × Int)) : Prop where
  box : Box w b 29 #[kv, lv]
  kept : Things w kv K
  loose : Things w lv L
  kb : ∀ k, kv.ownBlock = some k → k ≠ b
  lb : ∀ k, lv.ownBlock = some k → k ≠ b
section
variable {w w' : World} {b : Nat} {kv lv : Value} {K L : List (Int × Int)}
theorem RSh.moved {P : Nat → Prop} (h : RSh w b kv lv K L) (hk : Kept P w w') (hb : ¬ P b) (h1 : ∀ k, kv.ownBlock = some k → ¬ P k) (h2 : ∀ k, lv.ownBlock = some k → ¬ P k) : RSh w' b kv lv K L :=
  ⟨hk.box h.box hb, hk.owns13 h.kept h1, hk.owns13 h.loose h2, h.kb, h.lb⟩
theorem RSh.c0 (h : RSh w b kv lv K L) : w.cell? ⟨b, 0, none⟩ = some kv := by simpa using h.box.cell 0
theorem RSh.c1 (h : RSh w b kv lv K L) : w.cell? ⟨b, 1, none⟩ = some lv := by simpa using h.box.cell 1
/-- The things that stay are stored anew. -/
theorem RSh.set0 {v : Value} {M : List (Int × Int)} (h : RSh w b kv lv K L) (hk : Kept (fun _ => False) w w') (hm : Things w' v M) (hn : ∀ k, v.ownBlock = some k → w.heap.size ≤ k) :
    w'.frozen? ⟨b, 0, none⟩ = false ∧ w'.cell? ⟨b, 0, none⟩ = some kv ∧ Hid (RSh (w'.setCell ⟨b, 0, none⟩ v) b v lv M L ∧ Kept (fun k => k = b) w (w'.setCell ⟨b, 0, none⟩ v)) := by
  have hbl := h.box.lt
  have h' := h.moved hk id (fun _ _ => id) (fun _ _ => id)
  have hks : Kept (fun k => k = b) w' (w'.setCell ⟨b, 0, none⟩ v) := Kept.set (P := fun k => k = b) (Kept.refl _ w') (fun _ => rfl) 0 _
  have hne : ∀ k, v.ownBlock = some k → k ≠ b := fun k e => by have := hn k e; omega
  exact ⟨h'.box.frozen 0, h'.c0, ⟨by simpa using h'.box.set 0 v, hks.owns13 hm hne, hks.owns13 h'.loose h.lb, hne, h.lb⟩, (hk.mono (fun _ _ e => e.elim)).trans hks⟩
/-- The loose ones are stored anew. -/
theorem RSh.set1 {v : Value} {M : List (Int × Int)} (h : RSh w b kv lv K L) (hk : Kept (fun _ => False) w w') (hm : Things w' v M) (hn : ∀ k, v.ownBlock = some k → w.heap.size ≤ k) :
    w'.frozen? ⟨b, 1, none⟩ = false ∧ w'.cell? ⟨b, 1, none⟩ = some lv ∧ Hid (RSh (w'.setCell ⟨b, 1, none⟩ v) b kv v K M ∧ Kept (fun k => k = b) w (w'.setCell ⟨b, 1, none⟩ v)) := by
  have hbl := h.box.lt
  have h' := h.moved hk id (fun _ _ => id) (fun _ _ => id)
  have hks : Kept (fun k => k = b) w' (w'.setCell ⟨b, 1, none⟩ v) := Kept.set (P := fun k => k = b) (Kept.refl _ w') (fun _ => rfl) 1 _
  have hne : ∀ k, v.ownBlock = some k → k ≠ b := fun k e => by have := hn k e; omega
  exact ⟨h'.box.frozen 1, h'.c1, ⟨by simpa using h'.box.set 1 v, hks.owns13 h'.kept h.kb, hks.owns13 hm hne, h.kb, hne⟩, (hk.mono (fun _ _ e => e.elim)).trans hks⟩
end

set_option maxHeartbeats 1000000 in
theorem rget13_any (w : World) {b : Nat} {kv lv : Value} {K L : List (Int × Int)} (h : RSh w b kv lv K L) (k : Int) (hl : L.length ≤ 100000) (hkl : K.length ≤ 100000) :
    Calls Try.prog 15 #[.pointer (some ⟨b, 0, none⟩), .int .i64 k] w fun e w' => e = .returned (.tuple #[.int .i64 ((M.get13 k L K).getD 0), .bool (M.get13 k L K).isSome]) ∧ w' = w := by
  have c0 := h.c0
  have c1 := h.c1
  have H0 := Lib.hid (rfind_any w h.kept k hkl)
  have H1 := Lib.hid (rfind_any w h.loose k hl)
  clear h
  unfold M.get13
  cases hf : M.find k L with
  | some x =>
    rw [hf] at H1
    simp only [Option.some_or, Option.getD_some, Option.isSome_some] at H1 ⊢
    clear hf H0
    go_enter Try.func15, Try.ntmps15
    go_wp2_with fail
    refine H1.out.mono ?_
    rintro e w1 ⟨rfl, rfl⟩
    go_wp2_with fail
    go_ret2
    exact ⟨rfl, rfl⟩
  | none =>
    rw [hf] at H1
    simp only [Option.none_or, Option.getD_none, Option.isSome_none] at H1 ⊢
    obtain ⟨y, hy⟩ : ∃ y, y = (M.find k K).getD 0 := ⟨_, rfl⟩
    obtain ⟨i, hi⟩ : ∃ i, i = (M.find k K).isSome := ⟨_, rfl⟩
    rw [← hy, ← hi] at H0
    rw [← hy, ← hi]
    clear hf hy hi
    go_enter Try.func15, Try.ntmps15
    go_wp2_with fail
    refine H1.out.mono ?_
    rintro e w1 ⟨rfl, rfl⟩
    go_wp2_with fail
    refine H0.out.mono ?_
    rintro e w2 ⟨rfl, rfl⟩
    go_wp2_with fail
    go_ret2
    exact ⟨rfl, rfl⟩
end Go.Proofs.Ytfklbinccpdnmaa
