/-
  Walks over count.Words, appendWord, solderref01.Words and Same.
-/
import Derived.Test.YtanaggahdadejaaDoorProg
import Derived.Test.YtanaggahdadejaaDoorMath
import Derived.WalkKit
import Derived.WalkSpells
import Derived.WalkSmall
import Derived.Deep.LoopGhost
import Derived.Lib.OthersKept
import Derived.Lib.Hide
import Derived.BigQuiet
import Derived.Deep.QuietTactic
namespace Go.Proofs.YtanaggahdadejaaDoor
open Go.RowKit

def S (l : List UInt8) : Value := .string ⟨l.toArray⟩
theorem Tryd.info9 : (Tryd.prog.info? 9).map (fun i => (i.zero, i.size, i.bytes)) = some (some (.string ⟨#[]⟩), 1, 16) := by kernel_rfl

theorem cell_one_new (w : World) (a : Value) (t : TypeId) : ∀ j u, [a][j]? = some u → (w.alloc (.cells #[a] t)).cell? ((⟨w.heap.size, 0, none⟩ : Addr).add j) = some u := by
  intro j u hj
  match j, hj with
  | 0, hj => simp at hj; subst hj; simp [Addr.add]
  | j + 1, hj => simp at hj

/-- appendWord of no word: the words as they were. -/
theorem appendWord_none (v : Value) (w : World) :
    Calls Tryd.prog 26 #[v, .string ⟨#[]⟩] w fun e w' => e = .returned v ∧ w = w' := by
  go_enter Tryd.func26, Tryd.ntmps26
  go_wp2
  go_ret
  exact ⟨rfl, rfl⟩

set_option maxHeartbeats 400000 in
theorem appendWord_one (B : Nat) (v : Value) (n : Nat) (xs : List Value) (c : List UInt8) (hc : c ≠ []) (w : World) (hown : w.ownsRow B 9 1 v n xs) (hn : n ≤ 100000) (hB : B ≤ w.heap.size) :
    Calls Tryd.prog 26 #[v, .string ⟨c.toArray⟩] w fun e w' => ∃ v' w1, e = .returned v' ∧ w' = w1 ∧ w1.ownsRow B 9 1 v' (n + 1) (xs ++ [S c]) ∧ (w.alloc (.cells #[S c] 9)).grownBy w1 v.ownBlock := by
  obtain ⟨i0, hi, hz0, hz1, hz2⟩ := info_parts Tryd.info9
  have hc1 : (c == []) = false := by simpa using hc
  go_enter Tryd.func26, Tryd.ntmps26
  go_wp2_with (at_builtin; refine wpList_append_own _ rfl _ _ 33 rfl B 9 i0 (.string ⟨#[]⟩) 1 16 Tryd.underlying33 hi hz0 hz1 hz2 rfl (by decide) _ _ _ rfl (hown.alloc _) ⟨w.heap.size, 0, none⟩ 1 1 [.string ⟨c.toArray⟩] rfl rfl (cell_one_new _ _ _) (fun x hx => by simp at hx; subst hx; rfl) (by unfold maxLen; omega) (by omega) (by simp; omega) ?_; intro v' w3 hown' hgrow3 hnil3; have X := Lib.hid (And.intro hown' hgrow3); clear hown' hgrow3 hnil3)
  go_ret
  exact ⟨v', w3, rfl, rfl, X.out.1, X.out.2⟩

theorem bytes_eta (c : ByteArray) : (⟨c.data.toList.toArray⟩ : ByteArray) = c := rfl
theorem extract_list (s : ByteArray) (k j : Nat) : (s.extract k j).data.toList = (s.data.toList.take j).drop k := by
  simp [ByteArray.data_extract, List.drop_take]

/-- What appendWord does, whatever the word: the piece behind what there was. -/
theorem appendWord_list (B : Nat) (v : Value) (acc : List (List UInt8)) (c : List UInt8) (w : World) (hown : w.ownsRow B 9 1 v acc.length (acc.map S)) (hn : acc.length ≤ 100000) (hB : B ≤ w.heap.size) :
    Calls Tryd.prog 26 #[v, .string ⟨c.toArray⟩] w fun e w' => ∃ v' w1, e = .returned v' ∧ w' = w1 ∧ w1.ownsRow B 9 1 v' (acc ++ M.piece c).length ((acc ++ M.piece c).map S) ∧ Below B w w1 ∧ ∀ (k : Nat) (s : ByteArray) (p : Nat), w.heap[k]? = some (Obj.stringIter s p) → w1.heap[k]? = some (Obj.stringIter s p) := by
  by_cases hc : c = []
  · subst hc
    refine (appendWord_none v w).mono ?_
    rintro e w' ⟨rfl, rfl⟩
    exact ⟨v, w, rfl, rfl, by simpa [M.piece] using hown, Below.refl _ _, fun _ _ _ h => h⟩
  · refine (appendWord_one B v acc.length (acc.map S) c hc w hown hn hB).mono ?_
    rintro e w' ⟨v', w1, rfl, rfl, h1, h2⟩
    refine ⟨v', w', rfl, rfl, by simpa [M.piece, hc] using h1, Below.grown ((Below.refl _ _).alloc hB _) h2 (by simp; omega) (fun j hj => (hown.lt _ hj).1), ?_⟩
    intro k s p hk
    have hlt := lt_of_block hk
    rw [h2.block k (by simp; omega) ?_, Below.heap_alloc _ _ _ hlt]
    · exact hk
    · intro e
      rcases hown.2 with ⟨rfl, _⟩ | ⟨g, cap, cur, rfl, _, hg, _⟩
      · simp [Value.ownBlock] at e
      · simp [Value.ownBlock] at e
        subst e
        rw [hk] at hg
        cases hg

theorem appendWord_any (B : Nat) (v : Value) (acc : List (List UInt8)) (c : ByteArray) (w : World) (hown : w.ownsRow B 9 1 v acc.length (acc.map S)) (hn : acc.length ≤ 100000) (hB : B ≤ w.heap.size) :
    Calls Tryd.prog 26 #[v, .string c] w fun e w' => ∃ v' w1, e = .returned v' ∧ w' = w1 ∧ w1.ownsRow B 9 1 v' (acc ++ M.piece c.data.toList).length ((acc ++ M.piece c.data.toList).map S) ∧ Below B w w1 ∧ ∀ (k : Nat) (s : ByteArray) (p : Nat), w.heap[k]? = some (Obj.stringIter s p) → w1.heap[k]? = some (Obj.stringIter s p) := by
  have h := appendWord_list B v acc c.data.toList w hown hn hB
  rw [bytes_eta] at h
  exact h

theorem ownsRow_iterAt' {w : World} {B : Nat} {e : TypeId} {v : Value} {n : Nat} {xs : List Value} (h : w.ownsRow B e 1 v n xs) {k : Nat} {s : ByteArray} {p : Nat} (hk : w.heap[k]? = some (.stringIter s p)) (p' : Nat) : (w.iterAt k s p').ownsRow B e 1 v n xs := by
  refine ⟨h.1, ?_⟩
  rcases h.2 with hn | ⟨g, cap, cur, hv, hb, hg, rest⟩
  · exact .inl hn
  · refine .inr ⟨g, cap, cur, hv, hb, ?_, rest⟩
    rw [Lib.iterAt_other]
    · exact hg
    · intro e
      rw [e, hk] at hg
      cases hg

set_option maxHeartbeats 1000000 in
theorem words_any (s : ByteArray) (w : World) (hs : s.size ≤ 3000) :
    Calls Tryd.prog 17 #[.string s] w fun e w' => ∃ v, e = .returned v ∧ w'.ownsRow w.heap.size 9 1 v (M.words s.data.toList).length ((M.words s.data.toList).map S) ∧ Below w.heap.size w w' := by
  have hwl := M.words_len s.data.toList
  have hsl := M.size_list s
  have HSL := Lib.hid hsl; clear hsl
  go_enter Tryd.func17, Tryd.ntmps17
  go_wp2_with fail
  go_loopw [3, 4] (fun v f wr => ∃ (pos k : Nat) (acc : List (List UInt8)), wr.heap[w.heap.size]? = some (.stringIter s pos) ∧ k ≤ pos ∧ pos ≤ s.size ∧ f = .int .i64 k ∧ wr.ownsRow w.heap.size 9 1 v acc.length (acc.map S) ∧ Below w.heap.size w wr ∧ Hid (acc ++ M.wst s.data.toList k pos = M.words s.data.toList)) (fun _ _ wr => s.size - wr.iterPos w.heap.size)
  case atStart => exact ⟨0, 0, [], World.iter_heap w s 0, Nat.le_refl _, Nat.zero_le _, rfl, World.ownsRow_nil _ _ _ _, (Below.refl _ _).alloc (Nat.le_refl _) _, by show _ = _; rw [M.wst_start]; rfl⟩
  case round =>
    obtain ⟨pos, k, acc, hit, hkp, hps, rfl, hown, hbw, HS⟩ := hrel
    have hpos0 := iterPos_of hit
    have HP := Lib.hid hpos0; clear hpos0
    have hacc : acc.length ≤ 3001 := by
      have h := congrArg List.length HS.out
      rw [List.length_append] at h
      have := HSL.out
      omega
    by_cases hp : pos < s.size
    · by_cases ha : (s[pos]'hp).toNat < 128
      · have hnx : ∀ ty, (Instr.next (.pointer (some ⟨w.heap.size, 0, none⟩)) true ty).run Tryd.prog wr = _ := fun ty => Lib.run_next_ascii_at wr w.heap.size s pos ty hit hp ha
        have hit2 := Lib.iterAt_heap wr w.heap.size s pos (pos + 1) hit
        have hbw2 := Lib.below_iterAt hbw (k := w.heap.size) (Nat.le_refl _) s (pos + 1)
        have hown2 := ownsRow_iterAt' hown hit (pos + 1)
        obtain ⟨W1, hW1⟩ : ∃ W1, W1 = wr.iterAt w.heap.size s (pos + 1) := ⟨_, rfl⟩
        rw [← hW1] at hnx hit2 hbw2 hown2
        have hBlt := lt_of_block hit2
        clear hW1 hit hown hbw
        by_cases hb : (s[pos]'hp) = 32
        · have hb1 : (((s[pos]'hp).toNat : Int) == 32) = true := by rw [hb]; rfl
          go_wp2_with fail
          refine (appendWord_any w.heap.size _ acc _ W1 hown2 (by omega) (by omega)).mono ?_
          rintro e w' ⟨v2, w2, rfl, rfl, hown3, hbel3, hit3⟩
          have hit4 := hit3 _ _ _ hit2
          have hbw4 := hbw2.trans hbel3
          clear hit3 hbel3 hown2 hit2 hbw2
          have HO := Lib.hid hown3; clear hown3
          go_wp2_with fail
          go_roundw
          case rel => exact ⟨pos + 1, pos + 1, acc ++ M.piece (s.extract k pos).data.toList, hit4, by omega, by omega, by go_num, HO.out, hbw4, by show _ = _; rw [← HS.out, M.wst_blank s.data.toList k pos (by rw [HSL.out]; exact hp) (by rw [M.list_at s pos hp]; exact hb), extract_list, List.append_assoc]⟩
          case measure => rw [iterPos_of hit4, HP.out]; omega
        · have hb1 : (((s[pos]'hp).toNat : Int) == 32) = false := by
            rw [beq_eq_false_iff_ne]; intro e; exact hb (UInt8.toNat_inj.1 (by show _ = 32; omega))
          go_wp2_with fail
          go_roundw
          case rel => exact ⟨pos + 1, k, acc, hit2, by omega, by omega, rfl, hown2, hbw2, by show _ = _; rw [← HS.out, M.wst_other s.data.toList k pos hkp (by rw [HSL.out]; exact hp) (by rw [M.list_at s pos hp]; exact hb)]⟩
          case measure => rw [iterPos_of hit2, HP.out]; omega
      · have hsp := M.decode_span s pos hp (by omega)
        have hnx : ∀ ty, (Instr.next (.pointer (some ⟨w.heap.size, 0, none⟩)) true ty).run Tryd.prog wr = _ := fun ty => Lib.run_next_any_at wr w.heap.size s pos ty hit hp
        obtain ⟨r, hr⟩ : ∃ r, r = (Utf8.decode s pos).1 := ⟨_, rfl⟩
        obtain ⟨d, hd⟩ : ∃ d, d = (Utf8.decode s pos).2 := ⟨_, rfl⟩
        rw [← hr, ← hd] at hnx hsp
        have hit2 := Lib.iterAt_heap wr w.heap.size s pos (pos + d) hit
        have hbw2 := Lib.below_iterAt hbw (k := w.heap.size) (Nat.le_refl _) s (pos + d)
        have hown2 := ownsRow_iterAt' hown hit (pos + d)
        obtain ⟨W1, hW1⟩ : ∃ W1, W1 = wr.iterAt w.heap.size s (pos + d) := ⟨_, rfl⟩
        rw [← hW1] at hnx hit2 hbw2 hown2
        have HA := Lib.hid hsp.2.2.2
        have h128 := hsp.1
        have hd1 := hsp.2.1
        have hd2 := hsp.2.2.1
        have hb1 : ((r : Int) == 32) = false := by rw [beq_eq_false_iff_ne]; omega
        have HS2 : Hid (acc ++ M.wst s.data.toList k (pos + d) = M.words s.data.toList) := by
          show _ = _
          rw [← HS.out, M.wst_skip _ _ d pos hkp (by rw [HSL.out]; exact hd2)]
          intro j hj h1 h2 e
          have h3 := HA.out j h1 h2
          rw [M.get_bang s j hj, ← M.list_at s j hj, e] at h3
          revert h3
          decide
        clear hW1 hit hown hbw hr hd hsp HA HS ha
        go_wp2_with fail
        go_roundw
        case rel => exact ⟨pos + d, k, acc, hit2, by omega, by omega, rfl, hown2, hbw2, HS2⟩
        case measure => rw [iterPos_of hit2, HP.out]; omega
    · have hnx : ∀ ty, (Instr.next (.pointer (some ⟨w.heap.size, 0, none⟩)) true ty).run Tryd.prog wr = _ := fun ty => Lib.run_next_end_at wr w.heap.size s pos ty hit hp
      have hBlt := lt_of_block hit
      go_wp2_with fail
      refine (appendWord_any w.heap.size _ acc _ wr hown (by omega) (by omega)).mono ?_
      rintro e w' ⟨v2, w2, rfl, rfl, hown3, hbel3, hit3⟩
      have X := Lib.hid (And.intro hown3 (hbw.trans hbel3))
      clear hit3 hbel3 hown3 hown hbw
      go_wp2_with fail
      go_ret
      refine ⟨v2, rfl, ?_, X.out.2⟩
      have h := X.out.1
      rw [extract_list, List.take_of_length_le (by rw [HSL.out]; omega), ← M.wst_end _ _ pos (by rw [HSL.out]; omega), HS.out] at h
      exact h
end Go.Proofs.YtanaggahdadejaaDoor
