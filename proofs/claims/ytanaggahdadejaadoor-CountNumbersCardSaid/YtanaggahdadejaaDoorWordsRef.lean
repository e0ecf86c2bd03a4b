/-
  Walks over solderref01.Words and solderlaw01.Same.
-/
import Derived.Test.YtanaggahdadejaaDoorWords
namespace Go.Proofs.YtanaggahdadejaaDoor
open Go.RowKit

theorem piece_of (s : ByteArray) (k i : Nat) (h : k < i) (hi : i ≤ s.size) : M.piece (s.extract k i).data.toList = [(s.extract k i).data.toList] := by
  rw [M.piece, if_neg]
  intro e
  have := congrArg List.length e
  simp at this
  omega
theorem piece_at (s : ByteArray) (k : Nat) : M.piece ((s.data.toList.take k).drop k) = [] := by
  rw [M.piece, if_pos]
  rw [List.drop_of_length_le (by simp; omega)]

def WRel (s : ByteArray) (acc : List (List UInt8)) (k i : Nat) : Prop :=
  (i ≤ s.size → acc ++ M.wst s.data.toList k i = M.words s.data.toList) ∧ (s.size < i → acc = M.words s.data.toList)
theorem wrel_len {s : ByteArray} {acc : List (List UInt8)} {k i : Nat} (h : WRel s acc k i) : acc.length ≤ s.size + 1 := by
  have hw := M.words_len s.data.toList
  have hsl := M.size_list s
  by_cases hi : i ≤ s.size
  · have := congrArg List.length (h.1 hi)
    rw [List.length_append] at this
    omega
  · rw [h.2 (by omega)]; omega
theorem wrel_start (s : ByteArray) : WRel s [] 0 0 := ⟨fun _ => by rw [M.wst_start]; rfl, fun h => by omega⟩
theorem wrel_end {s : ByteArray} {acc : List (List UInt8)} {k i : Nat} (h : WRel s acc k i) (hi : i = s.size) : WRel s (acc ++ M.piece ((s.data.toList.take i).drop k)) (i + 1) (i + 1) := by
  refine ⟨fun h => by omega, fun _ => ?_⟩
  rw [← h.1 (by omega), M.wst_end _ _ _ (by rw [M.size_list]; omega), List.take_of_length_le (by rw [M.size_list]; omega)]
theorem wrel_blank {s : ByteArray} {acc : List (List UInt8)} {k i : Nat} (h : WRel s acc k i) (hi : i < s.size) (hb : (s[i]'hi) = 32) : WRel s (acc ++ M.piece ((s.data.toList.take i).drop k)) (i + 1) (i + 1) := by
  refine ⟨fun _ => ?_, fun h => by omega⟩
  rw [← h.1 (by omega), M.wst_blank s.data.toList k i (by rw [M.size_list]; exact hi) (by rw [M.list_at s i hi]; exact hb), List.append_assoc]
theorem wrel_other {s : ByteArray} {acc : List (List UInt8)} {k i : Nat} (h : WRel s acc k i) (hk : k ≤ i) (hi : i < s.size) (hb : ¬ (s[i]'hi) = 32) : WRel s acc k (i + 1) := by
  refine ⟨fun _ => ?_, fun h => by omega⟩
  rw [← h.1 (by omega), M.wst_other s.data.toList k i hk (by rw [M.size_list]; exact hi) (by rw [M.list_at s i hi]; exact hb)]
theorem wrel_done {s : ByteArray} {acc : List (List UInt8)} {k i : Nat} (h : WRel s acc k i) (hi : s.size < i) : acc = M.words s.data.toList := h.2 hi

theorem owns_more {w1 : World} {B : Nat} {v' : Value} {acc : List (List UInt8)} {c : ByteArray} (h : w1.ownsRow B 9 1 v' (acc.length + 1) (acc.map S ++ [.string c])) : w1.ownsRow B 9 1 v' (acc ++ [c.data.toList]).length ((acc ++ [c.data.toList]).map S) := by
  simpa [S, bytes_eta] using h

set_option maxHeartbeats 2000000 in
theorem refWords_any (s : ByteArray) (w : World) (hs : s.size ≤ 3000) :
    Calls Tryd.prog 19 #[.string s] w fun e w' => ∃ v, e = .returned v ∧ w'.ownsRow w.heap.size 9 1 v (M.words s.data.toList).length ((M.words s.data.toList).map S) ∧ Below w.heap.size w w' := by
  obtain ⟨i0, hi, hz0, hz1, hz2⟩ := info_parts Tryd.info9
  go_enter Tryd.func19, Tryd.ntmps19
  go_wp2_with fail
  go_loopw [3, 4, 5] (fun v f j wr => ∃ (i k : Nat) (acc : List (List UInt8)), k ≤ i ∧ i ≤ s.size + 1 ∧ f = .int .i64 k ∧ j = .int .i64 i ∧ wr.ownsRow w.heap.size 9 1 v acc.length (acc.map S) ∧ Below w.heap.size w wr ∧ WRel s acc k i) (fun _ _ j _ => s.size + 1 - (intOf j).toNat)
  case atStart => exact ⟨0, 0, [], Nat.le_refl _, by omega, rfl, rfl, World.ownsRow_nil _ _ _ _, Below.refl _ _, wrel_start s⟩
  case round =>
    obtain ⟨i, k, acc, hki, his, rfl, rfl, hown, hbw, HR⟩ := hrel
    have hacc := wrel_len HR
    have hBs := hbw.size
    by_cases hlt : i < s.size
    · have hb2 : ((i : Int) == (s.size : Int)) = false := by rw [beq_eq_false_iff_ne]; omega
      by_cases hb : (s[i]'hlt) = 32
      · have hb1 : (((s[i]'hlt).toNat : Int) == 32) = true := by rw [hb]; rfl
        by_cases hk : k < i
        · have R := wrel_blank HR hlt hb
          rw [← extract_list, piece_of s k i hk (by omega)] at R
          clear HR
          go_wp2_with (at_builtin; refine wpList_append_own _ rfl _ _ 33 rfl w.heap.size 9 i0 (.string ⟨#[]⟩) 1 16 Tryd.underlying33 hi hz0 hz1 hz2 rfl (by decide) _ _ _ rfl (hown.alloc _) ⟨wr.heap.size, 0, none⟩ 1 1 [.string (s.extract k i)] rfl rfl (cell_one_new _ _ _) (fun x hx => by simp at hx; subst hx; rfl) (by unfold maxLen; omega) (by omega) (by simp; omega) ?_; intro v' w3 hown' hgrow3 hnil3; have X := Lib.hid (And.intro (owns_more hown') (Below.grown (hbw.alloc hBs _) hgrow3 (by simp; omega) (fun j hj => (hown.lt _ hj).1))); clear hown' hgrow3 hnil3)
          go_roundw
          case rel => exact ⟨i + 1, i + 1, acc ++ [(s.extract k i).data.toList], Nat.le_refl _, by omega, by go_num, by go_num, X.out.1, X.out.2, R⟩
          case measure => simp [intOf]; omega
        · have hk' : k = i := by omega
          have R := wrel_blank HR hlt hb
          rw [hk', piece_at, List.append_nil] at R
          clear HR hk'
          go_wp2_with fail
          go_roundw
          case rel => exact ⟨i + 1, i + 1, acc, Nat.le_refl _, by omega, by go_num, by go_num, hown, hbw, R⟩
          case measure => simp [intOf]; omega
      · have hb1 : (((s[i]'hlt).toNat : Int) == 32) = false := by
          rw [beq_eq_false_iff_ne]; intro e; exact hb (UInt8.toNat_inj.1 (by show _ = 32; omega))
        have R := wrel_other HR hki hlt hb
        clear HR
        go_wp2_with fail
        go_roundw
        case rel => exact ⟨i + 1, k, acc, by omega, by omega, rfl, by go_num, hown, hbw, R⟩
        case measure => simp [intOf]; omega
    · by_cases he : i = s.size
      · have hb2 : ((i : Int) == (s.size : Int)) = true := by rw [beq_iff_eq]; omega
        have HE := Lib.hid he
        have hle : i ≤ s.size := by omega
        clear he hlt
        by_cases hk : k < i
        · have R := wrel_end HR HE.out
          rw [← extract_list, piece_of s k i hk (by omega)] at R
          clear HR
          go_wp2_with (at_builtin; refine wpList_append_own _ rfl _ _ 33 rfl w.heap.size 9 i0 (.string ⟨#[]⟩) 1 16 Tryd.underlying33 hi hz0 hz1 hz2 rfl (by decide) _ _ _ rfl (hown.alloc _) ⟨wr.heap.size, 0, none⟩ 1 1 [.string (s.extract k i)] rfl rfl (cell_one_new _ _ _) (fun x hx => by simp at hx; subst hx; rfl) (by unfold maxLen; omega) (by omega) (by simp; omega) ?_; intro v' w3 hown' hgrow3 hnil3; have X := Lib.hid (And.intro (owns_more hown') (Below.grown (hbw.alloc hBs _) hgrow3 (by simp; omega) (fun j hj => (hown.lt _ hj).1))); clear hown' hgrow3 hnil3)
          go_roundw
          case rel => exact ⟨i + 1, i + 1, acc ++ [(s.extract k i).data.toList], Nat.le_refl _, by omega, by go_num, by go_num, X.out.1, X.out.2, R⟩
          case measure => simp [intOf]; omega
        · have hk' : k = i := by omega
          have R := wrel_end HR HE.out
          rw [hk', piece_at, List.append_nil] at R
          clear HR hk'
          go_wp2_with fail
          go_roundw
          case rel => exact ⟨i + 1, i + 1, acc, Nat.le_refl _, by omega, by go_num, by go_num, hown, hbw, R⟩
          case measure => simp [intOf]; omega
      · have hgt : s.size < i := by omega
        have e := Lib.hid (wrel_done HR hgt)
        clear HR he
        go_wp2_with fail
        go_ret
        exact ⟨_, rfl, by rw [← e.out]; exact hown, hbw⟩

set_option maxHeartbeats 1000000 in
theorem same_some (L : List (List UInt8)) (g1 c1 g2 c2 : Nat) (w : World) (hL : L.length ≤ 100000)
    (h1 : ∀ k, k < L.length → w.cell? ⟨g1, k, none⟩ = some (.string ⟨(L.getD k []).toArray⟩)) (h2 : ∀ k, k < L.length → w.cell? ⟨g2, k, none⟩ = some (.string ⟨(L.getD k []).toArray⟩)) :
    Calls Tryd.prog 18 #[.slice (some ⟨g1, 0, none⟩) L.length c1, .slice (some ⟨g2, 0, none⟩) L.length c2] w fun e w' => e = .returned (.bool true) ∧ Below w.heap.size w w' := by
  obtain ⟨n, hn⟩ : ∃ n, n = L.length := ⟨_, rfl⟩
  rw [← hn] at h1 h2 hL ⊢
  have H1 := Lib.hid h1
  have H2 := Lib.hid h2
  clear hn h1 h2
  go_enter Tryd.func18, Tryd.ntmps18
  go_wp2_with fail
  go_loopw [5] (fun j wr => ∃ (i : Nat), i ≤ n ∧ j = .int .i64 i ∧ Hid (∀ p, wr.cell? p = w.cell? p) ∧ Below w.heap.size w wr) (fun j _ => n - (intOf j).toNat)
  case atStart => exact ⟨0, by omega, rfl, fun _ => rfl, Below.refl _ _⟩
  case round =>
    obtain ⟨i, hin, rfl, HC, hbw⟩ := hrel
    by_cases hlt : i < n
    · have q1 := (HC.out _).trans (H1.out i hlt)
      have q2 := (HC.out _).trans (H2.out i hlt)
      obtain ⟨x, hx⟩ : ∃ x, x = L.getD i [] := ⟨_, rfl⟩
      rw [← hx] at q1 q2
      clear hx
      have hlt2 : (i : Int) < (n : Int) := by omega
      have hi0 : (0 : Int) ≤ (i : Int) := by omega
      go_wp2_with fail
      go_quiet (fail)
      go_wp2_with fail
      go_roundw
      case rel => exact ⟨i + 1, by omega, by go_num, fun p => HC.out p, below_drewN hbw _⟩
      case measure => simp [intOf]; omega
    · go_wp2_with fail
      go_ret
      exact ⟨rfl, hbw⟩

set_option maxHeartbeats 1000000 in
theorem same_none (a1 a2 : Option Addr) (c1 c2 : Nat) (w : World) :
    Calls Tryd.prog 18 #[.slice a1 0 c1, .slice a2 0 c2] w fun e w' => e = .returned (.bool true) ∧ Below w.heap.size w w' := by
  go_enter Tryd.func18, Tryd.ntmps18
  go_wp2_with fail
  go_loopw [5] (fun j wr => j = .int .i64 0 ∧ wr = w) (fun _ _ => 0)
  case atStart => exact ⟨rfl, rfl⟩
  case round =>
    obtain ⟨rfl, rfl⟩ := hrel
    go_wp2_with fail
    go_ret
    exact ⟨rfl, Below.refl _ _⟩

/-- A slice that is owned: its form, and its cells. -/
theorem owned_form {w : World} {B : Nat} {v : Value} {L : List (List UInt8)} (h : w.ownsRow B 9 1 v L.length (L.map S)) :
    (L = [] ∧ ∃ a c, v = .slice a 0 c) ∨ (∃ g c, v = .slice (some ⟨g, 0, none⟩) L.length c ∧ B ≤ g ∧ g < w.heap.size ∧ L.length ≤ c ∧ ∀ k, k < L.length → w.cell? ⟨g, k, none⟩ = some (.string ⟨(L.getD k []).toArray⟩)) := by
  rcases h.2 with ⟨rfl, hn⟩ | ⟨g, cap, cur, rfl, hb, hg, hnc, _, _, htake⟩
  · exact .inl ⟨List.length_eq_zero_iff.1 hn, none, 0, rfl⟩
  · refine .inr ⟨g, cap, rfl, hb, lt_of_block hg, hnc, fun k hk => ?_⟩
    have := h.cells (g := g) rfl k (S (L.getD k [])) (by rw [List.getElem?_map, List.getElem?_eq_getElem hk]; simp [List.getD, hk])
    have hadd : (⟨g, 0, none⟩ : Addr).add k = ⟨g, k, none⟩ := by unfold Addr.add; split <;> simp_all
    rw [hadd] at this
    exact this

/-- Two slices that hold the same strings are the same. -/
theorem same_any (L : List (List UInt8)) (B1 B2 : Nat) (v1 v2 : Value) (w : World) (hL : L.length ≤ 100000) (h1 : w.ownsRow B1 9 1 v1 L.length (L.map S)) (h2 : w.ownsRow B2 9 1 v2 L.length (L.map S)) :
    Calls Tryd.prog 18 #[v1, v2] w fun e w' => e = .returned (.bool true) ∧ Below w.heap.size w w' := by
  rcases owned_form h1 with ⟨hl, a1, c1, rfl⟩ | ⟨g1, c1, rfl, _, _, _, q1⟩ <;> rcases owned_form h2 with ⟨hl2, a2, c2, rfl⟩ | ⟨g2, c2, rfl, _, _, _, q2⟩
  · exact same_none _ _ _ _ w
  · subst hl; exact same_none _ _ _ _ w
  · subst hl2; exact same_none _ _ _ _ w
  · exact same_some L g1 c1 g2 c2 w hL q1 q2
end Go.Proofs.YtanaggahdadejaaDoor
