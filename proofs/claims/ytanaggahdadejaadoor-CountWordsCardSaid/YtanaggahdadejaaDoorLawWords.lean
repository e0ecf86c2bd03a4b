/-
  The walk over solderlaw01.CountWords: it answers true at every line, whatever the world in which the library's table and the error's variable read as they are laid; nothing that was there is changed.
-/
import Derived.Test.YtanaggahdadejaaDoorWorks
namespace Go.Proofs.YtanaggahdadejaaDoor
open Go.RowKit

theorem ownsRow_below {w w' : World} {B : Nat} {e : TypeId} {v : Value} {n : Nat} {xs : List Value} (h : w.ownsRow B e 1 v n xs) (hb : Below w.heap.size w w') : w'.ownsRow B e 1 v n xs := by
  refine ⟨h.1, ?_⟩
  rcases h.2 with hn | ⟨g, cap, cur, hv, hB, hg, rest⟩
  · exact .inl hn
  · exact .inr ⟨g, cap, cur, hv, hB, by rw [hb.block g (lt_of_block hg)]; exact hg, rest⟩

theorem words_single (x : List UInt8) (h0 : x ≠ []) (h1 : ¬ (32 : UInt8) ∈ x) (hl : x.length ≤ 3000) (w : World) :
    Calls Tryd.prog 17 #[.string ⟨x.toArray⟩] w fun e w' => ∃ a c, e = .returned (.slice a 1 c) ∧ Below w.heap.size w w' := by
  refine (words_any ⟨x.toArray⟩ w (by show x.toArray.size ≤ 3000; simpa using hl)).mono ?_
  rintro e w' ⟨v, rfl, hown, hb⟩
  have e1 : M.words (⟨x.toArray⟩ : ByteArray).data.toList = [x] := M.words_one x h0 h1
  rw [e1] at hown
  rcases hown.2 with ⟨_, hn⟩ | ⟨g, cap, cur, rfl, _⟩
  · simp at hn
  · exact ⟨_, _, rfl, hb⟩

set_option maxHeartbeats 2000000 in
theorem countWords_walk (s : ByteArray) (w : World) (hE : Env w) :
    Calls Tryd.prog 5 #[.string s] w fun e w' => e = .returned (.bool true) ∧ Below w.heap.size w w' := by
  have HE := Lib.hid hE
  clear hE
  by_cases hs : s.size ≤ 3000
  · obtain ⟨L, hL⟩ : ∃ L, L = M.words s.data.toList := ⟨_, rfl⟩
    have hLl : L.length ≤ 3001 := by have := M.words_len s.data.toList; rw [← hL, M.size_list] at this; omega
    have hLm : ∀ x, x ∈ L → x ≠ [] ∧ ¬ (32 : UInt8) ∈ x ∧ x.length ≤ 3000 := by
      intro x hx
      rw [hL] at hx
      have h1 := M.words_mem _ _ hx
      have h2 := M.words_each _ _ hx
      rw [M.size_list] at h2
      exact ⟨h1.1, h1.2, by omega⟩
    have HL := Lib.hid hL
    have HM := Lib.hid hLm
    clear hL hLm
    go_enter Tryd.func5, Tryd.ntmps5
    go_wp2_with fail
    refine (works_any _ HE.out).mono ?_
    rintro e w1 ⟨rfl, hb1⟩
    go_wp2_with fail
    refine (long_no _ _ hs).mono ?_
    rintro e w1 ⟨rfl, rfl⟩
    go_wp2_with fail
    refine (words_any _ _ hs).mono ?_
    rintro e w2 ⟨v, rfl, hown, hb2⟩
    rw [← HL.out] at hown
    obtain ⟨n, hn⟩ : ∃ n, n = L.length := ⟨_, rfl⟩
    obtain ⟨a0, c0, rfl⟩ : ∃ a0 c0, v = .slice a0 n c0 := by
      rw [hn]
      rcases hown.2 with ⟨rfl, h0⟩ | ⟨g, cap, cur, rfl, _⟩
      · exact ⟨none, 0, by rw [h0]⟩
      · exact ⟨_, _, rfl⟩
    have HN := Lib.hid hn
    have hnl : n ≤ 3001 := by omega
    have hb2 := hb1.trans (hb2.mono hb1.size)
    have HO := Lib.hid hown
    clear hown hb1 hn
    go_wp2_with fail
    go_loopw [4] (fun j wr => ∃ i : Nat, i ≤ n ∧ j = .int .i64 i ∧ Hid (∃ B, wr.ownsRow B 9 1 (.slice a0 n c0) L.length (L.map S)) ∧ Below w.heap.size w wr) (fun j _ => n - (intOf j).toNat)
    case atStart => exact ⟨0, Nat.zero_le _, rfl, ⟨_, HO.out⟩, hb2⟩
    case round =>
      obtain ⟨i, hin, rfl, HO2, hbw⟩ := hrel
      clear HO hb2
      by_cases hlt : i < n
      · obtain ⟨B, hown⟩ := HO2.out
        have hiL : i < L.length := by rw [← HN.out]; exact hlt
        rcases owned_form hown with ⟨hl, _⟩ | ⟨g, c, hv, hBg, hg, hc, hcell⟩
        · rw [hl] at hiL; simp at hiL
        · obtain ⟨rfl, -, rfl⟩ : a0 = some ⟨g, 0, none⟩ ∧ n = L.length ∧ c0 = c := by injection hv with e1 e2 e3; exact ⟨e1, e2, e3⟩
          have hx := HM.out (L.getD i []) (by rw [List.getD_eq_getElem?_getD, List.getElem?_eq_getElem hiL]; exact List.getElem_mem hiL)
          have q := hcell i hiL
          obtain ⟨x, hxx⟩ : ∃ x, x = L.getD i [] := ⟨_, rfl⟩
          rw [← hxx] at hx q
          clear hxx hcell hown hv
          have hx0 : (x == []) = false := by simpa using hx.1
          have HX := Lib.hid hx
          clear hx
          have hlt2 : (i : Int) < (n : Int) := by omega
          have hi0 : (0 : Int) ≤ (i : Int) := by omega
          go_wp2_with fail
          refine (words_single x HX.out.1 HX.out.2.1 HX.out.2.2 _).mono ?_
          rintro e w3 ⟨a3, c3, rfl, hb3⟩
          have H3 : Hid (∃ B, w3.ownsRow B 9 1 (.slice (some ⟨g, 0, none⟩) n c0) L.length (L.map S)) := HO2.out.elim fun B h => ⟨B, ownsRow_below h hb3⟩
          have hbw3 := hbw.trans (hb3.mono hbw.size)
          clear hb3 q HO2 hbw
          go_wp2_with fail
          go_roundw
          case rel => exact ⟨i + 1, by omega, by go_num, H3, hbw3⟩
          case measure => simp [intOf]; omega
      · go_wp2_with fail
        refine (refWords_any _ _ hs).mono ?_
        rintro e w3 ⟨v3, rfl, hown3, hb3⟩
        rw [← HL.out] at hown3
        obtain ⟨B, hownB⟩ := HO2.out
        have hownB := ownsRow_below hownB hb3
        have hbw3 := hbw.trans (hb3.mono hbw.size)
        have H3 := Lib.hid hown3
        have H4 := Lib.hid hownB
        clear hown3 hownB hb3 HO2 hbw
        go_wp2_with fail
        refine (same_any L _ _ _ _ _ (by omega) H4.out H3.out).mono ?_
        rintro e w5 ⟨rfl, hb5⟩
        have hb6 := hbw3.trans (hb5.mono hbw3.size)
        clear hb5 hbw3 H3 H4
        go_wp2_with fail
        go_ret
        exact ⟨rfl, hb6⟩
  · go_enter Tryd.func5, Tryd.ntmps5
    go_wp2_with fail
    refine (works_any _ HE.out).mono ?_
    rintro e w1 ⟨rfl, hb1⟩
    go_wp2_with fail
    refine (long_yes _ _ hs).mono ?_
    rintro e w1 ⟨rfl, rfl⟩
    go_wp2_with fail
    go_ret
    exact ⟨rfl, hb1⟩
end Go.Proofs.YtanaggahdadejaaDoor
