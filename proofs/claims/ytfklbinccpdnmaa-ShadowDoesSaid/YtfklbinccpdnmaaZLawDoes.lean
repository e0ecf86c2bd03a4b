/-
  A walk over solderlaw13.ShadowDoes.
-/
import Derived.Test.YtfklbinccpdnmaaZOps
import Derived.Test.YtfklbinccpdnmaaZWorks
import Derived.StillTailTactics
import Derived.Deep.RegionHeld3
import Derived.BigQuiet
namespace Go.Proofs.Ytfklbinccpdnmaa
open Go.RowKit Go.Maps

set_option maxRecDepth 100000 in
set_option maxHeartbeats 4000000 in
theorem shadowDoes_few (A : Option Addr) (len cap : Nat) (q : Int) (w : World) (hlen : len ≤ 200)
    (hO : ∀ i, i < len → ∃ (ad : Addr) (k x n : Int), A = some ad ∧ ad.block < w.heap.size ∧ OpCells w (ad.add (i * 3)) k x n ∧ (Lit.int .i64 x).wf = true) :
    Calls Try.prog 3 #[.slice A len cap, .int .i64 q] w fun e w' => e = .returned (.bool true) ∧ Below w.heap.size w w' := by
  have HO := Lib.hid hO
  have HW := Lib.hid (works13_any w)
  have HN : Hid (∀ y, Below w.heap.size w y → Calls Try.prog 7 #[] y fun e w' => ∃ a, e = .returned (.pointer (some ⟨a, 0, none⟩)) ∧ Bo13 w (w'.alloc (.cells #[.slice none 0 0, .slice none 0 0] 29)) a w'.heap.size [] [] [] []) := fun y hy => Bo13.new w y hy
  have hd : decide ((200 : Int) < (len : Int)) = false := by simp; omega
  clear hO
  go_enter Try.func3, Try.ntmps3
  go_wp2_with fail
  refine HW.out.mono ?_
  rintro e w1 ⟨rfl, hb1⟩
  have HB1 := Lib.hid hb1
  clear hb1 HW
  go_wp2_with fail
  refine (HN.out w1 HB1.out).mono ?_
  rintro e w2 ⟨a, rfl, h2⟩
  obtain ⟨b, hb⟩ : ∃ b, b = w2.heap.size := ⟨_, rfl⟩
  rw [← hb] at h2
  have H2 := Lib.hid h2
  have HBB := Lib.hid hb
  clear h2 hb HB1 HN
  go_wp2_with fail
  rw [← HBB.out]
  obtain ⟨w3, hw3⟩ : ∃ x, x = w2.alloc (.cells #[.slice none 0 0, .slice none 0 0] 29) := ⟨_, rfl⟩
  rw [← hw3] at H2
  rw [← hw3]
  clear hw3 HBB
  go_loopw [7] (fun i wr => ∃ k : Nat, k ≤ len ∧ i = .int .i64 k ∧ ∃ L K : List (Int × Int), Bo13 w wr a b L K L K ∧ L.length + K.length ≤ k) (fun i _ => len - (intOf i).toNat)
  case atStart => exact ⟨0, Nat.zero_le _, rfl, [], [], H2.out, Nat.le_refl _⟩
  case round =>
    obtain ⟨j, hj, rfl, L, K, hS, hLK⟩ := hrel
    have HS := Lib.hid hS
    have HLK := Lib.hid hLK
    clear hS hLK H2
    by_cases hlt : j < len
    · obtain ⟨ad, kk, x, n, rfl, hbl, hc, hwf⟩ := HO.out j hlt
      have hbl' : (ad.add (j * 3)).block < w.heap.size := by rw [add_block]; exact hbl
      have HC : Hid (∀ y, Below w.heap.size w y → OpCells y (ad.add (j * 3)) kk x n) := fun y hy => hc.below hy hbl'
      obtain ⟨c0, c1, c2⟩ := HC.out wr HS.out.low
      have hj0 : (0 : Int) ≤ (j : Int) := by omega
      have hj1 : (j : Int) < (len : Int) := by omega
      have HWF := Lib.hid hwf
      clear hc hbl hbl' hwf
      -- what a step leaves
      have HEnd : Hid (∀ (y : World) (L K : List (Int × Int)), Bo13 w y a b L K L K → L.length + K.length ≤ j + 1 → ∃ (n0 : Int) (i0 : Bool) (l0 : Nat) (A1 : Option Addr) (k1 : Nat), OpCells y (ad.add (j * 3)) kk x n ∧ y.cell? ⟨b, 1, none⟩ = some (.slice A1 l0 k1) ∧
          Hid (∀ m, Calls Try.prog 14 #[.pointer (some ⟨a, 0, none⟩), .int .i64 x] (y.drewN m) fun e w' => e = .returned (.tuple #[.int .i64 n0, .bool i0]) ∧ w' = y.drewN m) ∧
          Hid (∀ m, Calls Try.prog 15 #[.pointer (some ⟨b, 0, none⟩), .int .i64 x] (y.drewN m) fun e w' => e = .returned (.tuple #[.int .i64 n0, .bool i0]) ∧ w' = y.drewN m) ∧
          Hid (∀ m, Calls Try.prog 16 #[.pointer (some ⟨a, 0, none⟩)] (y.drewN m) fun e w' => e = .returned (.int .i64 (l0 : Nat)) ∧ w' = y.drewN m) ∧
          Hid (∀ m, ∃ L K : List (Int × Int), Bo13 w (y.drewN m) a b L K L K ∧ L.length + K.length ≤ j + 1)) := by
        intro y L K h hl
        obtain ⟨A1, k1, _, _, e1, _⟩ := h.cells
        exact ⟨_, _, _, A1, k1, HC.out y h.low, e1, fun m => (h.drewN m).aget x HWF.out, fun m => (h.drewN m).bget x (by omega) (by omega), fun m => (h.drewN m).aloose, fun m => ⟨L, K, h.drewN m, hl⟩⟩
      have hkk : kk = 0 ∨ kk = 1 ∨ kk = 2 ∨ kk = 3 ∨ ((kk == 0) = false ∧ (kk == 1) = false ∧ (kk == 2) = false ∧ (kk == 3) = false) := by
        by_cases h0 : kk = 0
        · exact Or.inl h0
        by_cases h1 : kk = 1
        · exact Or.inr (Or.inl h1)
        by_cases h2 : kk = 2
        · exact Or.inr (Or.inr (Or.inl h2))
        by_cases h3 : kk = 3
        · exact Or.inr (Or.inr (Or.inr (Or.inl h3)))
        · exact Or.inr (Or.inr (Or.inr (Or.inr ⟨beq_eq_false_iff_ne.2 h0, beq_eq_false_iff_ne.2 h1, beq_eq_false_iff_ne.2 h2, beq_eq_false_iff_ne.2 h3⟩)))
      rcases hkk with rfl | rfl | rfl | rfl | ⟨k0, k1, k2, k3⟩
      · have HP := Lib.hid ((HS.out.drewN 1).aput x n HWF.out (by have := HLK.out; omega))
        have HQ : Hid (∀ y, Bo13 w y a b (M.ins x n L) K L K → Calls Try.prog 9 #[.pointer (some ⟨b, 0, none⟩), .agg #[.int .i64 x, .int .i64 n]] y.drew fun e w' => e = .returned (.tuple #[]) ∧ Bo13 w w' a b (M.ins x n L) K (M.ins x n L) K) := fun y h => (h.drewN 1).bput x n (by have := HLK.out; omega)
        have HZL : Hid ((M.ins x n L).length + K.length ≤ j + 1) := by have := HLK.out; have := M.ins_le x n L; simp only [Hid]; omega
        clear HS HLK
        go_wp2_with fail
        go_still_tail 11, (by kernel_rfl)
        change wpList _ _ _ _ _ wr.drew
        go_wp2_with fail
        refine HP.out.mono ?_
        rintro e y1 ⟨rfl, h1⟩
        have H1 := Lib.hid h1
        obtain ⟨c0, c1, c2⟩ := HC.out y1 H1.out.low
        clear h1 HP
        go_wp2_with fail
        go_still_tail 12, (by kernel_rfl)
        change wpList _ _ _ _ _ y1.drew
        go_wp2_with fail
        refine (HQ.out _ H1.out).mono ?_
        rintro e y2 ⟨rfl, h2⟩
        have HZ := Lib.hid h2
        clear h2 HQ H1 c0 c1 c2
        obtain ⟨n0, i0, l0, A1, k1, ⟨c0, c1, c2⟩, c3, HG, HG', HLo, HR⟩ := HEnd.out _ _ _ HZ.out HZL.out
        have hnn : (n0 != n0) = false := by simp
        have hii : (i0 != i0) = false := by simp
        have hll : ((l0 : Int) != (l0 : Int)) = false := by simp
        clear HEnd HZ HZL HC
        go_wp2_with fail
        refine (HG.out 0).mono ?_
        rintro e y1 ⟨rfl, rfl⟩
        go_wp2_with fail
        refine (HG'.out 0).mono ?_
        rintro e y2 ⟨rfl, rfl⟩
        go_wp2_with fail
        go_quiet ((go_at_call 16; exact Calls.quiet_of_same (HLo.out _)))
        go_wp2_with fail
        go_roundw
        case rel =>
          obtain ⟨L9, K9, h9, hl9⟩ := HR.out _
          exact ⟨j + 1, by omega, by go_num, L9, K9, h9, hl9⟩
        case measure => simp [intOf]; omega
      · have HP := Lib.hid (HS.out.akeep (by have := HLK.out; omega))
        have HQ : Hid (∀ y, Bo13 w y a b [] (M.puts L K) L K → Calls Try.prog 11 #[.pointer (some ⟨b, 0, none⟩)] y fun e w' => e = .returned (.tuple #[]) ∧ Bo13 w w' a b [] (M.puts L K) [] (M.puts L K)) := fun y h => h.bkeep (by have := HLK.out; omega)
        have HZL : Hid (([] : List (Int × Int)).length + (M.puts L K).length ≤ j + 1) := by have := HLK.out; have := M.puts_len L K; simp only [Hid, List.length_nil]; omega
        clear HS HLK
        go_wp2_with fail
        refine HP.out.mono ?_
        rintro e y1 ⟨rfl, h1⟩
        have H1 := Lib.hid h1
        clear h1 HP
        go_wp2_with fail
        refine (HQ.out _ H1.out).mono ?_
        rintro e y2 ⟨rfl, h2⟩
        have HZ := Lib.hid h2
        clear h2 HQ H1 c0 c1 c2
        obtain ⟨n0, i0, l0, A1, k1, ⟨c0, c1, c2⟩, c3, HG, HG', HLo, HR⟩ := HEnd.out _ _ _ HZ.out HZL.out
        have hnn : (n0 != n0) = false := by simp
        have hii : (i0 != i0) = false := by simp
        have hll : ((l0 : Int) != (l0 : Int)) = false := by simp
        clear HEnd HZ HZL HC
        go_wp2_with fail
        refine (HG.out 0).mono ?_
        rintro e y1 ⟨rfl, rfl⟩
        go_wp2_with fail
        refine (HG'.out 0).mono ?_
        rintro e y2 ⟨rfl, rfl⟩
        go_wp2_with fail
        go_quiet ((go_at_call 16; exact Calls.quiet_of_same (HLo.out _)))
        go_wp2_with fail
        go_roundw
        case rel =>
          obtain ⟨L9, K9, h9, hl9⟩ := HR.out _
          exact ⟨j + 1, by omega, by go_num, L9, K9, h9, hl9⟩
        case measure => simp [intOf]; omega
      · have HP := Lib.hid HS.out.aback
        have HQ : Hid (∀ y, Bo13 w y a b [] K L K → ∃ lv, y.cell? ⟨b, 1, none⟩ = some lv ∧ y.frozen? ⟨b, 1, none⟩ = false ∧ Hid (Bo13 w (y.setCell ⟨b, 1, none⟩ (.slice none 0 0)) a b [] K [] K)) := fun y h => h.bback
        have HZL : Hid (([] : List (Int × Int)).length + K.length ≤ j + 1) := by have := HLK.out; simp only [Hid, List.length_nil]; omega
        clear HS HLK
        go_wp2_with fail
        refine HP.out.mono ?_
        rintro e y1 ⟨rfl, h1⟩
        obtain ⟨lv, d1, f1, HZ⟩ := HQ.out y1 h1
        clear h1 HQ HP c0 c1 c2
        obtain ⟨n0, i0, l0, A1, k1, ⟨c0, c1, c2⟩, c3, HG, HG', HLo, HR⟩ := HEnd.out _ _ _ HZ.out HZL.out
        have hnn : (n0 != n0) = false := by simp
        have hii : (i0 != i0) = false := by simp
        have hll : ((l0 : Int) != (l0 : Int)) = false := by simp
        clear HEnd HZ HZL HC
        go_wp2_with fail
        refine (HG.out 0).mono ?_
        rintro e y1 ⟨rfl, rfl⟩
        go_wp2_with fail
        refine (HG'.out 0).mono ?_
        rintro e y2 ⟨rfl, rfl⟩
        go_wp2_with fail
        go_quiet ((go_at_call 16; exact Calls.quiet_of_same (HLo.out _)))
        go_wp2_with fail
        go_roundw
        case rel =>
          obtain ⟨L9, K9, h9, hl9⟩ := HR.out _
          exact ⟨j + 1, by omega, by go_num, L9, K9, h9, hl9⟩
        case measure => simp [intOf]; omega
      · have HP := Lib.hid HS.out.aclear
        have HQ : Hid (∀ y, Bo13 w y a b L [] L K → ∃ kv, y.cell? ⟨b, 0, none⟩ = some kv ∧ y.frozen? ⟨b, 0, none⟩ = false ∧ Hid (Bo13 w (y.setCell ⟨b, 0, none⟩ (.slice none 0 0)) a b L [] L [])) := fun y h => h.bclear
        have HZL : Hid (L.length + ([] : List (Int × Int)).length ≤ j + 1) := by have := HLK.out; simp only [Hid, List.length_nil]; omega
        clear HS HLK
        go_wp2_with fail
        refine HP.out.mono ?_
        rintro e y1 ⟨rfl, h1⟩
        obtain ⟨kv, d1, f1, HZ⟩ := HQ.out y1 h1
        clear h1 HQ HP c0 c1 c2
        obtain ⟨n0, i0, l0, A1, k1, ⟨c0, c1, c2⟩, c3, HG, HG', HLo, HR⟩ := HEnd.out _ _ _ HZ.out HZL.out
        have hnn : (n0 != n0) = false := by simp
        have hii : (i0 != i0) = false := by simp
        have hll : ((l0 : Int) != (l0 : Int)) = false := by simp
        clear HEnd HZ HZL HC
        go_wp2_with fail
        refine (HG.out 0).mono ?_
        rintro e y1 ⟨rfl, rfl⟩
        go_wp2_with fail
        refine (HG'.out 0).mono ?_
        rintro e y2 ⟨rfl, rfl⟩
        go_wp2_with fail
        go_quiet ((go_at_call 16; exact Calls.quiet_of_same (HLo.out _)))
        go_wp2_with fail
        go_roundw
        case rel =>
          obtain ⟨L9, K9, h9, hl9⟩ := HR.out _
          exact ⟨j + 1, by omega, by go_num, L9, K9, h9, hl9⟩
        case measure => simp [intOf]; omega
      · have HZ := HS
        have HZL : Hid (L.length + K.length ≤ j + 1) := by have := HLK.out; simp only [Hid]; omega
        clear HS HLK c0 c1 c2
        obtain ⟨n0, i0, l0, A1, k1, ⟨c0, c1, c2⟩, c3, HG, HG', HLo, HR⟩ := HEnd.out _ _ _ HZ.out HZL.out
        have hnn : (n0 != n0) = false := by simp
        have hii : (i0 != i0) = false := by simp
        have hll : ((l0 : Int) != (l0 : Int)) = false := by simp
        clear HEnd HZ HZL HC
        go_wp2_with fail
        refine (HG.out 0).mono ?_
        rintro e y1 ⟨rfl, rfl⟩
        go_wp2_with fail
        refine (HG'.out 0).mono ?_
        rintro e y2 ⟨rfl, rfl⟩
        go_wp2_with fail
        go_quiet ((go_at_call 16; exact Calls.quiet_of_same (HLo.out _)))
        go_wp2_with fail
        go_roundw
        case rel =>
          obtain ⟨L9, K9, h9, hl9⟩ := HR.out _
          exact ⟨j + 1, by omega, by go_num, L9, K9, h9, hl9⟩
        case measure => simp [intOf]; omega
    · have e : j = len := by omega
      subst e
      obtain ⟨A1, k1, A2, k2, e1, e0⟩ := HS.out.cells
      obtain ⟨l1, hl1⟩ : ∃ l, l = L.length := ⟨_, rfl⟩
      obtain ⟨l2, hl2⟩ : ∃ l, l = K.length := ⟨_, rfl⟩
      rw [← hl1] at e1
      rw [← hl2] at e0
      have hll := HLK.out
      have HCl : Hid (∀ y, Bo13 w y a b L K L K → y.cell? ⟨b, 1, none⟩ = some (.slice A1 l1 k1) → y.cell? ⟨b, 0, none⟩ = some (.slice A2 l2 k2) → ∀ y', Below y.heap.size y y' → Bo13 w y' a b L K L K ∧ y'.cell? ⟨b, 1, none⟩ = some (.slice A1 l1 k1) ∧ y'.cell? ⟨b, 0, none⟩ = some (.slice A2 l2 k2)) := fun y h h1 h0 y' hb => by
        have hlt := World.block_lt_of_cell? y _ h1
        exact ⟨h.beside hb, (hb.cell (p := ⟨b, 1, none⟩) hlt).trans h1, (hb.cell (p := ⟨b, 0, none⟩) hlt).trans h0⟩
      obtain ⟨St, hSt⟩ : ∃ St : World → Prop, St = fun y => Bo13 w y a b L K L K ∧ y.cell? ⟨b, 1, none⟩ = some (.slice A1 l1 k1) ∧ y.cell? ⟨b, 0, none⟩ = some (.slice A2 l2 k2) := ⟨_, rfl⟩
      have H0 : Hid (St wr.drew) := by rw [hSt]; exact ⟨HS.out.drewN 1, e1, e0⟩
      have HLow : Hid (∀ y, St y → Below w.heap.size w y) := by rw [hSt]; exact fun y h => h.1.low
      have HC1 : Hid (∀ y, St y → y.cell? ⟨b, 1, none⟩ = some (.slice A1 l1 k1) ∧ y.cell? ⟨b, 0, none⟩ = some (.slice A2 l2 k2)) := by rw [hSt]; exact fun y h => h.2
      have HBx : ∀ y, St y → St (y.alloc (.cells #[.pointer (some ⟨a, 0, none⟩)] 24)) ∧ (y.alloc (.cells #[.pointer (some ⟨a, 0, none⟩)] 24)).cell? ⟨y.heap.size, 0, none⟩ = some (.pointer (some ⟨a, 0, none⟩)) := by
        rw [hSt]
        exact fun y h => ⟨HCl.out y h.1 h.2.1 h.2.2 _ ((Below.refl _ y).alloc (Nat.le_refl _) _), ((Box.new y _ _).cell 0).trans rfl⟩
      have HFr : Hid (∀ y, St y → Calls Try.prog 18 #[.pointer (some ⟨a, 0, none⟩)] y fun e w' => ∃ fb, e = .returned (.func (.func 30) #[] #[.pointer (some ⟨fb, 0, none⟩)]) ∧ Hid (St w' ∧ w'.cell? ⟨fb, 0, none⟩ = some (.pointer (some ⟨a, 0, none⟩))) ∧ w'.cell? ⟨b, 1, none⟩ = some (.slice A1 l1 k1) ∧ w'.cell? ⟨b, 0, none⟩ = some (.slice A2 l2 k2)) :=
        fun y h => (fresh_any _ y).mono (fun e w' ⟨he, hw⟩ => ⟨_, he, by rw [hw]; exact HBx y h, by rw [hw]; exact HC1.out _ (HBx y h).1⟩)
      have HKe : Hid (∀ y, St y → Calls Try.prog 19 #[.pointer (some ⟨a, 0, none⟩)] y fun e w' => ∃ fb, e = .returned (.func (.func 32) #[] #[.pointer (some ⟨fb, 0, none⟩)]) ∧ Hid (St w' ∧ w'.cell? ⟨fb, 0, none⟩ = some (.pointer (some ⟨a, 0, none⟩))) ∧ w'.cell? ⟨b, 1, none⟩ = some (.slice A1 l1 k1) ∧ w'.cell? ⟨b, 0, none⟩ = some (.slice A2 l2 k2)) :=
        fun y h => (kept_any _ y).mono (fun e w' ⟨he, hw⟩ => ⟨_, he, by rw [hw]; exact HBx y h, by rw [hw]; exact HC1.out _ (HBx y h).1⟩)
      have HSF : Hid (∀ y fb, St y ∧ y.cell? ⟨fb, 0, none⟩ = some (.pointer (some ⟨a, 0, none⟩)) → Calls Try.prog 17 #[.func (.func 30) #[] #[.pointer (some ⟨fb, 0, none⟩)], .slice A1 l1 k1, .int .i64 q] y fun e w' => e = .returned (.bool true) ∧ Hid (St w') ∧ w'.cell? ⟨b, 1, none⟩ = some (.slice A1 l1 k1) ∧ w'.cell? ⟨b, 0, none⟩ = some (.slice A2 l2 k2)) := by
        rw [hSt]
        exact fun y fb h => (h.1.1.sameFresh h.2 h.1.2.1 q (by omega)).mono (fun e w' ⟨he, hb⟩ => ⟨he, HCl.out y h.1.1 h.1.2.1 h.1.2.2 w' hb, (HCl.out y h.1.1 h.1.2.1 h.1.2.2 w' hb).2⟩)
      have HSK : Hid (∀ y fb (q : Int), St y ∧ y.cell? ⟨fb, 0, none⟩ = some (.pointer (some ⟨a, 0, none⟩)) → Calls Try.prog 17 #[.func (.func 32) #[] #[.pointer (some ⟨fb, 0, none⟩)], .slice A2 l2 k2, .int .i64 q] y fun e w' => e = .returned (.bool true) ∧ Hid (St w') ∧ w'.cell? ⟨b, 1, none⟩ = some (.slice A1 l1 k1) ∧ w'.cell? ⟨b, 0, none⟩ = some (.slice A2 l2 k2)) := by
        rw [hSt]
        exact fun y fb q h => (h.1.1.sameKept h.2 h.1.2.2 q (by omega)).mono (fun e w' ⟨he, hb⟩ => ⟨he, HCl.out y h.1.1 h.1.2.1 h.1.2.2 w' hb, (HCl.out y h.1.1 h.1.2.1 h.1.2.2 w' hb).2⟩)
      clear HS HLK hll HCl hSt HBx hl1 hl2 HC1 HO
      have tok1 : True := trivial
      have tok2 : True := trivial
      have tok3 : True := trivial
      go_wp2_with fail
      go_region_held3 (fun y => y.cell? ⟨b, 1, none⟩ = some (.slice A1 l1 k1) ∧ y.cell? ⟨b, 0, none⟩ = some (.slice A2 l2 k2)) (first | exact ⟨e1, e0⟩ | exact s1 | exact s2 | exact s3 | exact s4 | exact s5 | exact s6)
        (first
          | (have _t := tok1; go_at_call 18; refine (HFr.out _ H0.out).mono ?_; rintro e x1 ⟨fb1, rfl, H1, s1⟩; clear tok1)
          | (have _t := tok2; go_at_call 17; refine (HSF.out _ _ H1.out).mono ?_; rintro e x2 ⟨rfl, H2, s2⟩; clear tok2)
          | (have _t := tok3; go_at_call 19; refine (HKe.out _ H2.out).mono ?_; rintro e x3 ⟨fb3, rfl, H3, s3⟩; clear tok3; have tok4 : True := trivial)
          | (have _t := tok4; go_at_call 17; refine (HSK.out _ _ q H3.out).mono ?_; rintro e x4 ⟨rfl, H4, s4⟩; clear tok4; have tok5 : True := trivial)
          | (have _t := tok5; go_at_call 19; refine (HKe.out _ H4.out).mono ?_; rintro e x5 ⟨fb5, rfl, H5, s5⟩; clear tok5; have tok6 : True := trivial)
          | (have _t := tok6; go_at_call 17; refine (HSK.out _ _ 1000 H5.out).mono ?_; rintro e x6 ⟨rfl, H6, s6⟩; clear tok6))
      have HX := Lib.hid (HLow.out _ H6.out)
      clear H0 H1 H2 H3 H4 H5 H6 HFr HKe HSF HSK
      go_wp2_with fail
      go_ret
      exact ⟨rfl, HX.out⟩

theorem shadowDoes_walk (v : Value) (q : Int) (_q0 : -9223372036854775808 ≤ q) (_q9 : q ≤ 9223372036854775807) (w : World) (hO : OpsAt w v) :
    Calls Try.prog 3 #[v, .int .i64 q] w fun e w' => e = .returned (.bool true) ∧ Below w.heap.size w w' := by
  obtain ⟨A, len, cap, rfl, hO⟩ := hO
  by_cases hl : len ≤ 200
  · exact shadowDoes_few A len cap q w hl hO
  · have hd : decide ((200 : Int) < (len : Int)) = true := by simp; omega
    clear hO
    go_enter Try.func3, Try.ntmps3
    go_wp2_with fail
    refine (works13_any _).mono ?_
    rintro e w1 ⟨rfl, hb1⟩
    have HB1 := Lib.hid hb1
    clear hb1
    go_wp2_with fail
    go_ret
    exact ⟨rfl, HB1.out⟩
end Go.Proofs.Ytfklbinccpdnmaa
