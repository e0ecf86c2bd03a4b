/-
  Walk over logrec.Get where as many sectors stand behind the first one as it tells.
-/
import Derived.Test.YtnjlkjphkimapaaPGet
namespace Go.Proofs.Ytnjlkjphkimapaa
open Go.RowKit Go.Deep

theorem M.getE_main {s : ByteArray} {n : Nat} (hn : 1 ≤ n ∧ n ≤ 16) (hs : s.size = 64 * (n + 1)) (h2 : s.extract 0 1 = ⟨#[82]⟩) (h3 : M.hnum s 7 8 = n) :
    M.gN s = n ∧ M.getE s = if s.extract (8 + 2 * n) (12 + 2 * n) ≠ M.tail (s.extract 0 (8 + 2 * n) ++ s.extract 64 s.size) then 5 else if M.rE (M.gA s) (M.gT s) (M.gQ s) n ≠ 0 ∨ M.rS (M.gA s) (M.gT s) (M.gQ s) n ≠ s then 4 else 0 := by
  have hN : M.gN s = n := by unfold M.gN; omega
  refine ⟨hN, ?_⟩
  unfold M.getE
  rw [if_neg (by omega), hN, if_neg (by rw [h2, h3]; simp; omega)]
theorem M.gA_small (s : ByteArray) (i : Nat) (h : 10 + 2 * i ≤ s.size) : 0 ≤ M.gA s i ∧ M.gA s i < 65536 := by
  have : 0 ≤ M.hnum s (8 + 2 * i) (8 + 2 * i + 2) ∧ M.hnum s (8 + 2 * i) (8 + 2 * i + 2) < (256 ^ 2 : Nat) := M.hnum_bound s _ 2 (by omega)
  have e : 8 + 2 * i + 2 = 10 + 2 * i := by omega
  rw [e] at this
  unfold M.gA
  omega

theorem RdB.set {w y : World} {b g k : Nat} {s : ByteArray} (h : RdB w y b s k) (hne : g ≠ b) (hg : w.heap.size ≤ g) (i : Nat) (u : Value) : RdB w (y.setCell ⟨g, i, none⟩ u) b s k :=
  ⟨Box.kept h.rd (grown_set y g i u) (Ne.symm hne), below_by h.below (grown_set y g i u) hg h.below.size, h.lt⟩

set_option maxRecDepth 100000 in
set_option maxHeartbeats 4000000 in
theorem get11_main (s : ByteArray) (w : World) (n : Nat) (hn : 1 ≤ n ∧ n ≤ 16) (hs : s.size = 64 * (n + 1)) (h2 : s.extract 0 1 = ⟨#[82]⟩) (h3 : M.hnum s 7 8 = n) :
    Calls Try.prog 12 #[.string s] w fun e w' => Got11 s w e w' := by
  obtain ⟨hN, hE⟩ := M.getE_main hn hs h2 h3
  have he := (M.whole_facts s (by omega) (by omega)).1
  have hr := (M.whole_facts s (by omega) (by omega)).2.1
  have C := Lib.hid (newB s w w (Below.refl _ _))
  have C1 : Hid (∀ y b, RdB w y b s 0 → _) := fun y b h => begin_yes s w y b h (by omega) h2
  rw [h3, decide_eq_true (by omega)] at C1
  have hmk := make_secs n hn.2
  have CN : Hid (∀ y b k, k < n → RdB w y b s (8 + 2 * k) → Calls Try.prog 29 #[.pointer (some ⟨b, 0, none⟩), .int .i64 2] y fun e y' => e = .returned (.int .i64 (M.gA s k)) ∧ RdB w y' b s (8 + 2 * (k + 1)) ∧ y.grownBy y' (some b)) := fun y b k hk h => by
    have := h.num 2 (by omega) (by omega) (by omega)
    have e : 8 + 2 * k + 2 = 10 + 2 * k := by omega
    have e' : 8 + 2 * (k + 1) = 10 + 2 * k := by omega
    rw [e] at this
    rw [e']
    exact this
  have CL : Hid (∀ y b, RdB w y b s (8 + 2 * n) → Calls Try.prog 30 #[.pointer (some ⟨b, 0, none⟩)] y fun e y' => e = .returned (.int .i64 ((s.size - (8 + 2 * n) : Nat) : Int)) ∧ y = y') := fun y b h => h.left (by omega)
  have CB : Hid (∀ y b, RdB w y b s (8 + 2 * n) → Calls Try.prog 31 #[.pointer (some ⟨b, 0, none⟩), .int .i64 4] y fun e y' => e = .returned (.string (s.extract (8 + 2 * n) (12 + 2 * n))) ∧ RdB w y' b s (12 + 2 * n) ∧ y.grownBy y' (some b)) := fun y b h => by
    have := h.bytes 4 (by omega)
    have e : 8 + 2 * n + 4 = 12 + 2 * n := by omega
    rw [e] at this
    exact this
  have CT := Lib.hid (fun x => tail2 (s.extract 0 (8 + 2 * n)) (s.extract 64 s.size) x (by rw [ByteArray.size_extract]; omega) (by rw [ByteArray.size_extract]; omega))
  have CP : Hid (∀ y g, SecF y (some ⟨g, 0, none⟩) n (M.gA s) (M.gT s) → _) := fun y g h => put11_any (some ⟨g, 0, none⟩) n n (M.gA s) (M.gT s) (M.gQ s) y h (Nat.le_refl _) (by unfold maxLen; omega)
  have HA : Hid (∀ i, i < n → M.gA s i ≤ 9223372036854775807) := fun i hi => by have := M.gA_small s i (by omega); omega
  have HTk : Hid (∀ k, s.extract (64 + 64 * k) (128 + 64 * k) = M.gT s k) := fun k => rfl
  have hmul : (1 + (n : Int)) * 64 = (s.size : Int) := by omega
  obtain ⟨told, htold⟩ : ∃ told, told = 8 + 2 * n := ⟨_, rfl⟩
  obtain ⟨tend, htend⟩ : ∃ tend, tend = 12 + 2 * n := ⟨_, rfl⟩
  obtain ⟨L, hL⟩ : ∃ L, L = s.size - (8 + 2 * n) := ⟨_, rfl⟩
  have hsub : (s.size : Int) - (L : Int) = (told : Int) := by omega
  have ht1 : (told : Int) ≤ (s.size : Int) := by omega
  have h64 : (64 : Int) ≤ (s.size : Int) := by omega
  have h9 : (s.size : Int) ≤ 1088 := by omega
  rw [← hL] at CL
  have HL : Hid (told = 8 + 2 * n) := htold
  rw [← htold] at CL CB CT hE
  rw [← htend] at CB hE
  obtain ⟨Q, hQ⟩ : ∃ Q, Q = M.gQ s := ⟨_, rfl⟩
  rw [← hQ] at C1 CP hE
  have HQ := Lib.hid hQ
  have hn1 : (1 : Int) ≤ (n : Int) := by omega
  have hn2 : (n : Int) ≤ 16 := by omega
  obtain ⟨X, hX⟩ : ∃ X, X = s.extract told tend := ⟨_, rfl⟩
  rw [← hX] at CB hE
  obtain ⟨T, hT⟩ : ∃ T, T = M.tail (s.extract 0 told ++ s.extract 64 s.size) := ⟨_, rfl⟩
  rw [← hT] at CT hE
  obtain ⟨R, hR⟩ : ∃ R, R = M.rS (M.gA s) (M.gT s) Q n := ⟨_, rfl⟩
  obtain ⟨E, hEE⟩ : ∃ E, E = M.rE (M.gA s) (M.gT s) Q n := ⟨_, rfl⟩
  rw [← hR, ← hEE] at CP hE
  have HE := Lib.hid hE
  have HN := Lib.hid hN
  have HS : Hid (s.size = 64 * (n + 1)) := hs
  clear hN hE hs h2 h3 hn htold htend hL hQ hX hT hR hEE
  go_enter Try.func12, Try.ntmps12
  go_wp2_with fail
  refine C.out.mono ?_
  rintro e w1 ⟨b, rfl, h1⟩
  have H1 := Lib.hid h1
  clear h1
  go_wp2_with fail
  refine (C1.out _ _ H1.out).mono ?_
  rintro e w2 ⟨rfl, h2⟩
  have H2 := Lib.hid h2
  clear h2 H1
  obtain ⟨W, hW⟩ : ∃ W, W = w2.alloc (.cells (M.made n) 41) := ⟨_, rfl⟩
  obtain ⟨g, hg⟩ : ∃ g, g = w2.heap.size := ⟨_, rfl⟩
  have HRow : Hid (∃ cs, Row11 W g n 0 (M.gA s) (M.gT s) cs) := ⟨_, by rw [hW, hg]; exact Row11.new _ _ _ _⟩
  have HRd : Hid (RdB w W b s (8 + 2 * 0)) := by rw [hW]; exact H2.out.keep ((Below.refl _ _).alloc (Nat.le_refl _) _)
  have HG : Hid (g ≠ b ∧ w.heap.size ≤ g) := ⟨by have := Box.lt H2.out.rd; omega, by rw [hg]; exact H2.out.below.size⟩
  have HW := Lib.hid hW
  have Hg := Lib.hid hg
  clear hW hg
  go_wp2_with fail
  rw [← HW.out, ← Hg.out]
  clear HW Hg H2 hmk
  go_wp2_with fail
  go_loopw [45] (fun j wr => ∃ k : Nat, k ≤ n ∧ j = .int .i64 k ∧ Hid (∃ cs, Row11 wr g n k (M.gA s) (M.gT s) cs) ∧ Hid (RdB w wr b s (8 + 2 * k))) (fun j _ => n - (intOf j).toNat)
  case atStart => exact ⟨0, Nat.zero_le _, rfl, HRow, HRd⟩
  case round =>
    clear HRow HRd
    obtain ⟨k, hk, rfl, HRow, HRd⟩ := hrel
    by_cases hlt : k < n
    · have hk0 : (0 : Int) ≤ (k : Int) := by omega
      have hlt' : (k : Int) < (n : Int) := by omega
      obtain ⟨st, hst⟩ : ∃ st, st = 64 + 64 * k := ⟨_, rfl⟩
      obtain ⟨en, hen⟩ : ∃ en, en = 128 + 64 * k := ⟨_, rfl⟩
      have e1 : (1 + (k : Int)) * 64 = (st : Int) := by omega
      have b1 : (0 : Int) ≤ (st : Int) := by omega
      have b2 : (st : Int) ≤ (en : Int) := by omega
      have b3 : (en : Int) ≤ (s.size : Int) := by have := HS.out; omega
      have b4 : (0 : Int) ≤ (en : Int) := by omega
      have e2 : IntKind.i64.wrap ((st : Int) + 64) = (en : Int) := by rw [IntKind.wrap_i64]; omega
      have HT1 : Hid (s.extract st en = M.gT s k) := by show _ = _; rw [hst, hen]; exact HTk.out k
      have C2 := Lib.hid (CN.out wr.drew b k hlt HRd.out.drew)
      obtain ⟨z, hz⟩ : ∃ z, z = M.gA s k := ⟨_, rfl⟩
      rw [← hz] at C2
      have HZ := Lib.hid hz
      clear hz hst hen
      have HK2 : Hid (k * 2 < n * 2 ∧ k * 2 + 1 < n * 2) := ⟨by omega, by omega⟩
      go_wp2_with fail
      go_region_held3 (fun _ => True) (first | trivial)
        (first
          | (go_at_call 29; refine C2.out.mono ?_; rintro e y1 ⟨rfl, h1, hg1⟩; have HR1 := Lib.hid h1; have HRow1 : Hid (∃ cs, Row11 y1 g n k (M.gA s) (M.gT s) cs) := HRow.out.imp (fun cs h => (h.below (Below.refl _ _).drew).kept hg1 HG.out.1); clear h1 hg1; obtain ⟨u0, x0, f0⟩ := (HRow1.out.choose_spec).cells (k * 2) HK2.out.1; obtain ⟨u1, x1, f1⟩ := (HRow1.out.choose_spec).cells (k * 2 + 1) HK2.out.2))
      all_goals
        have HRow2 : Hid (∃ cs, Row11 ((y1.setCell ⟨g, k * 2, none⟩ (.int .i64 z)).setCell ⟨g, k * 2 + 1, none⟩ (.string (s.extract st en))) g n (k + 1) (M.gA s) (M.gT s) cs) := HRow1.out.imp' _ (fun cs h => by have := h.set (by have := HK2.out; omega); rw [← HZ.out, ← HT1.out] at this; exact this)
        have HRd2 : Hid (RdB w ((y1.setCell ⟨g, k * 2, none⟩ (.int .i64 z)).setCell ⟨g, k * 2 + 1, none⟩ (.string (s.extract st en))) b s (8 + 2 * (k + 1))) := (HR1.out.set HG.out.1 HG.out.2 _ _).set HG.out.1 HG.out.2 _ _
        clear x0 f0 x1 f1 HRow1 HR1 e2
        go_wp2_with fail
        go_roundw
        case rel => exact ⟨k + 1, by omega, by go_num, HRow2, HRd2⟩
        case measure => simp [intOf]; omega
    · have e : k = n := by omega
      subst e
      clear hlt hk CN HTk
      have C3 := Lib.hid (CL.out wr b (by rw [HL.out]; exact HRd.out))
      have C4 := Lib.hid (CB.out wr.drew b (by rw [HL.out]; exact HRd.out.drew))
      go_wp2_with fail
      refine C3.out.mono ?_
      rintro e w3 ⟨rfl, rfl⟩
      go_wp2_with fail
      obtain ⟨f, hf⟩ : ∃ f, f = (X.toList == T.toList) := ⟨_, rfl⟩
      have HFq := Lib.hid hf
      have hf' := hf.symm
      clear hf
      go_region_held3 (fun _ => True) (first | trivial)
        (first
          | (go_at_call 31; refine C4.out.mono ?_; rintro e y1 ⟨rfl, h1, hg1⟩; have HB1 := Lib.hid h1.below; have HRow1 : Hid (∃ cs, Row11 y1 g k k (M.gA s) (M.gT s) cs) := HRow.out.imp (fun cs h => (h.below (Below.refl _ _).drew).kept hg1 HG.out.1); clear h1 hg1)
          | (go_at_call 22; refine (CT.out _).mono ?_; rintro e y2 ⟨rfl, hb2⟩; have HB2 : Hid (Below w.heap.size w y2) := (by first | exact HB1.out.trans (hb2.mono HB1.out.size) | exact HB1.out.drew.trans (hb2.mono HB1.out.size)); have HRow2 : Hid (∃ cs, Row11 y2 g k k (M.gA s) (M.gT s) cs) := HRow1.out.imp (fun cs h => by first | exact h.below hb2 | exact (h.below (Below.refl _ _).drew).below hb2); clear hb2))
      cases f
      · have HE5 : Hid (M.getE s = 5) := by
          show _ = _
          rw [HE.out, if_pos]
          intro e
          rw [e] at HFq
          have := HFq.out
          simp at this
        go_wp2_with fail
        go_returns
        exact Got11.no HE5.out (by decide) rfl HB2.out
      · have HXT : Hid (M.getE s = if E ≠ 0 ∨ R ≠ s then 4 else 0) := by
          show _ = _
          rw [HE.out, if_neg]
          intro h
          have := HFq.out
          rw [ne_of_toList h] at this
          cases this
        have C5 := Lib.hid (CP.out y2 g (HRow2.out.choose_spec.secs rfl HA.out))
        clear CP C4 C3 CT CB CL HE HFq
        go_wp2_with fail
        refine C5.out.mono ?_
        rintro e y3 ⟨rfl, hb3⟩
        have HB3 : Hid (Below w.heap.size w y3) := HB2.out.trans (hb3.mono HB2.out.size)
        have HSF : Hid (SecF y3 (some ⟨g, 0, none⟩) k (M.gA s) (M.gT s)) := (HRow2.out.choose_spec.secs rfl HA.out).below (Nat.le_refl _) hb3
        clear hb3
        by_cases hE0 : E = 0
        · have hE0' : (E == 0) = true := by simp [hE0]
          by_cases hRs : R = s
          · have hRs' : (R.toList == s.toList) = true := by simp [hRs]
            have HE0 : Hid (M.getE s = 0) := by show _ = _; rw [HXT.out, if_neg (by simp [hE0, hRs])]
            have HE1 := Lib.hid hE0
            go_wp2_with fail
            go_returns
            have e1 : M.getQ s = Q := by rw [M.getQ, if_pos HE0.out, HQ.out]
            have e2 : M.getN s = k := by rw [M.getN, if_pos HE0.out, HN.out]
            refine ⟨.slice (some ⟨g, 0, none⟩) k k, ?_, ⟨some ⟨g, 0, none⟩, k, by rw [e2], by rw [e2]; exact Nat.le_refl _, by unfold maxLen; omega, by rw [e2]; exact HSF.out⟩, HB3.out⟩
            rw [HE0.out, e1]
            rfl
          · have hRs' := ne_of_toList hRs
            have HE4 : Hid (M.getE s = 4) := by show _ = _; rw [HXT.out, if_pos (Or.inr hRs)]
            go_wp2_with fail
            all_goals go_returns
            all_goals exact Got11.no HE4.out (by decide) rfl HB3.out
        · have hE0' : (E == 0) = false := by simp [hE0]
          have HE4 : Hid (M.getE s = 4) := by show _ = _; rw [HXT.out, if_pos (Or.inl hE0)]
          go_wp2_with fail
          all_goals go_returns
          all_goals exact Got11.no HE4.out (by decide) rfl HB3.out
end Go.Proofs.Ytnjlkjphkimapaa
