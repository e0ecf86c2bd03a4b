/-
  Walks over solderlaw11's works, LogrecPuts and LogrecGets.
-/
import Derived.Test.YtnjlkjphkimapaaPAll
import Derived.Test.YtnjlkjphkimapaaDNils
namespace Go.Proofs.Ytnjlkjphkimapaa
open Go.RowKit Go.Deep Go.ChangeAt

def M.wa : Nat → Int := fun i => if i = 0 then 5 else 2
def M.wt : Nat → ByteArray := fun _ => M.zeros 64
theorem M.works_rE : M.rE M.wa M.wt 9 2 = 0 := by
  have hz : ∀ i, (M.wt i).size = 64 := fun _ => M.zeros_size 64
  have s0 : M.secE M.wa M.wt 0 = 0 := by unfold M.secE; rw [if_neg (by decide), if_neg (by simp [hz]), if_neg (by decide)]
  have s1 : M.secE M.wa M.wt 1 = 0 := by unfold M.secE; rw [if_neg (by decide), if_neg (by simp [hz]), if_neg (by decide)]
  have f1 : M.firstE M.wa M.wt 1 = 0 := by rw [M.firstE_next _ _ _ rfl, s0]
  have f2 : M.firstE M.wa M.wt 2 = 0 := by rw [M.firstE_next _ _ _ f1, s1]
  unfold M.rE M.chk
  rw [if_neg (by decide), if_neg (by decide), if_neg (by decide), f2]
theorem M.works_size : M.szE (M.zeros 64) 9 = 8 ∧ M.szN (M.zeros 64) 9 = 0 := by
  have h1 : (M.zeros 64).extract 0 1 ≠ ⟨#[82]⟩ := by decide
  have hE : M.szE (M.zeros 64) 9 = 8 := by unfold M.szE; rw [if_neg (by simp [M.zeros_size]), if_neg (fun x => h1 x.1.1)]
  exact ⟨hE, by rw [M.szN, if_neg (by rw [hE]; decide)]⟩

set_option maxRecDepth 100000 in
set_option maxHeartbeats 2000000 in
theorem works11_any (w : World) : Calls Try.prog 6 #[] w fun e w' => e = .returned (.bool true) ∧ Below w.heap.size w w' := by
  have hE := M.works_rE
  obtain ⟨g1, g2, g3, g4, _⟩ := M.get_rec 9 hE
  have hsz := M.rS_size M.wa M.wt hE
  rw [M.rS_yes _ _ hE] at hsz
  have hQ9 : M.gA (M.rec M.wa M.wt (9 : Int).toNat 2) 1 = 2 := g4 1 (by omega)
  have CP : Hid (∀ y g c, 2 ≤ c → c ≤ maxLen → SecF y (some ⟨g, 0, none⟩) 2 M.wa M.wt → _) := fun y g c h1 h2 h => put11_any (some ⟨g, 0, none⟩) 2 c M.wa M.wt 9 y h h1 h2
  rw [M.rS_yes _ _ hE, hE] at CP
  have CS := Lib.hid (fun x => size11_any (M.zeros 64) 9 x)
  rw [M.works_size.1, M.works_size.2] at CS
  obtain ⟨S, hS⟩ : ∃ S, S = M.rec M.wa M.wt (9 : Int).toNat 2 := ⟨_, rfl⟩
  rw [← hS] at CP g1 g2 g3 hsz hQ9
  have CG : Hid (∀ y, Calls Try.prog 12 #[.string S] y fun e y' => ∃ ad c, e = .returned (.tuple #[.int .i64 9, .slice (some ad) 2 c, .int .i64 0]) ∧ y'.cell? (ad.add 2) = some (.int .i64 2) ∧ Below y.heap.size y y') := fun y => by
    refine (get11_any S y).mono ?_
    rintro e y' ⟨v, h1, ⟨A, c, rfl, _, _, h4⟩, h5⟩
    rw [M.getN, if_pos g1, g2] at h1 h4
    rw [M.getQ, if_pos g1, g3, g1] at h1
    obtain ⟨ad, rfl, c1, _⟩ := h4.at_ (i := 1) (by omega)
    rw [hQ9] at c1
    exact ⟨ad, c, h1, c1, h5⟩
  have hz : (S.size : Int) = 192 := by omega
  have hm : ∀ W : World, (Instr.makeSlice 37 (.int .i64 64) (.int .i64 64)).run Try.prog W = .ok (.slice (some ⟨W.heap.size, 0, none⟩) 64 64) (W.alloc (.cells (M.nils 64) 5)) := fun W => make_nils 64 (by decide) W
  have hcv : ∀ W : World, Sem.run Try.prog (convert 37 9 (.slice (some ⟨W.heap.size, 0, none⟩) 64 64)) (W.alloc (.cells (M.nils 64) 5)) = .ok (.string (M.zeros 64)) (W.alloc (.cells (M.nils 64) 5)) := fun W => conv_nils 64 _ _ (Box.new _ _ _)
  have HSF : Hid (∀ W : World, SecF (W.alloc (.cells #[.int .i64 5, .string (M.zeros 64), .int .i64 2, .string (M.zeros 64)] 41)) (some ⟨W.heap.size, 0, none⟩) 2 M.wa M.wt) := fun W i hi => by
    have hB := Box.new W 41 #[.int .i64 5, .string (M.zeros 64), .int .i64 2, .string (M.zeros 64)]
    have hlt := hB.lt
    have : i = 0 ∨ i = 1 := by omega
    rcases this with rfl | rfl
    · exact ⟨_, rfl, hlt, hB.cell 0, hB.cell 1, by decide⟩
    · exact ⟨_, rfl, hlt, hB.cell 2, hB.cell 3, by decide⟩
  obtain ⟨N, hN⟩ : ∃ N, N = M.nils 64 := ⟨_, rfl⟩
  obtain ⟨Z, hZ⟩ : ∃ Z, Z = M.zeros 64 := ⟨_, rfl⟩
  rw [← hN] at hm hcv
  rw [← hZ] at hcv CS HSF
  clear hN hZ hE g1 g2 g3 g4 hsz hS hQ9
  go_enter Try.func6, Try.ntmps6
  go_wp2_with fail
  refine (CP.out _ _ 2 (Nat.le_refl _) (by decide) (by have := HSF.out (w.alloc (.cells N 5)); rw [World.size_alloc] at this; exact this)).mono ?_
  rintro e w1 ⟨rfl, hb1⟩
  have HB1 : Hid (Below w.heap.size w w1) := (((Below.refl w.heap.size w).alloc (Nat.le_refl _) _).alloc (by simp) _).trans (hb1.mono (by simp; omega))
  clear hb1 HSF CP hm hcv
  go_wp2_with fail
  refine (CS.out _).mono ?_
  rintro e w2 ⟨rfl, hb2⟩
  have HB2 : Hid (Below w.heap.size w w2) := HB1.out.trans (hb2.mono HB1.out.size)
  clear hb2
  go_wp2_with fail
  refine (CG.out _).mono ?_
  rintro e w3 ⟨ad, c, rfl, hc, hb3⟩
  have hc' : w3.cell? ⟨ad.block, ad.off + 2, none⟩ = some (.int .i64 2) := by rw [← hc]; rfl
  have HB3 : Hid (Below w.heap.size w w3) := HB2.out.trans (hb3.mono HB2.out.size)
  clear hb3
  go_wp2_with fail
  go_ret
  exact ⟨rfl, HB3.out⟩

theorem logrecPuts_open1 {H : Type} {enc : TypeId × Value → H} {W : World} {r : Reach} {b0 : Nat} {v : Value} {d : DataW H} {p : List MemPlace} (hval : Value.okWide Try.prog W r b0 22 v)
    (h : DataW.Trod enc Try.prog W 0 (fun _ => true) true 22 v d p) : SecsAt W v := secs_open hval h

set_option maxRecDepth 100000 in
set_option maxHeartbeats 1000000 in
theorem logrecPuts_walk (q : Int) (_h0 : -9223372036854775808 ≤ q) (_h9 : q ≤ 9223372036854775807) (v : Value) (w : World) (hv : SecsAt w v) : Calls Try.prog 3 #[.int .i64 q, v] w fun e w' => e = .returned (.bool true) ∧ Below w.heap.size w w' := by
  obtain ⟨A, n, cap, rfl, hn, hc, hall⟩ := hv
  obtain ⟨a, t, hF⟩ := SecF.of hall
  have C0 := Lib.hid (works11_any w)
  have HF := Lib.hid (fun y (hb : Below w.heap.size w y) => hF.below (Nat.le_refl _) hb)
  have CG := Lib.hid (fun y (hb : Below w.heap.size w y) => great11_any A n cap a t y (hF.below (Nat.le_refl _) hb) (by omega))
  have C1 := Lib.hid (fun y (hb : Below w.heap.size w y) => put11_any A n cap a t q y (hF.below (Nat.le_refl _) hb) hn hc)
  have C2 := Lib.hid (fun y (hb : Below w.heap.size w y) => rput11_any A n cap a t q y (hF.below (Nat.le_refl _) hb) (by omega))
  have C3 := Lib.hid (fun y (hb : Below w.heap.size w y) => check_any A n cap a t y (hF.below (Nat.le_refl _) hb) hn hc)
  have C4 := Lib.hid (fun y (hb : Below w.heap.size w y) => rcheck_any A n cap a t y (hF.below (Nat.le_refl _) hb) (by omega))
  obtain ⟨S, hS⟩ : ∃ S, S = M.rS a t q n := ⟨_, rfl⟩
  obtain ⟨E, hE⟩ : ∃ E, E = M.rE a t q n := ⟨_, rfl⟩
  obtain ⟨K, hK⟩ : ∃ K, K = M.chk a t n := ⟨_, rfl⟩
  rw [← hS, ← hE] at C1 C2
  rw [← hK] at C3 C4
  have e1 : (S.toList == S.toList) = true := str_eq_self S
  have e2 : (E == E) = true := by simp
  have e3 : (K == K) = true := by simp
  clear hall hF hn hc hS hE hK HF
  go_enter Try.func3, Try.ntmps3
  go_wp2_with fail
  refine C0.out.mono ?_
  rintro e w1 ⟨rfl, hb1⟩
  have HB1 := Lib.hid hb1
  clear hb1
  go_wp2_with fail
  refine (CG.out _ HB1.out).mono ?_
  rintro e w2 (⟨rfl, rfl⟩ | ⟨rfl, rfl, _⟩)
  · go_wp2_with fail
    go_ret
    exact ⟨rfl, HB1.out⟩
  go_wp2_with fail
  refine (C1.out _ HB1.out).mono ?_
  rintro e w3 ⟨rfl, hb3⟩
  have HB3 : Hid (Below w.heap.size w w3) := HB1.out.trans (hb3.mono HB1.out.size)
  clear hb3
  go_wp2_with fail
  refine (C2.out _ HB3.out).mono ?_
  rintro e w4 ⟨rfl, hb4⟩
  have HB4 : Hid (Below w.heap.size w w4) := HB3.out.trans (hb4.mono HB3.out.size)
  clear hb4
  go_wp2_with fail
  refine (C3.out _ HB4.out).mono ?_
  rintro e w5 ⟨rfl, hb5⟩
  have HB5 : Hid (Below w.heap.size w w5) := HB4.out.trans (hb5.mono HB4.out.size)
  clear hb5
  go_wp2_with fail
  refine (C4.out _ HB5.out).mono ?_
  rintro e w6 ⟨rfl, hb6⟩
  have HB6 : Hid (Below w.heap.size w w6) := HB5.out.trans (hb6.mono HB5.out.size)
  clear hb6
  go_wp2_with fail
  go_ret
  exact ⟨rfl, HB6.out⟩

set_option maxRecDepth 100000 in
set_option maxHeartbeats 1000000 in
theorem logrecGets_walk (s : ByteArray) (q : Int) (_h0 : -9223372036854775808 ≤ q) (hq9 : q ≤ 9223372036854775807) (w : World) : Calls Try.prog 4 #[.string s, .int .i64 q] w fun e w' => e = .returned (.bool true) ∧ Below w.heap.size w w' := by
  have C0 := Lib.hid (works11_any w)
  by_cases hs : (s.size : Int) ≤ 3000
  · have hs' : ¬ (3000 : Int) < (s.size : Int) := by omega
    have C1 := Lib.hid (fun y => get11_any s y)
    have C2 := Lib.hid (fun y => rget11_any s y (by omega))
    have C3 := Lib.hid (fun y => size11_any s q y)
    have C4 := Lib.hid (fun y => rsize11_any s q y hq9)
    have C5 := Lib.hid (fun A1 A2 c1 c2 y h1 h2 => sectors11_any A1 A2 (M.getN s) c1 c2 (M.gA s) (M.gT s) y h1 h2 (by unfold M.getN M.gN; split <;> omega))
    unfold Got11 at C1 C2
    obtain ⟨Q, hQ⟩ : ∃ Q, Q = M.getQ s := ⟨_, rfl⟩
    obtain ⟨E, hE⟩ : ∃ E, E = M.getE s := ⟨_, rfl⟩
    obtain ⟨N, hN⟩ : ∃ N, N = M.getN s := ⟨_, rfl⟩
    obtain ⟨n, hn⟩ : ∃ n, n = M.szN s q := ⟨_, rfl⟩
    obtain ⟨e, he⟩ : ∃ e, e = M.szE s q := ⟨_, rfl⟩
    rw [← hQ, ← hE, ← hN] at C1 C2
    rw [← hn, ← he] at C3 C4
    rw [← hN] at C5
    have e1 : (Q == Q) = true := by simp
    have e2 : (E == E) = true := by simp
    have e3 : (n == n) = true := by simp
    have e4 : (e == e) = true := by simp
    clear hQ hE hN hn he hq9
    go_enter Try.func4, Try.ntmps4
    go_wp2_with fail
    refine C0.out.mono ?_
    rintro e w1 ⟨rfl, hb1⟩
    have HB1 := Lib.hid hb1
    clear hb1
    go_wp2_with fail
    refine (C1.out _).mono ?_
    rintro e w2 ⟨v, rfl, ⟨A1, c1, rfl, _, _, hF1⟩, hb2⟩
    have HB2 : Hid (Below w.heap.size w w2) := HB1.out.trans (hb2.mono HB1.out.size)
    have HF1 := Lib.hid hF1
    clear hb2 hF1
    go_wp2_with fail
    refine (C2.out _).mono ?_
    rintro e w3 ⟨v, rfl, ⟨A2, c2, rfl, _, _, hF2⟩, hb3⟩
    have HB3 : Hid (Below w.heap.size w w3) := HB2.out.trans (hb3.mono HB2.out.size)
    have HF3 := Lib.hid (HF1.out.below (Nat.le_refl _) hb3)
    have HG3 := Lib.hid hF2
    clear hb3 hF2
    go_wp2_with fail
    refine (C3.out _).mono ?_
    rintro e w4 ⟨rfl, hb4⟩
    have HB4 : Hid (Below w.heap.size w w4) := HB3.out.trans (hb4.mono HB3.out.size)
    have HF4 := Lib.hid (HF3.out.below (Nat.le_refl _) hb4)
    have HG4 := Lib.hid (HG3.out.below (Nat.le_refl _) hb4)
    clear hb4
    go_wp2_with fail
    refine (C4.out _).mono ?_
    rintro e w5 ⟨rfl, hb5⟩
    have HB5 : Hid (Below w.heap.size w w5) := HB4.out.trans (hb5.mono HB4.out.size)
    have HF5 := Lib.hid (HF4.out.below (Nat.le_refl _) hb5)
    have HG5 := Lib.hid (HG4.out.below (Nat.le_refl _) hb5)
    clear hb5
    go_wp2_with fail
    refine (C5.out A1 A2 c1 c2 _ HF5.out HG5.out).mono ?_
    rintro e w6 ⟨rfl, hb6⟩
    have HB6 : Hid (Below w.heap.size w w6) := HB5.out.trans (hb6.mono HB5.out.size)
    clear hb6
    go_wp2_with fail
    go_ret
    exact ⟨rfl, HB6.out⟩
  · have hs' : (3000 : Int) < (s.size : Int) := by omega
    go_enter Try.func4, Try.ntmps4
    go_wp2_with fail
    refine C0.out.mono ?_
    rintro e w1 ⟨rfl, hb1⟩
    have HB1 := Lib.hid hb1
    clear hb1
    go_wp2_with fail
    go_ret
    exact ⟨rfl, HB1.out⟩
end Go.Proofs.Ytnjlkjphkimapaa
