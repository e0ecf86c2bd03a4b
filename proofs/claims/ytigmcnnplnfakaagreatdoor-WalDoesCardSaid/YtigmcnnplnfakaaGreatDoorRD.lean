/-
  wal.Read of what the log does not hold; a disk of which all that waits survives. The law's Seen, on a disk of which no call fails. Walk over the law's yes: a row of ones. Both logs: calls of the disk that are to fail, what is read, the machine started again, the log opened anew. The calls of the law WalDoes, as contracts over letters.
-/
import Derived.Test.YtigmcnnplnfakaaGreatDoorPJ
import Derived.Test.YtigmcnnplnfakaaGreatDoorME
import Derived.Test.YtigmcnnplnfakaaGreatDoorNG
import Derived.Test.YtigmcnnplnfakaaGreatDoorNB
import Derived.Test.YtigmcnnplnfakaaGreatDoorPZ
import Derived.Test.YtigmcnnplnfakaaGreatDoorMS
import Derived.Test.YtigmcnnplnfakaaGreatDoorPY
namespace Go.Proofs.YtigmcnnplnfakaaGreatDoor
open Go.RowKit

section
variable {w : World} {b fr mn : Nat} {P : Nat → Prop} {s : M.Wl}
theorem read14_disk (h : Wal w b P fr mn s) (i : Int) (hw : (Lit.int .i64 i).wf = true) (hg : M.get13 i s.l s.k = none) (ho : s.d.ops ≤ 1000000000) :
    Calls Tryz.prog 14 #[.pointer (some ⟨b, 0, none⟩), .int .i64 i] w fun e w' => e = .returned (.tuple #[.string (M.readS s.d i), .int .i64 (M.readE s.d i)]) ∧ Wal w' b (fun j => P j ∨ w.heap.size ≤ j) fr mn { s with d := M.beginD s.d } ∧ Kept P w w' := by
  obtain ⟨a, ra, rr, sb, PD, PS, h, h1, h2, h3, h4, h5⟩ := h
  have c10 := h.c10
  have c0 := h.c0
  have C1 := Lib.hid (Q.get13_any w h.sh i hw)
  rw [hg] at C1
  have C2 := Lib.hid (read_any i w h.disk (by omega))
  have HF : Hid (∀ y, Disk y a PD (M.beginD s.d) → Kept PD w y → Wal y b (fun j => P j ∨ w.heap.size ≤ j) fr mn { s with d := M.beginD s.d } ∧ Kept P w y) := by
    intro y hd hk
    exact ⟨(h.disk' (hd.mono (fun _ _ e => Or.inl e)) hk).out h (fun j e => e.1) (fun _ e => Or.inl e) h1 h2 h3 h4 h5, hk.mono (fun j _ e => h4 j e)⟩
  obtain ⟨rs, hrs⟩ : ∃ x, x = M.readS s.d i := ⟨_, rfl⟩
  obtain ⟨re, hre⟩ : ∃ x, x = M.readE s.d i := ⟨_, rfl⟩
  rw [← hrs, ← hre] at C2 ⊢
  clear h hw hg ho h1 h2 h3 h4 h5 hrs hre
  go_enter Tryz.func14, Tryz.ntmps14
  go_wp2_with fail
  refine C1.out.mono ?_
  rintro e w1 ⟨rfl, rfl⟩
  go_wp2_with fail
  refine C2.out.mono ?_
  rintro e w2 ⟨rfl, hd, hk⟩
  have HR := Lib.hid (HF.out w2 hd hk)
  clear hd hk HF C1
  go_wp2_with fail
  go_returns
  exact ⟨rfl, HR.out⟩
end

theorem M.rounds_same {f g : Nat → Bool} (S : List ByteArray) (L : List (Nat × ByteArray)) : ∀ n : Nat, (∀ i, i < n → f i = g i) → M.rounds f S L n = M.rounds g S L n
  | 0, _ => rfl
  | n + 1, h => by
    unfold M.rounds
    rw [M.rounds_same S L n (fun i hi => h i (by omega)), h n (by omega)]

/-- Where all that waits survives, nothing that is seen is another. -/
theorem M.yes14 (d : M.D) (n : Nat) (hn : n = d.L.length) : M.Calm (M.restartD d (M.odd n (fun _ => 1))) ∧ (M.restartD d (M.odd n (fun _ => 1))).S.length = d.S.length ∧ (M.restartD d (M.odd n (fun _ => 1))).ops = d.ops ∧ (M.restartD d (M.odd n (fun _ => 1))).L = []
    ∧ ∀ k, k < d.S.length → M.seen (M.restartD d (M.odd n (fun _ => 1))).S (M.restartD d (M.odd n (fun _ => 1))).L k = M.seen d.S d.L k := by
  have e : M.rounds (M.odd n (fun _ => 1)) d.S d.L d.L.length = M.rounds (fun _ => true) d.S d.L d.L.length := M.rounds_same _ _ _ (fun i hi => by
    unfold M.odd
    rw [decide_eq_true (by omega)]
    rfl)
  refine ⟨M.calm_restart _ _, ?_, rfl, rfl, fun k hk => ?_⟩
  · show (M.rounds _ _ _ _).length = _
    exact M.rounds_len _ _ _ _
  · have e1 := M.rounds_all d.S d.L k hk d.L.length (Nat.le_refl _)
    rw [List.take_length] at e1
    show (M.seen0 [] k).getD ((M.rounds (M.odd n (fun _ => 1)) d.S d.L d.L.length).getD k ByteArray.empty) = _
    rw [e, M.seen0_nil, List.getD_eq_getElem?_getD, e1]
    rfl
end Go.Proofs.YtigmcnnplnfakaaGreatDoor
namespace Go.Proofs.YtigmcnnplnfakaaGreatDoor
open Go.RowKit

/-- What is seen at a place. -/
def M.sees14 (s : M.Wl) (k : Nat) (t : ByteArray) : Prop := M.get13 (k : Nat) s.l s.k = some (.string t) ∨ (M.get13 (k : Nat) s.l s.k = none ∧ M.seen s.d.S s.d.L k = t)

theorem read15_calm {y : World} {b fr mn : Nat} {P : Nat → Prop} {s : M.Wl} (h : Wal y b P fr mn s) (hc : M.Calm s.d) (k : Nat) (hk : k < s.d.S.length) (hk9 : k ≤ 1000000) (t : ByteArray) (ht : M.sees14 s k t) (ho : s.d.ops ≤ 1000000000) :
    Calls Tryz.prog 14 #[.pointer (some ⟨b, 0, none⟩), .int .i64 (k : Nat)] y fun e z => e = .returned (.tuple #[.string t, .int .i64 0]) ∧ ∃ d', Wal z b (fun j => P j ∨ y.heap.size ≤ j) fr mn { s with d := d' } ∧ M.Calm d' ∧ d'.S = s.d.S ∧ d'.L = s.d.L ∧ d'.ops ≤ s.d.ops + 1 ∧ Kept P y z := by
  have hw : (Lit.int .i64 (k : Nat)).wf = true := WalkArith.wf_i64 (by omega)
  rcases ht with ht | ⟨ht, hs⟩
  · refine (read14_found h (k : Nat) t hw ht).mono ?_
    rintro e z ⟨rfl, rfl⟩
    exact ⟨rfl, s.d, h.mono (fun _ _ e => Or.inl e), hc, rfl, rfl, Nat.le_succ _, Kept.refl _ _⟩
  · refine (read14_disk h (k : Nat) hw ht ho).mono ?_
    rintro e z ⟨rfl, h1, h2⟩
    obtain ⟨r1, r2⟩ := hc.readE hk
    rw [hc.D] at h1
    exact ⟨by rw [r1, r2, hs], _, h1, hc.read, rfl, rfl, Nat.le_refl _, h2⟩

set_option maxHeartbeats 2000000 in
theorem seen14_yes (b g c : Nat) (T : Nat → ByteArray) (w : World) {P : Nat → Prop} {s : M.Wl} (h : Wal w b P 10 24 s) (hc : M.Calm s.d) (hl : s.d.S.length = 44) (ho : s.d.ops ≤ 100000000) (hg : g < w.heap.size) (hPg : ¬ P g)
    (hT : ∀ k, k < 44 → w.cell? ⟨g, k, none⟩ = some (.string (T k))) (hs : ∀ k, k < 44 → (k < 10 ∨ 34 ≤ k) → M.sees14 s k (T k)) :
    Calls Tryz.prog 23 #[.pointer (some ⟨b, 0, none⟩), .slice (some ⟨g, 0, none⟩) 44 c] w fun e z => e = .returned (.bool true) ∧ Kept (fun j => P j ∨ w.heap.size ≤ j) w z := by
  have HS : Hid (∀ k y, k < 44 → (∃ d', Wal y b (fun j => P j ∨ w.heap.size ≤ j) 10 24 { s with d := d' } ∧ M.Calm d' ∧ d'.S = s.d.S ∧ d'.L = s.d.L ∧ d'.ops ≤ s.d.ops + k) → Kept (fun j => P j ∨ w.heap.size ≤ j) w y →
      y.cell? ⟨g, k, none⟩ = some (.string (T k)) ∧ ((k < 10 ∨ 34 ≤ k) → Calls Tryz.prog 14 #[.pointer (some ⟨b, 0, none⟩), .int .i64 (k : Nat)] y fun e z => e = .returned (.tuple #[.string (T k), .int .i64 0]) ∧
        (∃ d', Wal z b (fun j => P j ∨ w.heap.size ≤ j) 10 24 { s with d := d' } ∧ M.Calm d' ∧ d'.S = s.d.S ∧ d'.L = s.d.L ∧ d'.ops ≤ s.d.ops + (k + 1)) ∧ Kept (fun j => P j ∨ w.heap.size ≤ j) w z ∧ z.cell? ⟨g, k, none⟩ = some (.string (T k)))) := by
    rintro k y hk ⟨d', h1, h2, h3, h4, h5⟩ hky
    have hgP : ¬ (P g ∨ w.heap.size ≤ g) := fun e => e.elim hPg (fun e => by omega)
    refine ⟨hky.cell (hT k hk) hgP, fun hkk => ?_⟩
    have hss : M.sees14 { s with d := d' } k (T k) := by
      have := hs k hk hkk
      unfold M.sees14 at this ⊢
      simp only
      rw [h3, h4]
      exact this
    refine (read15_calm h1 h2 k (by show k < d'.S.length; rw [h3, hl]; exact hk) (by omega) (T k) hss (by show d'.ops ≤ _; omega)).mono ?_
    rintro e z ⟨rfl, d2, g1, g2, g3, g4, g5, g6⟩
    have hkz := hky.trans g6
    exact ⟨rfl, ⟨d2, g1.mono (fun j _ e => e.elim id (fun e => Or.inr (Nat.le_trans hky.size e))), g2, g3.trans h3, g4.trans h4, by have : d2.ops ≤ d'.ops + 1 := g5; omega⟩, hkz, hkz.cell (hT k hk) hgP⟩
  have H0 : Hid (∃ d', Wal w b (fun j => P j ∨ w.heap.size ≤ j) 10 24 { s with d := d' } ∧ M.Calm d' ∧ d'.S = s.d.S ∧ d'.L = s.d.L ∧ d'.ops ≤ s.d.ops + 0) := ⟨s.d, h.mono (fun _ _ e => Or.inl e), hc, rfl, rfl, Nat.le_refl _⟩
  have HK0 : Hid (Kept (fun j => P j ∨ w.heap.size ≤ j) w w) := Kept.refl _ _
  clear h hc hl ho hg hPg hT hs
  go_enter Tryz.func23, Tryz.ntmps23
  go_wp2_with fail
  go_loopw [5] (fun j wr => ∃ k : Nat, k ≤ 44 ∧ j = .int .i64 k ∧ Hid (∃ d', Wal wr b (fun j => P j ∨ w.heap.size ≤ j) 10 24 { s with d := d' } ∧ M.Calm d' ∧ d'.S = s.d.S ∧ d'.L = s.d.L ∧ d'.ops ≤ s.d.ops + k) ∧ Hid (Kept (fun j => P j ∨ w.heap.size ≤ j) w wr)) (fun j _ => 44 - (intOf j).toNat)
  case atStart => exact ⟨0, by omega, rfl, H0, HK0⟩
  case round =>
    clear H0 HK0
    obtain ⟨k, hk, rfl, HI, HK⟩ := hrel
    have hk0 : (0 : Int) ≤ (k : Int) := by omega
    by_cases hlt : k < 44
    · have hlt' : (k : Int) < 44 := by omega
      obtain ⟨x0, hcl⟩ := HS.out k wr hlt HI.out HK.out
      have HKL : Hid (k < 44) := hlt
      obtain ⟨tk, htk⟩ : ∃ u, u = T k := ⟨_, rfl⟩
      rw [← htk] at x0 hcl
      by_cases h10 : k < 10
      · have HC := Lib.hid (hcl (Or.inl h10))
        have h10' : (k : Int) < 10 := by omega
        clear hcl htk hk hlt HI HK HS h10
        go_wp2_with fail
        refine HC.out.mono ?_
        rintro e w2 ⟨rfl, hI2, hK2, y0⟩
        have HI2 := Lib.hid hI2
        have HK2 := Lib.hid hK2
        clear hI2 hK2 HC x0
        go_wp2_with fail
        go_roundw
        case rel => exact ⟨k + 1, HKL.out, by go_num, HI2, HK2⟩
        case measure => have := HKL.out; simp [intOf]; omega
      · by_cases h34 : k < 34
        · have h10' : (10 : Int) ≤ (k : Int) := by omega
          have h34' : (k : Int) < 34 := by omega
          have HIk : Hid (∃ d', Wal wr b (fun j => P j ∨ w.heap.size ≤ j) 10 24 { s with d := d' } ∧ M.Calm d' ∧ d'.S = s.d.S ∧ d'.L = s.d.L ∧ d'.ops ≤ s.d.ops + (k + 1)) := by
            obtain ⟨d', g1, g2, g3, g4, g5⟩ := HI.out
            exact ⟨d', g1, g2, g3, g4, by omega⟩
          clear hcl htk hk hlt HI HS h10 h34 x0
          go_wp2_with fail
          go_roundw
          case rel => exact ⟨k + 1, HKL.out, by go_num, HIk, HK⟩
          case measure => have := HKL.out; simp [intOf]; omega
        · have HC := Lib.hid (hcl (Or.inr (by omega)))
          have h10' : (10 : Int) ≤ (k : Int) := by omega
          have h34' : (34 : Int) ≤ (k : Int) := by omega
          clear hcl htk hk hlt HI HK HS h10 h34
          go_wp2_with fail
          refine HC.out.mono ?_
          rintro e w2 ⟨rfl, hI2, hK2, y0⟩
          have HI2 := Lib.hid hI2
          have HK2 := Lib.hid hK2
          clear hI2 hK2 HC x0
          go_wp2_with fail
          go_roundw
          case rel => exact ⟨k + 1, HKL.out, by go_num, HI2, HK2⟩
          case measure => have := HKL.out; simp [intOf]; omega
    · have e : k = 44 := by omega
      subst e
      clear hlt hk HI HS
      go_wp2_with fail
      go_ret
      exact ⟨rfl, HK.out⟩
end Go.Proofs.YtigmcnnplnfakaaGreatDoor
namespace Go.Proofs.YtigmcnnplnfakaaGreatDoor
open Go.RowKit

theorem infoI14 : (Tryz.prog.info? 3).map (fun i => (i.zero, i.size, i.bytes)) = some (some (.int .i64 0), 1, 8) := by kernel_rfl

set_option maxHeartbeats 1000000 in
theorem yes_any (n : Nat) (hn : n ≤ 1000000000) (w : World) : Calls Tryz.prog 21 #[.int .i64 (n : Nat)] w fun e w' => e = .returned (.slice (some ⟨w.heap.size, 0, none⟩) n n) ∧ ChoAt w' (some ⟨w.heap.size, 0, none⟩) n (fun _ => 1) ∧ Below w.heap.size w w' := by
  have hmk : ∀ W : World, (Instr.makeSlice 23 (.int .i64 (n : Int)) (.int .i64 (n : Int))).run Tryz.prog W = .ok (.slice (some ⟨W.heap.size, 0, none⟩) n n) (W.alloc (.cells (madeCells #[Value.int .i64 0] n) 3)) :=
    fun W => run_make_row' 23 3 (.int .i64 0) 8 Tryz.underlying23 infoI14 rfl .i64 .i64 n (by omega) (by omega) W
  have hn' : (n : Int) ≤ 1000000000 := by omega
  have HB0 : Hid (Box (w.alloc (.cells (madeCells #[Value.int .i64 0] n) 3)) w.heap.size 3 (madeCells #[Value.int .i64 0] n)) := Box.new w _ _
  have HZ0 : Hid ((madeCells #[Value.int .i64 0] n).size = n) := by show _ = _; simp [madeCells]
  have HW0 : Hid (Below w.heap.size w (w.alloc (.cells (madeCells #[Value.int .i64 0] n) 3))) := below1 _ _
  obtain ⟨C0, hC0⟩ : ∃ C, C = madeCells #[Value.int .i64 0] n := ⟨_, rfl⟩
  rw [← hC0] at HB0 HZ0 HW0 hmk
  clear hC0 hn
  go_enter Tryz.func21, Tryz.ntmps21
  go_wp2_with fail
  go_loopw [4] (fun j wr => ∃ (k : Nat) (C : Array Value), k ≤ n ∧ j = .int .i64 k ∧ Hid (C.size = n) ∧ Hid (∀ i, i < k → C[i]? = some (.int .i64 1)) ∧ Hid (Box wr w.heap.size 3 C) ∧ Hid (Below w.heap.size w wr)) (fun j _ => n - (intOf j).toNat)
  case atStart => exact ⟨0, C0, Nat.zero_le _, rfl, HZ0, fun i hi => absurd hi (by omega), HB0, HW0⟩
  case round =>
    clear HB0 HZ0 HW0
    obtain ⟨k, C, hk, rfl, HZ, HI, HB, HW⟩ := hrel
    by_cases hlt : k < n
    · have hk0 : (0 : Int) ≤ (k : Int) := by omega
      have hlt' : (k : Int) < (n : Int) := by omega
      obtain ⟨u, hu⟩ : ∃ u, C[k]? = some u := ⟨_, Array.getElem?_eq_getElem (by rw [HZ.out]; exact hlt)⟩
      have c0 := (HB.out.cell k).trans hu
      have f0 := HB.out.frozen k
      have HB1 := Lib.hid (HB.out.set k (.int .i64 1))
      have HW1 := Lib.hid (HW.out.setCell (p := ⟨w.heap.size, k, none⟩) (Nat.le_refl _) (.int .i64 1))
      have HKL : Hid (k < n) := hlt
      clear hu hk hlt
      go_wp2_with fail
      go_roundw
      case rel =>
        refine ⟨k + 1, _, HKL.out, by go_num, ?_, ?_, HB1, HW1⟩
        · show _ = _
          simp [HZ.out]
        · intro i hi
          by_cases e : i = k
          · subst e
            have := HZ.out
            have := HKL.out
            simp [*]
          · have := HI.out i (by omega)
            simp [Array.getElem?_setIfInBounds, *]
            omega
      case measure => have := HKL.out; simp [intOf]; omega
    · have e : k = n := by omega
      subst e
      have HC : Hid (ChoAt wr (some ⟨w.heap.size, 0, none⟩) k (fun _ => 1)) := fun i hi => ⟨_, rfl, HB.out.lt, by rw [blk_add]; exact (HB.out.cell i).trans (HI.out i hi)⟩
      go_wp2_with fail
      go_ret
      exact ⟨rfl, HC.out, HW.out⟩
end Go.Proofs.YtigmcnnplnfakaaGreatDoor
namespace Go.Proofs.YtigmcnnplnfakaaGreatDoor
open Go.RowKit Go.Maps

theorem wfail_any {w : World} {b fr mn : Nat} {P : Nat → Prop} {s : M.Wl} (h : Wal w b P fr mn s) (x : Int) : Calls Tryz.prog 9 #[.pointer (some ⟨s.dk, 0, none⟩), .int .i64 x] w fun e w' => e = .returned (.tuple #[]) ∧ Wal w' b (fun j => P j ∨ w.heap.size ≤ j) fr mn { s with d := M.failD s.d x } ∧ Kept P w w' := by
  obtain ⟨a, ra, rr, sb, PD, PS, h, h1, h2, h3, h4, h5⟩ := h
  have e0 := h.dk
  subst e0
  refine (fail_any x w h.disk).mono ?_
  rintro e w' ⟨e1, e2, e3⟩
  exact ⟨e1, (h.disk' e2 e3).out h (fun j e => e.1) (fun _ e => Or.inl e) h1 h2 h3 h4 h5, e3.mono (fun j _ e => h4 j e)⟩
theorem wrestart_any {w : World} {b fr mn : Nat} {P : Nat → Prop} {s : M.Wl} (h : Wal w b P fr mn s) (ho : s.d.ops ≤ 10000000) {g q cap : Nat} {z : Nat → Int} (hz : ChoAt w (some ⟨g, 0, none⟩) q z) (hg : 0 < q → ¬ P g) : Calls Tryz.prog 20 #[.pointer (some ⟨s.dk, 0, none⟩), .slice (some ⟨g, 0, none⟩) q cap] w fun e w' => e = .returned (.tuple #[]) ∧ Wal w' b (fun j => P j ∨ w.heap.size ≤ j) fr mn { s with d := M.restartD s.d (M.odd q z) } ∧ Kept P w w' := by
  obtain ⟨a, ra, rr, sb, PD, PS, h, h1, h2, h3, h4, h5⟩ := h
  have e0 := h.dk
  subst e0
  refine (restart_any (some ⟨g, 0, none⟩) q cap z w h.disk (by omega) hz (fun h0 ad e e' => by injection e with e; subst e; exact hg h0 (h4 _ e'))).mono ?_
  rintro e w' ⟨e1, e2, e3⟩
  exact ⟨e1, (h.disk' (e2.mono (fun _ _ e => Or.inl e)) e3).out h (fun j e => e.1) (fun _ e => Or.inl e) h1 h2 h3 h4 h5, e3.mono (fun j _ e => h4 j e)⟩
section
variable {s : M.Wl} {r : M.W} {T : Nat → ByteArray} {n : Nat}
theorem M.WS.fail (h : M.WS s T n) (x : Int) : M.WS { s with d := M.failD s.d x } T (n + 1000) ∧ (M.failD s.d x).fails.length ≤ s.d.fails.length + 1 := by
  have h3 := h.ops
  have h4 := h.gen
  have h5 := h.seq
  obtain ⟨V, g, q, p, C, h1, h2⟩ := h.wv
  unfold M.failD
  split
  · have e : (s.d.fails ++ [x]).length = s.d.fails.length + 1 := by simp
    refine ⟨⟨⟨h.ok.dn, h.ok.da, h.ok.len⟩, ?_, ?_, ?_, ⟨V, g, q, p, C, h1, h2.same rfl rfl rfl rfl rfl⟩, h.loose, h.ll, h.kept⟩, by simp⟩
    · show s.d.ops + 1000 * (s.d.fails ++ [x]).length ≤ _; omega
    · show s.gen + 2 * (s.d.fails ++ [x]).length ≤ _; omega
    · show s.seq + 100 * (s.d.fails ++ [x]).length ≤ _; omega
  · exact ⟨h.more (by omega), Nat.le_succ _⟩
/-- Each sector that transactions may have: in what is kept, or on the disk. -/
theorem M.WS.says (h : M.WS s T n) : ∀ k, M.gd k → M.find (k : Int) s.k = some (.string (T k)) ∨ (M.find (k : Int) s.k = none ∧ M.seen s.d.S s.d.L k = T k) := fun k hk => by
  obtain ⟨V, g, q, p, C, h1, h2⟩ := h.wv
  exact (h2.kept k hk).imp id (fun e => ⟨e.1, by rw [h1 k (M.gd44 hk), e.2]⟩)
theorem M.wread_gd (om : M.WM s r T) {k : Nat} (hk : M.gd k) : M.wreadE r (k : Nat) = 0 ∧ M.wreadS r (k : Nat) = (M.sfind k r.staged).getD (T k) := by
  have hh : M.wHas r.seen.length (k : Int) = true := by
    have := M.gd44 hk
    rw [om.fit.seen]
    unfold M.wHas
    simp
    omega
  unfold M.wreadE M.wreadS
  rw [if_pos hh, if_pos hh, Int.toNat_natCast, om.seen k hk]
  exact ⟨rfl, rfl⟩
end

section
variable {F : Nat → Prop} {y z : World} {wb rb n : Nat} {s s' : M.Wl} {r r' : M.W} {T : Nat → ByteArray}
theorem two_ops (h : Two14 F y wb rb s r) : Calls Tryz.prog 10 #[.pointer (some ⟨s.dk, 0, none⟩)] y fun e z => e = .returned (.int .i64 (s.d.ops : Nat)) ∧ z = y := by
  obtain ⟨P, h1, -, -⟩ := h.walS
  exact ops_any y h1.disk
theorem two_waits (h : Two14 F y wb rb s r) : Calls Tryz.prog 22 #[.pointer (some ⟨s.dk, 0, none⟩)] y fun e z => e = .returned (.int .i64 (s.d.L.length : Nat)) ∧ z = y := by
  obtain ⟨P, h1, -, -⟩ := h.walS
  exact waits_any y h1.disk
theorem two_fail (h : Two14 F y wb rb s r) (x : Int) : Calls Tryz.prog 9 #[.pointer (some ⟨s.dk, 0, none⟩), .int .i64 x] y fun e z => e = .returned (.tuple #[]) ∧ Two14 F z wb rb { s with d := M.failD s.d x } r ∧ Kept (fun j => ¬ F j) y z := by
  obtain ⟨P, h1, h2, h3⟩ := h.walS
  exact (wfail_any h1 x).mono fun e z ⟨e1, e2, e3⟩ => ⟨e1, h3 z _ e2 e3⟩
theorem two_restart (h : Two14 F y wb rb s r) (ho : s.d.ops ≤ 10000000) {g q cap : Nat} {c : Nat → Int} (hz : ChoAt y (some ⟨g, 0, none⟩) q c) (hg : 0 < q → F g) : Calls Tryz.prog 20 #[.pointer (some ⟨s.dk, 0, none⟩), .slice (some ⟨g, 0, none⟩) q cap] y fun e z => e = .returned (.tuple #[]) ∧ Two14 F z wb rb { s with d := M.restartD s.d (M.odd q c) } r ∧ Kept (fun j => ¬ F j) y z := by
  obtain ⟨P, h1, h2, h3⟩ := h.walS
  exact (wrestart_any h1 ho hz (fun h0 e => (h2 _ e).1 (hg h0))).mono fun e z ⟨e1, e2, e3⟩ => ⟨e1, h3 z _ e2 e3⟩
theorem two_active (h : Two14 F y wb rb s r) : Calls Tryz.prog 16 #[.pointer (some ⟨wb, 0, none⟩)] y fun e z => e = .returned (.bool s.act) ∧ z = y := by
  obtain ⟨P, h1, -, -⟩ := h.walS
  exact active14_any h1
theorem two_wsure (h : Two14 F y wb rb s r) : Calls Tryz.prog 17 #[.pointer (some ⟨wb, 0, none⟩)] y fun e z => e = .returned (.bool (!s.uns)) ∧ z = y := by
  obtain ⟨P, h1, -, -⟩ := h.walS
  exact sure14_any h1
theorem two_rread (h : Two14 F y wb rb s r) (k : Int) : Calls Tryz.prog 15 #[.pointer (some ⟨rb, 0, none⟩), .int .i64 k] y fun e z => e = .returned (.tuple #[.string (M.wreadS r k), .int .i64 (M.wreadE r k)]) ∧ z = y := by
  obtain ⟨Q, h1, -, -⟩ := h.refS
  exact rread14 y h1 k
theorem two_cells (h : Two14 F y wb rb s r) : y.cell? ⟨rb, 2, none⟩ = some (.bool r.act) ∧ y.cell? ⟨rb, 6, none⟩ = some (.bool r.sure) := by
  obtain ⟨Q, ⟨SV, GV, h1, -, -, -⟩, -, -⟩ := h.refS
  exact ⟨h1.c2, h1.c6⟩
theorem two_read (h : Two14 F y wb rb s r) (ok : M.WS s T n) (om : M.WM s r T) (hn : n ≤ 500000) (i : Int) (hw : (Lit.int .i64 i).wf = true) :
    Calls Tryz.prog 14 #[.pointer (some ⟨wb, 0, none⟩), .int .i64 i] y fun e z => ∃ S E d', e = .returned (.tuple #[.string S, .int .i64 E]) ∧ ((10 ≤ i ∧ i < 34) ∨ E = 30 ∨ (S = M.wreadS r i ∧ E = M.wreadE r i)) ∧
      Two14 F z wb rb { s with d := d' } r ∧ M.WS { s with d := d' } T (n + 1) ∧ d'.fails.length ≤ s.d.fails.length ∧ Kept (fun j => ¬ F j) y z := by
  obtain ⟨P, h1, h2, h3⟩ := h.walS
  have hops := ok.ops
  cases hg : M.get13 i s.l s.k with
  | some v =>
    have hv : ∃ (k : Nat) (t : ByteArray), i = (k : Nat) ∧ v = .string t ∧ M.gd k := by
      unfold M.get13 at hg
      cases hf : M.find i s.l with
      | some x =>
        rw [hf] at hg
        obtain rfl : x = v := Option.some.inj hg
        obtain ⟨k, t, e1, e2, e3⟩ := ok.loose _ (M.find_mem hf)
        exact ⟨k, t, (Prod.mk.inj e1).1, (Prod.mk.inj e1).2, e2⟩
      | none =>
        rw [hf] at hg
        have hg : M.find i s.k = some v := hg
        obtain ⟨k, t, e1, e2, e3⟩ := ok.kept _ (M.find_mem hg)
        exact ⟨k, t, (Prod.mk.inj e1).1, (Prod.mk.inj e1).2, e2⟩
    obtain ⟨k, t, rfl, rfl, hk⟩ := hv
    obtain ⟨r1, r2⟩ := M.wread_gd om hk
    have hs := om.same k
    refine (read14_found h1 (k : Nat) t hw hg).mono ?_
    rintro e z ⟨e1, rfl⟩
    refine ⟨t, 0, s.d, e1, Or.inr (Or.inr ⟨?_, r1.symm⟩), h, ok.more (by omega), Nat.le_refl _, Kept.refl _ _⟩
    rw [r2]
    unfold M.get13 at hg
    cases hf : M.find (k : Int) s.l with
    | some x =>
      rw [hf] at hg hs
      obtain rfl : x = .string t := Option.some.inj hg
      cases hx : M.sfind k r.staged with
      | none => rw [hx] at hs; cases hs
      | some u => rw [hx] at hs; have := Option.some.inj hs; injection this
    | none =>
      rw [hf] at hg hs
      have hg : M.find (k : Int) s.k = some (.string t) := hg
      cases hx : M.sfind k r.staged with
      | some u => rw [hx] at hs; cases hs
      | none =>
        rcases ok.says k hk with e | ⟨e, _⟩
        · rw [e] at hg
          have := Option.some.inj hg
          injection this with this
          exact this.symm
        · rw [e] at hg
          cases hg
  | none =>
    refine (read14_disk h1 i hw hg (by omega)).mono ?_
    rintro e z ⟨e1, e2, e3⟩
    refine ⟨_, _, _, e1, ?_, (h3 z _ e2 e3).1, ok.read, M.begin_len s.d, (h3 z _ e2 e3).2⟩
    by_cases hin : 0 ≤ i ∧ i < 44
    · by_cases hown : 10 ≤ i ∧ i < 34
      · exact Or.inl hown
      · right
        obtain ⟨k, rfl⟩ := Int.eq_ofNat_of_zero_le hin.1
        have hk : M.gd k := by unfold M.gd; omega
        obtain ⟨V, g, q, p, C, v1, v2⟩ := ok.wv
        rcases ok.ok.read v1 k (M.gd44 hk) with ⟨x1, x2⟩ | ⟨x1, _⟩
        · right
          obtain ⟨r1, r2⟩ := M.wread_gd om hk
          have hs := om.same k
          unfold M.get13 at hg
          cases hf : M.find (k : Int) s.l with
          | some x => rw [hf] at hg; cases hg
          | none =>
            rw [hf] at hg hs
            have hg : M.find (k : Int) s.k = none := hg
            cases hx : M.sfind k r.staged with
            | some u => rw [hx] at hs; cases hs
            | none =>
              refine ⟨?_, by rw [x1, r1]⟩
              rw [r2, hx, x2]
              rcases v2.kept k hk with e | ⟨_, e⟩
              · rw [e] at hg; cases hg
              · exact e
        · exact Or.inl x1
    · right
      have hb : ¬ M.hasB s.d.S.length i = true := by rw [ok.ok.len]; unfold M.hasB; simp; omega
      have hb2 : ¬ M.wHas r.seen.length i = true := by rw [om.fit.seen]; unfold M.wHas; simp; omega
      unfold M.readE M.readS M.wreadE M.wreadS
      rw [if_neg hb, if_neg hb, if_neg hb2, if_neg hb2]
      rcases M.begin_30 ok.ok.dn ok.ok.da with e | ⟨e, _⟩
      · right
        rw [if_pos e, if_pos e]
        exact ⟨rfl, rfl⟩
      · left
        rw [if_neg (by rw [e]; decide)]
        exact e
end

/-- The disk and the document's log alone; F stands apart. -/
def Lone (F : Nat → Prop) (y : World) (a rb : Nat) (d : M.D) (r : M.W) : Prop :=
  ∃ P Q, Disk y a P d ∧ Wr y rb Q r ∧ (∀ j, P j → ¬ Q j) ∧ (∀ j, P j → ¬ F j ∧ j < y.heap.size) ∧ (∀ j, Q j → ¬ F j ∧ j < y.heap.size) ∧ ∀ j, F j → j < y.heap.size
section
variable {F : Nat → Prop} {y z : World} {a wb rb n : Nat} {s : M.Wl} {r : M.W} {T : Nat → ByteArray} {d : M.D}
theorem Two14.lone (h : Two14 F y wb rb s r) : Lone F y s.dk rb s.d r := by
  obtain ⟨P, Q, h1, h2, h3, h4, h5, h6⟩ := h
  exact ⟨P, Q, h1.disk, h2, h3, h4, h5, h6⟩
theorem lone_open (h : Lone F y a rb d r) (h0 : Env15 F y) (ok : M.LS d T n) (hn : n ≤ 500000) :
    Calls Tryz.prog 11 #[.pointer (some ⟨a, 0, none⟩), .int .i64 10, .int .i64 24] y fun e z =>
      ((e = .returned (.tuple #[.pointer none, .int .i64 30]) ∧ ∃ d', Lone F z a rb d' r ∧ M.LS d' T n ∧ d'.fails.length < d.fails.length) ∨
       (∃ wb s, e = .returned (.tuple #[.pointer (some ⟨wb, 0, none⟩), .int .i64 0]) ∧ Two14 F z wb rb s r ∧ M.WS s T (n + 500) ∧ s.act = false ∧ s.l = [] ∧ s.used = 0 ∧ s.uns = false ∧ s.dk = a ∧ s.d.fails.length ≤ d.fails.length)) ∧ Kept (fun j => ¬ F j) y z := by
  obtain ⟨P, Q, h1, h2, h3, h4, h5, h6⟩ := h
  refine (open15_any y h1 (fun k e => (h4 k e).2) h0.none (fun e => (h4 _ e).1 h0.fn) h0.err (fun e => (h4 _ e).1 h0.fe) ok hn).mono ?_
  rintro e z ⟨hc, hk⟩
  have hQ : Wr z rb Q r := h2.kept hk (fun j e e' => h3 j e' e)
  have hz := hk.size
  have g3 : ∀ j, (M.plus P y.heap.size j ∧ j < z.heap.size) → ¬ Q j := fun j e e' => e.1.elim (fun e => h3 j e e') (fun e => by have := (h5 j e').2; omega)
  have g4 : ∀ j, (M.plus P y.heap.size j ∧ j < z.heap.size) → ¬ F j ∧ j < z.heap.size := fun j e => ⟨fun e' => e.1.elim (fun e => (h4 j e).1 e') (fun e => by have := h6 j e'; omega), e.2⟩
  have g5 : ∀ j, Q j → ¬ F j ∧ j < z.heap.size := fun j e => ⟨(h5 j e).1, Nat.lt_of_lt_of_le (h5 j e).2 hz⟩
  have g6 : ∀ j, F j → j < z.heap.size := fun j e => Nat.lt_of_lt_of_le (h6 j e) hz
  refine ⟨?_, hk.mono (fun j _ e => (h4 j e).1)⟩
  rcases hc with ⟨e1, d', e2, e3, e4⟩ | ⟨wb, s, e1, e2, e3, e4, e5, e6, e7, e8, e9, e10⟩
  · exact Or.inl ⟨e1, d', ⟨_, Q, e2.mono (fun j hj e => ⟨e, hj⟩), hQ, g3, g4, g5, g6⟩, e3, e4⟩
  · exact Or.inr ⟨wb, s, e1, ⟨_, Q, e2.mono (fun j hj e => ⟨e, hj⟩), hQ, g3, g4, g5, g6⟩, e3, e4, e5, e7, e8, e9, e10⟩
/-- What is seen at the end. -/
theorem two_seen (h : Two14 F y wb rb s r) (hc : M.Calm s.d) (hl : s.d.S.length = 44) (ho : s.d.ops ≤ 10000000) (hr : r.seen.length = 44) (hs : ∀ k, M.gd k → M.sees14 s k (r.seen.getD k ByteArray.empty)) :
    ∃ g c, y.cell? ⟨rb, 0, none⟩ = some (.slice (some ⟨g, 0, none⟩) 44 c) ∧ Calls Tryz.prog 23 #[.pointer (some ⟨wb, 0, none⟩), .slice (some ⟨g, 0, none⟩) 44 c] y fun e z => e = .returned (.bool true) ∧ Kept (fun j => ¬ F j) y z := by
  obtain ⟨P, Q, h1, ⟨SV, GV, h2, q1, q2, q3⟩, h3, h4, h5, h6⟩ := h
  have hrow := h2.seen
  rw [hr] at hrow
  have hat : ∀ k, k < 44 → (r.seen.map Value.string)[k]? = some (.string (r.seen.getD k ByteArray.empty)) := fun k hk => by
    rw [List.getElem?_map, List.getD_eq_getElem?_getD, List.getElem?_eq_getElem (by omega)]
    rfl
  obtain ⟨g, c, e1, e2, e3, e4⟩ := owns_at14 hrow (hat 0 (by omega)) (by omega)
  subst e1
  have hc0 := h2.c0
  refine ⟨g, c, hc0, ?_⟩
  refine (seen14_yes wb g c (fun k => r.seen.getD k ByteArray.empty) y h1 hc hl (by omega) e3 (fun e => h3 g e (q2 g rfl)) (fun k hk => ?_) (fun k hk hg => hs k (by unfold M.gd; omega))).mono ?_
  · obtain ⟨g', c', e1', _, _, e4'⟩ := owns_at14 hrow (hat k hk) (by omega)
    injection e1' with e1' _ _
    injection e1' with e1'
    injection e1' with e1'
    rw [e1']
    exact e4'
  · rintro e z ⟨f1, f2⟩
    exact ⟨f1, f2.mono (fun j hj e => e.elim (fun e => (h4 j e).1) (fun e => by omega))⟩
end
end Go.Proofs.YtigmcnnplnfakaaGreatDoor
namespace Go.Proofs.YtigmcnnplnfakaaGreatDoor
open Go.RowKit Go.Maps

theorem M.wnew_seen {k : Nat} (h : M.gd k) : (M.wnew 44 10 24).seen.getD k ByteArray.empty = M.zeros 64 := by
  show (List.replicate 44 M.zero).getD k ByteArray.empty = _
  rw [List.getD_eq_getElem?_getD, List.getElem?_replicate, if_pos (M.gd44 h)]
  rfl
theorem Kept.low14 {N : Nat} {w y z : World} (hk : Kept (fun j => ¬ j < N) y z) (hb : Below N w y) (hN : N ≤ y.heap.size) : Below N w z := hb.trans (hk.below hN (fun _ h e => e h))

section
variable (w : World) (N a rb : Nat)
/-- Both logs, on the disk a with so few failures before it, within a budget; all below N is as in w. -/
def DB (c m : Nat) (y : World) (b : Nat) : Prop := Bo14 (fun j => j < N) (a, c) y b rb m ∧ Below N w y ∧ N ≤ y.heap.size
/-- The disk and the document's log. -/
def DD (c m : Nat) (y : World) : Prop := Env15 (fun j => j < N) y ∧ (∃ d q T s0, Lone (fun j => j < N) y a rb d q ∧ M.LS d T m ∧ d.fails.length ≤ c ∧ M.WM s0 q T) ∧ Below N w y ∧ N ≤ y.heap.size
/-- Opened anew; g: what has become of the document's log. -/
def DO (c m : Nat) (g : M.W → M.W) (y : World) (b : Nat) : Prop := Env15 (fun j => j < N) y ∧ (∃ s q T s0, Two14 (fun j => j < N) y b rb s (g q) ∧ M.WS s T m ∧ s.act = false ∧ s.l = [] ∧ s.used = 0 ∧ s.uns = false ∧ s.on (a, c) ∧ M.WM s0 q T) ∧ Below N w y ∧ N ≤ y.heap.size
/-- Before the end. -/
def DE (y : World) (b : Nat) : Prop := (∃ s q, Two14 (fun j => j < N) y b rb s q ∧ M.Calm s.d ∧ s.d.S.length = 44 ∧ s.d.ops ≤ 1000000 ∧ q.seen.length = 44 ∧ (s.act = false → s.l = []) ∧
  ∀ k, M.gd k → M.find (k : Int) s.k = some (.string (q.seen.getD k ByteArray.empty)) ∨ (M.find (k : Int) s.k = none ∧ M.seen s.d.S s.d.L k = q.seen.getD k ByteArray.empty)) ∧ Below N w y ∧ N ≤ y.heap.size
end
section
variable {w y z : World} {N a rb b c m : Nat}
theorem DB.drewN (h : DB w N a rb c m y b) (k : Nat) : DB w N a rb c m (y.drewN k) b := by
  obtain ⟨h1, h2, h3⟩ := h
  exact ⟨(h1.beside (below_drewN (Below.refl _ _) k)).less ⟨h1.1.none, h1.1.err, h1.1.fn, h1.1.fe⟩ (fun j e => Or.inl e), below_drewN h2 k, h3⟩
theorem DB.more (h : DB w N a rb c m y b) {m' : Nat} (hm : m ≤ m') {c' : Nat} (hc : c ≤ c') : DB w N a rb c' m' y b := by
  obtain ⟨⟨h0, s, r, h1, ⟨T, h2, h3⟩, h4⟩, h5, h6⟩ := h
  exact ⟨⟨h0, s, r, h1, ⟨T, h2.more hm, h3⟩, h4.1, Nat.le_trans h4.2.1 hc, h4.2.2⟩, h5, h6⟩
theorem DB.ops (h : DB w N a rb c m y b) : ∃ o : Nat, ∀ k, Calls Tryz.prog 10 #[.pointer (some ⟨a, 0, none⟩)] (y.drewN k) fun e z => e = .returned (.int .i64 (o : Nat)) ∧ z = y.drewN k := by
  obtain ⟨⟨h0, s, r, h1, ⟨T, h2, h3⟩, h4⟩, h5, h6⟩ := h
  obtain rfl : s.dk = a := h4.1
  exact ⟨_, fun k => two_ops (h1.drewN k)⟩
theorem DB.fail (h : DB w N a rb c m y b) (x : Int) : Calls Tryz.prog 9 #[.pointer (some ⟨a, 0, none⟩), .int .i64 x] y fun e z => e = .returned (.tuple #[]) ∧ DB w N a rb (c + 1) (m + 1000) z b := by
  obtain ⟨⟨h0, s, r, h1, ⟨T, h2, h3⟩, h4⟩, h5, h6⟩ := h
  obtain rfl : s.dk = a := h4.1
  refine (two_fail h1 x).mono ?_
  rintro e z ⟨e1, e2, e3⟩
  obtain ⟨g1, g2⟩ := h2.fail x
  exact ⟨e1, ⟨h0.kept e3, _, r, e2, ⟨T, g1, h3.disk _⟩, rfl, Nat.le_trans g2 (Nat.succ_le_succ h4.2.1), h4.2.2⟩, e3.low14 h5 h6, Nat.le_trans h6 e3.size⟩
theorem DB.do (h : DB w N a rb c m y b) (hm : m ≤ 400000) (k at_ : Int) (data : ByteArray) (hw : (Lit.int .i64 at_).wf = true) : Calls Tryz.prog 13 #[.pointer (some ⟨b, 0, none⟩), .pointer (some ⟨rb, 0, none⟩), .agg #[.int .i64 k, .int .i64 at_, .string data]] y fun e z => Says15 k e ∧ DB w N a rb c (m + 200) z b := by
  obtain ⟨h1, h5, h6⟩ := h
  refine (do14_any h1 hm k at_ data hw).mono ?_
  rintro e z ⟨e1, e2, e3⟩
  exact ⟨e1, e2, e3.low14 h5 h6, Nat.le_trans h6 e3.size⟩
theorem DB.alone (h : DB w N a rb c m y b) : DD w N a rb c (m + 2) y := by
  obtain ⟨⟨h0, s, r, h1, ⟨T, h2, h3⟩, h4⟩, h5, h6⟩ := h
  obtain rfl : s.dk = a := h4.1
  exact ⟨h0, ⟨_, r, T, s, h1.lone, h2.disk, h4.2.1, h3⟩, h5, h6⟩
theorem DD.open (h : DD w N a rb c m y) (hm : m ≤ 400000) : Calls Tryz.prog 11 #[.pointer (some ⟨a, 0, none⟩), .int .i64 10, .int .i64 24] y fun e z =>
    (e = .returned (.tuple #[.pointer none, .int .i64 30]) ∧ ∃ c', c = c' + 1 ∧ DD w N a rb c' m z) ∨ (∃ b, e = .returned (.tuple #[.pointer (some ⟨b, 0, none⟩), .int .i64 0]) ∧ DO w N a rb c (m + 500) id z b) := by
  obtain ⟨h0, ⟨d, q, T, s0, h1, h2, h3, h4⟩, h5, h6⟩ := h
  refine (lone_open h1 h0 h2 (by omega)).mono ?_
  rintro e z ⟨⟨e1, d', e2, e3, e4⟩ | ⟨b, s, e1, e2, e3, e4, e5, e6, e7, e8, e9⟩, hk⟩
  · exact Or.inl ⟨e1, c - 1, by omega, h0.kept hk, ⟨d', q, T, s0, e2, e3, by omega, h4⟩, hk.low14 h5 h6, Nat.le_trans h6 hk.size⟩
  · exact Or.inr ⟨b, e1, h0.kept hk, ⟨s, q, T, s0, e2, e3, e4, e5, e6, e7, ⟨e8, Nat.le_trans e9 h3, fun _ => e5⟩, h4⟩, hk.low14 h5 h6, Nat.le_trans h6 hk.size⟩
theorem DO.abort (h : DO w N a rb c m id y b) : Calls Tryz.prog 12 #[.pointer (some ⟨rb, 0, none⟩)] y fun e z => e = .returned (.tuple #[]) ∧ DO w N a rb c m M.wabort z b := by
  obtain ⟨h0, ⟨s, q, T, s0, h1, h2⟩, h5, h6⟩ := h
  refine (two_rabort h1).mono ?_
  rintro e z ⟨e1, e2, e3⟩
  exact ⟨e1, h0.kept e3, ⟨s, q, T, s0, e2, h2⟩, e3.low14 h5 h6, Nat.le_trans h6 e3.size⟩
theorem DO.used (h : DO w N a rb c m M.wabort y b) : (∃ v : Nat, y.cell? ⟨rb, 5, none⟩ = some (.int .i64 v)) ∧ y.frozen? ⟨rb, 5, none⟩ = false ∧ Hid (DO w N a rb c m (fun q => { M.wabort q with used := 0 }) (y.setCell ⟨rb, 5, none⟩ (.int .i64 0)) b) := by
  obtain ⟨h0, ⟨s, q, T, s0, h1, h2⟩, h5, h6⟩ := h
  obtain ⟨g1, g2, g3⟩ := two_used h1
  exact ⟨g1, g2, h0.kept g3.out.2, ⟨s, q, T, s0, g3.out.1, h2⟩, g3.out.2.low14 h5 h6, Nat.le_trans h6 g3.out.2.size⟩
theorem DO.sure (h : DO w N a rb c m (fun q => { M.wabort q with used := 0 }) y b) : (∃ v : Bool, y.cell? ⟨rb, 6, none⟩ = some (.bool v)) ∧ y.frozen? ⟨rb, 6, none⟩ = false ∧ Hid (DB w N a rb c m (y.setCell ⟨rb, 6, none⟩ (.bool true)) b) := by
  obtain ⟨h0, ⟨s, q, T, s0, h1, h2, a1, a2, a3, a4, a5, h3⟩, h5, h6⟩ := h
  obtain ⟨g1, g2, g3⟩ := two_sure h1
  exact ⟨g1, g2, ⟨h0.kept g3.out.2, s, _, g3.out.1, ⟨T, h2, h3.opened s a1 a2 a3 a4⟩, a5⟩, g3.out.2.low14 h5 h6, Nat.le_trans h6 g3.out.2.size⟩
/-- A look at both. -/
theorem DB.look (h : DB w N a rb c m y b) (hm : m ≤ 400000) (i : Int) (hw : (Lit.int .i64 i).wf = true) : ∃ (St : ByteArray) (Et : Int) (act sure : Bool) (room : Int) (L : World → Prop),
    (Calls Tryz.prog 14 #[.pointer (some ⟨b, 0, none⟩), .int .i64 i] y fun e z => ∃ S E, e = .returned (.tuple #[.string S, .int .i64 E]) ∧ ((10 ≤ i ∧ i < 34) ∨ E = 30 ∨ (S = St ∧ E = Et)) ∧ L z) ∧
    (∀ z, L z → Calls Tryz.prog 15 #[.pointer (some ⟨rb, 0, none⟩), .int .i64 i] z fun e x => e = .returned (.tuple #[.string St, .int .i64 Et]) ∧ x = z) ∧
    (∀ z k, L z → L (z.drewN k)) ∧ (∀ z, L z → Below N w z) ∧
    (∀ z, L z → Calls Tryz.prog 16 #[.pointer (some ⟨b, 0, none⟩)] z fun e x => e = .returned (.bool act) ∧ x = z) ∧
    (∀ z, L z → z.cell? ⟨rb, 2, none⟩ = some (.bool act) ∧ z.cell? ⟨rb, 6, none⟩ = some (.bool sure)) ∧
    (∀ z, L z → Calls Tryz.prog 17 #[.pointer (some ⟨b, 0, none⟩)] z fun e x => e = .returned (.bool sure) ∧ x = z) ∧
    (∀ z, L z → Calls Tryz.prog 18 #[.pointer (some ⟨b, 0, none⟩)] z fun e x => e = .returned (.int .i64 room) ∧ ∃ k, x = z.drewN k) ∧
    (∀ z, L z → Calls Tryz.prog 19 #[.pointer (some ⟨rb, 0, none⟩)] z fun e x => e = .returned (.int .i64 room) ∧ ∃ k, x = z.drewN k) ∧
    (∀ z, L z → DB w N a rb c (m + 1) z b) := by
  obtain ⟨⟨h0, s, r, h1, ⟨T, h2, h3⟩, h4⟩, h5, h6⟩ := h
  have lk : ∀ z, (∃ d', Two14 (fun j => j < N) z b rb { s with d := d' } r ∧ M.WS { s with d := d' } T (m + 1) ∧ d'.fails.length ≤ c ∧ Env15 (fun j => j < N) z ∧ Below N w z ∧ N ≤ z.heap.size) → DB w N a rb c (m + 1) z b :=
    fun z ⟨d', g1, g2, g3, g4, g5, g6⟩ => ⟨⟨g4, _, r, g1, ⟨T, g2, h3.disk _⟩, h4.1, g3, h4.2.2⟩, g5, g6⟩
  refine ⟨M.wreadS r i, M.wreadE r i, s.act, !s.uns, 22 - (s.used : Nat), fun z => ∃ d', Two14 (fun j => j < N) z b rb { s with d := d' } r ∧ M.WS { s with d := d' } T (m + 1) ∧ d'.fails.length ≤ c ∧ Env15 (fun j => j < N) z ∧ Below N w z ∧ N ≤ z.heap.size, ?_, ?_, ?_, ?_, ?_, ?_, ?_, ?_, ?_, lk⟩
  · refine (two_read h1 h2 h3 (by omega) i hw).mono ?_
    rintro e z ⟨S, E, d', e1, e2, e3, e4, e5, e6⟩
    exact ⟨S, E, e1, e2, d', e3, e4, Nat.le_trans e5 h4.2.1, h0.kept e6, e6.low14 h5 h6, Nat.le_trans h6 e6.size⟩
  · rintro z ⟨d', g1, -⟩
    exact two_rread g1 i
  · rintro z k ⟨d', g1, g2, g3, g4, g5, g6⟩
    have hk : Kept (fun _ => False) z (z.drewN k) := (Kept.refl _ z).drewN k
    exact ⟨d', g1.drewN k, g2, g3, ⟨g4.none.kept hk id, hk.cell g4.err id, g4.fn, g4.fe⟩, below_drewN g5 k, g6⟩
  · rintro z ⟨d', g1, g2, g3, g4, g5, g6⟩
    exact g5
  · rintro z ⟨d', g1, -⟩
    have := two_active g1
    exact this
  · rintro z ⟨d', g1, -⟩
    have := two_cells g1
    rwa [h3.act, h3.sure] at this
  · rintro z ⟨d', g1, -⟩
    have := two_wsure g1
    exact this
  · rintro z ⟨d', g1, g2, -⟩
    have := two_room g1 g2.used
    exact this
  · rintro z ⟨d', g1, -⟩
    refine (two_rroom g1).mono ?_
    rintro e x ⟨e1, e2⟩
    exact ⟨by rw [e1, h3.fit.mn, h3.used]; rfl, e2⟩
/-- The end. -/
theorem DB.end (h : DB w N a rb c m y b) (hm : m ≤ 400000) : ∃ q : Nat, Calls Tryz.prog 22 #[.pointer (some ⟨a, 0, none⟩)] y (fun e z => e = .returned (.int .i64 (q : Nat)) ∧ z = y) ∧
    ∃ Y : Nat → World → Prop, Calls Tryz.prog 21 #[.int .i64 (q : Nat)] y (fun e z => ∃ g, e = .returned (.slice (some ⟨g, 0, none⟩) q q) ∧ Y g z) ∧
      ∀ g z, Y g z → Calls Tryz.prog 20 #[.pointer (some ⟨a, 0, none⟩), .slice (some ⟨g, 0, none⟩) q q] z fun e x => e = .returned (.tuple #[]) ∧ DE w N rb x b := by
  obtain ⟨⟨h0, s, r, h1, ⟨T, h2, h3⟩, h4⟩, h5, h6⟩ := h
  obtain rfl : s.dk = a := h4.1
  have hops := h2.ops
  have hsome : s.d.L.length ≤ s.d.ops := by
    obtain ⟨P, g1, -, -⟩ := h1.walS
    exact g1.disk.inv.some_
  refine ⟨_, two_waits h1, fun g z => g = y.heap.size ∧ ChoAt z (some ⟨g, 0, none⟩) s.d.L.length (fun _ => 1) ∧ Below y.heap.size y z, ?_, ?_⟩
  · refine (yes_any _ (by omega) y).mono ?_
    rintro e z ⟨e1, e2, e3⟩
    exact ⟨_, e1, rfl, e2, e3⟩
  · rintro g z ⟨rfl, g2, g3⟩
    have h1z := h1.beside g3
    refine (two_restart h1z (by omega) g2 (fun h0 => Or.inr ⟨Nat.le_refl _, by obtain ⟨ad, e, hl, _⟩ := g2 0 h0; injection e with e; subst e; exact hl⟩)).mono ?_
    rintro e x ⟨e1, e2, e3⟩
    obtain ⟨c1, c2, c3, c4, c5⟩ := M.yes14 s.d s.d.L.length rfl
    have hk : Kept (fun j => ¬ j < N) z x := e3.mono (fun j _ e e' => e (Or.inl e'))
    have hbz : Below N w z := h5.trans (g3.mono h6)
    have hNz : N ≤ z.heap.size := Nat.le_trans h6 g3.size
    refine ⟨e1, ⟨_, r, e2.less (fun j e => Or.inl e), c1, by rw [show (({ s with d := M.restartD s.d (M.odd s.d.L.length fun _ => 1) } : M.Wl)).d = M.restartD s.d (M.odd s.d.L.length fun _ => 1) from rfl, c2]; exact h2.ok.len, by show (M.restartD s.d (M.odd s.d.L.length fun _ => 1)).ops ≤ _; rw [c3]; omega, h3.fit.seen, h4.2.2, fun k hk => ?_⟩, hk.low14 hbz hNz, Nat.le_trans hNz hk.size⟩
    rw [h3.seen k hk]
    refine (h2.says k hk).imp id (fun e => ⟨e.1, ?_⟩)
    exact (c5 k (by rw [h2.ok.len]; exact M.gd44 hk)).trans e.2
theorem DE.active (h : DE w N rb y b) : ∃ act : Bool, Calls Tryz.prog 16 #[.pointer (some ⟨b, 0, none⟩)] y (fun e z => e = .returned (.bool act) ∧ z = y) ∧
    (act = false → ∃ g c, y.cell? ⟨rb, 0, none⟩ = some (.slice (some ⟨g, 0, none⟩) 44 c) ∧ Calls Tryz.prog 23 #[.pointer (some ⟨b, 0, none⟩), .slice (some ⟨g, 0, none⟩) 44 c] y fun e z => e = .returned (.bool true) ∧ Below N w z) ∧
    Calls Tryz.prog 24 #[.pointer (some ⟨b, 0, none⟩)] y fun e z => e = .returned (.tuple #[]) ∧ ∃ g c, z.cell? ⟨rb, 0, none⟩ = some (.slice (some ⟨g, 0, none⟩) 44 c) ∧ Calls Tryz.prog 23 #[.pointer (some ⟨b, 0, none⟩), .slice (some ⟨g, 0, none⟩) 44 c] z fun e x => e = .returned (.bool true) ∧ Below N w x := by
  obtain ⟨⟨s, q, h1, h2, h3, h4, h5, h6, h7⟩, h8, h9⟩ := h
  have hs : ∀ s' : M.Wl, s'.l = [] → s'.k = s.k → s'.d = s.d → ∀ k, M.gd k → M.sees14 s' k (q.seen.getD k ByteArray.empty) := fun s' e1 e2 e3 k hk => by
    unfold M.sees14 M.get13
    rw [e1, e2, e3]
    exact h7 k hk
  refine ⟨s.act, two_active h1, fun ha => ?_, ?_⟩
  · obtain ⟨g, c, g1, g2⟩ := two_seen h1 h2 h3 (by omega) h5 (hs s (h6 ha) rfl rfl)
    exact ⟨g, c, g1, g2.mono fun e z ⟨e1, e2⟩ => ⟨e1, e2.low14 h8 h9⟩⟩
  · refine (two_abort h1).mono ?_
    rintro e z ⟨e1, e2, e3⟩
    obtain ⟨g, c, g1, g2⟩ := two_seen e2 h2 h3 (by show s.d.ops ≤ _; omega) h5 (hs { s with act := false, l := [] } rfl rfl rfl)
    have hbz := e3.low14 h8 h9
    exact ⟨e1, g, c, g1, g2.mono fun e x ⟨e4, e5⟩ => ⟨e4, e5.low14 hbz (Nat.le_trans h9 e3.size)⟩⟩
end
/-- The law's beginning. -/
theorem begun15_any (w y : World) (hE : Env10 w) (hET : ErrT w) (hb : Below w.heap.size w y) : Calls Tryz.prog 7 #[] y fun e z => ∃ a b, e = .returned (.tuple #[.pointer (some ⟨a, 0, none⟩), .pointer (some ⟨b, 0, none⟩), .bool true]) ∧
    Calls Tryz.prog 8 #[.int .i64 44, .int .i64 10, .int .i64 24] z fun e x => ∃ r, e = .returned (.pointer (some ⟨r, 0, none⟩)) ∧ DB w w.heap.size a r 0 2000 x b := by
  have hey : ErrT y := (Kept.of_below hb (fun _ => False)).cell hET id
  refine (begun14_any y (hE.below hb) hey).mono ?_
  rintro e z ⟨a, b, s, e1, e2, e3, e4, e5⟩
  refine ⟨a, b, e1, (rnew14 44 10 24 (by omega) (by omega) (by omega) z).mono ?_⟩
  rintro e x ⟨r, f1, f2, f3⟩
  have s1 := hb.size
  have s2 := e5.size
  have s3 := f3.size
  have hbx : Below w.heap.size w x := (hb.trans (e5.mono s1)).trans (f3.mono (Nat.le_trans s1 s2))
  have he : Env15 (fun j => j < w.heap.size) x := ⟨hE.below hbx, (Kept.of_below hbx (fun _ => False)).cell hET id, hE.lt, hET.lt⟩
  refine ⟨r, f1, ⟨he, s, M.wnew 44 10 24, ⟨fun j => y.heap.size ≤ j ∧ j < z.heap.size, fun j => z.heap.size ≤ j ∧ j < x.heap.size, (e2.mono (fun j hj e => ⟨e, hj⟩)).kept (Kept.of_below f3 (fun _ => False)) (fun _ _ => id), f2.mono (fun j hj e => ⟨e, hj⟩), fun j e e' => by omega, fun j e => ⟨by omega, by omega⟩, fun j e => ⟨by omega, by omega⟩, fun j e => by omega⟩, ⟨fun _ => M.zeros 64, e3.ws.more (by omega), ?_⟩, e4, by rw [e3.calm]; simp, fun _ => e3.l⟩, hbx, hbx.size⟩
  exact ⟨⟨by simp [M.wnew], rfl, rfl, by show 0 + 2 ≤ 24; omega⟩, fun k hk => M.wnew_seen hk, fun k => by rw [e3.l]; rfl, by rw [e3.l]; rfl, List.nodup_nil, e3.act.symm, e3.used.symm, by rw [e3.uns]; rfl⟩
end Go.Proofs.YtigmcnnplnfakaaGreatDoor
