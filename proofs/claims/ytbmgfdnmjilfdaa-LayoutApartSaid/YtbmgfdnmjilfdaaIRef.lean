/-
  Walk over solderref15.Parts.
-/
import Derived.Test.YtbmgfdnmjilfdaaICfg
import Derived.OwnWalk
import Derived.Laws.AppendOwn
import Derived.Maps.AppendAt
import Derived.Deep.OwnRows
namespace Go.Proofs.Ytbmgfdnmjilfdaa
open Go.RowKit

/-- Whose each sector is, and which thing of it. -/
def M.pt (E S i : Nat) : Nat × Nat :=
  if i < 2 then (i, 0) else if i < M.lx E then (2, i - 2) else if i < M.ls E then (3, (i - M.lx E) / 2) else if i < M.ll E S then (4, (i - M.ls E) / 5) else (5, 0)
/-- Pairs as cells. -/
def M.prow (f : Nat → Nat × Nat) : Nat → List Value
  | 0 => []
  | n + 1 => M.prow f n ++ [.int .i64 ((f n).1 : Nat), .int .i64 ((f n).2 : Nat)]
theorem M.prow_len (f : Nat → Nat × Nat) (n : Nat) : (M.prow f n).length = n * 2 := by
  induction n with
  | zero => rfl
  | succ n ih => rw [M.prow, List.length_append, ih]; simp; omega
theorem M.prow_at (f : Nat → Nat × Nat) (n i : Nat) (h : i < n) : (M.prow f n)[i * 2]? = some (.int .i64 ((f i).1 : Nat)) ∧ (M.prow f n)[i * 2 + 1]? = some (.int .i64 ((f i).2 : Nat)) := by
  induction n with
  | zero => omega
  | succ n ih =>
    rw [M.prow]
    by_cases e : i < n
    · rw [List.getElem?_append_left (by rw [M.prow_len]; omega), List.getElem?_append_left (by rw [M.prow_len]; omega)]
      exact ih e
    · have e : i = n := by omega
      subst e
      rw [List.getElem?_append_right (by rw [M.prow_len]; omega), List.getElem?_append_right (by rw [M.prow_len]; omega), M.prow_len]
      rw [show i * 2 - i * 2 = 0 by omega, show i * 2 + 1 - i * 2 = 1 by omega]
      exact ⟨rfl, rfl⟩
theorem M.pt_table {E k : Nat} (S : Nat) (h : k < (E + 1) / 2) : M.pt E S (2 + k) = (2, k) := by
  unfold M.pt M.lx
  rw [if_neg (by omega), if_pos (by omega)]
  congr 1
  omega
theorem M.pt_ext {E k : Nat} (S : Nat) (h : k < 2 * E) : M.pt E S (M.lx E + k) = (3, k / 2) := by
  unfold M.pt M.ls M.lx
  rw [if_neg (by omega), if_neg (by omega), if_pos (by omega)]
  congr 1
  omega
theorem M.pt_slot {E S k : Nat} (h : k < 5 * S) : M.pt E S (M.ls E + k) = (4, k / 5) := by
  unfold M.pt M.ll M.ls M.lx
  rw [if_neg (by omega), if_neg (by omega), if_neg (by omega), if_pos (by omega)]
  congr 1
  omega
theorem M.pt_log {E S k : Nat} : M.pt E S (M.ll E S + k) = (5, 0) := by
  unfold M.pt M.ll M.ls M.lx
  rw [if_neg (by omega), if_neg (by omega), if_neg (by omega), if_neg (by omega)]
theorem info15 : (Try.prog.info? 45).map (fun i => (i.zero, i.size, i.bytes)) = some (some (.agg #[.int .i64 0, .int .i64 0]), 2, 16) := by kernel_rfl
theorem icell2 (w : World) (x y : Value) (t : TypeId) : ∀ j u, [x, y][j]? = some u → (w.alloc (.cells #[x, y] t)).cell? ((⟨w.heap.size, 0, none⟩ : Addr).add j) = some u := by
  intro j u hj
  rw [blk_add, (Box.new w t #[x, y]).cell]
  simpa using hj

/-- A row of pairs is a call's own, the volume's numbers stand in their box. -/
def Pd (w : World) (D B : Nat) (E S L : Nat) (v : Value) (n : Nat) (x : World) : Prop :=
  x.ownsRow (B + 1) 45 2 v n (M.prow (M.pt E S) n) ∧ Below (B + 1) w x ∧ Box x B 23 #[.int .i64 E, .int .i64 S, .int .i64 L] ∧ D ≤ x.heap.size
theorem Pd.shape {w x : World} {B D E S L n : Nat} {v : Value} (h : Pd w D B E S L v n x) (hn : 0 < n) : ∃ g cap, v = .slice (some ⟨g, 0, none⟩) n cap := by
  rcases h.1.2 with ⟨_, e⟩ | ⟨g, cap, cur, e, _⟩
  · omega
  · exact ⟨g, cap, e⟩
theorem Pd.next {w x y : World} {B D E S L n : Nat} {p q : Int} {v v' : Value} (h : Pd w D B E S L v n x) (hD : B + 1 ≤ D) (hp : ((M.pt E S n).1 : Int) = p ∧ ((M.pt E S n).2 : Int) = q)
    (ho : y.ownsRow (B + 1) 45 2 v' (n + 1) (M.prow (M.pt E S) n ++ [.int .i64 p, .int .i64 q])) (hg : (x.alloc (.cells #[.int .i64 p, .int .i64 q] 45)).grownBy y v.ownBlock) : Pd w D B E S L v' (n + 1) y := by
  have hz : B + 1 ≤ x.heap.size := Nat.le_trans hD h.2.2.2
  have hb : Below (B + 1) x y := (((Below.refl (B + 1) x)).alloc hz _).grown hg (by rw [World.size_alloc]; omega) (fun k e => (h.1.lt k e).1)
  refine ⟨?_, h.2.1.trans hb, h.2.2.1.below hb (Nat.lt_succ_self B), Nat.le_trans h.2.2.2 hb.size⟩
  rw [M.prow, hp.1, hp.2]
  exact ho


set_option maxHeartbeats 2000000 in
theorem parts15_ok (E S L : Nat) (h : M.lokB E S L = true) (w : World) : Calls Try.prog 12 #[Cf E S L] w fun e w' =>
    ∃ g cap, e = .returned (.slice (some ⟨g, 0, none⟩) (M.ln E S L) cap) ∧ w'.ownsRow (w.heap.size + 1) 45 2 (.slice (some ⟨g, 0, none⟩) (M.ln E S L) cap) (M.ln E S L) (M.prow (M.pt E S) (M.ln E S L)) ∧ Below w.heap.size w w' := by
  obtain ⟨i0, hi, hz0, hz1, hz2⟩ := info_parts info15
  have C := Lib.hid (fun x => rcheck15_ok E S L h x)
  have HK := Lib.hid ((M.lok_iff _ _ _).1 h)
  clear h
  obtain ⟨t, ht⟩ : ∃ t, t = (E + 1) / 2 := ⟨_, rfl⟩
  obtain ⟨m, hm⟩ : ∃ m, m = 2 * E := ⟨_, rfl⟩
  obtain ⟨q, hq⟩ : ∃ q, q = 5 * S := ⟨_, rfl⟩
  obtain ⟨x, hx⟩ : ∃ x, x = M.lx E := ⟨_, rfl⟩
  obtain ⟨s, hs⟩ : ∃ x, x = M.ls E := ⟨_, rfl⟩
  obtain ⟨l, hl⟩ : ∃ x, x = M.ll E S := ⟨_, rfl⟩
  obtain ⟨n, hn⟩ : ∃ x, x = M.ln E S L := ⟨_, rfl⟩
  have HF : Hid ((∀ k, k < t → M.pt E S (2 + k) = (2, k)) ∧ (∀ k, k < m → M.pt E S (x + k) = (3, k / 2)) ∧ (∀ k, k < q → M.pt E S (s + k) = (4, k / 5)) ∧ (∀ k, M.pt E S (l + k) = (5, 0))) :=
    ⟨fun k hk => M.pt_table S (by omega), fun k hk => by rw [hx]; exact M.pt_ext S (by omega), fun k hk => by rw [hs]; exact M.pt_slot (by omega), fun k => by rw [hl]; exact M.pt_log⟩
  rw [← hn]
  unfold M.ln at hn
  rw [← hl] at hn
  unfold M.ll at hl
  rw [← hs] at hl
  unfold M.ls at hs
  rw [← hx] at hs
  unfold M.lx at hx
  have HN : Hid (x = 2 + t ∧ s = x + m ∧ l = s + q ∧ n = l + L ∧ t ≤ 12 ∧ m ≤ 48 ∧ q ≤ 40 ∧ L ≤ 200 ∧ t = (E + 1) / 2 ∧ m = 2 * E ∧ q = 5 * S ∧ E ≤ 24 ∧ S ≤ 8) := by
    have := HK.out
    show _ ∧ _
    omega
  clear ht hm hq hx hs hl hn HK
  have HB := Lib.hid (ib1 w (.cells #[.int .i64 E, .int .i64 S, .int .i64 L] 23))
  have HX : Hid (Box (w.alloc (.cells #[.int .i64 E, .int .i64 S, .int .i64 L] 23)) w.heap.size 23 #[.int .i64 E, .int .i64 S, .int .i64 L]) := Box.new _ _ _
  obtain ⟨B, hB⟩ : ∃ B, B = w.heap.size := ⟨_, rfl⟩
  rw [← hB] at HX HB
  rw [← hB]
  have HBB := Lib.hid hB
  clear hB
  go_enter Try.func12, Try.ntmps12
  go_wp2_with fail
  rw [← HBB.out]
  refine (C.out _).mono ?_
  rintro e w1 ⟨rfl, hb1⟩
  have HX1 := Lib.hid (HX.out.below hb1 HX.out.lt)
  have HB1 := Lib.hid (HB.out.trans (hb1.mono (by rw [World.size_alloc]; have := HBB.out; omega)))
  have HZ1 : Hid (B + 1 ≤ w1.heap.size) := by have := hb1.size; rw [World.size_alloc] at this; have := HBB.out; show _ ≤ _; omega
  clear hb1 HX HB C
  go_wp2_with fail
  have HP : Hid (Pd w1 (B + 1) B E S L (.slice (some ⟨w1.heap.size, 0, none⟩) 2 2) 2 (w1.alloc (.cells #[.int .i64 0, .int .i64 0, .int .i64 1, .int .i64 0] 45))) := by
    refine ⟨⟨rfl, Or.inr ⟨w1.heap.size, 2, _, rfl, HZ1.out, Box.new _ _ _, Nat.le_refl _, by decide, rfl, rfl⟩⟩, (ib1 w1 _).mono HZ1.out, HX1.out.below (ib1 w1 _) HX1.out.lt, by rw [World.size_alloc]; have := HZ1.out; omega⟩
  go_loopw [3, 4] (fun v i wr => ∃ k : Nat, k ≤ t ∧ i = .int .i64 (k : Nat) ∧ Hid (Pd w1 (B + 1) B E S L v (2 + k) wr)) (fun v i _ => t - (intOf i).toNat)
  case atStart => exact ⟨0, Nat.zero_le _, rfl, HP.out⟩
  case round =>
    clear HP
    obtain ⟨k, hk, rfl, HP⟩ := hrel
    have c0 := (HP.out.2.2.1.cell 0).trans (rfl : _ = some (Value.int .i64 E))
    obtain ⟨g1, g2, g3, g4, g5, g6, g7, g8, g9, g10, g11, g12, g13⟩ := HN.out
    obtain ⟨e1, he1⟩ : ∃ e1, e1 = E + 1 := ⟨_, rfl⟩
    have r1 : IntKind.i64.wrap ((E : Int) + 1) = (e1 : Int) := by rw [IntKind.wrap_i64]; omega
    have r2 : (e1 : Int).tdiv 2 = (t : Int) := by rw [Int.tdiv_eq_ediv_of_nonneg (by omega)]; omega
    have r3 : IntKind.i64.wrap (t : Int) = (t : Int) := by rw [IntKind.wrap_i64]; omega
    by_cases hlt : k < t
    · have hlt' : (k : Int) < (t : Int) := by omega
      have hd9 : decide (k < t) = true := by simpa using hlt
      have HM : Hid ((2 + k) + 1 ≤ maxLen ∧ ((2 + k) + 1) * 16 ≤ 140737488355328 ∧ B + 1 ≤ (wr.alloc (.cells #[.int .i64 2, .int .i64 (k : Nat)] 45)).heap.size) := ⟨by unfold maxLen; omega, by omega, by rw [World.size_alloc]; have := HP.out.2.2.2; omega⟩
      have HV : Hid (((M.pt E S (2 + k)).1 : Int) = 2 ∧ ((M.pt E S (2 + k)).2 : Int) = (k : Int)) := by rw [HF.out.1 k hlt]; exact ⟨rfl, by rfl⟩
      have hk1 : (k : Int) ≤ 1000 := by omega
      clear g1 g2 g3 g4 g5 g6 g7 g8 g9 g10 g11 g12 g13 hlt he1 
      go_wp2_with (at_builtin; refine wpList_append_own _ rfl _ _ 32 rfl (B + 1) 45 i0 (.agg #[.int .i64 0, .int .i64 0]) 2 16 Try.underlying32 hi hz0 hz1 hz2 rfl (by decide) _ _ _ rfl (HP.out.1.alloc _) ⟨wr.heap.size, 0, none⟩ 1 1 [.int .i64 2, .int .i64 (k : Nat)] rfl rfl (icell2 _ _ _ _) (fun x hx => by simp at hx; rcases hx with rfl | rfl <;> rfl) HM.out.1 HM.out.2.1 HM.out.2.2 ?_; intro v' w3 hown' hgrow3 hnil3; have X := Lib.hid (HP.out.next (Nat.le_refl _) HV.out hown' hgrow3); clear hown' hgrow3 hnil3)
      go_roundw
      case rel => exact ⟨k + 1, by omega, by go_num, X.out⟩
      case measure => simp [intOf]; omega
    · obtain rfl : k = t := by omega
      have hd9 : decide (k < k) = false := by simp
      have HP2 := HP.out
      rw [← g1] at HP2
      have HP := Lib.hid HP2
      clear HP2
      clear g1 g2 g3 g4 g5 g6 g7 g8 g9 g10 g11 g12 g13 hk he1
      go_wp2_with fail
      go_loopw [3, 5] (fun v i wr => ∃ k : Nat, k ≤ m ∧ i = .int .i64 (k : Nat) ∧ Hid (Pd w1 (B + 1) B E S L v (x + k) wr)) (fun v i _ => m - (intOf i).toNat)
      case atStart => exact ⟨0, Nat.zero_le _, rfl, HP.out⟩
      case round =>
        clear HP
        obtain ⟨k, hk, rfl, HP⟩ := hrel
        have c0 := (HP.out.2.2.1.cell 0).trans (rfl : _ = some (Value.int .i64 E))
        obtain ⟨g1, g2, g3, g4, g5, g6, g7, g8, g9, g10, g11, g12, g13⟩ := HN.out
        have r1 : IntKind.i64.wrap (2 * (E : Int)) = (m : Int) := by rw [IntKind.wrap_i64]; omega
        by_cases hlt : k < m
        · have hlt' : (k : Int) < (m : Int) := by omega
          have hd9 : decide (k < m) = true := by simpa using hlt
          obtain ⟨d, hd⟩ : ∃ d, d = k / 2 := ⟨_, rfl⟩
          have r2 : (k : Int).tdiv 2 = (d : Int) := by rw [Int.tdiv_eq_ediv_of_nonneg (by omega)]; omega
          have r3 : IntKind.i64.wrap (d : Int) = (d : Int) := by rw [IntKind.wrap_i64]; omega
          have HM : Hid ((x + k) + 1 ≤ maxLen ∧ ((x + k) + 1) * 16 ≤ 140737488355328 ∧ B + 1 ≤ (wr.alloc (.cells #[.int .i64 3, .int .i64 (d : Nat)] 45)).heap.size) := ⟨by unfold maxLen; omega, by omega, by rw [World.size_alloc]; have := HP.out.2.2.2; omega⟩
          have HV : Hid (((M.pt E S (x + k)).1 : Int) = 3 ∧ ((M.pt E S (x + k)).2 : Int) = (d : Int)) := by rw [HF.out.2.1 k hlt]; exact ⟨rfl, by rw [hd]⟩
          have hk1 : (k : Int) ≤ 1000 := by omega
          clear g1 g2 g3 g4 g5 g6 g7 g8 g9 g10 g11 g12 g13 hlt  hd
          go_wp2_with (at_builtin; refine wpList_append_own _ rfl _ _ 32 rfl (B + 1) 45 i0 (.agg #[.int .i64 0, .int .i64 0]) 2 16 Try.underlying32 hi hz0 hz1 hz2 rfl (by decide) _ _ _ rfl (HP.out.1.alloc _) ⟨wr.heap.size, 0, none⟩ 1 1 [.int .i64 3, .int .i64 (d : Nat)] rfl rfl (icell2 _ _ _ _) (fun x hx => by simp at hx; rcases hx with rfl | rfl <;> rfl) HM.out.1 HM.out.2.1 HM.out.2.2 ?_; intro v' w3 hown' hgrow3 hnil3; have X := Lib.hid (HP.out.next (Nat.le_refl _) HV.out hown' hgrow3); clear hown' hgrow3 hnil3)
          go_roundw
          case rel => exact ⟨k + 1, by omega, by go_num, X.out⟩
          case measure => simp [intOf]; omega
        · obtain rfl : k = m := by omega
          have hd9 : decide (k < k) = false := by simp
          have HP2 := HP.out
          rw [← g2] at HP2
          have HP := Lib.hid HP2
          clear HP2
          clear g1 g2 g3 g4 g5 g6 g7 g8 g9 g10 g11 g12 g13 hk 
          go_wp2_with fail
          go_loopw [3, 6] (fun v i wr => ∃ k : Nat, k ≤ q ∧ i = .int .i64 (k : Nat) ∧ Hid (Pd w1 (B + 1) B E S L v (s + k) wr)) (fun v i _ => q - (intOf i).toNat)
          case atStart => exact ⟨0, Nat.zero_le _, rfl, HP.out⟩
          case round =>
            clear HP
            obtain ⟨k, hk, rfl, HP⟩ := hrel
            have c0 := (HP.out.2.2.1.cell 1).trans (rfl : _ = some (Value.int .i64 S))
            obtain ⟨g1, g2, g3, g4, g5, g6, g7, g8, g9, g10, g11, g12, g13⟩ := HN.out
            have r1 : IntKind.i64.wrap (5 * (S : Int)) = (q : Int) := by rw [IntKind.wrap_i64]; omega
            by_cases hlt : k < q
            · have hlt' : (k : Int) < (q : Int) := by omega
              have hd9 : decide (k < q) = true := by simpa using hlt
              obtain ⟨d, hd⟩ : ∃ d, d = k / 5 := ⟨_, rfl⟩
              have r2 : (k : Int).tdiv 5 = (d : Int) := by rw [Int.tdiv_eq_ediv_of_nonneg (by omega)]; omega
              have r3 : IntKind.i64.wrap (d : Int) = (d : Int) := by rw [IntKind.wrap_i64]; omega
              have HM : Hid ((s + k) + 1 ≤ maxLen ∧ ((s + k) + 1) * 16 ≤ 140737488355328 ∧ B + 1 ≤ (wr.alloc (.cells #[.int .i64 4, .int .i64 (d : Nat)] 45)).heap.size) := ⟨by unfold maxLen; omega, by omega, by rw [World.size_alloc]; have := HP.out.2.2.2; omega⟩
              have HV : Hid (((M.pt E S (s + k)).1 : Int) = 4 ∧ ((M.pt E S (s + k)).2 : Int) = (d : Int)) := by rw [HF.out.2.2.1 k hlt]; exact ⟨rfl, by rw [hd]⟩
              have hk1 : (k : Int) ≤ 1000 := by omega
              clear g1 g2 g3 g4 g5 g6 g7 g8 g9 g10 g11 g12 g13 hlt  hd
              go_wp2_with (at_builtin; refine wpList_append_own _ rfl _ _ 32 rfl (B + 1) 45 i0 (.agg #[.int .i64 0, .int .i64 0]) 2 16 Try.underlying32 hi hz0 hz1 hz2 rfl (by decide) _ _ _ rfl (HP.out.1.alloc _) ⟨wr.heap.size, 0, none⟩ 1 1 [.int .i64 4, .int .i64 (d : Nat)] rfl rfl (icell2 _ _ _ _) (fun x hx => by simp at hx; rcases hx with rfl | rfl <;> rfl) HM.out.1 HM.out.2.1 HM.out.2.2 ?_; intro v' w3 hown' hgrow3 hnil3; have X := Lib.hid (HP.out.next (Nat.le_refl _) HV.out hown' hgrow3); clear hown' hgrow3 hnil3)
              go_roundw
              case rel => exact ⟨k + 1, by omega, by go_num, X.out⟩
              case measure => simp [intOf]; omega
            · obtain rfl : k = q := by omega
              have hd9 : decide (k < k) = false := by simp
              have HP2 := HP.out
              rw [← g3] at HP2
              have HP := Lib.hid HP2
              clear HP2
              clear g1 g2 g3 g4 g5 g6 g7 g8 g9 g10 g11 g12 g13 hk 
              go_wp2_with fail
              go_loopw [3, 7] (fun v i wr => ∃ k : Nat, k ≤ L ∧ i = .int .i64 (k : Nat) ∧ Hid (Pd w1 (B + 1) B E S L v (l + k) wr)) (fun v i _ => L - (intOf i).toNat)
              case atStart => exact ⟨0, Nat.zero_le _, rfl, HP.out⟩
              case round =>
                clear HP
                obtain ⟨k, hk, rfl, HP⟩ := hrel
                have c0 := (HP.out.2.2.1.cell 2).trans (rfl : _ = some (Value.int .i64 L))
                obtain ⟨g1, g2, g3, g4, g5, g6, g7, g8, g9, g10, g11, g12, g13⟩ := HN.out
                by_cases hlt : k < L
                · have hlt' : (k : Int) < (L : Int) := by omega
                  have hd9 : decide (k < L) = true := by simpa using hlt
                  have HM : Hid ((l + k) + 1 ≤ maxLen ∧ ((l + k) + 1) * 16 ≤ 140737488355328 ∧ B + 1 ≤ (wr.alloc (.cells #[.int .i64 5, .int .i64 0] 45)).heap.size) := ⟨by unfold maxLen; omega, by omega, by rw [World.size_alloc]; have := HP.out.2.2.2; omega⟩
                  have HV : Hid (((M.pt E S (l + k)).1 : Int) = 5 ∧ ((M.pt E S (l + k)).2 : Int) = 0) := by rw [HF.out.2.2.2 k]; exact ⟨rfl, by rfl⟩
                  have hk1 : (k : Int) ≤ 1000 := by omega
                  clear g1 g2 g3 g4 g5 g6 g7 g8 g9 g10 g11 g12 g13 hlt  
                  go_wp2_with (at_builtin; refine wpList_append_own _ rfl _ _ 32 rfl (B + 1) 45 i0 (.agg #[.int .i64 0, .int .i64 0]) 2 16 Try.underlying32 hi hz0 hz1 hz2 rfl (by decide) _ _ _ rfl (HP.out.1.alloc _) ⟨wr.heap.size, 0, none⟩ 1 1 [.int .i64 5, .int .i64 0] rfl rfl (icell2 _ _ _ _) (fun x hx => by simp at hx; rcases hx with rfl | rfl <;> rfl) HM.out.1 HM.out.2.1 HM.out.2.2 ?_; intro v' w3 hown' hgrow3 hnil3; have X := Lib.hid (HP.out.next (Nat.le_refl _) HV.out hown' hgrow3); clear hown' hgrow3 hnil3)
                  go_roundw
                  case rel => exact ⟨k + 1, by omega, by go_num, X.out⟩
                  case measure => simp [intOf]; omega
                · obtain rfl : k = L := by omega
                  have hd9 : decide (k < k) = false := by simp
                  have HP2 := HP.out
                  rw [← g4] at HP2
                  have HP := Lib.hid HP2
                  clear HP2
                  clear g1 g2 g3 g4 g5 g6 g7 g8 g9 g10 g11 g12 g13 hk 
                  go_wp2_with fail
                  obtain ⟨g, cap, hv⟩ := HP.out.shape (by have := HN.out; omega)
                  subst hv
                  go_ret
                  exact ⟨g, cap, rfl, HP.out.1, HB1.out.trans (HP.out.2.1.mono (Nat.le_succ _))⟩

theorem parts15_no (a b c : Int) (h : M.lokB a b c = false) (w : World) : Calls Try.prog 12 #[Cf a b c] w fun e w' => e = .returned (.slice none 0 0) ∧ Below w.heap.size w w' := by
  have C := Lib.hid (fun x => rcheck15_no a b c h x)
  clear h
  have HB := Lib.hid (ib1 w (.cells #[.int .i64 a, .int .i64 b, .int .i64 c] 23))
  go_enter Try.func12, Try.ntmps12
  go_wp2_with fail
  refine (C.out _).mono ?_
  rintro e w1 ⟨rfl, hb1⟩
  have HB1 := Lib.hid (HB.out.trans (hb1.mono HB.out.size))
  clear hb1
  go_wp2_with fail
  go_ret
  exact ⟨rfl, HB1.out⟩

/-- Is it such a thing's? -/
def M.isP (E S : Nat) (p n : Int) (i : Nat) : Prop := ((M.pt E S i).1 : Int) = p ∧ ((M.pt E S i).2 : Int) = n
set_option maxHeartbeats 1000000 in
theorem first15_any (E S L : Nat) (p n : Int) (r : Nat) (h : M.lokB E S L = true) (hr : r ≤ M.ln E S L) (hno : ∀ j, j < r → ¬ M.isP E S p n j) (hat : r < M.ln E S L → M.isP E S p n r) (w : World) :
    Calls Try.prog 17 #[Cf E S L, .int .i64 p, .int .i64 n] w fun e w' => e = .returned (.int .i64 (if r < M.ln E S L then (r : Int) else -1)) ∧ Below w.heap.size w w' := by
  have C := Lib.hid (fun x => parts15_ok E S L h x)
  obtain ⟨N, hN⟩ : ∃ x, x = M.ln E S L := ⟨_, rfl⟩
  have HN : Hid (N ≤ 400) := by
    have := (M.lok_iff _ _ _).1 h
    show N ≤ 400
    rw [hN]
    unfold M.ln M.ll M.ls M.lx
    omega
  rw [← hN] at hr hat C ⊢
  obtain ⟨R, hR⟩ : ∃ R, R = (if r < N then (r : Int) else -1) := ⟨_, rfl⟩
  rw [← hR]
  have HR := Lib.hid hR
  clear h hN hR
  have HI := Lib.hid (And.intro hno hat)
  clear hno hat
  obtain ⟨f, hf⟩ : ∃ f, f = M.pt E S := ⟨_, rfl⟩
  unfold M.isP at HI
  rw [← hf] at HI C
  clear hf
  have HB := Lib.hid (ib1 w (.cells #[.int .i64 E, .int .i64 S, .int .i64 L] 23))
  go_enter Try.func17, Try.ntmps17
  go_wp2_with fail
  refine (C.out _).mono ?_
  rintro e w1 ⟨g, cap, rfl, ho, hb1⟩
  have HB1 := Lib.hid (HB.out.trans (hb1.mono HB.out.size))
  have HC : Hid (∀ i, i < N → w1.cell? ⟨g, i * 2, none⟩ = some (.int .i64 ((f i).1 : Nat)) ∧ w1.cell? ⟨g, i * 2 + 1, none⟩ = some (.int .i64 ((f i).2 : Nat))) := fun i hi => by
    obtain ⟨a1, a2⟩ := M.prow_at f N i hi
    have c1 := ho.cells (g := g) rfl _ _ a1
    have c2 := ho.cells (g := g) rfl _ _ a2
    rw [blk_add] at c1 c2
    exact ⟨c1, c2⟩
  clear hb1 ho HB C
  go_wp2_with fail
  go_loopw [8] (fun i wr => ∃ k : Nat, k ≤ r ∧ i = .int .i64 (k : Nat) ∧ w1 = wr) (fun i _ => N - (intOf i).toNat)
  case atStart => exact ⟨0, Nat.zero_le _, rfl, rfl⟩
  case round =>
    obtain ⟨k, hk, rfl, rfl⟩ := hrel
    by_cases hlt : k < N
    · obtain ⟨c0, c1⟩ := HC.out k hlt
      obtain ⟨x, hx⟩ : ∃ x, x = (f k).1 := ⟨_, rfl⟩
      obtain ⟨y, hy⟩ : ∃ x, x = (f k).2 := ⟨_, rfl⟩
      rw [← hx] at c0
      rw [← hy] at c1
      have HV : Hid ((k < r → ¬ ((x : Int) = p ∧ (y : Int) = n)) ∧ (k = r → (x : Int) = p ∧ (y : Int) = n)) := by
        rw [hx, hy]
        exact ⟨fun h => HI.out.1 k h, fun h => by subst h; exact HI.out.2 hlt⟩
      clear hx hy
      have hd9 : decide (k < N) = true := by simpa using hlt
      have hlt' : (k : Int) < (N : Int) := by omega
      have hk0 : (0 : Int) ≤ (k : Int) := by omega
      have hN : (N : Int) ≤ 400 := by have := HN.out; omega
      by_cases e : k = r
      · subst e
        obtain ⟨v1, v2⟩ := HV.out.2 rfl
        have d1 : ((x : Int) == p) = true := by simpa using v1
        have d2 : ((y : Int) == n) = true := by simpa using v2
        have hR2 := HR.out
        rw [if_pos hlt] at hR2
        have HR2 := Lib.hid hR2
        clear v1 v2 hlt hR2
        go_wp2_with fail
        go_ret
        exact ⟨by rw [HR2.out]; rfl, HB1.out⟩
      · have hkr : k < r := by omega
        have hh : ((x : Int) == p) = false ∨ (((x : Int) == p) = true ∧ ((y : Int) == n) = false) := by
          have := HV.out.1 hkr
          by_cases v1 : (x : Int) = p
          · exact Or.inr ⟨by simpa using v1, by rw [beq_eq_false_iff_ne]; exact fun v2 => this ⟨v1, v2⟩⟩
          · exact Or.inl (by rw [beq_eq_false_iff_ne]; exact v1)
        clear hlt
        rcases hh with d1 | ⟨d1, d2⟩
        all_goals
          go_wp2_with fail
          go_roundw
          case rel => exact ⟨k + 1, by omega, by go_num, (by first | rfl | trivial)⟩
          case measure => simp [intOf]; omega
    · have hd9 : decide (k < N) = false := by simpa using hlt
      have hR2 := HR.out
      rw [if_neg (by omega)] at hR2
      have HR2 := Lib.hid hR2
      clear hlt hR2
      go_wp2_with fail
      go_ret
      exact ⟨by rw [HR2.out]; rfl, HB1.out⟩
theorem first15_no (a b c p n : Int) (h : M.lokB a b c = false) (w : World) : Calls Try.prog 17 #[Cf a b c, .int .i64 p, .int .i64 n] w fun e w' => e = .returned (.int .i64 (-1)) ∧ Below w.heap.size w w' := by
  have C := Lib.hid (fun x => parts15_no a b c h x)
  clear h
  have HB := Lib.hid (ib1 w (.cells #[.int .i64 a, .int .i64 b, .int .i64 c] 23))
  go_enter Try.func17, Try.ntmps17
  go_wp2_with fail
  refine (C.out _).mono ?_
  rintro e w1 ⟨rfl, hb1⟩
  have HB1 := Lib.hid (HB.out.trans (hb1.mono HB.out.size))
  clear hb1
  go_wp2_with fail
  go_loopw [8] (fun i wr => i = .int .i64 0 ∧ w1 = wr) (fun i _ => 0)
  case atStart => exact ⟨rfl, rfl⟩
  case round =>
    obtain ⟨rfl, rfl⟩ := hrel
    go_wp2_with fail
    go_ret
    exact ⟨rfl, HB1.out⟩

/-- Is a place what it is to be? -/
theorem place15_yes (a b c p n f at_ e_ : Int) (w : World) (hF : ∀ x, Calls Try.prog 17 #[Cf a b c, .int .i64 p, .int .i64 n] x fun e y => e = .returned (.int .i64 f) ∧ Below x.heap.size x y)
    (h : (f = -1 ∧ at_ = 0 ∧ e_ = 3) ∨ (0 ≤ f ∧ at_ = f ∧ e_ = 0)) : Calls Try.prog 13 #[.int .i64 at_, .int .i64 e_, Cf a b c, .int .i64 p, .int .i64 n] w fun e w' => e = .returned (.bool true) ∧ Below w.heap.size w w' := by
  have C := Lib.hid hF
  clear hF
  have HB := Lib.hid (ib1 w (.cells #[.int .i64 a, .int .i64 b, .int .i64 c] 23))
  rcases h with ⟨rfl, rfl, rfl⟩ | ⟨h0, rfl, rfl⟩
  · go_enter Try.func13, Try.ntmps13
    go_wp2_with fail
    refine (C.out _).mono ?_
    rintro e w1 ⟨rfl, hb1⟩
    have HB1 := Lib.hid (HB.out.trans (hb1.mono HB.out.size))
    clear hb1
    go_wp2_with fail
    go_ret
    exact ⟨rfl, HB1.out⟩
  · have d : decide (at_ < 0) = false := by simpa using h0
    have d1 : (at_ == at_) = true := by simp
    clear h0
    go_enter Try.func13, Try.ntmps13
    go_wp2_with fail
    refine (C.out _).mono ?_
    rintro e w1 ⟨rfl, hb1⟩
    have HB1 := Lib.hid (HB.out.trans (hb1.mono HB.out.size))
    clear hb1
    go_wp2_with fail
    go_ret
    exact ⟨rfl, HB1.out⟩

end Go.Proofs.Ytbmgfdnmjilfdaa
