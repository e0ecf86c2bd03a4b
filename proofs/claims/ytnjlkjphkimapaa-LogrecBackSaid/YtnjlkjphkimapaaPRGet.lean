/-
  Walks over solderref11.Get.
-/
import Derived.Test.YtnjlkjphkimapaaPGetN
import Derived.Test.YtnjlkjphkimapaaDMath
import Derived.Deep.RegionLaw
import Derived.Deep.AppendLies
namespace Go.Proofs.Ytnjlkjphkimapaa
open Go.RowKit Go.Deep

theorem rget11_nil (w : World) : Calls Try.prog 13 #[.string ⟨#[]⟩] w fun e w' => Got11 ⟨#[]⟩ w e w' := by
  have hE : M.getE ⟨#[]⟩ = 12 := M.getE_size (Or.inl rfl)
  have H := Lib.hid hE
  clear hE
  go_enter Try.func13, Try.ntmps13
  go_wp2_with fail
  go_returns
  exact Got11.no H.out (by decide) rfl (Below.refl _ _)
theorem rget11_part (s : ByteArray) (w : World) (h0 : s.size ≠ 0) (h1 : s.size % 64 ≠ 0) : Calls Try.prog 13 #[.string s] w fun e w' => Got11 s w e w' := by
  have hE : M.getE s = 12 := M.getE_size (Or.inr h1)
  have H := Lib.hid hE
  have he : (s.toList == ([] : List UInt8)) = false := by
    rw [← (show (⟨#[]⟩ : ByteArray).toList = [] by rw [ByteArray.toList_eq])]
    exact ne_of_toList (fun e => h0 (by rw [e]; rfl))
  obtain ⟨r, hr⟩ : ∃ r : Int, r = (s.size : Int).tmod 64 := ⟨_, rfl⟩
  have hr0 : (r == 0) = false := by rw [beq_eq_false_iff_ne, hr, Int.tmod_eq_emod_of_nonneg (by omega)]; omega
  have hr' := hr.symm
  clear hE h0 h1 hr
  go_enter Try.func13, Try.ntmps13
  go_wp2_with fail
  go_returns
  exact Got11.no H.out (by decide) rfl (Below.refl _ _)

set_option maxHeartbeats 1000000 in
theorem rget11_form (s : ByteArray) (w : World) (h0 : s.size ≠ 0) (h1 : s.size % 64 = 0) (h9 : s.size ≤ 100000) (h : s.extract 0 1 ≠ ⟨#[82]⟩ ∨ M.hnum s 7 8 ≠ (M.gN s : Int) ∨ M.gN s < 1 ∨ 16 < M.gN s) :
    Calls Try.prog 13 #[.string s] w fun e w' => Got11 s w e w' := by
  have H := Lib.hid (M.getE_form h0 h1 h)
  have he := (M.whole_facts s h0 h1).1
  have hr := (M.whole_facts s h0 h1).2.1
  have hz := (M.whole_facts s h0 h1).2.2.2
  obtain ⟨N, hN⟩ : ∃ N, N = M.gN s := ⟨_, rfl⟩
  rw [← hN] at h hz
  have hq : (s.size : Int).tdiv 64 = (N : Int) + 1 := by rw [Int.tdiv_eq_ediv_of_nonneg (by omega)]; omega
  have hlt0 : 0 < s.size := by omega
  have hlt7 : 7 < s.size := by omega
  obtain ⟨c0, hc0⟩ : ∃ c, c = s[0]'hlt0 := ⟨_, rfl⟩
  obtain ⟨c7, hc7⟩ : ∃ c, c = s[7]'hlt7 := ⟨_, rfl⟩
  have x0 : ∀ h : 0 < s.size, s[0]'h = c0 := fun _ => hc0.symm
  have x7 : ∀ h : 7 < s.size, s[7]'h = c7 := fun _ => hc7.symm
  have y0 : s.extract 0 1 = ⟨#[c0]⟩ := by rw [hc0]; exact M.ex_at s 0 hlt0
  have y7 : M.hnum s 7 8 = (c7.toNat : Int) := by rw [hc7]; exact M.hnum_at s 7 hlt7
  rw [y0, y7] at h
  have hb7 := c7.toNat_lt
  have hN9 : (N : Int) ≤ 100000 := by omega
  have z8 : (8 : Int) ≤ (s.size : Int) := by omega
  clear h0 h1 hN hc0 hc7 y0 y7 hz hlt0 hlt7 h9
  by_cases e0 : c0 = 82
  · have e0' : (c0.toNat : Int) = 82 := by rw [e0]; rfl
    rw [e0] at h x0
    by_cases e7 : (c7.toNat : Int) = (N : Int)
    · have e7' : ((c7.toNat : Int) == (N : Int)) = true := by simp [e7]
      have e7'' : ((c7.toNat : Int) != (N : Int)) = false := by rw [bne, e7']; rfl
      by_cases g1 : (N : Int) < 1
      · clear h
        go_enter Try.func13, Try.ntmps13
        go_wp2_with fail
        all_goals go_returns
        all_goals exact Got11.no H.out (by decide) rfl (Below.refl _ _)
      · have g2 : (16 : Int) < (N : Int) := by
          rcases h with h | h | h | h
          · exact absurd rfl h
          · exact absurd e7 h
          · omega
          · omega
        clear h
        go_enter Try.func13, Try.ntmps13
        go_wp2_with fail
        all_goals go_returns
        all_goals exact Got11.no H.out (by decide) rfl (Below.refl _ _)
    · have e7' : ((c7.toNat : Int) == (N : Int)) = false := by simp [e7]
      have e7'' : ((c7.toNat : Int) != (N : Int)) = true := by rw [bne, e7']; rfl
      clear h
      go_enter Try.func13, Try.ntmps13
      go_wp2_with fail
      all_goals go_returns
      all_goals exact Got11.no H.out (by decide) rfl (Below.refl _ _)
  · have e0' : ((c0.toNat : Int) == 82) = false := by
      rw [beq_eq_false_iff_ne]
      intro e
      apply e0
      have : c0.toNat = 82 := by omega
      exact UInt8.toNat_inj.1 this
    have e0'' : ((c0.toNat : Int) != 82) = true := by rw [bne, e0']; rfl
    clear h e0
    go_enter Try.func13, Try.ntmps13
    go_wp2_with fail
    all_goals go_returns
    all_goals exact Got11.no H.out (by decide) rfl (Below.refl _ _)

theorem owns_shape {y : World} {B : Nat} {e : TypeId} {size : Nat} {v : Value} {n : Nat} {xs : List Value} (h : y.ownsRow B e size v n xs) : ∃ A c, v = .slice A n c ∧ (0 < n → ∃ g, A = some ⟨g, 0, none⟩) ∧ n ≤ c ∧ c ≤ maxLen := by
  rcases h.2 with ⟨e, h0⟩ | ⟨g, cap, cur, e, _, _, h3, h4, _⟩
  · exact ⟨none, 0, by rw [e, h0], fun h => by omega, by omega, Nat.zero_le _⟩
  · exact ⟨_, cap, e, fun _ => ⟨g, rfl⟩, h3, h4⟩
/-- The cells of so many sectors. -/
def M.rowL (a : Nat → Int) (t : Nat → ByteArray) : Nat → List Value
  | 0 => []
  | k + 1 => M.rowL a t k ++ [.int .i64 (a k), .string (t k)]
theorem M.rowL_len (a : Nat → Int) (t : Nat → ByteArray) (n : Nat) : (M.rowL a t n).length = n * 2 := by
  induction n with
  | zero => rfl
  | succ n ih => rw [M.rowL, List.length_append, ih]; simp; omega
theorem M.rowL_at (a : Nat → Int) (t : Nat → ByteArray) {n i : Nat} (h : i < n) : (M.rowL a t n)[i * 2]? = some (.int .i64 (a i)) ∧ (M.rowL a t n)[i * 2 + 1]? = some (.string (t i)) := by
  induction n with
  | zero => omega
  | succ n ih =>
    have hl := M.rowL_len a t n
    by_cases e : i = n
    · subst e
      rw [M.rowL, List.getElem?_append_right (by omega), List.getElem?_append_right (by omega), hl, Nat.sub_self, Nat.add_sub_cancel_left]
      exact ⟨rfl, rfl⟩
    · rw [M.rowL, List.getElem?_append_left (by omega), List.getElem?_append_left (by omega)]
      exact ih (by omega)
theorem SecF.owned {y : World} {B g n c : Nat} {a : Nat → Int} {t : Nat → ByteArray} (h : y.ownsRow B 41 2 (.slice (some ⟨g, 0, none⟩) n c) n (M.rowL a t n)) (ha : ∀ i, i < n → a i ≤ 9223372036854775807) : SecF y (some ⟨g, 0, none⟩) n a t := by
  intro i hi
  have h1 := h.cells (g := g) rfl _ _ (M.rowL_at a t hi).1
  have h2 := h.cells (g := g) rfl _ _ (M.rowL_at a t hi).2
  have hlt := (h.lt g rfl).2
  refine ⟨_, rfl, hlt, h1, ?_, ha i hi⟩
  rw [blk_add] at h2 ⊢
  exact h2
theorem cell2_new (w : World) (x y : Value) (t : TypeId) : ∀ j u, [x, y][j]? = some u → (w.alloc (.cells #[x, y] t)).cell? ((⟨w.heap.size, 0, none⟩ : Addr).add j) = some u := by
  intro j u hj
  rw [blk_add, (Box.new w t #[x, y]).cell]
  simpa using hj
theorem row_more {w wr y3 : World} {B k g c lc : Nat} {LA : Option Addr} {a : Nat → Int} {t : Nat → ByteArray} (hB : B = w.heap.size) (hb : Below B w wr) (hrow : wr.ownsRow B 41 2 (.slice LA k lc) k (M.rowL a t k))
    (ho : y3.ownsRow B 41 2 (.slice (some ⟨g, 0, none⟩) (k + 1) c) (k + 1) (M.rowL a t k ++ [.int .i64 (a k), .string (t k)]))
    (hg : (wr.alloc (.cells #[.int .i64 (a k), .string (t k)] 41)).drew.grownBy y3 (Value.slice LA k lc).ownBlock) :
    y3.ownsRow B 41 2 (.slice (some ⟨g, 0, none⟩) (k + 1) c) (k + 1) (M.rowL a t (k + 1)) ∧ Below B w y3 := by
  have hz : B ≤ wr.heap.size := by rw [hB]; exact hb.size
  refine ⟨ho, ?_⟩
  have hg' : (wr.alloc (.cells #[.int .i64 (a k), .string (t k)] 41)).grownBy y3 (Value.slice LA k lc).ownBlock := ⟨hg.os, hg.tape, hg.output, hg.size, hg.block⟩
  exact (hb.alloc hz _).grown hg' (by rw [World.size_alloc]; omega) (fun k e => (hrow.lt k e).1)
theorem add_is (x y : ByteArray) (h : x.size + y.size ≤ 9223372036854775807) : Op.stringOp .add x y = pure (.string (x ++ y)) := by
  have : ¬ ((x.size + y.size : Nat) : Int) > IntKind.i64.max := by show ¬ _ > (9223372036854775807 : Int); omega
  simp only [Op.stringOp, if_neg this]

set_option maxRecDepth 100000 in
set_option maxHeartbeats 4000000 in
theorem rget11_main (s : ByteArray) (w : World) (n : Nat) (hn : 1 ≤ n ∧ n ≤ 16) (hs : s.size = 64 * (n + 1)) (h2 : s.extract 0 1 = ⟨#[82]⟩) (h3 : M.hnum s 7 8 = n) :
    Calls Try.prog 13 #[.string s] w fun e w' => Got11 s w e w' := by
  obtain ⟨hN, hE⟩ := M.getE_main hn hs h2 h3
  obtain ⟨i0, hi, hz0, hz1, hz2⟩ := info_parts infoSec
  have he := (M.whole_facts s (by omega) (by omega)).1
  have hr := (M.whole_facts s (by omega) (by omega)).2.1
  have hq : (s.size : Int).tdiv 64 = (n : Int) + 1 := by rw [Int.tdiv_eq_ediv_of_nonneg (by omega)]; omega
  have hlt0 : 0 < s.size := by omega
  have hlt7 : 7 < s.size := by omega
  have x0 : ∀ h : 0 < s.size, s[0]'h = 82 := fun h => by
    have := M.ex_at s 0 h
    rw [h2] at this
    injection this with this
    simpa using this.symm
  obtain ⟨c7, hc7⟩ : ∃ c, c = s[7]'hlt7 := ⟨_, rfl⟩
  have x7 : ∀ h : 7 < s.size, s[7]'h = c7 := fun _ => hc7.symm
  have e7 : (c7.toNat : Int) = (n : Int) := by rw [← h3, hc7]; exact (M.hnum_at s 7 hlt7).symm
  have z8 : (8 : Int) ≤ (s.size : Int) := by omega
  have HA : Hid (∀ i, i < n → 0 ≤ M.gA s i ∧ M.gA s i ≤ 9223372036854775807) := fun i hi => by have := M.gA_small s i (by omega); omega
  have CT := Lib.hid (fun x => rtail11 (s.extract 0 (8 + 2 * n) ++ s.extract 64 s.size) x (by rw [ByteArray.size_append, ByteArray.size_extract, ByteArray.size_extract]; omega))
  have CN : Hid (∀ k, k < n → ∀ x, Calls Try.prog 32 #[.string (s.extract (8 + 2 * k) (10 + 2 * k))] x fun e y => e = .returned (.int .i64 (M.gA s k)) ∧ y = x) := fun k _ x => number11_any _ (by rw [ByteArray.size_extract]; omega) x
  have CQ := Lib.hid (fun x => number11_any (s.extract 1 7) (by rw [ByteArray.size_extract]; omega) x)
  rw [show ((M.num (s.extract 1 7).data.toList : Nat) : Int) = M.gQ s from rfl] at CQ
  have hQ9 : M.gQ s ≤ 9223372036854775807 := by
    have : 0 ≤ M.hnum s 1 7 ∧ M.hnum s 1 7 < (256 ^ 6 : Nat) := M.hnum_bound s 1 6 (by omega)
    rw [M.gQ]; omega
  have CP : Hid (∀ y g c, SecF y (some ⟨g, 0, none⟩) n (M.gA s) (M.gT s) → _) := fun y g c h => rput11_any (some ⟨g, 0, none⟩) n c (M.gA s) (M.gT s) (M.gQ s) y h (by unfold maxLen; omega)
  have hzA : (s.extract 64 s.size).size = 64 * n := by rw [ByteArray.size_extract]; omega
  have HTk : Hid (∀ k, k < n → (s.extract 64 s.size).extract (64 * k) (64 * k + 64) = M.gT s k) := fun k hk => by
    show _ = s.extract _ _
    rw [ByteArray.extract_extract]
    congr 1 <;> omega
  obtain ⟨told, htold⟩ : ∃ told, told = 8 + 2 * n := ⟨_, rfl⟩
  obtain ⟨tend, htend⟩ : ∃ tend, tend = 12 + 2 * n := ⟨_, rfl⟩
  have o1 : (8 : Int) + 2 * (n : Int) = (told : Int) := by omega
  have o2 : IntKind.i64.wrap ((told : Int) + 4) = (tend : Int) := by rw [IntKind.wrap_i64]; omega
  have t0 : (0 : Int) ≤ (told : Int) := by omega
  have t1 : (told : Int) ≤ (tend : Int) := by omega
  have t2 : (tend : Int) ≤ (s.size : Int) := by omega
  have t3 : (told : Int) ≤ (s.size : Int) := by omega
  have h64 : (64 : Int) ≤ (s.size : Int) := by omega
  have h9 : (s.size : Int) ≤ 1088 := by omega
  rw [← htold] at CT hE
  rw [← htend] at hE
  have q1 := add_is (s.extract 0 told) (s.extract 64 s.size) (by rw [ByteArray.size_extract, ByteArray.size_extract]; omega)
  obtain ⟨Q, hQ⟩ : ∃ Q, Q = M.gQ s := ⟨_, rfl⟩
  rw [← hQ] at CQ CP hE hQ9
  have HQ := Lib.hid hQ
  have hn1 : (1 : Int) ≤ (n : Int) := by omega
  have hn2 : (n : Int) ≤ 16 := by omega
  obtain ⟨T, hT⟩ : ∃ T, T = M.tail (s.extract 0 told ++ s.extract 64 s.size) := ⟨_, rfl⟩
  rw [← hT] at CT hE
  obtain ⟨R, hR⟩ : ∃ R, R = M.rS (M.gA s) (M.gT s) Q n := ⟨_, rfl⟩
  obtain ⟨E, hEE⟩ : ∃ E, E = M.rE (M.gA s) (M.gT s) Q n := ⟨_, rfl⟩
  rw [← hR, ← hEE] at CP hE
  obtain ⟨f, hf⟩ : ∃ f, f = ((s.extract told tend).toList == T.toList) := ⟨_, rfl⟩
  have HFq := Lib.hid hf
  have hf' := hf.symm
  obtain ⟨X, hX⟩ : ∃ X, X = s.extract 64 s.size := ⟨_, rfl⟩
  rw [← hX] at CT HTk hzA q1
  have hX' := hX.symm
  have HE := Lib.hid hE
  have HN := Lib.hid hN
  have HS : Hid (s.size = 64 * (n + 1) ∧ X.size = 64 * n) := ⟨hs, hzA⟩
  clear hN hE hs h2 h3 hn htold htend hQ hT hR hEE hc7 hlt0 hlt7 hf hX hzA
  go_enter Try.func13, Try.ntmps13
  go_wp2_with fail
  go_region_held3 (fun _ => True) (first | trivial)
    (first
      | (go_at_call 25; refine (CT.out _).mono ?_; rintro e w1 ⟨rfl, hb1⟩; have HB1 : Hid (Below w.heap.size w w1) := (by first | exact hb1 | exact (Below.refl _ _).drew.trans hb1); clear hb1))
  clear q1 o2
  cases f
  · have HE5 : Hid (M.getE s = 5) := by
      show _ = _
      rw [HE.out, if_pos]
      intro e
      have := HFq.out
      rw [e] at this
      simp at this
    go_wp2_with fail
    go_returns
    exact Got11.no HE5.out (by decide) rfl HB1.out
  have HXT : Hid (M.getE s = if E ≠ 0 ∨ R ≠ s then 4 else 0) := by
    show _ = _
    rw [HE.out, if_neg]
    intro h
    have := HFq.out
    rw [ne_of_toList h] at this
    cases this
  clear HE HFq CT
  go_wp2_with fail
  go_loopw [8, 9] (fun v j wr => ∃ k : Nat, k ≤ n ∧ j = .int .i64 k ∧ Hid (wr.ownsRow w.heap.size 41 2 v k (M.rowL (M.gA s) (M.gT s) k) ∧ Below w.heap.size w wr)) (fun v j _ => n - (intOf j).toNat)
  case atStart => exact ⟨0, Nat.zero_le _, rfl, World.ownsRow_nil _ _ _ _, HB1.out⟩
  case round =>
    clear HB1
    obtain ⟨k, hk, rfl, HW⟩ := hrel
    obtain ⟨LA, lc, rfl, hLA⟩ := owns_shape HW.out.1
    by_cases hlt : k < n
    · have hd : decide (k < n) = true := by simp; omega
      have hk0 : (0 : Int) ≤ (k : Int) := by omega
      have hlt' : (k : Int) < (n : Int) := by omega
      obtain ⟨d, hd2⟩ : ∃ d, d = 2 * k := ⟨_, rfl⟩
      obtain ⟨p, hp⟩ : ∃ p, p = 8 + 2 * k := ⟨_, rfl⟩
      obtain ⟨r, hr2⟩ : ∃ r, r = 10 + 2 * k := ⟨_, rfl⟩
      obtain ⟨st, hst⟩ : ∃ st, st = 64 * k := ⟨_, rfl⟩
      obtain ⟨k1, hk1⟩ : ∃ k1, k1 = k + 1 := ⟨_, rfl⟩
      obtain ⟨en, hen⟩ : ∃ en, en = 64 * k + 64 := ⟨_, rfl⟩
      have e1 : IntKind.i64.wrap (2 * (k : Int)) = (d : Int) := by rw [IntKind.wrap_i64]; omega
      have e2 : IntKind.i64.wrap (8 + (d : Int)) = (p : Int) := by rw [IntKind.wrap_i64]; omega
      have e3 : IntKind.i64.wrap (10 + (d : Int)) = (r : Int) := by rw [IntKind.wrap_i64]; omega
      have e4 : IntKind.i64.wrap ((k : Int) * 64) = (st : Int) := by rw [IntKind.wrap_i64]; omega
      have e5 : IntKind.i64.wrap ((k : Int) + 1) = (k1 : Int) := by rw [IntKind.wrap_i64]; omega
      have e6 : IntKind.i64.wrap ((k1 : Int) * 64) = (en : Int) := by rw [IntKind.wrap_i64]; omega
      have b0 : (0 : Int) ≤ (p : Int) := by omega
      have b1 : (p : Int) ≤ (r : Int) := by omega
      have b2 : (r : Int) ≤ (s.size : Int) := by have := HS.out; omega
      have b3 : (0 : Int) ≤ (r : Int) := by omega
      have b4 : (0 : Int) ≤ (st : Int) := by omega
      have b5 : (st : Int) ≤ (en : Int) := by omega
      have b6 : (en : Int) ≤ (X.size : Int) := by have := HS.out; omega
      have b7 : (0 : Int) ≤ (en : Int) := by omega
      have HT1 : Hid (X.extract st en = M.gT s k) := by show _ = _; rw [hst, hen]; exact HTk.out k hlt
      have C2 := Lib.hid (CN.out k hlt)
      rw [← hp, ← hr2] at C2
      obtain ⟨z, hz⟩ : ∃ z, z = M.gA s k := ⟨_, rfl⟩
      rw [← hz] at C2
      have HZ := Lib.hid hz
      obtain ⟨xs, hxs⟩ : ∃ xs, xs = M.rowL (M.gA s) (M.gT s) k := ⟨_, rfl⟩
      have HNN : Hid (k + 1 ≤ maxLen ∧ (k + 1) * 24 ≤ 140737488355328 ∧ w.heap.size ≤ wr.heap.size + 1) := ⟨by unfold maxLen; omega, by omega, by have := HW.out.2.size; omega⟩
      have HO : Hid ((wr.alloc (.cells #[.int .i64 z, .string (X.extract st en)] 41)).drew.ownsRow w.heap.size 41 2 (.slice LA k lc) k xs) := by rw [hxs]; exact HW.out.1.alloc _
      have HCN : Hid (∀ j u, [Value.int .i64 z, .string (X.extract st en)][j]? = some u → (wr.alloc (.cells #[.int .i64 z, .string (X.extract st en)] 41)).drew.cell? ((⟨wr.heap.size, 0, none⟩ : Addr).add j) = some u) := cell2_new _ _ _ _
      have HL : Hid (∀ (y3 : World) (g c : Nat), y3.ownsRow w.heap.size 41 2 (.slice (some ⟨g, 0, none⟩) (k + 1) c) (k + 1) (xs ++ [.int .i64 z, .string (X.extract st en)]) → (wr.alloc (.cells #[.int .i64 z, .string (X.extract st en)] 41)).drew.grownBy y3 (Value.slice LA k lc).ownBlock →
          Hid (y3.ownsRow w.heap.size 41 2 (.slice (some ⟨g, 0, none⟩) (k + 1) c) (k + 1) (M.rowL (M.gA s) (M.gT s) (k + 1)) ∧ Below w.heap.size w y3)) := by
        intro y3 g c p1 p2
        rw [hxs, hz, HT1.out] at p1
        rw [hz, HT1.out] at p2
        exact row_more rfl HW.out.2 HW.out.1 p1 p2
      have HKN : Hid (k < n ∧ n ≤ 16) := ⟨hlt, by omega⟩
      clear hd2 hp hr2 hst hk1 hen hz hxs hlt hk HW hLA
      go_wp2_with fail
      go_region_held3 (fun _ => True) (first | trivial)
        (first
          | (go_at_call 32; refine (C2.out _).mono ?_; rintro e y1 ⟨rfl, rfl⟩)
          | (refine step_append_lies _ rfl _ _ 22 rfl w.heap.size 41 i0 (.agg #[.int .i64 0, .string ⟨#[]⟩]) 2 24 Try.underlying22 hi hz0 hz1 hz2 rfl (by decide) (.slice LA k lc) k xs rfl (by exact HO.out) ⟨wr.heap.size, 0, none⟩ 1 1 [.int .i64 z, .string (X.extract st en)] rfl rfl (by exact HCN.out) (fun x hx => by simp at hx; rcases hx with rfl | rfl <;> rfl) (by omega) HNN.out.1 HNN.out.2.1 (by show w.heap.size ≤ (wr.alloc _).heap.size; rw [World.size_alloc]; exact HNN.out.2.2) (wr.heap.size + 1) (by simp [World.drew]) ?_; intro g3 k3 w3 hown3 hgrow3 _ _; have HX := HL.out w3 g3 k3 hown3 hgrow3; clear hown3 hgrow3))
      all_goals
        clear e1 e2 e3 e4 e5 e6
        have hkb : (k : Int) ≤ 1000 := by have := HKN.out; omega
        go_wp2_with fail
        refine ⟨?_, ?_⟩
        · refine ⟨_, _, _, _, _, _, _, _, _, _, _, _, _, _, _, _, _, _, _, _, _, _, _, _, _, _, _, ?_, rfl⟩
          exact ⟨k + 1, HKN.out.1, by go_num, HX⟩
        · have := HKN.out
          simp [intOf]
          omega
    · have e : k = n := by omega
      subst e
      clear hlt hk
      obtain ⟨hLA1, hLc1, hLc2⟩ := hLA
      obtain ⟨g, rfl⟩ := hLA1 (by omega)
      have HSF0 : Hid (SecF wr (some ⟨g, 0, none⟩) k (M.gA s) (M.gT s)) := SecF.owned HW.out.1 (fun i hi => (HA.out i hi).2)
      have HB := Lib.hid HW.out.2
      have HC : Hid (k ≤ lc ∧ lc ≤ maxLen) := ⟨hLc1, hLc2⟩
      have C5 := Lib.hid (CP.out wr g lc HSF0.out)
      clear hLA1 hLc1 hLc2 HW CP CN HTk
      go_wp2_with fail
      refine (CQ.out _).mono ?_
      rintro e w3 ⟨rfl, rfl⟩
      go_wp2_with fail
      refine C5.out.mono ?_
      rintro e y3 ⟨rfl, hb3⟩
      have HB3 : Hid (Below w.heap.size w y3) := HB.out.trans (hb3.mono HB.out.size)
      have HSF : Hid (SecF y3 (some ⟨g, 0, none⟩) k (M.gA s) (M.gT s)) := HSF0.out.below (Nat.le_refl _) hb3
      clear hb3
      by_cases hE0 : E = 0
      · have hE0' : (E == 0) = true := by simp [hE0]
        by_cases hRs : R = s
        · have hRs' : (R.toList == s.toList) = true := by simp [hRs]
          have HE0 : Hid (M.getE s = 0) := by show _ = _; rw [HXT.out, if_neg (by simp [hE0, hRs])]
          go_wp2_with fail
          go_returns
          have e1 : M.getQ s = Q := by rw [M.getQ, if_pos HE0.out, HQ.out]
          have e2 : M.getN s = k := by rw [M.getN, if_pos HE0.out, HN.out]
          refine ⟨.slice (some ⟨g, 0, none⟩) k lc, ?_, ⟨some ⟨g, 0, none⟩, lc, by rw [e2], by rw [e2]; exact HC.out.1, HC.out.2, by rw [e2]; exact HSF.out⟩, HB3.out⟩
          rw [HE0.out, e1]
          rfl
        · have hRs' := ne_of_toList hRs
          have HE4 : Hid (M.getE s = 4) := by show _ = _; rw [HXT.out, if_pos (Or.inr hRs)]
          go_wp2_with fail
          all_goals go_returns
          all_goals exact Got11.no HE4.out (by decide) rfl HB3.out
      · have hE0' : (E == 0) = false := by simp [hE0]
        have HE4 : Hid (M.getE s = 4) := by show _ = _; rw [HXT.out, if_pos (Or.inl hE0)]
        go_wp2_with fail
        all_goals go_returns
        all_goals exact Got11.no HE4.out (by decide) rfl HB3.out
end Go.Proofs.Ytnjlkjphkimapaa
