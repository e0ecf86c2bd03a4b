/-
  Walks over solderref13.with.
-/
import Derived.Test.YtfklbinccpdnmaaZRFind
import Derived.Maps.AppendAt
import Derived.Laws.AppendOwnNone
import Derived.Deep.AppendLies
import Derived.OwnWalk
namespace Go.Proofs.Ytfklbinccpdnmaa
open Go.RowKit Go.Maps

theorem infoT13 : (Try.prog.info? 35).map (fun i => (i.zero, i.size, i.bytes)) = some (some (.agg #[.int .i64 0, .int .i64 0]), 2, 16) := by kernel_rfl
theorem cell2_new13 (w : World) (x y : Value) (t : TypeId) : ∀ j u, [x, y][j]? = some u → (w.alloc (.cells #[x, y] t)).cell? ((⟨w.heap.size, 0, none⟩ : Addr).add j) = some u := by
  intro j u hj
  rw [blk_add, (Box.new w t #[x, y]).cell]
  simpa using hj
theorem owns_empty13 (u : World) (t : TypeId) (z : Nat) : (u.alloc (.cells #[] t)).ownsRow u.heap.size t z (.slice (some ⟨u.heap.size, 0, none⟩) 0 0) 0 [] :=
  ⟨by simp, Or.inr ⟨_, 0, #[], rfl, Nat.le_refl _, heap_alloc_new u _, Nat.le_refl _, Nat.zero_le _, by simp, by simp⟩⟩
theorem owns_mono13 {w : World} {B B' : Nat} {t : TypeId} {z n : Nat} {v : Value} {xs : List Value} (h : w.ownsRow B t z v n xs) (hB : B' ≤ B) : w.ownsRow B' t z v n xs :=
  ⟨h.1, h.2.imp id (fun ⟨g, cap, cur, e, h1, h2⟩ => ⟨g, cap, cur, e, Nat.le_trans hB h1, h2⟩)⟩

/-- append([]T{}, v...): a row is copied into a new one; v an owned row, nil or empty too. -/
theorem append_copy13 {P : Program} {w : World} {ops : Array Oper} {rest : List Oper} {o : Oper} {a : Act} {Q : Exit → Act → World → Prop} (hgd : o.guard = none) (s x : Operand) (t : TypeId)
    (ho : o.op = .call { callee := .builtin .append, args := #[s, x], argTypes := #[t, t] })
    (e : TypeId) (i : TypeInfo) (z : Value) (size bytes : Nat) (ht : P.underlying t = some (.slice e)) (hi : P.info? e = some i) (hz : i.zero = some z)
    (hsize : i.size = size) (hby : i.bytes = bytes) (hzs : z.cells.size = size) (hsz : 0 < size)
    (H : Nat) (hH : w.heap.size = H) (hs : a.eval s = .slice (some ⟨H, 0, none⟩) 0 0) (v : Value) (n : Nat) (xs : List Value) (hx : a.eval x = v) (hown : w.ownsRow 0 e size v n xs) (h1 : ∀ u ∈ xs, u.oneCell' = true)
    (h63 : n ≤ maxLen) (hbytes : n * bytes ≤ 140737488355328)
    (h : ∀ g cap w', w'.ownsRow 0 e size (.slice (some ⟨g, 0, none⟩) n cap) n xs → Kept (fun _ => False) w w' → w.heap.size ≤ g → wpList P ops Q rest (a.put o.dst (.slice (some ⟨g, 0, none⟩) n cap)) w') :
    wpList P ops Q (o :: rest) a (w.alloc (.cells #[] e)) := by
  subst hH
  have he := owns_empty13 w e size
  have hk0 : Kept (fun _ => False) w (w.alloc (.cells #[] e)) := (Kept.refl _ w).alloc _
  rcases hown.2 with ⟨rfl, rfl⟩ | ⟨g0, c0, cur, rfl, hb0, hg0, hc0, _⟩
  · have hxs : xs = [] := List.eq_nil_of_length_eq_zero (by simpa using hown.1)
    subst hxs
    refine wpList_append_own_none hgd s x t ho w.heap.size e i size ht hi _ 0 [] hs he hx ?_
    exact h _ 0 _ (owns_mono13 he (Nat.zero_le _)) hk0 (Nat.le_refl _)
  · refine wpList_append_own_at _ hgd s x t ho w.heap.size e i z size bytes ht hi hz hsize hby hzs hsz _ 0 [] hs he ⟨g0, 0, none⟩ n c0 xs hx hown.1 (fun j u hj => ?_) h1 (by omega) (by rw [Nat.zero_add]; exact hbytes) (by rw [World.size_alloc]; omega) ?_
    · have hc := hown.cells (g := g0) rfl j u hj
      rw [blk_add] at hc ⊢
      exact (World.cell?_of_block (Below.heap_alloc w _ _ (lt_of_block hg0))).trans hc
    · intro v' w' ho' hgr hnil hat
      rw [Nat.zero_add, List.nil_append] at ho'
      have hk : Kept (fun _ => False) w w' := hk0.grown hgr (fun k e hk => by
        have : w.heap.size = k := by simpa [Value.ownBlock] using e
        omega)
      rcases ho'.2 with ⟨e1, _⟩ | ⟨g, cap, cur', rfl, hg, _⟩
      · exact absurd (hnil.1 e1).1 (by simp)
      · exact h g cap w' (owns_mono13 ho' (Nat.zero_le _)) hk hg

theorem rwith_low {w0 w1 : World} {q : Nat} (h : Kept (fun _ => False) (w0.drewN q) w1) : Below w0.heap.size w0 w1 :=
  (below_drewN (Below.refl _ w0) q).trans (h.below (Nat.le_refl _) (fun _ _ => id))
theorem blk_add13 (g k i : Nat) : (⟨g, k, none⟩ : Addr).add i = ⟨g, k + i, none⟩ := by
  unfold Addr.add
  split
  · simp_all
  · simp
theorem grown13_drewN {w w' : World} {q : Nat} {r : Option Nat} (h : (w.drewN q).grownBy w' r) : w.grownBy w' r := ⟨h.os, h.tape, h.output, h.size, h.block⟩
theorem rwith_g3 {B g1 g3 J c1 H : Nat} (h : (Value.slice (some ⟨g1, 0, none⟩) J c1).ownBlock = some g3 ∨ g3 = H) (h1 : B ≤ g1) (h2 : B ≤ H) : B ≤ g3 := by
  rcases h with e | e
  · have : g1 = g3 := by simpa [Value.ownBlock] using e
    omega
  · omega
theorem rwith_end {w w0 w3 w4 : World} {g3 N : Nat} {v : Value} {R : List (Int × Int)} {ys : List Value} (hb0 : Below w.heap.size w w0) (hb3 : Below w0.heap.size w0 w3) (hg3 : w0.heap.size ≤ g3)
    (ho : w4.ownsRow 0 35 2 v N ys) (hy : ys = M.tcells R) (hN : N = R.length) (hg4 : w3.grownBy w4 (some g3)) (hat : v.ownBlock = some g3 ∨ v.ownBlock = some w3.heap.size) :
    Things w4 v R ∧ Below w.heap.size w w4 ∧ ∀ k, v.ownBlock = some k → w.heap.size ≤ k := by
  subst hy hN
  have h0 := hb0.size
  have h3 := hb3.size
  refine ⟨ho, hb0.trans ((below_by hb3 hg4 hg3 h3).mono h0), fun k e => ?_⟩
  rcases hat with h | h <;> rw [h] at e <;> injection e with e <;> omega

set_option maxRecDepth 100000 in
set_option maxHeartbeats 4000000 in
theorem rwith_any (w : World) {v : Value} {T : List (Int × Int)} (h : Things w v T) (a n : Int) (hl : T.length ≤ 100000) :
    Calls Try.prog 27 #[v, .agg #[.int .i64 a, .int .i64 n]] w fun e w' => ∃ v', e = .returned v' ∧ Things w' v' (M.ins a n T) ∧ Below w.heap.size w w' ∧ ∀ k, v'.ownBlock = some k → w.heap.size ≤ k := by
  obtain ⟨i1, hj, hy0, hy1, hy2⟩ := info_parts infoT13
  obtain ⟨A, c, rfl, hc⟩ := owns_shape13 h
  have HT := Lib.hid h
  obtain ⟨len, hlen⟩ : ∃ x, x = T.length := ⟨_, rfl⟩
  obtain ⟨w0, hw0⟩ : ∃ x, x = w.alloc (.cells #[.int .i64 a, .int .i64 n] 35) := ⟨_, rfl⟩
  have hX0 : Box w0 w.heap.size 35 #[.int .i64 a, .int .i64 n] := by rw [hw0]; exact Box.new _ _ _
  have hb0 : Below w.heap.size w w0 := by rw [hw0]; exact (Below.refl _ w).alloc (Nat.le_refl _) _
  have hz0 : w0.heap.size = w.heap.size + 1 := by rw [hw0]; simp
  have hT0 : Things w0 (.slice A T.length c) T := (Kept.of_below hb0 (fun _ => False)).owns13 h (fun _ _ => id)
  have HC : Hid (∀ j (hj : j < T.length), ∃ g, A = some ⟨g, 0, none⟩ ∧ w0.cell? ⟨g, j * 2, none⟩ = some (.int .i64 (T[j]'hj).1)) := by
    intro j hj
    obtain ⟨g, cap, e, _, h1, h2⟩ := hT0.at_ hj
    injection e with e _ _
    exact ⟨g, e, h1⟩
  have x0 : w0.cell? ⟨w.heap.size, 0, none⟩ = some (.int .i64 a) := (hX0.cell 0).trans rfl
  have x1 : w0.cell? ⟨w.heap.size, 1, none⟩ = some (.int .i64 n) := (hX0.cell 1).trans rfl
  have HOne := Lib.hid (M.tcells_one T)
  have HLn := Lib.hid (M.tcells_len T)
  rw [← hlen] at hl hc
  rw [← hlen]
  have HN := Lib.hid hlen
  have HT0 : Hid (w0.ownsRow 0 35 2 (.slice A len c) len (M.tcells T)) := by rw [hlen]; exact hT0
  have HB0 := Lib.hid hb0
  have HZ0 := Lib.hid hz0
  have HMx : Hid (∀ q : Nat, q ≤ 100002 → q ≤ maxLen ∧ q * 16 ≤ 140737488355328) := fun q hq => ⟨by unfold maxLen; omega, by omega⟩
  clear hlen h HT hT0 hX0 hb0 hz0
  go_enter Try.func27, Try.ntmps27
  go_wp2_with fail
  rw [← hw0]
  clear hw0
  go_loopw [5] (fun i wr => ∃ j : Nat, j ≤ len ∧ i = .int .i64 j ∧ (∃ m, wr = w0.drewN m) ∧ ∀ i (hi : i < T.length), i < j → (T[i]'hi).1 < a) (fun i _ => len - (intOf i).toNat)
  case atStart => exact ⟨0, Nat.zero_le _, rfl, ⟨0, rfl⟩, fun i hi h => absurd h (by omega)⟩
  case round =>
    obtain ⟨j, hj', rfl, ⟨m, rfl⟩, hF⟩ := hrel
    have HF := Lib.hid hF
    have HG : Hid (∀ q, ∃ m', (w0.drewN m).drewN q = w0.drewN m') := fun q => ⟨m + q, by simp [World.drewN, Nat.add_assoc]⟩
    clear hF
    by_cases hlt : j < len
    · have hjT : j < T.length := by rw [← HN.out]; exact hlt
      obtain ⟨g, rfl, c0⟩ := HC.out j hjT
      have hj0 : (0 : Int) ≤ (j : Int) := by omega
      have hj1 : (j : Int) < (len : Int) := by omega
      have hE : (T[j]'hjT).1 < a ∨ (T[j]'hjT).1 = a ∨ a < (T[j]'hjT).1 := by omega
      obtain ⟨x, hx⟩ : ∃ x, x = (T[j]'hjT).1 := ⟨_, rfl⟩
      rw [← hx] at c0 hE
      have HXX := Lib.hid hx
      clear hx
      rcases hE with hE | hE | hE
      · have hd : decide (x < a) = true := by simpa using hE
        have HE := Lib.hid hE
        clear hE
        go_wp2_with fail
        go_quiet (fail)
        go_wp2_with fail
        go_roundw
        case rel => exact ⟨j + 1, by omega, by go_num, by first | exact HG.out _ | exact ⟨_, rfl⟩, fun i hi hij => by
          by_cases e : i = j
          · subst e; rw [← HXX.out]; exact HE.out
          · exact HF.out i hi (by omega)⟩
        case measure => simp [intOf]; omega
      · subst hE
        have hd : decide (x < x) = false := by simp
        have hxx : (x == x) = true := by simp
        have HR : Hid (M.ins x n T = T.take j ++ (x, n) :: T.drop (j + 1)) := M.ins_same HF.out hjT HXX.out.symm
        have HV : Hid (w0.ownsRow 0 35 2 (.slice (some ⟨g, 0, none⟩) j c) j ((M.tcells T).take (j * 2))) := owns_cut HT0.out (by omega)
        have hgw : g < w0.heap.size := (HT0.out.lt g rfl).2
        have hgl : w.heap.size < w0.heap.size := by have := HZ0.out; omega
        have HC0 : Hid (∀ y, Below w0.heap.size w0 y → y.cell? ⟨g, j * 2, none⟩ = some (.int .i64 x) ∧ y.cell? ⟨w.heap.size, 0, none⟩ = some (.int .i64 x) ∧ y.cell? ⟨w.heap.size, 1, none⟩ = some (.int .i64 n)) := fun y h => ⟨(h.cell (p := ⟨g, j * 2, none⟩) hgw).trans c0, (h.cell (p := ⟨w.heap.size, 0, none⟩) hgl).trans x0, (h.cell (p := ⟨w.heap.size, 1, none⟩) hgl).trans x1⟩
        have HS : Hid (∀ y, Below w0.heap.size w0 y → ∀ i u, ((M.tcells T).drop ((j + 1) * 2))[i]? = some u → y.cell? ⟨g, (j + 1) * 2 + i, none⟩ = some u) := by
          intro y hy i u hu
          rw [List.getElem?_drop] at hu
          have := HT0.out.cells (g := g) rfl _ u hu
          rw [blk_add] at this
          exact (hy.cell (p := ⟨g, _, none⟩) hgw).trans this
        have tok1 : True := trivial
        have tok2 : True := trivial
        clear HC HF HXX HG
        go_wp2_with fail
        go_quiet (fail)
        go_wp2_with (first
            | (at_builtin
               have _t := tok1
               refine append_copy13 rfl _ _ 27 rfl 35 i1 (.agg #[.int .i64 0, .int .i64 0]) 2 16 Try.underlying27 hj hy0 hy1 hy2 rfl (by decide) _ rfl rfl _ j ((M.tcells T).take (j * 2)) rfl HV.out (fun u hu => HOne.out u (List.mem_of_mem_take hu)) (HMx.out _ (by omega)).1 (HMx.out _ (by omega)).2 ?_
               intro g1 c1 w1 ho1 hk1 hg1
               have hb1 := rwith_low hk1
               have HG1 : Hid (w0.heap.size ≤ g1) := hg1
               obtain ⟨d0, d1, d2⟩ := HC0.out w1 hb1
               have HO1 := Lib.hid ho1
               have HB1 := Lib.hid hb1
               clear tok1 ho1 hk1 hg1 hb1)
            | (at_builtin
               have _t := tok2
               refine wpList_append_lies _ rfl _ _ 27 rfl 0 35 i1 (.agg #[.int .i64 0, .int .i64 0]) 2 16 Try.underlying27 hj hy0 hy1 hy2 rfl (by decide) _ _ _ rfl (HO1.out.alloc _) ⟨w1.heap.size, 0, none⟩ 1 1 [.int .i64 x, .int .i64 n] rfl rfl (cell2_new13 _ _ _ _) (fun u hu => by simp at hu; rcases hu with rfl | rfl <;> rfl) (by omega) (HMx.out _ (by omega)).1 (HMx.out _ (by omega)).2 (Nat.zero_le _) _ rfl ?_
               intro g3 c3 w3 ho3 hg3 hat3 _
               have hb3 : Below w0.heap.size w0 w3 := below_by (HB1.out.alloc HB1.out.size _) hg3 HG1.out (by have := HB1.out.size; simp; omega)
               have HG3 : Hid (w0.heap.size ≤ g3) := rwith_g3 hat3 HG1.out (by have := HB1.out.size; simp; omega)
               obtain ⟨e0, e1, e2⟩ := HC0.out w3 hb3
               have HO3 := Lib.hid ho3
               have HB3 := Lib.hid hb3
               clear tok2 ho3 hg3 hat3 hb3 d0 d1 d2 HC0 HO1 HB1 HG1)
            | fail)
        go_quiet (fail)
        have HY : Hid ((((M.tcells T).take (j * 2)) ++ [.int .i64 x, .int .i64 n]) ++ (M.tcells T).drop ((j + 1) * 2) = M.tcells (T.take j ++ (x, n) :: T.drop (j + 1))) := by
          simp only [Hid, M.tcells_app, M.tcells_take, M.tcells, M.tcells_drop, List.append_assoc, List.cons_append, List.nil_append]
        have HNN : Hid (j + 1 + (len - (j + 1)) = (T.take j ++ (x, n) :: T.drop (j + 1)).length) := by
          have := HN.out
          simp only [Hid, List.length_append, List.length_take, List.length_cons, List.length_drop]
          omega
        by_cases hck : c = j + 1
        · go_wp2_with (first
              | (at_builtin
                 refine wpList_append_own_at _ rfl _ _ 27 rfl 0 35 i1 (.agg #[.int .i64 0, .int .i64 0]) 2 16 Try.underlying27 hj hy0 hy1 hy2 rfl (by decide) _ _ _ rfl HO3.out ⟨g, 0, none⟩ (len - (j + 1)) 0 ((M.tcells T).drop ((j + 1) * 2)) rfl (by rw [List.length_drop, HLn.out, ← HN.out]; omega) (fun i u hu => absurd (List.getElem?_eq_some_iff.1 hu).1 (by rw [List.length_drop, HLn.out, ← HN.out]; omega)) (fun u hu => HOne.out u (List.mem_of_mem_drop hu)) (HMx.out _ (by omega)).1 (HMx.out _ (by omega)).2 (Nat.zero_le _) ?_
                 intro v4 w4 ho4 hg4 _ hat4
                 have HF4 := Lib.hid (rwith_end HB0.out HB3.out HG3.out ho4 HY.out HNN.out (grown13_drewN hg4) hat4)
                 clear ho4 hg4 hat4)
              | fail)
          go_ret
          exact ⟨_, rfl, by rw [HR.out]; exact HF4.out.1, HF4.out.2⟩
        · go_wp2_with (first
              | (at_builtin
                 refine wpList_append_own_at _ rfl _ _ 27 rfl 0 35 i1 (.agg #[.int .i64 0, .int .i64 0]) 2 16 Try.underlying27 hj hy0 hy1 hy2 rfl (by decide) _ _ _ rfl HO3.out ⟨g, (j + 1) * 2, none⟩ (len - (j + 1)) (c - (j + 1)) ((M.tcells T).drop ((j + 1) * 2)) rfl (by rw [List.length_drop, HLn.out, ← HN.out]; omega) (fun i u hu => by rw [blk_add13]; exact HS.out w3 HB3.out i u hu) (fun u hu => HOne.out u (List.mem_of_mem_drop hu)) (HMx.out _ (by omega)).1 (HMx.out _ (by omega)).2 (Nat.zero_le _) ?_
                 intro v4 w4 ho4 hg4 _ hat4
                 have HF4 := Lib.hid (rwith_end HB0.out HB3.out HG3.out ho4 HY.out HNN.out (grown13_drewN hg4) hat4)
                 clear ho4 hg4 hat4)
              | fail)
          go_ret
          exact ⟨_, rfl, by rw [HR.out]; exact HF4.out.1, HF4.out.2⟩
      · have hd : decide (x < a) = false := by simp; omega
        have hxa : (x == a) = false := by rw [beq_eq_false_iff_ne]; omega
        have HR : Hid (M.ins a n T = T.take j ++ (a, n) :: T.drop j) := M.ins_other HF.out (by omega) (fun _ => by rw [← HXX.out]; exact hE)
        have HV : Hid (w0.ownsRow 0 35 2 (.slice (some ⟨g, 0, none⟩) j c) j ((M.tcells T).take (j * 2))) := owns_cut HT0.out (by omega)
        have hgw : g < w0.heap.size := (HT0.out.lt g rfl).2
        have hgl : w.heap.size < w0.heap.size := by have := HZ0.out; omega
        have HC0 : Hid (∀ y, Below w0.heap.size w0 y → y.cell? ⟨g, j * 2, none⟩ = some (.int .i64 x) ∧ y.cell? ⟨w.heap.size, 0, none⟩ = some (.int .i64 a) ∧ y.cell? ⟨w.heap.size, 1, none⟩ = some (.int .i64 n)) := fun y h => ⟨(h.cell (p := ⟨g, j * 2, none⟩) hgw).trans c0, (h.cell (p := ⟨w.heap.size, 0, none⟩) hgl).trans x0, (h.cell (p := ⟨w.heap.size, 1, none⟩) hgl).trans x1⟩
        have HS : Hid (∀ y, Below w0.heap.size w0 y → ∀ i u, ((M.tcells T).drop (j * 2))[i]? = some u → y.cell? ⟨g, j * 2 + i, none⟩ = some u) := by
          intro y hy i u hu
          rw [List.getElem?_drop] at hu
          have := HT0.out.cells (g := g) rfl _ u hu
          rw [blk_add] at this
          exact (hy.cell (p := ⟨g, _, none⟩) hgw).trans this
        have tok1 : True := trivial
        have tok2 : True := trivial
        clear HC HF HXX HG
        go_wp2_with fail
        go_quiet (fail)
        go_wp2_with (first
            | (at_builtin
               have _t := tok1
               refine append_copy13 rfl _ _ 27 rfl 35 i1 (.agg #[.int .i64 0, .int .i64 0]) 2 16 Try.underlying27 hj hy0 hy1 hy2 rfl (by decide) _ rfl rfl _ j ((M.tcells T).take (j * 2)) rfl HV.out (fun u hu => HOne.out u (List.mem_of_mem_take hu)) (HMx.out _ (by omega)).1 (HMx.out _ (by omega)).2 ?_
               intro g1 c1 w1 ho1 hk1 hg1
               have hb1 := rwith_low hk1
               have HG1 : Hid (w0.heap.size ≤ g1) := hg1
               obtain ⟨d0, d1, d2⟩ := HC0.out w1 hb1
               have HO1 := Lib.hid ho1
               have HB1 := Lib.hid hb1
               clear tok1 ho1 hk1 hg1 hb1)
            | (at_builtin
               have _t := tok2
               refine wpList_append_lies _ rfl _ _ 27 rfl 0 35 i1 (.agg #[.int .i64 0, .int .i64 0]) 2 16 Try.underlying27 hj hy0 hy1 hy2 rfl (by decide) _ _ _ rfl (HO1.out.alloc _) ⟨w1.heap.size, 0, none⟩ 1 1 [.int .i64 a, .int .i64 n] rfl rfl (cell2_new13 _ _ _ _) (fun u hu => by simp at hu; rcases hu with rfl | rfl <;> rfl) (by omega) (HMx.out _ (by omega)).1 (HMx.out _ (by omega)).2 (Nat.zero_le _) _ rfl ?_
               intro g3 c3 w3 ho3 hg3 hat3 _
               have hb3 : Below w0.heap.size w0 w3 := below_by (HB1.out.alloc HB1.out.size _) hg3 HG1.out (by have := HB1.out.size; simp; omega)
               have HG3 : Hid (w0.heap.size ≤ g3) := rwith_g3 hat3 HG1.out (by have := HB1.out.size; simp; omega)
               obtain ⟨e0, e1, e2⟩ := HC0.out w3 hb3
               have HO3 := Lib.hid ho3
               have HB3 := Lib.hid hb3
               clear tok2 ho3 hg3 hat3 hb3 d0 d1 d2 HC0 HO1 HB1 HG1)
            | fail)
        go_quiet (fail)
        have HY : Hid ((((M.tcells T).take (j * 2)) ++ [.int .i64 a, .int .i64 n]) ++ (M.tcells T).drop (j * 2) = M.tcells (T.take j ++ (a, n) :: T.drop j)) := by
          simp only [Hid, M.tcells_app, M.tcells_take, M.tcells, M.tcells_drop, List.append_assoc, List.cons_append, List.nil_append]
        have HNN : Hid (j + 1 + (len - j) = (T.take j ++ (a, n) :: T.drop j).length) := by
          have := HN.out
          simp only [Hid, List.length_append, List.length_take, List.length_cons, List.length_drop]
          omega
        have hck : ¬ c = j := by omega
        go_wp2_with (first
            | (at_builtin
               refine wpList_append_own_at _ rfl _ _ 27 rfl 0 35 i1 (.agg #[.int .i64 0, .int .i64 0]) 2 16 Try.underlying27 hj hy0 hy1 hy2 rfl (by decide) _ _ _ rfl HO3.out ⟨g, j * 2, none⟩ (len - j) (c - j) ((M.tcells T).drop (j * 2)) rfl (by rw [List.length_drop, HLn.out, ← HN.out]; omega) (fun i u hu => by rw [blk_add13]; exact HS.out w3 HB3.out i u hu) (fun u hu => HOne.out u (List.mem_of_mem_drop hu)) (HMx.out _ (by omega)).1 (HMx.out _ (by omega)).2 (Nat.zero_le _) ?_
               intro v4 w4 ho4 hg4 _ hat4
               have HF4 := Lib.hid (rwith_end HB0.out HB3.out HG3.out ho4 HY.out HNN.out (grown13_drewN hg4) hat4)
               clear ho4 hg4 hat4)
            | fail)
        go_ret
        exact ⟨_, rfl, by rw [HR.out]; exact HF4.out.1, HF4.out.2⟩
    · have ej : j = len := by omega
      subst ej
      rcases A with _ | A
      · have e0 : j = 0 := by
          rcases HT0.out.2 with ⟨_, h⟩ | ⟨g, _, _, e, _⟩
          · exact h
          · cases e
        have ec : c = 0 := by
          rcases HT0.out.2 with ⟨h, _⟩ | ⟨g, _, _, e, _⟩
          · injection h
          · cases e
        subst e0 ec
        have HR : Hid (M.ins a n T = T.take 0 ++ (a, n) :: T.drop 0) := M.ins_other HF.out (Nat.zero_le _) (fun h => absurd h (by have := HN.out; omega))
        have HV : Hid (w0.ownsRow 0 35 2 (.slice none 0 0) 0 ((M.tcells T).take (0 * 2))) := ⟨by simp, Or.inl ⟨rfl, rfl⟩⟩
        have hgl : w.heap.size < w0.heap.size := by have := HZ0.out; omega
        have HC0 : Hid (∀ y, Below w0.heap.size w0 y → y.cell? ⟨w.heap.size, 0, none⟩ = some (.int .i64 a) ∧ y.cell? ⟨w.heap.size, 1, none⟩ = some (.int .i64 n)) := fun y h => ⟨(h.cell (p := ⟨w.heap.size, 0, none⟩) hgl).trans x0, (h.cell (p := ⟨w.heap.size, 1, none⟩) hgl).trans x1⟩
        have tok1 : True := trivial
        have tok2 : True := trivial
        clear HC HF HG
        go_wp2_with fail
        go_quiet (fail)
        go_wp2_with (first
            | (at_builtin
               have _t := tok1
               refine append_copy13 rfl _ _ 27 rfl 35 i1 (.agg #[.int .i64 0, .int .i64 0]) 2 16 Try.underlying27 hj hy0 hy1 hy2 rfl (by decide) _ rfl rfl _ 0 ((M.tcells T).take (0 * 2)) rfl HV.out (fun u hu => HOne.out u (List.mem_of_mem_take hu)) (HMx.out _ (by omega)).1 (HMx.out _ (by omega)).2 ?_
               intro g1 c1 w1 ho1 hk1 hg1
               have hb1 := rwith_low hk1
               have HG1 : Hid (w0.heap.size ≤ g1) := hg1
               obtain ⟨d1, d2⟩ := HC0.out w1 hb1
               have HO1 := Lib.hid ho1
               have HB1 := Lib.hid hb1
               clear tok1 ho1 hk1 hg1 hb1)
            | (at_builtin
               have _t := tok2
               refine wpList_append_lies _ rfl _ _ 27 rfl 0 35 i1 (.agg #[.int .i64 0, .int .i64 0]) 2 16 Try.underlying27 hj hy0 hy1 hy2 rfl (by decide) _ _ _ rfl (HO1.out.alloc _) ⟨w1.heap.size, 0, none⟩ 1 1 [.int .i64 a, .int .i64 n] rfl rfl (cell2_new13 _ _ _ _) (fun u hu => by simp at hu; rcases hu with rfl | rfl <;> rfl) (by omega) (HMx.out _ (by omega)).1 (HMx.out _ (by omega)).2 (Nat.zero_le _) _ rfl ?_
               intro g3 c3 w3 ho3 hg3 hat3 _
               have hb3 : Below w0.heap.size w0 w3 := below_by (HB1.out.alloc HB1.out.size _) hg3 HG1.out (by have := HB1.out.size; simp; omega)
               have HG3 : Hid (w0.heap.size ≤ g3) := rwith_g3 hat3 HG1.out (by have := HB1.out.size; simp; omega)
               obtain ⟨e1, e2⟩ := HC0.out w3 hb3
               have HO3 := Lib.hid ho3
               have HB3 := Lib.hid hb3
               clear tok2 ho3 hg3 hat3 hb3 d1 d2 HC0 HO1 HB1 HG1)
            | fail)
        go_quiet (fail)
        have hTn : T = [] := List.eq_nil_of_length_eq_zero HN.out.symm
        have HY : Hid ((M.tcells T).take (0 * 2) ++ [.int .i64 a, .int .i64 n] = M.tcells (T.take 0 ++ (a, n) :: T.drop 0)) := by rw [hTn]; rfl
        have HNN : Hid (0 + 1 = (T.take 0 ++ (a, n) :: T.drop 0).length) := by rw [hTn]; rfl
        clear hTn
        have HF4 := Lib.hid (rwith_end HB0.out HB3.out HG3.out HO3.out HY.out HNN.out (World.grownBy.refl w3 _) (Or.inl rfl))
        go_wp2_with (first
            | (at_builtin
               refine wpList_append_own_none rfl _ _ 27 rfl 0 35 i1 2 Try.underlying27 hj _ _ _ rfl HO3.out rfl ?_)
            | fail)
        go_ret
        exact ⟨_, rfl, by rw [HR.out]; exact HF4.out.1, below_drewN HF4.out.2.1 _, HF4.out.2.2⟩
      · obtain ⟨g, rfl⟩ : ∃ g, A = ⟨g, 0, none⟩ := by
          rcases HT0.out.2 with ⟨h, _⟩ | ⟨g, _, _, e, _⟩
          · cases h
          · injection e with e
            injection e with e
            exact ⟨g, e⟩
        have HR : Hid (M.ins a n T = T.take j ++ (a, n) :: T.drop j) := M.ins_other HF.out (by rw [HN.out]; exact Nat.le_refl _) (fun h => absurd h (by have := HN.out; omega))
        have HV : Hid (w0.ownsRow 0 35 2 (.slice (some ⟨g, 0, none⟩) j c) j ((M.tcells T).take (j * 2))) := owns_cut HT0.out (by omega)
        have hgw : g < w0.heap.size := (HT0.out.lt g rfl).2
        have hgl : w.heap.size < w0.heap.size := by have := HZ0.out; omega
        have HC0 : Hid (∀ y, Below w0.heap.size w0 y → y.cell? ⟨w.heap.size, 0, none⟩ = some (.int .i64 a) ∧ y.cell? ⟨w.heap.size, 1, none⟩ = some (.int .i64 n)) := fun y h => ⟨(h.cell (p := ⟨w.heap.size, 0, none⟩) hgl).trans x0, (h.cell (p := ⟨w.heap.size, 1, none⟩) hgl).trans x1⟩
        have HS : Hid (∀ y, Below w0.heap.size w0 y → ∀ i u, ((M.tcells T).drop (j * 2))[i]? = some u → y.cell? ⟨g, j * 2 + i, none⟩ = some u) := by
          intro y hy i u hu
          rw [List.getElem?_drop] at hu
          have := HT0.out.cells (g := g) rfl _ u hu
          rw [blk_add] at this
          exact (hy.cell (p := ⟨g, _, none⟩) hgw).trans this
        have tok1 : True := trivial
        have tok2 : True := trivial
        clear HC HF HG
        go_wp2_with fail
        go_quiet (fail)
        go_wp2_with (first
            | (at_builtin
               have _t := tok1
               refine append_copy13 rfl _ _ 27 rfl 35 i1 (.agg #[.int .i64 0, .int .i64 0]) 2 16 Try.underlying27 hj hy0 hy1 hy2 rfl (by decide) _ rfl rfl _ j ((M.tcells T).take (j * 2)) rfl HV.out (fun u hu => HOne.out u (List.mem_of_mem_take hu)) (HMx.out _ (by omega)).1 (HMx.out _ (by omega)).2 ?_
               intro g1 c1 w1 ho1 hk1 hg1
               have hb1 := rwith_low hk1
               have HG1 : Hid (w0.heap.size ≤ g1) := hg1
               obtain ⟨d1, d2⟩ := HC0.out w1 hb1
               have HO1 := Lib.hid ho1
               have HB1 := Lib.hid hb1
               clear tok1 ho1 hk1 hg1 hb1)
            | (at_builtin
               have _t := tok2
               refine wpList_append_lies _ rfl _ _ 27 rfl 0 35 i1 (.agg #[.int .i64 0, .int .i64 0]) 2 16 Try.underlying27 hj hy0 hy1 hy2 rfl (by decide) _ _ _ rfl (HO1.out.alloc _) ⟨w1.heap.size, 0, none⟩ 1 1 [.int .i64 a, .int .i64 n] rfl rfl (cell2_new13 _ _ _ _) (fun u hu => by simp at hu; rcases hu with rfl | rfl <;> rfl) (by omega) (HMx.out _ (by omega)).1 (HMx.out _ (by omega)).2 (Nat.zero_le _) _ rfl ?_
               intro g3 c3 w3 ho3 hg3 hat3 _
               have hb3 : Below w0.heap.size w0 w3 := below_by (HB1.out.alloc HB1.out.size _) hg3 HG1.out (by have := HB1.out.size; simp; omega)
               have HG3 : Hid (w0.heap.size ≤ g3) := rwith_g3 hat3 HG1.out (by have := HB1.out.size; simp; omega)
               obtain ⟨e1, e2⟩ := HC0.out w3 hb3
               have HO3 := Lib.hid ho3
               have HB3 := Lib.hid hb3
               clear tok2 ho3 hg3 hat3 hb3 d1 d2 HC0 HO1 HB1 HG1)
            | fail)
        go_quiet (fail)
        have HY : Hid ((((M.tcells T).take (j * 2)) ++ [.int .i64 a, .int .i64 n]) ++ (M.tcells T).drop (j * 2) = M.tcells (T.take j ++ (a, n) :: T.drop j)) := by
          simp only [Hid, M.tcells_app, M.tcells_take, M.tcells, M.tcells_drop, List.append_assoc, List.cons_append, List.nil_append]
        have HNN : Hid (j + 1 + 0 = (T.take j ++ (a, n) :: T.drop j).length) := by
          have := HN.out
          simp only [Hid, List.length_append, List.length_take, List.length_cons, List.length_drop]
          omega
        by_cases hck : c = j
        · go_wp2_with (first
              | (at_builtin
                 refine wpList_append_own_at _ rfl _ _ 27 rfl 0 35 i1 (.agg #[.int .i64 0, .int .i64 0]) 2 16 Try.underlying27 hj hy0 hy1 hy2 rfl (by decide) _ _ _ rfl HO3.out ⟨g, 0, none⟩ 0 0 ((M.tcells T).drop (j * 2)) rfl (by rw [List.length_drop, HLn.out, ← HN.out]; omega) (fun i u hu => absurd (List.getElem?_eq_some_iff.1 hu).1 (by rw [List.length_drop, HLn.out, ← HN.out]; omega)) (fun u hu => HOne.out u (List.mem_of_mem_drop hu)) (HMx.out _ (by omega)).1 (HMx.out _ (by omega)).2 (Nat.zero_le _) ?_
                 intro v4 w4 ho4 hg4 _ hat4
                 have HF4 := Lib.hid (rwith_end HB0.out HB3.out HG3.out ho4 HY.out HNN.out (grown13_drewN hg4) hat4)
                 clear ho4 hg4 hat4)
              | fail)
          go_ret
          exact ⟨_, rfl, by rw [HR.out]; exact HF4.out.1, HF4.out.2⟩
        · go_wp2_with (first
              | (at_builtin
                 refine wpList_append_own_at _ rfl _ _ 27 rfl 0 35 i1 (.agg #[.int .i64 0, .int .i64 0]) 2 16 Try.underlying27 hj hy0 hy1 hy2 rfl (by decide) _ _ _ rfl HO3.out ⟨g, (j) * 2, none⟩ 0 (c - (j)) ((M.tcells T).drop (j * 2)) rfl (by rw [List.length_drop, HLn.out, ← HN.out]; omega) (fun i u hu => by rw [blk_add13]; exact HS.out w3 HB3.out i u hu) (fun u hu => HOne.out u (List.mem_of_mem_drop hu)) (HMx.out _ (by omega)).1 (HMx.out _ (by omega)).2 (Nat.zero_le _) ?_
                 intro v4 w4 ho4 hg4 _ hat4
                 have HF4 := Lib.hid (rwith_end HB0.out HB3.out HG3.out ho4 HY.out HNN.out (grown13_drewN hg4) hat4)
                 clear ho4 hg4 hat4)
              | fail)
          go_ret
          exact ⟨_, rfl, by rw [HR.out]; exact HF4.out.1, HF4.out.2⟩
end Go.Proofs.Ytfklbinccpdnmaa
