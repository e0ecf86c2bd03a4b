/-
  Walks over shadow.with, New, Put, Get, Loose, Back, Clear, Fresh and Kept, at things that are ints.
-/
import Derived.Test.YtfklbinccpdnmaaZPlaces
namespace Go.Proofs.Ytfklbinccpdnmaa
open Go.RowKit Go.Maps

theorem zeroE13 (w : World) : (zeroValue 3).run Try.prog w = .ok (.int .i64 0) w := by kernel_rfl

set_option maxHeartbeats 1000000 in
theorem with_any (w : World) {o : Option Nat} {L : List (Int × Value)} (h : MapV w o L) (k : Int) (x : Value) (hw : (Lit.int .i64 k).wf = true) (hl : L.length ≤ 100000) :
    Calls Try.prog 26 #[.map o, .int .i64 k, x] w fun e w' => ∃ b, e = .returned (.map (some b)) ∧ MapV w' (some b) (M.ins k x L) ∧ Kept (fun j => o = some j) w w' ∧ (o = some b ∨ w.heap.size ≤ b) := by
  have hkey : keyOf Try.prog 3 (.int .i64 k) = some (.int .i64 k) := keyOf_int_mk Try.underlying3 hw
  have hmm := @run_makeMap Try.prog
  rcases h with ⟨rfl, rfl⟩ | ⟨b, D, rfl, hown, hD⟩
  · have hq := fun w => run_eql_map_nil_sl (P := Try.prog) w 51 _ _ none Try.underlying51
    have HO : Hid ((w.alloc (.map #[] 0)).ownsMap Try.prog 3 M.tok w.heap.size 0 (.map [])) := World.ownsMap_made w _ _ _
    have HB : Hid (Kept (fun _ => False) w (w.alloc (.map #[] 0))) := (Kept.refl _ w).alloc _
    go_enter Try.func26, Try.ntmps26
    go_wp2_with (first
      | (at_mapUpdate
         refine wpList_mapUpdate_own _ rfl _ _ _ 51 rfl 3 _ key13 Try.underlying51 M.tok w.heap.size 0 (.map []) rfl HO.out (by decide) _ _ _ rfl rfl hkey (.held x) [] rfl ?_
         intro w1 hown1 hgrow1)
      | fail)
    go_ret
    have hD1 := M.MapHas.nil.put x hw
    refine ⟨_, rfl, Or.inr ⟨_, _, rfl, ?_, hD1⟩, HB.out.grown hgrow1 (fun j e hj => by injection e with e; omega) |>.mono (fun _ _ e => e.elim), Or.inr (Nat.le_refl _)⟩
    have := owns_tight hown1
    rwa [hD1.size] at this
  · have hq := fun w => run_eql_map_nil_sl (P := Try.prog) w 51 _ _ (some b) Try.underlying51
    have HO := Lib.hid hown
    have HM : Hid (L.length < maxLen) := by unfold maxLen; show L.length < _; omega
    obtain ⟨n, hn⟩ : ∃ n, n = L.length := ⟨_, rfl⟩
    rw [← hn] at HO HM
    clear hown hl hn
    go_enter Try.func26, Try.ntmps26
    go_wp2_with (first
      | (at_mapUpdate
         refine wpList_mapUpdate_own _ rfl _ _ _ 51 rfl 3 _ key13 Try.underlying51 M.tok b n D rfl HO.out HM.out _ _ _ rfl rfl hkey (.held x) [] rfl ?_
         intro w1 hown1 hgrow1)
      | fail)
    go_ret
    have hD1 := hD.put x hw
    refine ⟨_, rfl, Or.inr ⟨_, _, rfl, ?_, hD1⟩, (Kept.refl _ w).grown hgrow1 (fun j e _ => e), Or.inl rfl⟩
    have := owns_tight hown1
    rwa [hD1.size] at this

theorem new13_any (w : World) : Calls Try.prog 7 #[] w fun e w' => e = .returned (.pointer (some ⟨w.heap.size, 0, none⟩)) ∧ Sh 53 w' w.heap.size (fun k => w.heap.size ≤ k) [] [] ∧ Below w.heap.size w w' := by
  have HX : Hid (Sh 53 (w.alloc (.cells #[.map none, .map none] 53)) w.heap.size (fun k => w.heap.size ≤ k) [] [] ∧ Below w.heap.size w (w.alloc (.cells #[.map none, .map none] 53))) :=
    ⟨⟨none, none, ⟨Box.new _ _ _, MapV.nil _, MapV.nil _, fun _ e => (by cases e), fun _ e => (by cases e), fun _ e => (by cases e)⟩, Nat.le_refl _, fun _ e => (by cases e), fun _ e => (by cases e)⟩, (Below.refl _ w).alloc (Nat.le_refl _) _⟩
  go_enter Try.func7, Try.ntmps7
  go_wp2_with fail
  go_ret
  exact ⟨rfl, HX.out⟩

section
variable {b : Nat} {P : Nat → Prop} {L K : List (Int × Value)}
set_option maxHeartbeats 1000000 in
theorem put13_any (w : World) (h : Sh 53 w b P L K) (k : Int) (x : Value) (hw : (Lit.int .i64 k).wf = true) (hl : L.length ≤ 100000) :
    Calls Try.prog 8 #[.pointer (some ⟨b, 0, none⟩), .int .i64 k, x] w fun e w' => e = .returned (.tuple #[]) ∧ Sh 53 w' b (M.plus13 P w.heap.size) (M.ins k x L) K ∧ Kept P w w' := by
  obtain ⟨lo, so, h, p1, p2, p3⟩ := h
  have c0 := h.c0
  have HW := Lib.hid (with_any w h.loose k x hw hl)
  have HS := Lib.hid (fun w' (o : Option Nat) M h1 h2 h3 => h.set0 (w' := w') (o := o) (M := M) h1 h2 h3)
  clear h
  go_enter Try.func8, Try.ntmps8
  go_wp2_with fail
  refine HW.out.mono ?_
  rintro e w1 ⟨o, rfl, hm, hk, ho⟩
  obtain ⟨y0, y1, HY⟩ := HS.out w1 (some o) _ hk hm (fun j e => by injection e with e; subst e; exact ho)
  have HO := Lib.hid ho
  clear hm hk ho c0 HW HS
  go_wp2_with fail
  go_end0
  exact ⟨rfl, ⟨_, _, HY.out.1, Or.inl p1, fun j e => by injection e with e; subst e; exact HO.out.imp (fun e => p2 _ e) id, fun j e => Or.inl (p3 j e)⟩, HY.out.2.mono (fun j _ e => e.elim (fun e => by rw [e]; exact p1) (fun e => p2 j e))⟩

set_option maxHeartbeats 1000000 in
theorem get13_any (w : World) (h : Sh 53 w b P L K) (k : Int) (hw : (Lit.int .i64 k).wf = true) :
    Calls Try.prog 14 #[.pointer (some ⟨b, 0, none⟩), .int .i64 k] w fun e w' => e = .returned (.tuple #[(M.get13 k L K).getD (.int .i64 0), .bool (M.get13 k L K).isSome]) ∧ w' = w := by
  obtain ⟨lo, so, h, -⟩ := h
  have c0 := h.c0
  have c1 := h.c1
  have l0 := h.loose.look Try.underlying51 (zeroE13 w) hw
  have l1 := h.stays.look Try.underlying51 (zeroE13 w) hw
  unfold M.get13
  clear h
  cases hf : M.find k L with
  | some x =>
    rw [hf] at l0
    simp only [Option.getD_some, Option.isSome_some, Option.some_or] at l0 ⊢
    clear l1 hf
    go_enter Try.func14, Try.ntmps14
    go_wp2_with fail
    go_ret2
    exact ⟨rfl, rfl⟩
  | none =>
    rw [hf] at l0
    simp only [Option.getD_none, Option.isSome_none, Option.none_or] at l0 ⊢
    obtain ⟨y, hy⟩ : ∃ y, y = (M.find k K).getD (.int .i64 0) := ⟨_, rfl⟩
    obtain ⟨i, hi⟩ : ∃ i, i = (M.find k K).isSome := ⟨_, rfl⟩
    rw [← hy, ← hi] at l1
    rw [← hy, ← hi]
    clear hf hy hi
    go_enter Try.func14, Try.ntmps14
    go_wp2_with fail
    go_ret2
    exact ⟨rfl, rfl⟩

theorem loose_any (w : World) (h : Sh 53 w b P L K) :
    Calls Try.prog 16 #[.pointer (some ⟨b, 0, none⟩)] w fun e w' => e = .returned (.int .i64 (L.length : Nat)) ∧ w' = w := by
  obtain ⟨lo, so, h, -⟩ := h
  have c0 := h.c0
  have l0 := fun ty => h.loose.len Try.underlying51 ty
  clear h
  go_enter Try.func16, Try.ntmps16
  go_wp2_with fail
  go_ret
  exact ⟨rfl, rfl⟩

theorem back_any (w : World) (h : Sh 53 w b P L K) :
    Calls Try.prog 12 #[.pointer (some ⟨b, 0, none⟩)] w fun e w' => e = .returned (.tuple #[]) ∧ Sh 53 w' b P [] K ∧ Kept P w w' := by
  obtain ⟨lo, so, h, p1, p2, p3⟩ := h
  have c0 := h.c0
  obtain ⟨-, f0, HY⟩ := h.set0 (o := none) (M := []) (Kept.refl _ w) (MapV.nil w) (fun _ e => by cases e)
  clear h
  go_enter Try.func12, Try.ntmps12
  go_wp2_with fail
  go_end0
  exact ⟨rfl, ⟨_, _, HY.out.1, p1, fun _ e => (by cases e), p3⟩, HY.out.2.mono (fun j _ e => e.elim (fun e => by rw [e]; exact p1) (fun e => p2 j e))⟩

theorem fresh_any (p : Option Addr) (w : World) :
    Calls Try.prog 18 #[.pointer p] w fun e w' => e = .returned (.func (.func 30) #[] #[.pointer (some ⟨w.heap.size, 0, none⟩)]) ∧ w' = w.alloc (.cells #[.pointer p] 24) := by
  go_enter Try.func18, Try.ntmps18
  go_wp2_with fail
  go_ret
  exact ⟨rfl, rfl⟩
end
end Go.Proofs.Ytfklbinccpdnmaa
