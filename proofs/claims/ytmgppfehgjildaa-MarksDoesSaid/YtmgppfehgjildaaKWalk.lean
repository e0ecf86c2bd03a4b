/-
  Walks over marks.walk where it is ranged over, and over marks.Len and Next, which do so.
-/
import Derived.Test.YtmgppfehgjildaaKBase
import Derived.Test.YtmgppfehgjildaaKRange
import Derived.Shelf.Abstract
import Derived.Shelf.RegionOpen
import Derived.OwnWalkIn
import Derived.TacticsInMore
import Derived.LoopNIn
import Derived.LoopIn
import Derived.Deep.OwnRows
namespace Go.Proofs.Ytmgppfehgjildaa
open Go.RowKit Go.Shelf
attribute [local go_sem] Oper.semAt_some

theorem follows_mixed : Try.prog.follows .mixedOrders = true := by kernel_rfl
theorem M.hasI_low {m : Nat} {f : Nat → Bool} (h : M.Below m f) {k : Nat} (hk : f k = true) : k < m := by
  by_cases e : k < m
  · exact e
  · rw [h k (by omega)] at hk; cases hk

set_option maxRecDepth 100000 in
set_option maxHeartbeats 2000000 in
theorem tell_in (n l : Nat) {p : Option Addr} {m : Nat} {f : Nat → Bool} (J : Nat → World → Prop) (D : World → Prop)
    (hJ : ∀ k W, J k W → SetN W p m f) (hD : ∀ k W n, J k W → J k (World.drewN W n)) (hS : ∀ k W, k < m → f k = false → J k W → J (k + 1) W)
    (hY : ∀ k W, k < m → f k = true → J k W → YieldAt Fence.wide n Try.prog l #[.int .i64 (k : Nat)] W fun e W' => (e = .returned (.bool true) ∧ J (k + 1) W') ∨ (e = .returned (.bool false) ∧ D W'))
    (W : World) (h0 : J 0 W) :
    CallsIn Fence.wide (n + 1) Try.prog 30 #[.pointer p, .func (.yield l) #[] #[]] W fun e W' => (∃ v, e = .returned v) ∧ (J m W' ∨ D W') := by
  have HR := Lib.hid (hJ 0 W h0)
  have HC : Hid (∀ x, CallsIn Fence.wide x Try.prog 23 #[.pointer p] W fun e w' => e = .returned (.int .i64 (m : Nat)) ∧ w' = W) := fun x => callsIn_wide.2 (many_n W HR.out)
  have hm := HR.out.le
  have HH : Hid (∀ x k W, J k W → CallsIn Fence.wide x Try.prog 17 #[.pointer p, .int .i64 (k : Nat)] W fun e w' => e = .returned (.bool (f k)) ∧ J k w') := fun x k W h => callsIn_wide.2 ((has_n (k : Nat) W (hJ k W h)).mono fun e w' ⟨he, n, hw⟩ => ⟨by rw [he, M.hasI_nat], by rw [hw]; exact hD k W n h⟩)
  have HY := Lib.hid hY
  have HS := Lib.hid hS
  clear hY hJ hD hS HR
  refine callsIn_of_wp Try.func30 rfl trivial ?_ rfl
  simp only [Try.ntmps30, List.size_toArray, List.length_cons, List.length_nil, Nat.reduceAdd, Nat.reduceSub, Array.replicate_succ, Array.replicate_zero, List.push_toArray, List.append_toArray, List.nil_append, List.cons_append]
  gi_wp2_with (refine ⟨trivial, ?_⟩; gi_at_call 23; refine (HC.out _).mono ?_; rintro e w1 ⟨rfl, rfl⟩)
  gi_loopw [7] (fun i wr => ∃ k : Nat, k ≤ m ∧ i = .int .i64 k ∧ J k wr) (fun i _ => m - (intOf i).toNat)
  case atStart => exact ⟨0, Nat.zero_le _, rfl, h0⟩
  case round =>
    obtain ⟨k, hk, rfl, hJk⟩ := hrel
    have HHk := Lib.hid (fun x => HH.out x k wr hJk)
    have HJk := Lib.hid hJk
    clear hJk h0 HC HH
    by_cases hlt : k < m
    · have hlt' : (k : Int) < (m : Int) := by omega
      have HYk := Lib.hid (HY.out k)
      by_cases hf : f k = true
      · rw [hf] at HHk
        have HF := Lib.hid hf
        clear HY HS hf
        gi_wp2_with (refine ⟨trivial, ?_⟩; gi_at_call 17; refine (HHk.out _).mono ?_; rintro e w2 ⟨rfl, hJ2⟩; obtain ⟨fn, tmps, assign, body, hy, hR⟩ := HYk.out w2 hlt HF.out hJ2)
        refine hR.mono ?_
        rintro e W3 (⟨rfl, hJ3⟩ | ⟨rfl, hD3⟩)
        · gi_wp2_with fail
          go_roundw
          case rel => exact ⟨k + 1, by omega, by go_num, hJ3⟩
          case measure => simp [intOf]; omega
        · gi_wp2_with fail
          exact bodyPost_ret (results_none rfl _ _ _) rfl ⟨⟨_, rfl⟩, Or.inr hD3⟩
      · have hf' : f k = false := by simpa using hf
        have HSk := Lib.hid (fun W => HS.out k W hlt hf')
        rw [hf'] at HHk
        clear HY HS HYk hf hf'
        gi_wp2_with (refine ⟨trivial, ?_⟩; gi_at_call 17; refine (HHk.out _).mono ?_; rintro e w2 ⟨rfl, hJ2⟩)
        refine ⟨fun g hg => (by cases hg), ?_⟩
        gi_wp2_with fail
        go_roundw
        case rel => exact ⟨k + 1, by omega, by go_num, HSk.out _ hJ2⟩
        case measure => simp [intOf]; omega
    · have e : k = m := by omega
      subst e
      gi_wp2_with fail
      go_end0
      exact ⟨⟨_, rfl⟩, Or.inl HJk.out⟩

set_option maxRecDepth 100000 in
set_option maxHeartbeats 1000000 in
theorem len_in (w : World) {p : Option Addr} {m : Nat} {f : Nat → Bool} (hR : SetN w p m f) :
    CallsIn Fence.wide 3 Try.prog 22 #[.pointer p] w fun e w' => e = .returned (.int .i64 ((M.nums m f).length : Nat)) ∧ Below w.heap.size w w' := by
  have HR := Lib.hid (fun (x : World) (hx : Below w.heap.size w x) => hR.below hx)
  have hm := hR.le
  clear hR
  refine callsIn_of_wp_marks Try.func22 rfl trivial ?_ rfl
  simp only [Try.ntmps22, List.size_toArray, List.length_cons, List.length_nil, Nat.reduceAdd, Nat.reduceSub, Array.replicate_succ, Array.replicate_zero, List.push_toArray, List.append_toArray, List.nil_append, List.cons_append]
  gi_wp2_with fail
  obtain ⟨W0, hW0⟩ : ∃ W0, W0 = w.alloc (Obj.cells #[Value.int IntKind.i64 0] 3) := ⟨_, rfl⟩
  have hz0 : W0.heap.size = w.heap.size + 1 := by rw [hW0]; simp
  have hbl0 : Below w.heap.size w W0 := by rw [hW0]; exact (Below.refl _ w).alloc (Nat.le_refl _) _
  have hV0 : Box W0 w.heap.size 3 #[Value.int .i64 0] := by rw [hW0]; exact Box.new _ _ _
  rw [← hW0]
  clear hW0
  refine range_leave (m := 1) (gf := 30) (bd := #[.pointer p]) rfl (enters_of Try.func30 (by kernel_rfl) rfl) m f
    (fun k => #[.int .i64 (k : Nat)]) (fun _ => rfl)
    (fun k W => Box W w.heap.size 3 #[.int .i64 ((M.nums k f).length : Nat)] ∧ Below w.heap.size w W) (fun _ => False)
    ?hIa ?hIp ?hEp ?hId ?hIs ?h0
    (fun k => { tmps := #[.pointer p, undef, .int .i64 0, .pointer (some ⟨w.heap.size, 0, none⟩), .pointer p, .func (.func 30) #[.pointer p] #[], .int .i64 (k : Nat), undef, undef, undef], defers := [] })
    ?hit ?hassign ?hbody ?hdone ?hstop
  case hIa =>
    rintro k W o ⟨h2, h3⟩
    exact ⟨(Below.heap_alloc W o _ h2.lt).trans h2, h3.alloc h3.size o⟩
  case hIp =>
    rintro k W l o ⟨h2, h3⟩ hl
    exact ⟨(World.putObj_heap_other (by omega)).trans h2, h3.trans ⟨rfl, rfl, rfl, by simp, fun i hi => World.putObj_heap_other (by omega)⟩⟩
  case hEp => exact fun _ _ _ h _ => h
  case hId =>
    rintro k W m ⟨h2, h3⟩
    exact ⟨h2, below_drewN h3 m⟩
  case hIs =>
    rintro k W hk hs ⟨h2, h3⟩
    rw [M.nums_out k f hs]
    exact ⟨h2, h3⟩
  case h0 => exact ⟨hV0, hbl0⟩
  case hit =>
    intro l J D hJ hD hS hY W h0
    exact tell_in 1 l J D (fun k W h => HR.out W (hJ k W h).2) hD hS hY W h0
  case hassign =>
    intro l k W K hk hs hK
    gi_wp2
    simpa using hK
  case hbody =>
    rintro l k W hk hs ⟨h1, h3⟩
    have c1 := h1.cell 0
    simp at c1
    have c3 := h1.frozen 0
    have hlen := M.nums_len k f
    have hs1 := h1.set 0 (.int .i64 (((M.nums k f).length : Nat) + 1 : Int))
    have hX : Hid (goesOr W0.heap.size W (fun W => Box W w.heap.size 3 #[.int .i64 ((M.nums (k + 1) f).length : Nat)] ∧ Below w.heap.size w W) (fun _ => False) .normal ⟨#[], []⟩ (W.setCell ⟨w.heap.size, 0, none⟩ (.int .i64 (((M.nums k f).length : Nat) + 1 : Int)))) :=
      ⟨by simp [World.setCell], fun j hj _ => Below.heap_setCell W _ _ j (by simp only; omega), by rw [M.nums_in k f hs]; simpa using hs1, h3.setCell (p := ⟨w.heap.size, 0, none⟩) (Nat.le_refl _) _⟩
    clear h1 h3 hs1 HR hV0 hbl0 hs
    obtain ⟨x, hx⟩ : ∃ x, x = (M.nums k f).length := ⟨_, rfl⟩
    rw [← hx] at hX c1 hlen
    clear hx
    gi_wp2_with fail
    exact hX.out
  case hdone =>
    rintro D W hD ⟨h2, h3⟩ hK
    have c1 := h2.cell 0
    simp at c1
    have H3 := Lib.hid h3
    clear h2 h3 HR hV0 hbl0
    gi_wp2_with fail
    refine ⟨by simp, .inl ⟨_, _, rfl, run_takeDeferred hK, ?_⟩⟩
    exact ⟨_, results_tmp rfl _ _ _, rfl, H3.out.trans ⟨rfl, rfl, rfl, by simp, fun i hi => World.putObj_heap_other (by omega)⟩⟩
  case hstop => exact fun _ _ _ h _ => h.elim

theorem len_n (w : World) {p : Option Addr} {m : Nat} {f : Nat → Bool} (hR : SetN w p m f) :
    Calls Try.prog 22 #[.pointer p] w fun e w' => e = .returned (.int .i64 ((M.nums m f).length : Nat)) ∧ Below w.heap.size w w' := callsIn_wide.1 (len_in w hR)

/-- The five boxes of Next. -/
structure NBox (w W : World) (a rv : Int) (rb : Bool) (lv : Int) (lb : Bool) : Prop where
  b0 : Box W w.heap.size 3 #[.int .i64 a]
  b1 : Box W (w.heap.size + 1) 3 #[.int .i64 rv]
  b2 : Box W (w.heap.size + 2) 4 #[.bool rb]
  b3 : Box W (w.heap.size + 3) 3 #[.int .i64 lv]
  b4 : Box W (w.heap.size + 4) 4 #[.bool lb]
  low : Below w.heap.size w W
section
variable {w W : World} {a rv : Int} {rb : Bool} {lv : Int} {lb : Bool}
theorem NBox.alloc (h : NBox w W a rv rb lv lb) (o : Obj) : NBox w (W.alloc o) a rv rb lv lb :=
  ⟨(Below.heap_alloc W o _ h.b0.lt).trans h.b0, (Below.heap_alloc W o _ h.b1.lt).trans h.b1, (Below.heap_alloc W o _ h.b2.lt).trans h.b2, (Below.heap_alloc W o _ h.b3.lt).trans h.b3, (Below.heap_alloc W o _ h.b4.lt).trans h.b4, h.low.alloc h.low.size o⟩
theorem NBox.putObj (h : NBox w W a rv rb lv lb) (l : Nat) (o : Obj) (hl : w.heap.size + 5 ≤ l) : NBox w (W.putObj l o) a rv rb lv lb :=
  ⟨(World.putObj_heap_other (by omega)).trans h.b0, (World.putObj_heap_other (by omega)).trans h.b1, (World.putObj_heap_other (by omega)).trans h.b2, (World.putObj_heap_other (by omega)).trans h.b3, (World.putObj_heap_other (by omega)).trans h.b4,
    h.low.trans ⟨rfl, rfl, rfl, by simp, fun i hi => World.putObj_heap_other (by omega)⟩⟩
theorem NBox.drewN (h : NBox w W a rv rb lv lb) (n : Nat) : NBox w (W.drewN n) a rv rb lv lb := ⟨h.b0, h.b1, h.b2, h.b3, h.b4, below_drewN h.low n⟩
theorem Box.set_other {W : World} {g k : Nat} {t : TypeId} {cs : Array Value} (h : Box W k t cs) (hne : k ≠ g) (i : Nat) (u : Value) : Box (W.setCell ⟨g, i, none⟩ u) k t cs := (Below.heap_setCell W ⟨g, i, none⟩ u k hne).trans h
theorem NBox.set1 (h : NBox w W a rv rb lv lb) (x : Int) : NBox w (W.setCell ⟨w.heap.size + 1, 0, none⟩ (.int .i64 x)) a x rb lv lb :=
  ⟨h.b0.set_other (by omega) _ _, by simpa using h.b1.set 0 (.int .i64 x), h.b2.set_other (by omega) _ _, h.b3.set_other (by omega) _ _, h.b4.set_other (by omega) _ _, h.low.setCell (p := ⟨w.heap.size + 1, 0, none⟩) (by simp) _⟩
theorem NBox.set2 (h : NBox w W a rv rb lv lb) (x : Bool) : NBox w (W.setCell ⟨w.heap.size + 2, 0, none⟩ (.bool x)) a rv x lv lb :=
  ⟨h.b0.set_other (by omega) _ _, h.b1.set_other (by omega) _ _, by simpa using h.b2.set 0 (.bool x), h.b3.set_other (by omega) _ _, h.b4.set_other (by omega) _ _, h.low.setCell (p := ⟨w.heap.size + 2, 0, none⟩) (by simp) _⟩
theorem NBox.set3 (h : NBox w W a rv rb lv lb) (x : Int) : NBox w (W.setCell ⟨w.heap.size + 3, 0, none⟩ (.int .i64 x)) a rv rb x lb :=
  ⟨h.b0.set_other (by omega) _ _, h.b1.set_other (by omega) _ _, h.b2.set_other (by omega) _ _, by simpa using h.b3.set 0 (.int .i64 x), h.b4.set_other (by omega) _ _, h.low.setCell (p := ⟨w.heap.size + 3, 0, none⟩) (by simp) _⟩
theorem NBox.set4 (h : NBox w W a rv rb lv lb) (x : Bool) : NBox w (W.setCell ⟨w.heap.size + 4, 0, none⟩ (.bool x)) a rv rb lv x :=
  ⟨h.b0.set_other (by omega) _ _, h.b1.set_other (by omega) _ _, h.b2.set_other (by omega) _ _, h.b3.set_other (by omega) _ _, by simpa using h.b4.set 0 (.bool x), h.low.setCell (p := ⟨w.heap.size + 4, 0, none⟩) (by simp) _⟩
theorem NBox.size (h : NBox w W a rv rb lv lb) : w.heap.size + 5 ≤ W.heap.size := by have := h.b4.lt; omega
end

set_option maxRecDepth 100000 in
set_option maxHeartbeats 1000000 in
theorem next_in (a : Int) (w : World) {p : Option Addr} {m : Nat} {f : Nat → Bool} (hR : SetN w p m f) :
    CallsIn Fence.wide 3 Try.prog 13 #[.pointer p, .int .i64 a] w fun e w' => e = .returned (.tuple #[.int .i64 (M.num (M.next m f a)), .bool (M.next m f a).isSome]) ∧ Below w.heap.size w w' := by
  have HR := Lib.hid (fun (x : World) (hx : Below w.heap.size w x) => hR.below hx)
  have hm := hR.le
  clear hR
  obtain ⟨o, ho⟩ : ∃ o, o = M.next m f a := ⟨_, rfl⟩
  rw [← ho]
  have HO := Lib.hid ho
  clear ho
  refine callsIn_of_wp_marks Try.func13 rfl trivial ?_ rfl
  simp only [Try.ntmps13, List.size_toArray, List.length_cons, List.length_nil, Nat.reduceAdd, Nat.reduceSub, Array.replicate_succ, Array.replicate_zero, List.push_toArray, List.append_toArray, List.nil_append, List.cons_append]
  gi_wp2_with fail
  simp only [Nat.add_assoc, Nat.reduceAdd]
  obtain ⟨W0, hW0⟩ : ∃ W0, W0 = (((((w.alloc (Obj.cells #[Value.int IntKind.i64 a] 3)).alloc (Obj.cells #[Value.int IntKind.i64 0] 3)).alloc (Obj.cells #[Value.bool false] 4)).alloc (Obj.cells #[Value.int IntKind.i64 0] 3)).alloc (Obj.cells #[Value.bool false] 4)) := ⟨_, rfl⟩
  have hN0 : NBox w W0 a 0 false 0 false := by
    have e0 := Box.new w 3 #[Value.int IntKind.i64 a]
    obtain ⟨w1, h1⟩ : ∃ w1, w1 = w.alloc (Obj.cells #[Value.int IntKind.i64 a] 3) := ⟨_, rfl⟩
    have z1 : w1.heap.size = w.heap.size + 1 := by rw [h1]; simp
    have b1 : Below w.heap.size w w1 := by rw [h1]; exact (Below.refl _ w).alloc (Nat.le_refl _) _
    rw [← h1] at e0 hW0
    have e1 := Box.new w1 3 #[Value.int IntKind.i64 0]
    have f0 := (Below.heap_alloc w1 (Obj.cells #[Value.int IntKind.i64 0] 3) _ e0.lt).trans e0
    obtain ⟨w2, h2⟩ : ∃ w2, w2 = w1.alloc (Obj.cells #[Value.int IntKind.i64 0] 3) := ⟨_, rfl⟩
    have z2 : w2.heap.size = w.heap.size + 2 := by rw [h2]; simp [z1]
    have b2 : Below w.heap.size w w2 := by rw [h2]; exact b1.alloc b1.size _
    rw [← h2] at f0 e1 hW0
    rw [z1] at e1
    have e2 := Box.new w2 4 #[Value.bool false]
    have f1 := (Below.heap_alloc w2 (Obj.cells #[Value.bool false] 4) _ e1.lt).trans e1
    replace f0 := (Below.heap_alloc w2 (Obj.cells #[Value.bool false] 4) _ (lt_of_block f0)).trans f0
    obtain ⟨w3, h3⟩ : ∃ w3, w3 = w2.alloc (Obj.cells #[Value.bool false] 4) := ⟨_, rfl⟩
    have z3 : w3.heap.size = w.heap.size + 3 := by rw [h3]; simp [z2]
    have b3 : Below w.heap.size w w3 := by rw [h3]; exact b2.alloc b2.size _
    rw [← h3] at f0 f1 e2 hW0
    rw [z2] at e2
    have e3 := Box.new w3 3 #[Value.int IntKind.i64 0]
    have f2 := (Below.heap_alloc w3 (Obj.cells #[Value.int IntKind.i64 0] 3) _ e2.lt).trans e2
    replace f1 := (Below.heap_alloc w3 (Obj.cells #[Value.int IntKind.i64 0] 3) _ (lt_of_block f1)).trans f1
    replace f0 := (Below.heap_alloc w3 (Obj.cells #[Value.int IntKind.i64 0] 3) _ (lt_of_block f0)).trans f0
    obtain ⟨w4, h4⟩ : ∃ w4, w4 = w3.alloc (Obj.cells #[Value.int IntKind.i64 0] 3) := ⟨_, rfl⟩
    have z4 : w4.heap.size = w.heap.size + 4 := by rw [h4]; simp [z3]
    have b4 : Below w.heap.size w w4 := by rw [h4]; exact b3.alloc b3.size _
    rw [← h4] at f0 f1 f2 e3 hW0
    rw [z3] at e3
    have e4 := Box.new w4 4 #[Value.bool false]
    rw [z4] at e4
    rw [hW0]
    exact ⟨(Below.heap_alloc w4 _ _ (lt_of_block f0)).trans f0, (Below.heap_alloc w4 _ _ (lt_of_block f1)).trans f1, (Below.heap_alloc w4 _ _ (lt_of_block f2)).trans f2, (Below.heap_alloc w4 _ _ e3.lt).trans e3, e4, b4.alloc b4.size _⟩
  have hz0 : W0.heap.size = w.heap.size + 5 := by rw [hW0]; simp
  rw [← hW0]
  clear hW0
  refine range_leave (m := 1) (gf := 30) (bd := #[.pointer p]) rfl (enters_of Try.func30 (by kernel_rfl) rfl) m f
    (fun k => #[.int .i64 (k : Nat)]) (fun _ => rfl)
    (fun k W => NBox w W a 0 false (M.num ((List.range k).find? f)) ((List.range k).find? f).isSome ∧ ∀ j, j < k → f j = true → (j : Int) < a)
    (fun W => ∃ (i : Nat) (lv : Int) (lb : Bool), i < m ∧ f i = true ∧ a ≤ (i : Int) ∧ (∀ j, j < i → f j = true → (j : Int) < a) ∧ NBox w W a (i : Nat) true lv lb)
    ?hIa ?hIp ?hEp ?hId ?hIs ?h0
    (fun k => { tmps := #[.pointer p, .int .i64 a, undef, .pointer (some ⟨w.heap.size, 0, none⟩), .pointer (some ⟨w.heap.size + 1, 0, none⟩), .pointer (some ⟨w.heap.size + 2, 0, none⟩), .pointer (some ⟨w.heap.size + 3, 0, none⟩), .pointer (some ⟨w.heap.size + 4, 0, none⟩), .int .i64 (k : Nat), .pointer p, .func (.func 30) #[.pointer p] #[], .int .i64 (k : Nat), undef, undef, undef, undef, undef, undef, undef, undef, undef], defers := [] })
    ?hit ?hassign ?hbody ?hdone ?hstop
  case hIa => exact fun k W o h => ⟨h.1.alloc o, h.2⟩
  case hIp => exact fun k W l o h hl => ⟨h.1.putObj l o (by omega), h.2⟩
  case hEp =>
    rintro W l o ⟨i, lv, lb, h1, h2, h3, h4, h5⟩ hl
    exact ⟨i, lv, lb, h1, h2, h3, h4, h5.putObj l o (by omega)⟩
  case hId => exact fun k W n h => ⟨h.1.drewN n, h.2⟩
  case hIs =>
    rintro k W hk hs ⟨h1, h2⟩
    have e : (List.range (k + 1)).find? f = (List.range k).find? f := by rw [List.range_succ, List.find?_append]; simp [hs]
    rw [e]
    refine ⟨h1, fun j hj hf => ?_⟩
    by_cases ej : j = k
    · subst ej; rw [hs] at hf; cases hf
    · exact h2 j (by omega) hf
  case h0 => exact ⟨hN0, fun j hj => absurd hj (by omega)⟩
  case hit =>
    intro l J D hJ hD hS hY W h0
    exact tell_in 1 l J D (fun k W h => HR.out W (hJ k W h).1.low) hD hS hY W h0
  case hassign =>
    intro l k W K hk hs hK
    gi_wp2
    exact hK
  case hbody =>
    rintro l k W hk hs ⟨h1, h2⟩
    have hsz := h1.size
    have c0 := h1.b0.cell 0
    have c4 := h1.b4.cell 0
    simp only [List.getElem?_toArray, List.getElem?_cons_zero] at c0 c4
    have g1 := h1.b1.cell 0
    have g2 := h1.b2.cell 0
    have g3 := h1.b3.cell 0
    simp only [List.getElem?_toArray, List.getElem?_cons_zero] at g1 g2 g3
    have f1 := h1.b1.frozen 0
    have f2 := h1.b2.frozen 0
    have f3 := h1.b3.frozen 0
    have f4 := h1.b4.frozen 0
    have hk1 : (k : Int) ≤ 1000 := by omega
    have hfar : ∀ (g : Nat) (u : Value) (X : World), g < W0.heap.size → ∀ j, W0.heap.size ≤ j → (X.setCell ⟨g, 0, none⟩ u).heap[j]? = X.heap[j]? := fun g u X hg j hj => Below.heap_setCell X _ _ j (by simp only; omega)
    by_cases ha : a ≤ (k : Int)
    · have hX : Hid (goesOr W0.heap.size W (fun W => NBox w W a 0 false (M.num ((List.range (k + 1)).find? f)) ((List.range (k + 1)).find? f).isSome ∧ ∀ j, j < k + 1 → f j = true → (j : Int) < a)
          (fun W => ∃ (i : Nat) (lv : Int) (lb : Bool), i < m ∧ f i = true ∧ a ≤ (i : Int) ∧ (∀ j, j < i → f j = true → (j : Int) < a) ∧ NBox w W a (i : Nat) true lv lb) .ret ⟨#[], []⟩
          ((W.setCell ⟨w.heap.size + 1, 0, none⟩ (.int .i64 (k : Nat))).setCell ⟨w.heap.size + 2, 0, none⟩ (.bool true))) :=
        ⟨by simp [World.setCell], fun j hj hj2 => (hfar _ _ _ (by omega) j hj).trans (hfar _ _ _ (by omega) j hj), k, _, _, hk, hs, ha, h2, (h1.set1 (k : Nat)).set2 true⟩
      clear hfar h1 h2 HR hN0 hs
      gi_wp2_with fail
      exact hX.out
    · have ha' : (k : Int) < a := by omega
      have h2' : ∀ j, j < k + 1 → f j = true → (j : Int) < a := fun j hj hf => by
        by_cases ej : j = k
        · subst ej; exact ha'
        · exact h2 j (by omega) hf
      have er : (List.range (k + 1)).find? f = ((List.range k).find? f).or (some k) := by rw [List.range_succ, List.find?_append]; simp [hs]
      cases hf : (List.range k).find? f with
      | none =>
        rw [hf] at er h1 c4 g3
        have hX : Hid (goesOr W0.heap.size W (fun W => NBox w W a 0 false (M.num ((List.range (k + 1)).find? f)) ((List.range (k + 1)).find? f).isSome ∧ ∀ j, j < k + 1 → f j = true → (j : Int) < a)
            (fun W => ∃ (i : Nat) (lv : Int) (lb : Bool), i < m ∧ f i = true ∧ a ≤ (i : Int) ∧ (∀ j, j < i → f j = true → (j : Int) < a) ∧ NBox w W a (i : Nat) true lv lb) .normal ⟨#[], []⟩
            ((W.setCell ⟨w.heap.size + 3, 0, none⟩ (.int .i64 (k : Nat))).setCell ⟨w.heap.size + 4, 0, none⟩ (.bool true))) :=
          ⟨by simp [World.setCell], fun j hj hj2 => (hfar _ _ _ (by omega) j hj).trans (hfar _ _ _ (by omega) j hj), by rw [er]; exact (h1.set3 (k : Nat)).set4 true, h2'⟩
        simp only [Option.isSome_none] at c4
        clear hfar h1 h2 h2' HR hN0 hs hf er ha
        gi_wp2_with fail
        exact hX.out
      | some i0 =>
        rw [hf] at er h1 c4 g3
        have hX : Hid (goesOr W0.heap.size W (fun W => NBox w W a 0 false (M.num ((List.range (k + 1)).find? f)) ((List.range (k + 1)).find? f).isSome ∧ ∀ j, j < k + 1 → f j = true → (j : Int) < a)
            (fun W => ∃ (i : Nat) (lv : Int) (lb : Bool), i < m ∧ f i = true ∧ a ≤ (i : Int) ∧ (∀ j, j < i → f j = true → (j : Int) < a) ∧ NBox w W a (i : Nat) true lv lb) .normal ⟨#[], []⟩ W) :=
          ⟨Nat.le_refl _, fun j hj hj2 => rfl, by rw [er]; exact h1, h2'⟩
        simp only [Option.isSome_some] at c4
        clear hfar h1 h2 h2' HR hN0 hs hf er ha
        gi_wp2_with fail
        exact hX.out
  case hdone =>
    rintro D W hD ⟨h1, h2⟩ hK
    have en : M.next m f a = (List.range m).find? f := by
      cases hf : (List.range m).find? f with
      | none => exact M.next_none (fun k hk => by have := List.find?_eq_none.1 hf k (by simpa using hk); simpa using this)
      | some i =>
        obtain ⟨hp, l1, l2, hl, hq⟩ := List.find?_eq_some_iff_append.1 hf
        have him : i < m := by have : i ∈ List.range m := by rw [hl]; simp
                               simpa using this
        have hi1 : i = l1.length := by
          have h3 : (List.range m)[l1.length]? = some i := by rw [hl]; simp
          have h4 : l1.length < m := by
            have : (List.range m).length = m := List.length_range
            rw [hl] at this
            simp at this
            omega
          rw [List.getElem?_range h4] at h3
          injection h3 with h3
          exact h3.symm
        refine M.next_round h2 him hp (fun k hk => ?_)
        have : k ∈ l1 := by
          have h3 : (List.range m)[k]? = some k := List.getElem?_range (by omega)
          rw [hl, List.getElem?_append_left (by omega)] at h3
          exact List.mem_of_getElem? h3
        simpa using hq k this
    rw [← en, ← HO.out] at h1
    obtain ⟨lv, hlv⟩ : ∃ x, x = M.num o := ⟨_, rfl⟩
    obtain ⟨lb, hlb⟩ : ∃ x, x = o.isSome := ⟨_, rfl⟩
    rw [← hlv, ← hlb] at h1
    have HLV := Lib.hid hlv
    have HLB := Lib.hid hlb
    have c3 := h1.b3.cell 0
    have c4 := h1.b4.cell 0
    have g1 := h1.b1.cell 0
    have g2 := h1.b2.cell 0
    simp only [List.getElem?_toArray, List.getElem?_cons_zero] at c3 c4 g1 g2
    have f1 := h1.b1.frozen 0
    have f2 := h1.b2.frozen 0
    obtain ⟨X, hX⟩ : ∃ X, X = ((W.setCell ⟨w.heap.size + 1, 0, none⟩ (.int .i64 lv)).setCell ⟨w.heap.size + 2, 0, none⟩ (.bool lb)).drew := ⟨_, rfl⟩
    have HN : Hid (NBox w X a lv lb lv lb) := by rw [hX]; exact NBox.drewN ((h1.set1 lv).set2 lb) 1
    have hKX : X.heap[D]? = some (.deferred (some [])) := by
      rw [hX]
      exact (Below.heap_setCell _ _ _ _ (by simp only; omega)).trans ((Below.heap_setCell _ _ _ _ (by simp only; omega)).trans hK)
    have HK := Lib.hid hKX
    have HEX := Lib.hid hX
    clear hX hKX hK
    have hmix := follows_mixed
    clear h1 h2 HR hN0 en hlv hlb HO
    gi_wp2_with fail
    gi_region_with_o (first | fail)
    all_goals rw [← HEX.out]
    all_goals (have h6 := HN.out.putObj D (.deferred none) (by omega); have hTK := run_takeDeferred (P := Try.prog) HK.out; obtain ⟨W', hW'⟩ : ∃ W', W' = X.putObj D (.deferred none) := ⟨_, rfl⟩; rw [← hW'] at h6 hTK)
    all_goals (have c1 := h6.b1.cell 0; have c2 := h6.b2.cell 0; simp only [List.getElem?_toArray, List.getElem?_cons_zero] at c1 c2; have H6 := Lib.hid h6.low; clear h6 hW' c3 c4 g1 g2 f1 f2 HN HEX)
    all_goals gi_wp2_with fail
    all_goals refine ⟨by simp, .inl ⟨_, _, rfl, hTK, ?_⟩⟩
    all_goals rw [← HLV.out, ← HLB.out]
    all_goals exact ⟨.tuple #[.int .i64 lv, .bool lb], by simp [results, Try.results13, go_sem, *], rfl, H6.out⟩
  case hstop =>
    rintro D W hD ⟨i, lv, lb, h1, h2, h3, h4, h5⟩ hK
    have EN : Hid (o = some i) := HO.out.trans (M.next_some h1 h2 h3 h4)
    have h6 := h5.putObj D (.deferred none) (by omega)
    obtain ⟨W', hW'⟩ : ∃ W', W' = W.putObj D (.deferred none) := ⟨_, rfl⟩
    have hTK := run_takeDeferred (P := Try.prog) hK
    rw [← hW'] at h6 hTK
    have c1 := h6.b1.cell 0
    have c2 := h6.b2.cell 0
    simp only [List.getElem?_toArray, List.getElem?_cons_zero] at c1 c2
    have H6 := Lib.hid h6.low
    clear h1 h2 h3 h4 h5 h6 HR hN0 hW' HO
    gi_wp2_with fail
    refine ⟨by simp, .inl ⟨_, _, rfl, hTK, ?_⟩⟩
    rw [EN.out]
    exact ⟨.tuple #[.int .i64 (i : Nat), .bool true], by simp [results, Try.results13, go_sem, *], rfl, H6.out⟩

theorem next_n (a : Int) (w : World) {p : Option Addr} {m : Nat} {f : Nat → Bool} (hR : SetN w p m f) :
    Calls Try.prog 13 #[.pointer p, .int .i64 a] w fun e w' => e = .returned (.tuple #[.int .i64 (M.num (M.next m f a)), .bool (M.next m f a).isSome]) ∧ Below w.heap.size w w' := callsIn_wide.1 (next_in a w hR)
end Go.Proofs.Ytmgppfehgjildaa
