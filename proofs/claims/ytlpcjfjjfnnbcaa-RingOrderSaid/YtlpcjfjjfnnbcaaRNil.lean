/-
  Walks over ring.walk, inOrder and All of a ring that is none, and over solderlaw06.RingNone.
-/
import Derived.Test.YtlpcjfjjfnnbcaaRWorks
namespace Go.Proofs.Ytlpcjfjjfnnbcaa
open Go.RowKit Go.Shelf

section
attribute [local go_sem] Oper.semAt_some
set_option maxRecDepth 100000 in
theorem walk_nil_in (n l : Nat) (J : Nat → World → Prop) (W : World) (h0 : J 0 W) :
    CallsIn Fence.wide (n + 1) Try.prog 38 #[.pointer none, .func (.yield l) #[] #[]] W fun e W' => (∃ v, e = .returned v) ∧ J 0 W' := by
  have HC : Hid (∀ m, CallsIn Fence.wide m Try.prog 16 #[.pointer none] W fun e w' => e = .returned (.int .i64 0) ∧ w' = W) := fun m => callsIn_wide.2 (len_nil W)
  refine callsIn_of_wp Try.func38 rfl trivial ?_ rfl
  simp only [Try.ntmps38, List.size_toArray, List.length_cons, List.length_nil, Nat.reduceAdd, Nat.reduceSub, Array.replicate_succ, Array.replicate_zero, List.push_toArray, List.append_toArray, List.nil_append, List.cons_append]
  gi_wp2_with (refine ⟨trivial, ?_⟩; gi_at_call 16; refine (HC.out _).mono ?_; rintro e w1 ⟨rfl, rfl⟩)
  gi_loopw [7] (fun i wr => i = .int .i64 0 ∧ J 0 wr) (fun i _ => 0)
  case atStart => exact ⟨rfl, h0⟩
  case round =>
    obtain ⟨rfl, hJk⟩ := hrel
    have HJk := Lib.hid hJk
    clear hJk h0 HC
    gi_wp2_with fail
    go_end0
    exact ⟨⟨_, rfl⟩, HJk.out⟩

set_option maxRecDepth 100000 in
theorem inOrder_nil_in (w : World) :
    CallsIn Fence.wide 3 Try.prog 29 #[.pointer none, .int .i64 0] w fun e w' => e = .returned (.slice (some ⟨w.heap.size, 0, none⟩) 0 0) ∧ Below w.heap.size w w' := by
  have hmk : ∀ W : World, (Instr.makeSlice 37 (.int .i64 0) (.int .i64 0)).run Try.prog W = .ok (.slice (some ⟨W.heap.size, 0, none⟩) 0 0) (W.alloc (.cells (madeCells #[.int .i64 0] 0) 3)) :=
    fun W => run_make_row' 37 3 (.int .i64 0) 8 Try.underlying37 infoI rfl .i64 .i64 0 (by omega) (by omega) W
  refine callsIn_of_wp_marks Try.func29 rfl trivial ?_ rfl
  simp only [Try.ntmps29, List.size_toArray, List.length_cons, List.length_nil, Nat.reduceAdd, Nat.reduceSub, Array.replicate_succ, Array.replicate_zero, List.push_toArray, List.append_toArray, List.nil_append, List.cons_append]
  gi_wp2_with fail
  obtain ⟨W0, hW0⟩ : ∃ W0, W0 = (w.alloc (Obj.cells (madeCells #[Value.int IntKind.i64 0] 0) 3)).alloc (Obj.cells #[Value.slice (some ⟨w.heap.size, 0, none⟩) 0 0] 37) := ⟨_, rfl⟩
  have hz0 : W0.heap.size = w.heap.size + 2 := by rw [hW0]; simp
  have hbl0 : Below w.heap.size w W0 := by rw [hW0]; exact ((Below.refl _ w).alloc (Nat.le_refl _) _).alloc (by simp) _
  have hV0 : Box W0 (w.heap.size + 1) 37 #[Value.slice (some ⟨w.heap.size, 0, none⟩) 0 0] := by
    rw [hW0]
    have := heap_alloc_new (w.alloc (Obj.cells (madeCells #[Value.int IntKind.i64 0] 0) 3)) (Obj.cells #[Value.slice (some ⟨w.heap.size, 0, none⟩) 0 0] 37)
    rwa [World.size_alloc] at this
  rw [← hW0]
  clear hW0 hmk
  refine range_bound (m := 1) (gf := 38) (bd := #[.pointer none]) rfl (enters_of Try.func38 (by kernel_rfl) rfl) 0
    (fun _ _ => #[.int .i64 0, .int .i64 0]) (fun _ _ => rfl)
    (fun k W => Box W (w.heap.size + 1) 37 #[Value.slice (some ⟨w.heap.size, 0, none⟩) 0 0] ∧ Below w.heap.size w W)
    ?hIa ?hIp ?hId ?h0 (fun k hk => absurd hk (by omega)) ?hit ?hassign ?hbody ?hdone
  case hIa =>
    rintro k W o ⟨h2, h3⟩
    exact ⟨(Below.heap_alloc W o _ h2.lt).trans h2, h3.alloc h3.size o⟩
  case hIp =>
    rintro k W l o ⟨h2, h3⟩ hl
    exact ⟨(World.putObj_heap_other (by omega)).trans h2, h3.trans ⟨rfl, rfl, rfl, by simp, fun i hi => World.putObj_heap_other (by omega)⟩⟩
  case hId =>
    rintro k W m ⟨h2, h3⟩
    exact ⟨h2, below_drewN h3 m⟩
  case h0 => exact ⟨hV0, hbl0⟩
  case hit =>
    intro l J hJ hD hY W h0
    exact walk_nil_in 1 l J W h0
  case hassign =>
    intro l k hk W K hK
    omega
  case hbody =>
    rintro l k hk W _
    omega
  case hdone =>
    rintro D W hD ⟨h2, h3⟩ hK
    have c1 := h2.cell 0
    simp at c1
    have H3 := Lib.hid h3
    clear h2 h3 hV0 hbl0
    gi_wp2_with fail
    refine ⟨by simp, .inl ⟨_, _, rfl, run_takeDeferred hK, ?_⟩⟩
    exact ⟨_, results_tmp rfl _ _ _, rfl, H3.out.trans ⟨rfl, rfl, rfl, by simp, fun i hi => World.putObj_heap_other (by omega)⟩⟩
end

theorem inOrder_nil (w : World) :
    Calls Try.prog 29 #[.pointer none, .int .i64 0] w fun e w' => e = .returned (.slice (some ⟨w.heap.size, 0, none⟩) 0 0) ∧ Below w.heap.size w w' :=
  callsIn_wide.1 (inOrder_nil_in w)

theorem all_any (p : Option Addr) (w : World) :
    Calls Try.prog 18 #[.pointer p] w fun e w' => e = .returned (.func (.func 28) #[] #[.pointer (some ⟨w.heap.size, 0, none⟩)]) ∧ w' = w.alloc (.cells #[.pointer p] 24) := by
  go_enter Try.func18, Try.ntmps18
  go_wp2_with fail
  go_ret
  exact ⟨rfl, rfl⟩

theorem equalIn_fn {P : Program} (w : World) (d : Nat) (t : TypeId) {ps rs : Array TypeId} {v : Bool} (f : Fn) (a b : Array Value) (h : P.underlying t = some (.func ps rs v)) : (Op.equalIn (d + 1) t (.func f a b) .nilFunc).run P w = .ok false w := by
  simp [Op.equalIn, run_underlying h]
theorem eql_fn {P : Program} (w : World) (t : TypeId) {ps rs : Array TypeId} {v : Bool} (f : Fn) (a b : Array Value) (h : P.underlying t = some (.func ps rs v)) : (binOp .eql t (.func f a b) .nilFunc).run P w = .ok (.bool false) w := by
  have e : (Op.equal t (.func f a b) .nilFunc).run P w = .ok false w := equalIn_fn w 9999 t f a b h
  simp [binOp, e]

set_option maxRecDepth 100000 in
theorem all1_nil (B T : Nat) (w : World) (hB : w.cell? ⟨B, 0, none⟩ = some (.pointer none)) :
    Calls Try.prog 28 #[.func (.func 25) #[] #[.pointer (some ⟨T, 0, none⟩)], .pointer (some ⟨B, 0, none⟩)] w fun e w' => e = .returned (.tuple #[]) ∧ Below w.heap.size w w' := by
  have hfn : ∀ (f : Fn) (a b : Array Value) (W : World), (binOp .eql 42 (.func f a b) .nilFunc).run Try.prog W = .ok (.bool false) W := fun f a b W => eql_fn W _ f a b Try.underlying42
  go_enter Try.func28, Try.ntmps28
  go_wp2_with fail
  go_region_held3 (fun y => y.cell? ⟨B, 0, none⟩ = some (.pointer none)) (first | assumption | exact hB)
    (first
      | (go_at_call 16; refine (len_nil _).mono ?_; rintro e w1 ⟨rfl, rfl⟩)
      | (go_at_call 29; refine (inOrder_nil _).mono ?_; rintro e w2 ⟨rfl, hb2⟩; have hB2 := (hb2.cell (p := ⟨B, 0, none⟩) (World.block_lt_of_cell? w _ hB)).trans hB))
  have HB2 := Lib.hid hb2
  clear hb2 hB2
  go_wp2_with fail
  go_loopw [12] (fun i wr => i = .int .i64 0 ∧ wr = w2) (fun _ _ => 0)
  case atStart => exact ⟨rfl, rfl⟩
  case round =>
    obtain ⟨rfl, rfl⟩ := hrel
    go_wp2_with fail
    go_end0
    exact ⟨rfl, (Below.refl _ w).drew.trans HB2.out⟩

set_option maxHeartbeats 1000000 in
theorem ringNone_walk (n : Int) (_n0 : -9223372036854775808 ≤ n) (_n9 : n ≤ 9223372036854775807) (w : World) :
    Calls Try.prog 5 #[.int .i64 n] w fun e w' => e = .returned (.bool true) ∧ Below w.heap.size w w' := by
  go_enter Try.func5, Try.ntmps5
  go_wp2_with fail
  refine (works_any w).mono ?_
  rintro e w1 ⟨rfl, hb1⟩
  go_wp2_with fail
  refine (pop_nil w1).mono ?_
  rintro e w2 ⟨rfl, rfl⟩
  go_wp2_with fail
  refine (at_nil n w2).mono ?_
  rintro e w3 ⟨rfl, rfl⟩
  have HB1 := Lib.hid hb1
  have HT := Lib.hid (Box.new w3 4 #[.bool false])
  have HB2 := Lib.hid (HB1.out.alloc HB1.out.size (.cells #[.bool false] 4))
  clear hb1
  go_wp2_with fail
  obtain ⟨w4, hw4⟩ : ∃ x, x = w3.alloc (.cells #[.bool false] 4) := ⟨_, rfl⟩
  rw [← hw4] at HT HB2
  rw [← hw4]
  obtain ⟨T, hT⟩ : ∃ T, T = w3.heap.size := ⟨_, rfl⟩
  rw [← hT] at HT
  rw [← hT]
  clear hw4 hT HB1
  refine (all_any none w4).mono ?_
  rintro e w5 ⟨rfl, hw5⟩
  have HT5 : Hid (Box w5 T 4 #[.bool false]) := by rw [hw5]; exact (Below.heap_alloc _ _ _ HT.out.lt).trans HT.out
  have HA5 : Hid (Box w5 w4.heap.size 24 #[.pointer none]) := by rw [hw5]; exact Box.new _ _ _
  have HB5 : Hid (Below w.heap.size w w5) := by rw [hw5]; exact HB2.out.alloc HB2.out.size _
  clear hw5 HT HB2
  go_wp2_with fail
  refine (all1_nil w4.heap.size T w5 (by have := HA5.out.cell 0; simpa using this)).mono ?_
  rintro e w6 ⟨rfl, hb6⟩
  have hT6 : w6.cell? ⟨T, 0, none⟩ = some (.bool false) := by
    have := (HT5.out.below hb6 HT5.out.lt).cell 0
    simpa using this
  have HB6 : Hid (Below w.heap.size w w6) := HB5.out.trans (hb6.mono HB5.out.size)
  clear hb6 HT5 HA5 HB5
  go_wp2_with fail
  refine (push_nil n w6).mono ?_
  rintro e w7 ⟨rfl, rfl⟩
  go_wp2_with fail
  refine (drop_nil n w7).mono ?_
  rintro e w8 ⟨rfl, rfl⟩
  go_wp2_with fail
  refine (len_nil w8).mono ?_
  rintro e w9 ⟨rfl, rfl⟩
  go_wp2_with fail
  refine (room_nil w9).mono ?_
  rintro e w10 ⟨rfl, rfl⟩
  go_wp2_with fail
  go_ret
  exact ⟨rfl, HB6.out⟩
end Go.Proofs.Ytlpcjfjjfnnbcaa
