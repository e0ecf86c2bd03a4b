/-
  Walks over ring.walk and ring.inOrder, at things that are ints: a method value that is ranged over.
-/
import Derived.Test.YtlpcjfjjfnnbcaaRBase
import Derived.Test.YtlpcjfjjfnnbcaaRRange
import Derived.Shelf.Abstract
import Derived.Shelf.RegionOpen
import Derived.OwnWalkIn
import Derived.TacticsInMore
import Derived.LoopNIn
import Derived.LoopIn
import Derived.Deep.OwnRows
namespace Go.Proofs.Ytlpcjfjjfnnbcaa
open Go.RowKit Go.Shelf
attribute [local go_sem] Oper.semAt_some

theorem follows_mixed : Try.prog.follows .mixedOrders = true := by kernel_rfl

set_option maxRecDepth 100000 in
set_option maxHeartbeats 2000000 in
theorem tell_in (n l : Nat) {b g most : Nat} {A : Option Addr} {ss : List Int} {f : Nat} {L : List Int} (J : Nat → World → Prop)
    (hJ : ∀ k W, J k W → Ring W b g most A ss f L) (hD : ∀ k W m, J k W → J k (World.drewN W m))
    (hY : ∀ k (hk : k < L.length) W, J k W → YieldAt Fence.wide n Try.prog l #[.int .i64 (k : Nat), .int .i64 (L[k]'hk)] W fun e W' => e = .returned (.bool true) ∧ J (k + 1) W')
    (W : World) (h0 : J 0 W) :
    CallsIn Fence.wide (n + 1) Try.prog 38 #[.pointer (some ⟨b, 0, none⟩), .func (.yield l) #[] #[]] W fun e W' => (∃ v, e = .returned v) ∧ J L.length W' := by
  have hmix := follows_mixed
  have HR := Lib.hid (hJ 0 W h0)
  have HC : Hid (∀ m, CallsIn Fence.wide m Try.prog 16 #[.pointer (some ⟨b, 0, none⟩)] W fun e w' => e = .returned (.int .i64 (L.length : Nat)) ∧ w' = W) := fun m => callsIn_wide.2 (len_any W HR.out)
  have HL := Lib.hid HR.out.lies
  have hle := HR.out.le
  have hm := HR.out.most
  have hll := HL.out.le
  have HY := Lib.hid hY
  have HJ := Lib.hid hJ
  have HD := Lib.hid hD
  clear hY hJ hD
  obtain ⟨len, hlen⟩ : ∃ x, x = L.length := ⟨_, rfl⟩
  rw [← hlen] at HC hll
  rw [← hlen]
  have HN := Lib.hid hlen
  clear hlen
  refine callsIn_of_wp Try.func38 rfl trivial ?_ rfl
  simp only [Try.ntmps38, List.size_toArray, List.length_cons, List.length_nil, Nat.reduceAdd, Nat.reduceSub, Array.replicate_succ, Array.replicate_zero, List.push_toArray, List.append_toArray, List.nil_append, List.cons_append]
  gi_wp2_with (refine ⟨trivial, ?_⟩; gi_at_call 16; refine (HC.out _).mono ?_; rintro e w1 ⟨rfl, rfl⟩)
  gi_loopw [7] (fun i wr => ∃ k : Nat, k ≤ len ∧ i = .int .i64 k ∧ J k wr) (fun i _ => len - (intOf i).toNat)
  case atStart => exact ⟨0, Nat.zero_le _, rfl, h0⟩
  case round =>
    obtain ⟨k, hk, rfl, hJk⟩ := hrel
    have HRk := Lib.hid (HJ.out k wr hJk)
    have HJk := Lib.hid hJk
    clear hJk h0 HC HR
    by_cases hlt : k < len
    · have hlt' : (k : Int) < (len : Int) := by omega
      have hkl : k < L.length := by rw [← HN.out]; exact hlt
      have hs : 0 < ss.length := by omega
      have hq : (f + k) % ss.length < ss.length := Nat.mod_lt _ hs
      have hx : ss[(f + k) % ss.length]'hq = L[k]'hkl := by
        have := HL.out.at_ k hkl
        rw [List.getElem?_eq_getElem hq] at this
        injection this
      have hc := HRk.out.cell (HRk.out.full hs).1 _ hq
      rw [hx] at hc
      have h0 := HRk.out.box.cell 0
      simp at h0
      rw [(HRk.out.full hs).1] at h0
      have HS : Hid (∀ x m, Ring x b g most A ss f L → CallsIn Fence.wide m Try.prog 27 #[.pointer (some ⟨b, 0, none⟩), .int .i64 k] x fun e w' => e = .returned (.int .i64 (((f + k) % ss.length : Nat) : Int)) ∧ ∃ n, w' = x.drewN n) := fun x m hx => callsIn_wide.2 (slotOf_any x hx hs k (by omega))
      have HYk := Lib.hid (HY.out k hkl)
      have HCq := Lib.hid (fun x (hx : Ring x b g most A ss f L) => hx.cell (hx.full hs).1 _ hq)
      rw [hx] at HCq
      obtain ⟨x, hx'⟩ : ∃ x, x = L[k]'hkl := ⟨_, rfl⟩
      rw [← hx'] at hc HYk HCq
      clear hx hx'
      obtain ⟨q, hq'⟩ : ∃ q, q = (f + k) % ss.length := ⟨_, rfl⟩
      rw [← hq'] at hc hq HS HCq
      have HBx : Hid (∀ x : World, Ring x b g most A ss f L → x.cell? ⟨b, 0, none⟩ = some (.slice (some ⟨g, 0, none⟩) ss.length ss.length)) := fun x hx => by
        have h0 := hx.box.cell 0
        simp at h0
        rw [(hx.full hs).1] at h0
        exact h0
      obtain ⟨z, hz⟩ : ∃ z, z = ss.length := ⟨_, rfl⟩
      rw [← hz] at h0 hq HBx
      have hq0 : (0 : Int) ≤ (q : Int) := by omega
      have hq1 : (q : Int) < (z : Int) := by omega
      clear hs hq' hz hkl
      gi_wp2_with fail
      gi_region_with_o (first
        | (refine ⟨trivial, ?_⟩; gi_at_call 27; refine (HS.out _ _ HRk.out.drew).mono ?_; rintro e w2 ⟨rfl, m, hw2⟩
           have hJ2 : Hid (J k w2) := by rw [hw2]; exact HD.out k _ m (HD.out k _ 1 HJk.out)
           have hc2 := HCq.out w2 (HJ.out k w2 hJ2.out)
           have h02 := HBx.out w2 (HJ.out k w2 hJ2.out)
           clear hw2
           obtain ⟨fn, tmps, assign, body, hy, hR⟩ := HYk.out w2 hJ2.out)
        | (refine hR.mono ?_; rintro e W3 ⟨rfl, hJ3⟩))
      all_goals (gi_wp2_with fail)
      all_goals go_roundw
      all_goals first
        | exact ⟨k + 1, by omega, by go_num, hJ3⟩
        | (simp [intOf]; omega)
    · have e : k = len := by omega
      subst e
      gi_wp2_with fail
      go_end0
      exact ⟨⟨_, rfl⟩, HJk.out⟩

theorem infoI : (Try.prog.info? 3).map (fun i => (i.zero, i.size, i.bytes)) = some (some (.int .i64 0), 1, 8) := by kernel_rfl
theorem madeI (n : Nat) : madeCells #[Value.int .i64 0] n = ((List.replicate n (0 : Int)).map (Value.int .i64)).toArray := by
  apply Array.ext
  · simp [madeCells]
  · intro i h1 h2
    simp [madeCells, Nat.mod_one]

set_option maxRecDepth 100000 in
set_option maxHeartbeats 2000000 in
theorem inOrder_in (w : World) (n : Nat) (hn0 : n ≤ 1000) {b g most : Nat} {A : Option Addr} {ss : List Int} {f : Nat} {L : List Int} (hR : Ring w b g most A ss f L) (hn : L.length ≤ n) :
    CallsIn Fence.wide 3 Try.prog 29 #[.pointer (some ⟨b, 0, none⟩), .int .i64 n] w fun e w' => e = .returned (.slice (some ⟨w.heap.size, 0, none⟩) n n) ∧
      Box w' w.heap.size 3 ((L ++ List.replicate (n - L.length) 0).map (Value.int .i64)).toArray ∧ Below w.heap.size w w' := by
  have hmk : ∀ W : World, (Instr.makeSlice 37 (.int .i64 (n : Int)) (.int .i64 (n : Int))).run Try.prog W = .ok (.slice (some ⟨W.heap.size, 0, none⟩) n n) (W.alloc (.cells (madeCells #[.int .i64 0] n) 3)) :=
    fun W => run_make_row' 37 3 (.int .i64 0) 8 Try.underlying37 infoI rfl .i64 .i64 n (by omega) (by omega) W
  have HR := Lib.hid hR
  clear hR
  refine callsIn_of_wp_marks Try.func29 rfl trivial ?_ rfl
  simp only [Try.ntmps29, List.size_toArray, List.length_cons, List.length_nil, Nat.reduceAdd, Nat.reduceSub, Array.replicate_succ, Array.replicate_zero, List.push_toArray, List.append_toArray, List.nil_append, List.cons_append]
  gi_wp2_with fail
  obtain ⟨W0, hW0⟩ : ∃ W0, W0 = (w.alloc (Obj.cells (madeCells #[Value.int IntKind.i64 0] n) 3)).alloc (Obj.cells #[Value.slice (some ⟨w.heap.size, 0, none⟩) n n] 37) := ⟨_, rfl⟩
  have hz0 : W0.heap.size = w.heap.size + 2 := by rw [hW0]; simp
  have hbl0 : Below w.heap.size w W0 := by rw [hW0]; exact ((Below.refl _ w).alloc (Nat.le_refl _) _).alloc (by simp) _
  have hB0 : Box W0 w.heap.size 3 ((List.replicate n (0 : Int)).map (Value.int .i64)).toArray := by
    rw [hW0, madeI]
    exact (Below.heap_alloc _ _ _ (by simp)).trans (heap_alloc_new w _)
  have hV0 : Box W0 (w.heap.size + 1) 37 #[Value.slice (some ⟨w.heap.size, 0, none⟩) n n] := by
    rw [hW0]
    have := heap_alloc_new (w.alloc (Obj.cells (madeCells #[Value.int IntKind.i64 0] n) 3)) (Obj.cells #[Value.slice (some ⟨w.heap.size, 0, none⟩) n n] 37)
    rwa [World.size_alloc] at this
  rw [← hW0]
  clear hW0 hmk
  have hRw := HR.out
  have hbw := hRw.box.lt
  have hgw : ∀ (x : World), Below w.heap.size w x → Ring x b g most A ss f L := fun x hx =>
    ⟨hRw.box.below hx hbw, hRw.slots.imp id (fun e => ⟨e.1, e.2.below hx e.2.lt⟩), hRw.lies, hRw.le, hRw.most, hRw.ne⟩
  refine range_bound (m := 1) (gf := 38) (bd := #[.pointer (some ⟨b, 0, none⟩)]) rfl (enters_of Try.func38 (by kernel_rfl) rfl) L.length
    (fun k hk => #[.int .i64 (k : Nat), .int .i64 (L[k]'hk)]) (fun _ _ => rfl)
    (fun k W => Box W w.heap.size 3 ((L.take k ++ List.replicate (n - k) (0 : Int)).map (Value.int .i64)).toArray ∧ Box W (w.heap.size + 1) 37 #[Value.slice (some ⟨w.heap.size, 0, none⟩) n n] ∧ Below w.heap.size w W)
    ?hIa ?hIp ?hId ?h0
    (fun k hk => { tmps := #[.pointer (some ⟨b, 0, none⟩), .int .i64 n, undef, undef, .slice none 0 0, .pointer (some ⟨w.heap.size + 1, 0, none⟩), .int .i64 (k : Nat), .int .i64 (L[k]'hk), .int .i64 n, .slice (some ⟨w.heap.size, 0, none⟩) n n, .pointer (some ⟨b, 0, none⟩), .func (.func 38) #[.pointer (some ⟨b, 0, none⟩)] #[], .int .i64 (k : Nat), .int .i64 (L[k]'hk), undef, undef, undef, undef, undef], defers := [] })
    ?hit ?hassign ?hbody ?hdone
  case hIa =>
    rintro k W o ⟨h1, h2, h3⟩
    exact ⟨(Below.heap_alloc W o _ h1.lt).trans h1, (Below.heap_alloc W o _ h2.lt).trans h2, h3.alloc h3.size o⟩
  case hIp =>
    rintro k W l o ⟨h1, h2, h3⟩ hl
    exact ⟨(World.putObj_heap_other (by omega)).trans h1, (World.putObj_heap_other (by omega)).trans h2, h3.trans ⟨rfl, rfl, rfl, by simp, fun i hi => World.putObj_heap_other (by omega)⟩⟩
  case hId =>
    rintro k W m ⟨h1, h2, h3⟩
    exact ⟨h1, h2, below_drewN h3 m⟩
  case h0 => exact ⟨by simpa using hB0, hV0, hbl0⟩
  case hit =>
    intro l J hJ hD hY W h0
    exact tell_in 1 l J (fun k W h => hgw W (hJ k W h).2.2) hD hY W h0
  case hassign =>
    intro l k hk W K hK
    gi_wp2
    exact hK
  case hbody =>
    rintro l k hk W ⟨h1, h2, h3⟩
    have c1 := h2.cell 0
    simp at c1
    have c2 := h1.cell k
    rw [List.getElem?_toArray, List.getElem?_map, M.take_here L 0 n k hk hn] at c2
    simp at c2
    have c3 := h1.frozen k
    have hk0 : (0 : Int) ≤ (k : Int) := by omega
    have hk1 : (k : Int) < (n : Int) := by omega
    have hs := h1.set k (.int .i64 (L[k]'hk))
    rw [List.setIfInBounds_toArray, ← List.map_set, M.take_step L 0 n k hk hn] at hs
    have hX : Hid (goesOn W0.heap.size W (fun W => Box W w.heap.size 3 ((L.take (k + 1) ++ List.replicate (n - (k + 1)) (0 : Int)).map (Value.int .i64)).toArray ∧ Box W (w.heap.size + 1) 37 #[Value.slice (some ⟨w.heap.size, 0, none⟩) n n] ∧ Below w.heap.size w W) .normal ⟨#[], []⟩ (W.setCell ⟨w.heap.size, k, none⟩ (.int .i64 (L[k]'hk)))) :=
      ⟨by simp [World.setCell], fun j hj _ => Below.heap_setCell W _ _ j (by simp only; omega), hs, (Below.heap_setCell W _ _ _ (by simp only; omega)).trans h2, h3.setCell (p := ⟨w.heap.size, k, none⟩) (Nat.le_refl _) _⟩
    clear h1 h2 h3 hs HR hRw hgw hbw hB0 hV0 hbl0
    obtain ⟨x, hx⟩ : ∃ x, x = L[k]'hk := ⟨_, rfl⟩
    rw [← hx] at hX
    rw [← hx]
    clear hx
    gi_wp2_with fail
    exact hX.out
  case hdone =>
    rintro D W hD ⟨h1, h2, h3⟩ hK
    have c1 := h2.cell 0
    simp at c1
    rw [List.take_length] at h1
    have H1 := Lib.hid h1
    have H2 := Lib.hid h2
    have H3 := Lib.hid h3
    clear h1 h2 h3 HR hRw hgw hbw hB0 hV0 hbl0
    gi_wp2_with fail
    refine ⟨by simp, .inl ⟨_, _, rfl, run_takeDeferred hK, ?_⟩⟩
    exact ⟨_, results_tmp rfl _ _ _, rfl, (World.putObj_heap_other (by omega)).trans H1.out, H3.out.trans ⟨rfl, rfl, rfl, by simp, fun i hi => World.putObj_heap_other (by omega)⟩⟩

theorem inOrder_any (w : World) (n : Nat) (hn0 : n ≤ 1000) {b g most : Nat} {A : Option Addr} {ss : List Int} {f : Nat} {L : List Int} (hR : Ring w b g most A ss f L) (hn : L.length ≤ n) :
    Calls Try.prog 29 #[.pointer (some ⟨b, 0, none⟩), .int .i64 n] w fun e w' => e = .returned (.slice (some ⟨w.heap.size, 0, none⟩) n n) ∧
      Box w' w.heap.size 3 ((L ++ List.replicate (n - L.length) 0).map (Value.int .i64)).toArray ∧ Below w.heap.size w w' :=
  callsIn_wide.1 (inOrder_in w n hn0 hR hn)
end Go.Proofs.Ytlpcjfjjfnnbcaa
