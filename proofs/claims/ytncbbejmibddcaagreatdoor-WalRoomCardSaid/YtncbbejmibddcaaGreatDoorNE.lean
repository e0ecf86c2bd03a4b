/-
  The steps of wal.Format and wal.moveOn as function values; a disk beside what stands apart.
-/
import Derived.Test.YtncbbejmibddcaaGreatDoorNB
namespace Go.Proofs.YtncbbejmibddcaaGreatDoor
open Go.RowKit

section
variable {y0 y y' : World} {a : Nat} {P F : Nat → Prop} {d d' : M.D}
/-- A call that is known for whatever blocks the disk has. -/
theorem One.call {f : FuncId} {args : Array Value} {v : Value} (h : One y0 y a P F d) (C : ∀ Q, (∀ k, Q k → k < y.heap.size ∧ ¬ F k) → Disk y a Q d → Calls Tryz.prog f args y fun e y' => e = .returned v ∧ Disk y' a (M.plus Q y.heap.size) d' ∧ Kept Q y y') :
    Calls Tryz.prog f args y fun e y' => e = .returned v ∧ One y0 y' a P F d' ∧ Kept (fun k => ¬ F k) y y' := by
  obtain ⟨Q, hd, hQ, hF, hk⟩ := h
  refine (C Q (fun k e => ⟨(hQ k e).2.1, (hQ k e).1⟩) hd).mono ?_
  rintro e y' ⟨he, h1, h2⟩
  obtain ⟨h3, h4⟩ := One.step (P := P) (y0 := y0) hQ hF hk h1 h2
  exact ⟨he, h3, h4⟩
end

/-- Flush, in this form. -/
theorem flush14_any (w : World) {a : Nat} {P : Nat → Prop} {d : M.D} (h : Disk w a P d) (ho : d.ops ≤ 1099511627776) :
    Calls Tryz.prog 63 #[.pointer (some ⟨a, 0, none⟩)] w fun e w' => e = .returned (.int .i64 (M.beginE d)) ∧ Disk w' a (M.plus P w.heap.size) (M.flushD d) ∧ Kept P w w' :=
  (flush_any w h ho).mono fun _ _ ⟨h1, h2, h3⟩ => ⟨h1, h2.mono (fun _ _ e => Or.inl e), h3⟩

set_option maxHeartbeats 1000000 in
theorem format1_any (lb sb : Nat) (s : ByteArray) (w : World) {a fr ra rr mn : Nat} {P : Nat → Prop} {d : M.D} (h : Disk w a P d) (hL : LogB w lb a fr ra rr) (hr : Reg w ra a fr mn) (hp : ¬ P ra) (hs : Box w sb 9 #[.string s]) (hsz : s.size ≤ 1000000000) (hf : fr ≤ 1000) (hmn : mn ≤ 1000) (ho : d.ops ≤ 1000000000) :
    Calls Tryz.prog 61 #[.pointer (some ⟨lb, 0, none⟩), .pointer (some ⟨sb, 0, none⟩)] w fun e w' => e = .returned (.int .i64 (M.gwrite d fr mn 0 s).1) ∧ Disk w' a (M.plus P w.heap.size) (M.gwrite d fr mn 0 s).2 ∧ Kept P w w' := by
  have C1 := Lib.hid (gwrite_any 0 s w h hr hp (by omega) hsz hf hmn ho)
  obtain ⟨c0, c1, c2, c3⟩ := hL.cells
  have s0 := hs.cell 0
  clear h hL hr hp hs hsz hf hmn ho
  go_enter Tryz.func61, Tryz.ntmps61
  go_wp2_with fail
  refine C1.out.mono ?_
  rintro e w1 ⟨rfl, h1, h2⟩
  go_wp2_with fail
  go_ret
  exact ⟨rfl, h1, h2⟩

set_option maxHeartbeats 1000000 in
theorem format2_any (lb : Nat) (w : World) {a fr ra rr mn : Nat} {P : Nat → Prop} {d : M.D} (h : Disk w a P d) (hL : LogB w lb a fr ra rr) (hr : Reg w ra a fr mn) (hp : ¬ P ra) (hf : fr ≤ 1000) (hmn : mn ≤ 1000) (ho : d.ops ≤ 100000000) :
    Calls Tryz.prog 64 #[.pointer (some ⟨lb, 0, none⟩)] w fun e w' => e = .returned (.int .i64 (M.headW d fr mn 1 1 0).1) ∧ Disk w' a (M.plus P w.heap.size) (M.headW d fr mn 1 1 0).2 ∧ Kept P w w' := by
  have C1 := Lib.hid (putHead_any 1 1 0 (by decide) w h hr hp hf hmn ho (rr := rr))
  unfold M.logv at C1
  obtain ⟨c0, c1, c2, c3⟩ := hL.cells
  clear h hL hr hp hf hmn ho
  go_enter Tryz.func64, Tryz.ntmps64
  go_wp2_with fail
  refine C1.out.mono ?_
  rintro e w1 ⟨rfl, h1, h2⟩
  go_wp2_with fail
  go_ret
  exact ⟨rfl, h1, h2⟩

set_option maxHeartbeats 1000000 in
theorem moveOn1_any (lb sb : Nat) (A : Option Addr) (c : Nat) (L : List (Nat × ByteArray)) (hl : L.length ≤ 100000) (w : World) {a fr ra rr : Nat} {P : Nat → Prop} {d : M.D} (h : Disk w a P d) (hL : LogB w lb a fr ra rr) (hs : Box w sb 40 #[.slice A L.length c]) (x : Nat → Int) (t : Nat → ByteArray) (hS : SecF w A L.length x t)
    (hx : ∀ k p, L[k]? = some p → x k = (p.1 : Nat) ∧ t k = p.2) (hP : ∀ ad, A = some ad → ¬ P ad.block) (ho : d.ops ≤ 1000000000) :
    Calls Tryz.prog 76 #[.pointer (some ⟨lb, 0, none⟩), .pointer (some ⟨sb, 0, none⟩)] w fun e w' => e = .returned (.int .i64 (M.wr L d).1) ∧ Disk w' a (M.plus P w.heap.size) (M.wr L d).2 ∧ Kept P w w' := by
  have C1 := Lib.hid (layDown_any A c fr ra rr L hl w h x t hS hx hP ho)
  unfold M.logv at C1
  obtain ⟨c0, c1, c2, c3⟩ := hL.cells
  have s0 := hs.cell 0
  clear h hL hs hS hx hP ho hl
  go_enter Tryz.func76, Tryz.ntmps76
  go_wp2_with fail
  refine C1.out.mono ?_
  rintro e w1 ⟨rfl, h1, h2⟩
  go_wp2_with fail
  go_ret
  exact ⟨rfl, h1, h2⟩

set_option maxHeartbeats 1000000 in
theorem moveOn2_any (lb hb : Nat) (g q k : Nat) (hm : M.hmay ⟨g, q, k⟩ = true) (w : World) {a fr ra rr mn : Nat} {P : Nat → Prop} {d : M.D} (h : Disk w a P d) (hL : LogB w lb a fr ra rr) (hH : B3 w hb 69 (g : Nat) (q : Nat) (k : Nat)) (hr : Reg w ra a fr mn) (hp : ¬ P ra) (hf : fr ≤ 1000) (hmn : mn ≤ 1000) (ho : d.ops ≤ 100000000) :
    Calls Tryz.prog 78 #[.pointer (some ⟨lb, 0, none⟩), .pointer (some ⟨hb, 0, none⟩)] w fun e w' => e = .returned (.int .i64 (M.headW d fr mn g q k).1) ∧ Disk w' a (M.plus P w.heap.size) (M.headW d fr mn g q k).2 ∧ Kept P w w' := by
  have C1 := Lib.hid (putHead_any g q k hm w h hr hp hf hmn ho (rr := rr))
  unfold M.logv at C1
  obtain ⟨c0, c1, c2, c3⟩ := hL.cells
  obtain ⟨h0, h1, h2⟩ := hH.cells
  clear h hL hH hr hp hf hmn ho hm
  go_enter Tryz.func78, Tryz.ntmps78
  go_wp2_with fail
  refine C1.out.mono ?_
  rintro e w1 ⟨rfl, h1, h2⟩
  go_wp2_with fail
  go_ret
  exact ⟨rfl, h1, h2⟩
end Go.Proofs.YtncbbejmibddcaaGreatDoor
