/-
  Walks over wal.logOn and Format where the log may not be.
-/
import Derived.Test.YtncbbejmibddcaaGreatDoorNI
namespace Go.Proofs.YtncbbejmibddcaaGreatDoor
open Go.RowKit

set_option maxHeartbeats 4000000 in
theorem logOn_no (fr mn : Int) (w : World) {a : Nat} {P : Nat → Prop} {d : M.D} (h : Disk w a P d) (hf : fr ≤ 9223372036854775807) (hno : mn < 24 ∨ 200 < mn ∨ M.within fr mn (d.S.length : Nat) = false) :
    Calls Tryz.prog 34 #[.pointer (some ⟨a, 0, none⟩), .int .i64 fr, .int .i64 mn] w fun e w' => e = .returned (.tuple #[.agg #[.pointer none, .int .i64 0, .pointer none, .pointer none], .int .i64 3]) ∧ Below w.heap.size w w' := by
  obtain ⟨W, hW⟩ : ∃ x, x = w.alloc (.cells #[.pointer none, .int .i64 0, .pointer none, .pointer none] 65) := ⟨_, rfl⟩
  have HB0 : Hid (Below w.heap.size w W) := by rw [hW]; exact below1 _ _
  have HX0 : Box W w.heap.size 65 #[.pointer none, .int .i64 0, .pointer none, .pointer none] := by rw [hW]; exact Box.new _ _ _
  have C1 : Hid (M.within fr mn (d.S.length : Nat) = false → Calls Tryz.prog 68 #[.pointer (some ⟨a, 0, none⟩), .int .i64 fr, .int .i64 mn] W fun e w' => e = .returned (.tuple #[.pointer none, .int .i64 3]) ∧ w' = W) := fun hy => new9_no fr mn W (h.beside HB0.out) hf hy
  have x0 := HX0.cell 0
  have x1 := HX0.cell 1
  have x2 := HX0.cell 2
  have x3 := HX0.cell 3
  have f0 := HX0.frozen 0
  have f1 := HX0.frozen 1
  have f2 := HX0.frozen 2
  have f3 := HX0.frozen 3
  by_cases h1 : mn < 24
  · clear h hf hno C1 x0 x1 x2 x3 f0 f1 f2 f3 HX0
    go_enter Tryz.func34, Tryz.ntmps34
    go_wp2_with fail
    exact bodyPost_ret (v := .tuple #[.agg #[.pointer none, .int .i64 0, .pointer none, .pointer none], .int .i64 3]) (by simp [results, Tryz.results34, go_sem]) rfl ⟨rfl, by (repeat refine Below.setCell ?_ (by simp) _); first | exact below1 _ _ | exact HB0.out⟩
  · by_cases h2 : 200 < mn
    · clear h hf hno C1 x0 x1 x2 x3 f0 f1 f2 f3 HX0
      go_enter Tryz.func34, Tryz.ntmps34
      go_wp2_with fail
      exact bodyPost_ret (v := .tuple #[.agg #[.pointer none, .int .i64 0, .pointer none, .pointer none], .int .i64 3]) (by simp [results, Tryz.results34, go_sem]) rfl ⟨rfl, by (repeat refine Below.setCell ?_ (by simp) _); first | exact below1 _ _ | exact HB0.out⟩
    · have C2 := Lib.hid (C1.out (hno.elim (fun e => absurd e h1) (fun e => e.elim (fun e => absurd e h2) id)))
      clear h hf hno C1 HX0
      go_enter Tryz.func34, Tryz.ntmps34
      go_wp2_with fail
      rw [← hW]
      clear hW
      refine C2.out.mono ?_
      rintro e w1 ⟨rfl, hw1⟩
      subst hw1
      go_wp2_with fail
      exact bodyPost_ret (v := .tuple #[.agg #[.pointer none, .int .i64 0, .pointer none, .pointer none], .int .i64 3]) (by simp [results, Tryz.results34, go_sem, *]) rfl ⟨rfl, by (repeat refine Below.setCell ?_ (by simp) _); exact HB0.out⟩

set_option maxHeartbeats 4000000 in
theorem format_no (fr mn : Int) (w : World) {a : Nat} {P : Nat → Prop} {d : M.D} (h : Disk w a P d) (hf : fr ≤ 9223372036854775807) (hno : mn < 24 ∨ 200 < mn ∨ M.within fr mn (d.S.length : Nat) = false) :
    Calls Tryz.prog 30 #[.pointer (some ⟨a, 0, none⟩), .int .i64 fr, .int .i64 mn] w fun e w' => e = .returned (.int .i64 3) ∧ Below w.heap.size w w' := by
  have C1 := Lib.hid (logOn_no fr mn w h hf hno)
  clear h hf hno
  go_enter Tryz.func30, Tryz.ntmps30
  go_wp2_with fail
  refine C1.out.mono ?_
  rintro e w1 ⟨rfl, hb1⟩
  have HB1 := Lib.hid (hb1.trans ((below1 w1 (.cells #[.pointer none, .int .i64 0, .pointer none, .pointer none] 65)).mono hb1.size))
  clear hb1 C1
  go_wp2_with fail
  go_ret
  exact ⟨rfl, HB1.out⟩
end Go.Proofs.YtncbbejmibddcaaGreatDoor
