/-
  Walk over count.Text, by the shelf's contract on strconv.Itoa; what it reads of the package-level variables.
-/
import Derived.Test.YtlmnmiomfhgcdaaDoorShelf
import Derived.WalkKit
import Derived.WalkSpells
import Derived.WalkSmall
import Derived.Lib.Hide
import Derived.Lib.ItoaLen
namespace Go.Proofs.YtlmnmiomfhgcdaaDoor
open Go.RowKit

theorem tab_below {P : Program} {W W' : World} {n : String} {cs : Array Value} (h : Below W.heap.size W W') (hv : W.var? P n = some cs) : W'.var? P n = some cs := by
  unfold World.var? at hv ⊢
  cases hg : P.globalNamed n with
  | none => rw [hg] at hv; cases hv
  | some g =>
    simp only [hg, Option.bind_some] at hv ⊢
    by_cases hlt : g < W.heap.size
    · rw [h.block g hlt]; exact hv
    · rw [Array.getElem?_eq_none (by omega)] at hv; cases hv
/-- What strconv.Itoa reads of the package-level variables. -/
def TabE (w : World) : Prop := Lib.TabIs Tryd.prog w "internal/strconv.uint64pow10" .u64 Lib.pow10Tab
theorem TabE.below {w w' : World} (h : TabE w) (hb : Below w.heap.size w w') : TabE w' := tab_below hb h

theorem below_grown (w : World) (k : Nat) (os : Array Obj) : Below w.heap.size w (Sort.grow (w.drewN k) os) :=
  ⟨rfl, rfl, rfl, by show w.heap.size ≤ (w.heap ++ os).size; simp, fun i hi => by show (w.heap ++ os)[i]? = _; rw [Array.getElem?_append_left hi]⟩

/-- What Text answers. -/
def M.itS (n : Int) : ByteArray := ⟨(Lib.itoa n).toArray⟩
theorem textT (n : Int) (h0 : -9223372036854775808 ≤ n) (h1 : n ≤ 9223372036854775807) (w : World) (hE : TabE w) :
    Calls Tryd.prog 27 #[.int .i64 n] w fun e w' => e = .returned (.string (M.itS n)) ∧ Below w.heap.size w w' := by
  have hT := Lib.hid hE
  clear hE
  go_enter Tryd.func27, Tryd.ntmps27
  go_wp2_with fail
  refine (Tryd.strconv_Itoa n h0 h1 _ hT.out).mono ?_
  rintro e w' ⟨rfl, k, os, hw⟩
  have hb := below_grown w k os
  rw [← hw] at hb
  clear hw
  go_wp2_with fail
  go_ret
  exact ⟨rfl, hb⟩
end Go.Proofs.YtlmnmiomfhgcdaaDoor
