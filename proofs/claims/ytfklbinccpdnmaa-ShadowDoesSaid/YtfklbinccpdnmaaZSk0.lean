/-
  A shadow that the call made. No function of the program in this text.
-/
import Derived.Test.YtfklbinccpdnmaaZMap
namespace Go.Proofs.Ytfklbinccpdnmaa
open Go.RowKit Go.Maps

/-- A shadow all of whose blocks are new since w; all of w is as it was. -/
structure Sk (T : TypeId) (w y : World) (b : Nat) (L K : List (Int × Value)) : Prop where
  sh : Sh T y b (fun k => w.heap.size ≤ k) L K
  low : Below w.heap.size w y
theorem Sk.step {T : TypeId} {w y y' : World} {b : Nat} {L K L' K' : List (Int × Value)} (h : Sk T w y b L K) (hs : Sh T y' b (M.plus13 (fun k => w.heap.size ≤ k) y.heap.size) L' K') (hk : Kept (fun k => w.heap.size ≤ k) y y') : Sk T w y' b L' K' :=
  ⟨hs.mono (fun k _ e => e.elim id (fun e => Nat.le_trans h.low.size e)), h.low.trans (hk.below h.low.size (fun k hk e => by omega))⟩
/-- Memory that stands apart is written, or new memory is made. -/
theorem Sk.beside {T : TypeId} {w y y' : World} {b : Nat} {L K : List (Int × Value)} (h : Sk T w y b L K) (hb : Below y.heap.size y y') : Sk T w y' b L K :=
  ⟨h.sh.kept (Kept.of_below hb (fun _ => False)) (fun _ _ => id), h.low.trans (hb.mono h.low.size)⟩
theorem Sk.up {T : TypeId} {w y : World} {b : Nat} {L K : List (Int × Value)} (h : Sk T w y b L K) : M.Rising L ∧ M.Rising K := let ⟨_, _, h, _⟩ := h.sh; ⟨h.loose.up, h.stays.up⟩
theorem Sk.drewN {T : TypeId} {w y : World} {b : Nat} {L K : List (Int × Value)} (h : Sk T w y b L K) (n : Nat) : Sk T w (y.drewN n) b L K := ⟨h.sh.drewN n, below_drewN h.low n⟩
end Go.Proofs.Ytfklbinccpdnmaa
