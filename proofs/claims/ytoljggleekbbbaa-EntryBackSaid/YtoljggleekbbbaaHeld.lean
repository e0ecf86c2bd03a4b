/-
  A call in a region where more is held.
-/
import Derived.Test.YtoljggleekbbbaaBox
import Derived.Deep.RegionHeld3
namespace Go.Proofs.Ytoljggleekbbbaa
open Go.RowKit

/-- A call that leaves the old blocks alone, in a region where more is held. -/
theorem Held.call {P : Program} {f : Nat} {args : Array Value} {x W : World} {v : Value} {S : World → Prop} (hS : Hid (∀ y, Below W.heap.size W y → S y)) (hb : Below W.heap.size W x)
    (h : Calls P f args x fun e y => e = .returned v ∧ Below x.heap.size x y) : Calls P f args x fun e y => e = .returned v ∧ Below W.heap.size W y ∧ S y :=
  h.mono fun _ y ⟨he, h1⟩ => have h2 : Below W.heap.size W y := hb.trans (h1.mono hb.size); ⟨he, h2, hS.out y h2⟩
end Go.Proofs.Ytoljggleekbbbaa
