/-
  The walk over WalDoes's parameters as they come.
-/
import Derived.Test.YtigmcnnplnfakaaGreatDoorRF
import Derived.Test.YtigmcnnplnfakaaGreatDoorQG
namespace Go.Proofs.YtigmcnnplnfakaaGreatDoor
open Go.ChangeShapes Go.WideShapes Go.ChangeAt Go.RowKit Go.Deep

theorem walDoes_walk (v u : Value) (W : World) (hE : Env10 W ∧ ErrT W) (m : OpsAt14 W v) (m2 : IntsAt14 W u) :
    Calls Tryz.prog 3 #[v, u] W fun e y => e = .returned (.bool true) ∧ Below W.heap.size W y := by
  obtain ⟨A, len, cap, rfl, hlen, hall⟩ := m
  obtain ⟨A2, n2, cap2, rfl, hl2, hall2⟩ := m2
  obtain ⟨f, hf⟩ := OpF14.of hall
  obtain ⟨z, hz⟩ := IntsAt14.of hall2
  exact does_walk A A2 len cap n2 cap2 f z W hf hlen hl2 hz hE.1 hE.2
end Go.Proofs.YtigmcnnplnfakaaGreatDoor
