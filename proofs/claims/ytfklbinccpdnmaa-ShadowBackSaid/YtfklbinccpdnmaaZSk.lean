/-
  A shadow that the call made, at things that are ints: what each call makes of it.
-/
import Derived.Test.YtfklbinccpdnmaaZKeep
import Derived.Test.YtfklbinccpdnmaaZSk0
namespace Go.Proofs.Ytfklbinccpdnmaa
open Go.RowKit Go.Maps

section
variable {w y : World} {b : Nat} {L K : List (Int × Value)}
theorem sk_new (w y : World) (hy : Below w.heap.size w y) : Calls Try.prog 7 #[] y fun e w' => e = .returned (.pointer (some ⟨y.heap.size, 0, none⟩)) ∧ Sk 53 w w' y.heap.size [] [] ∧ Below y.heap.size y w' := by
  refine (new13_any y).mono ?_
  rintro e w' ⟨rfl, h1, h2⟩
  have hz := hy.size
  exact ⟨rfl, ⟨h1.mono (fun k _ h => Nat.le_trans hz h), hy.trans (h2.mono hz)⟩, h2⟩
theorem sk_put (h : Sk 53 w y b L K) (k : Int) (x : Value) (hw : (Lit.int .i64 k).wf = true) (hl : L.length ≤ 100000) :
    Calls Try.prog 8 #[.pointer (some ⟨b, 0, none⟩), .int .i64 k, x] y fun e w' => e = .returned (.tuple #[]) ∧ Sk 53 w w' b (M.ins k x L) K := by
  refine (put13_any y h.sh k x hw hl).mono ?_
  rintro e w' ⟨rfl, h1, h2⟩
  exact ⟨rfl, h.step h1 h2⟩
theorem sk_keep (h : Sk 53 w y b L K) (hl : L.length + K.length ≤ 100000) :
    Calls Try.prog 10 #[.pointer (some ⟨b, 0, none⟩)] y fun e w' => e = .returned (.tuple #[]) ∧ Sk 53 w w' b [] (M.puts L K) := by
  refine (keep_any y h.sh hl).mono ?_
  rintro e w' ⟨rfl, h1, h2⟩
  exact ⟨rfl, h.step h1 h2⟩
theorem sk_back (h : Sk 53 w y b L K) :
    Calls Try.prog 12 #[.pointer (some ⟨b, 0, none⟩)] y fun e w' => e = .returned (.tuple #[]) ∧ Sk 53 w w' b [] K := by
  refine (back_any y h.sh).mono ?_
  rintro e w' ⟨rfl, h1, h2⟩
  exact ⟨rfl, h.step (h1.mono (fun _ _ h => Or.inl h)) h2⟩
theorem sk_get (h : Sk 53 w y b L K) (k : Int) (hw : (Lit.int .i64 k).wf = true) :
    Calls Try.prog 14 #[.pointer (some ⟨b, 0, none⟩), .int .i64 k] y fun e w' => e = .returned (.tuple #[(M.get13 k L K).getD (.int .i64 0), .bool (M.get13 k L K).isSome]) ∧ w' = y := get13_any y h.sh k hw
theorem sk_loose (h : Sk 53 w y b L K) :
    Calls Try.prog 16 #[.pointer (some ⟨b, 0, none⟩)] y fun e w' => e = .returned (.int .i64 (L.length : Nat)) ∧ w' = y := loose_any y h.sh
end
end Go.Proofs.Ytfklbinccpdnmaa
