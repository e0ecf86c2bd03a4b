/-
  A method value that is ranged over, by a body that goes on or returns: what such a loop comes to. Of N numbers those are told that S holds of. No function of the program in this text.
-/
import Derived.Test.YtmgppfehgjildaaBox
import Derived.RangeFuncNested
import Derived.RangeFuncBound
import Derived.RangeFuncCalls
import Derived.RangeFuncLeaves
namespace Go.Proofs.Ytmgppfehgjildaa
open Go.RowKit

/-- The body of a round goes on, or returns; what lies from B on is as it was. -/
def goesOr (B : Nat) (W : World) (I E : World → Prop) : Exit → Act → World → Prop
  | .normal, _, W' => W.heap.size ≤ W'.heap.size ∧ (∀ j, B ≤ j → j < W.heap.size → W'.heap[j]? = W.heap[j]?) ∧ I W'
  | .ret, _, W' => W.heap.size ≤ W'.heap.size ∧ (∀ j, B ≤ j → j < W.heap.size → W'.heap[j]? = W.heap[j]?) ∧ E W'
  | _, _, _ => False

/-- The record of the loop. -/
def recOf (w : World) (a : Act) (fn : FuncId) (ps : Array Tmp) (assign body : Code) (s : LoopState) (p : Option Code) : Loop :=
  { state := s, pending := p, fn := fn, tmps := a.tmps, params := ps, assign := assign, body := body, defers := w.heap.size }

theorem range_leave {m : Nat} {P : Program} {g : Operand} {ps : Array Tmp} {assign body : Code} {Q : Exit → Act → World → Prop} {a : Act} {w : World} {gf : Nat} {bd : Array Value}
    (hg : a.eval g = .func (.func gf) bd #[]) (eg : ∀ args w, (callFunc gf args).run P w = .ok (.enter gf args) w) (N : Nat) (S : Nat → Bool) (args : Nat → Array Value) (hps : ∀ k, (args k).size = ps.size)
    (I : Nat → World → Prop) (E : World → Prop) (hIa : ∀ k W o, I k W → I k (W.alloc o)) (hIp : ∀ k W l o, I k W → w.heap.size ≤ l → I k (W.putObj l o)) (hEp : ∀ W l o, E W → w.heap.size ≤ l → E (W.putObj l o)) (hId : ∀ k W n, I k W → I k (World.drewN W n))
    (hIs : ∀ k W, k < N → S k = false → I k W → I (k + 1) W) (h0 : I 0 w) (a₁ : Nat → Act)
    (hit : ∀ (l : Nat) (J : Nat → World → Prop) (D : World → Prop), (∀ k W, J k W → I k W) → (∀ k W n, J k W → J k (World.drewN W n)) → (∀ k W, k < N → S k = false → J k W → J (k + 1) W) →
      (∀ k W, k < N → S k = true → J k W → YieldAt Fence.wide m P l (args k) W fun e W' => (e = .returned (.bool true) ∧ J (k + 1) W') ∨ (e = .returned (.bool false) ∧ D W')) → ∀ W, J 0 W →
      CallsIn Fence.wide (m + 1) P gf (bd ++ #[.func (.yield l) #[] #[]]) W fun e W' => (∃ v, e = .returned v) ∧ (J N W' ∨ D W'))
    (hassign : ∀ (l k : Nat) (W : World) (K : Act → World → Prop), k < N → S k = true → K (a₁ k) W →
      assign.wpIn (Fence.wide.inRound l) m P (Exit.then K (fun _ _ _ => False)) { tmps := (ps.zip (args k)).foldl (fun t (p, v) => t.setIfInBounds p v) a.tmps, defers := [] } W)
    (hbody : ∀ (l k : Nat) (W : World), k < N → S k = true → I k W → body.wpIn (Fence.wide.inRound l) m P (goesOr w.heap.size W (I (k + 1)) E) (a₁ k) W)
    (hdone : ∀ (D : Nat) (W : World), w.heap.size ≤ D → I N W → W.heap[D]? = some (.deferred (some [])) → Q .normal { a with defers := { target := .collected D, args := #[] } :: a.defers } W)
    (hstop : ∀ (D : Nat) (W : World), w.heap.size ≤ D → E W → W.heap[D]? = some (.deferred (some [])) → Code.ret.wpIn Fence.wide (m + 2) P Q { a with defers := { target := .collected D, args := #[] } :: a.defers } W) :
    (Code.rangeFunc g ps assign body).wpIn Fence.wide (m + 2) P Q a w := by
  refine wpIn_rangeFunc ?_
  intro fn _
  obtain ⟨R, hRR⟩ : ∃ R, R = recOf w a fn ps assign body := ⟨_, rfl⟩
  obtain ⟨W1, hW1⟩ : ∃ W1, W1 = (w.alloc (.deferred (some []))).alloc (.loop (R .ready none)) := ⟨_, rfl⟩
  have hl1 : W1.heap[w.heap.size + 1]? = some (.loop (R .ready none)) := by
    rw [hW1]
    have := World.alloc_heap_new (w.alloc (.deferred (some []))) (.loop (R .ready none))
    rwa [World.size_alloc] at this
  have hd1 : W1.heap[w.heap.size]? = some (.deferred (some [])) := by
    rw [hW1]
    exact (Below.heap_alloc _ _ _ (by simp)).trans (World.alloc_heap_new w _)
  have hi1 : I 0 W1 := by rw [hW1]; exact hIa _ _ _ (hIa _ _ _ h0)
  refine ⟨w.heap.size + 1, [{ target := .collected w.heap.size, args := #[] }], W1, { target := .fn (.func gf) #[], args := bd ++ #[.func (.yield (w.heap.size + 1)) #[] #[]] }, W1, gf,
    bd ++ #[.func (.yield (w.heap.size + 1)) #[] #[]], W1, ?_, ?_, fun _ _ => trivial, ?_, fun h => absurd h (by simp [Fence.wide]), ?_⟩
  · rw [hW1, hRR]
    exact run_enterLoop_outer _ _ _ _ _
  · simp only [resolve, hg]
    simp [go_sem]
  · simp [invoke, go_sem, eg]
  · refine (hit (w.heap.size + 1) (fun k W => I k W ∧ W.heap[w.heap.size + 1]? = some (.loop (R .ready none)) ∧ W.heap[w.heap.size]? = some (.deferred (some [])))
      (fun W => E W ∧ W.heap[w.heap.size + 1]? = some (.loop (R .done (some .ret))) ∧ W.heap[w.heap.size]? = some (.deferred (some [])))
      (fun _ _ h => h.1) (fun k W n h => ⟨hId k W n h.1, h.2⟩) (fun k W hk hs h => ⟨hIs k W hk hs h.1, h.2⟩) ?_ W1 ⟨hi1, hl1, hd1⟩).mono ?_
    · rintro k W hk hsk ⟨hi, hl, hd⟩
      have hy := run_yield (P := P) (args := args k) hl (by rw [hRR]; exact hps k)
      rw [hRR] at hy
      refine ⟨fn, _, assign, body, hy, roundIn_of_wpIn trivial (hassign _ k W _ hk hsk ⟨_, run_beginRound hl (by rw [hRR]; rfl), ?_⟩)⟩
      have hlt : w.heap.size + 1 < W.heap.size := (Array.getElem?_eq_some_iff.1 hl).1
      refine wpIn_mono (hbody _ k _ hk hsk (hIp k _ _ _ hi (by omega))) ?_
      intro e a3 W3 hp
      cases e with
      | normal =>
        obtain ⟨hz, hk3, hi3⟩ := hp
        rw [World.putObj_size] at hz hk3
        have hl3 : W3.heap[w.heap.size + 1]? = some (.loop { R .ready none with state := .busy }) := (hk3 _ (by omega) hlt).trans (World.putObj_heap_same hlt)
        have hd3 : W3.heap[w.heap.size]? = some (.deferred (some [])) := (hk3 _ (Nat.le_refl _) (by omega)).trans ((World.putObj_heap_other (by omega)).trans hd)
        refine ⟨_, _, run_endRound (P := P) none hl3, ?_⟩
        refine Or.inl ⟨rfl, hIp _ _ _ _ hi3 (by omega), ?_, ?_⟩
        · rw [World.putObj_heap_same (by omega), hRR]
          rfl
        · exact (World.putObj_heap_other (by omega)).trans hd3
      | ret =>
        obtain ⟨hz, hk3, hi3⟩ := hp
        rw [World.putObj_size] at hz hk3
        have hl3 : W3.heap[w.heap.size + 1]? = some (.loop { R .ready none with state := .busy }) := (hk3 _ (by omega) hlt).trans (World.putObj_heap_same hlt)
        have hd3 : W3.heap[w.heap.size]? = some (.deferred (some [])) := (hk3 _ (Nat.le_refl _) (by omega)).trans ((World.putObj_heap_other (by omega)).trans hd)
        refine ⟨_, _, run_endRound (P := P) (some .ret) hl3, ?_⟩
        refine Or.inr ⟨rfl, hEp _ _ _ hi3 (by omega), ?_, ?_⟩
        · rw [World.putObj_heap_same (by omega), hRR]
          rfl
        · exact (World.putObj_heap_other (by omega)).trans hd3
      | exit _ => exact hp.elim
      | goto _ => exact hp.elim
      | panic _ => exact hp.elim
      | outgrown => exact hp.elim
    · rintro e W2 ⟨⟨v, rfl⟩, ⟨hi, hl, hd⟩ | ⟨hi, hl, hd⟩⟩
      · have hend := run_endLoop (P := P) hl (by rw [hRR]; simp [recOf])
        have hpn : (R .ready none).pending = none := by rw [hRR]; rfl
        rw [hpn] at hend
        exact ⟨none, _, hend, hdone _ _ (Nat.le_refl _) (hIp _ _ _ _ hi (by omega)) ((World.putObj_heap_other (by omega)).trans hd)⟩
      · have hend := run_endLoop (P := P) hl (by rw [hRR]; simp [recOf])
        have hpn : (R .done (some .ret)).pending = some .ret := by rw [hRR]; rfl
        rw [hpn] at hend
        exact ⟨some .ret, _, hend, hstop _ _ (Nat.le_refl _) (hEp _ _ _ hi (by omega)) ((World.putObj_heap_other (by omega)).trans hd)⟩
end Go.Proofs.Ytmgppfehgjildaa
