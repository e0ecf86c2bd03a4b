/-
  A closure that is ranged over, by a body that always goes on, where the iterator makes memory of its own: what such a loop comes to. No function of the program in this text.
-/
import Derived.Test.YtfklbinccpdnmaaBox
import Derived.RangeFuncNested
import Derived.RangeFuncBound
import Derived.RangeFuncCalls
import Derived.RangeFuncLeaves
import Derived.OrdersIn
import Derived.OrdersHeld
import Derived.Deep.RegionHeld
import Derived.TacticsIn
namespace Go.Proofs.Ytfklbinccpdnmaa
open Go.RowKit

/-- The body of a round goes on; the two blocks of the loop are as they were; I holds. -/
def goesOn13 (B : Nat) (W : World) (I : World → Prop) : Exit → Act → World → Prop
  | .normal, _, W' => W.heap.size ≤ W'.heap.size ∧ W'.heap[B]? = W.heap[B]? ∧ W'.heap[B + 1]? = W.heap[B + 1]? ∧ I W'
  | _, _, _ => False

/-- The record of the loop. -/
def recOf13 (w : World) (a : Act) (fn : FuncId) (ps : Array Tmp) (assign body : Code) (s : LoopState) : Loop :=
  { state := s, pending := none, fn := fn, tmps := a.tmps, params := ps, assign := assign, body := body, defers := w.heap.size }

theorem range_grow {m : Nat} {P : Program} {g : Operand} {ps : Array Tmp} {assign body : Code} {Q : Exit → Act → World → Prop} {a : Act} {w : World} {gf : Nat} {lb : Array Value}
    (hg : a.eval g = .func (.func gf) #[] lb) (eg : ∀ args w, (callFunc gf args).run P w = .ok (.enter gf args) w) (N : Nat) (args : (k : Nat) → k < N → Array Value) (hps : ∀ k hk, (args k hk).size = ps.size)
    (I0 : World → Prop) (I : Nat → World → Nat → World → Prop) (h0 : ∀ o o', I0 ((w.alloc o).alloc o'))
    (hst : ∀ W X, I0 W → w.heap.size + 2 ≤ W.heap.size → Below W.heap.size W X → I W.heap.size X 0 X)
    (hIp : ∀ s X k W l o, I s X k W → w.heap.size ≤ l → l < w.heap.size + 2 → w.heap.size + 2 ≤ s → I s X k (W.putObj l o)) (a₁ : (k : Nat) → k < N → Act)
    (hit : ∀ (l : Nat) (J0 : World → Prop) (J : Nat → World → Nat → World → Prop), (∀ W, J0 W → I0 W) → (∀ W X, J0 W → Below W.heap.size W X → J W.heap.size X 0 X) → (∀ s X k W, J s X k W → I s X k W) →
      (∀ s X k (hk : k < N) W, J s X k W → YieldAt Fence.wide m P l (args k hk) W fun e W' => e = .returned (.bool true) ∧ J s X (k + 1) W') → ∀ W, J0 W →
      CallsIn Fence.wide (m + 2) P gf (#[.func (.yield l) #[] #[]] ++ lb) W fun e W' => (∃ v, e = .returned v) ∧ ∃ s X, J s X N W')
    (hassign : ∀ (l k : Nat) (hk : k < N) (W : World) (K : Act → World → Prop), K (a₁ k hk) W →
      assign.wpIn (Fence.wide.inRound l) m P (Exit.then K (fun _ _ _ => False)) { tmps := (ps.zip (args k hk)).foldl (fun t (p, v) => t.setIfInBounds p v) a.tmps, defers := [] } W)
    (hbody : ∀ (l s : Nat) (X : World) (k : Nat) (hk : k < N) (W : World), w.heap.size + 2 ≤ s → I s X k W → body.wpIn (Fence.wide.inRound l) m P (goesOn13 w.heap.size W (I s X (k + 1))) (a₁ k hk) W)
    (hdone : ∀ (s : Nat) (X W : World), I s X N W → w.heap.size + 2 ≤ s → W.heap[w.heap.size]? = some (.deferred (some [])) → Q .normal { a with defers := { target := .collected w.heap.size, args := #[] } :: a.defers } W) :
    (Code.rangeFunc g ps assign body).wpIn Fence.wide (m + 3) P Q a w := by
  refine wpIn_rangeFunc ?_
  intro fn _
  obtain ⟨R, hRR⟩ : ∃ R, R = recOf13 w a fn ps assign body := ⟨_, rfl⟩
  obtain ⟨W1, hW1⟩ : ∃ W1, W1 = (w.alloc (.deferred (some []))).alloc (.loop (R .ready)) := ⟨_, rfl⟩
  have hl1 : W1.heap[w.heap.size + 1]? = some (.loop (R .ready)) := by
    rw [hW1]
    have := World.alloc_heap_new (w.alloc (.deferred (some []))) (.loop (R .ready))
    rwa [World.size_alloc] at this
  have hd1 : W1.heap[w.heap.size]? = some (.deferred (some [])) := by
    rw [hW1]
    exact (Below.heap_alloc _ _ _ (by simp)).trans (World.alloc_heap_new w _)
  have hi1 : I0 W1 := by rw [hW1]; exact h0 _ _
  refine ⟨w.heap.size + 1, [{ target := .collected w.heap.size, args := #[] }], W1, { target := .fn (.func gf) lb, args := #[.func (.yield (w.heap.size + 1)) #[] #[]] }, W1, gf,
    #[.func (.yield (w.heap.size + 1)) #[] #[]] ++ lb, W1, ?_, ?_, fun _ _ => trivial, ?_, fun h => absurd h (by simp [Fence.wide]), ?_⟩
  · rw [hW1, hRR]
    exact run_enterLoop_outer _ _ _ _ _
  · simp only [resolve, hg]
    simp [go_sem]
  · simp [invoke, go_sem, eg]
  · refine (hit (w.heap.size + 1) (fun W => I0 W ∧ W.heap[w.heap.size + 1]? = some (.loop (R .ready)) ∧ W.heap[w.heap.size]? = some (.deferred (some [])))
      (fun s X k W => I s X k W ∧ W.heap[w.heap.size + 1]? = some (.loop (R .ready)) ∧ W.heap[w.heap.size]? = some (.deferred (some [])) ∧ w.heap.size + 2 ≤ s)
      (fun _ h => h.1) ?_ (fun _ _ _ _ h => h.1) ?_ W1 ⟨hi1, hl1, hd1⟩).mono ?_
    · rintro W X ⟨hi, hl, hd⟩ hb
      have hlt : w.heap.size + 1 < W.heap.size := (Array.getElem?_eq_some_iff.1 hl).1
      exact ⟨hst W X hi (by omega) hb, (hb.block _ hlt).trans hl, (hb.block _ (by omega)).trans hd, by omega⟩
    · rintro s X k hk W ⟨hi, hl, hd, hs⟩
      have hy := run_yield (P := P) (args := args k hk) hl (by rw [hRR]; exact hps k hk)
      rw [hRR] at hy
      refine ⟨fn, _, assign, body, hy, roundIn_of_wpIn trivial (hassign _ k hk W _ ⟨_, run_beginRound hl (by rw [hRR]; rfl), ?_⟩)⟩
      have hlt : w.heap.size + 1 < W.heap.size := (Array.getElem?_eq_some_iff.1 hl).1
      refine wpIn_mono (hbody _ s X k hk _ hs (hIp s X k _ _ _ hi (by omega) (by omega) hs)) ?_
      intro e a3 W3 hp
      cases e with
      | normal =>
        obtain ⟨hz, hk0, hk1, hi3⟩ := hp
        rw [World.putObj_size] at hz
        have hl3 : W3.heap[w.heap.size + 1]? = some (.loop { R .ready with state := .busy }) := hk1.trans (World.putObj_heap_same hlt)
        have hd3 : W3.heap[w.heap.size]? = some (.deferred (some [])) := hk0.trans ((World.putObj_heap_other (by omega)).trans hd)
        refine ⟨_, _, run_endRound (P := P) none hl3, ?_⟩
        refine ⟨rfl, hIp s X _ _ _ _ hi3 (by omega) (by omega) hs, ?_, ?_, hs⟩
        · rw [World.putObj_heap_same (by omega), hRR]
          rfl
        · exact (World.putObj_heap_other (by omega)).trans hd3
      | ret => exact hp.elim
      | exit _ => exact hp.elim
      | goto _ => exact hp.elim
      | panic _ => exact hp.elim
      | outgrown => exact hp.elim
    · rintro e W2 ⟨⟨v, rfl⟩, s, X, hi, hl, hd, hs⟩
      have hend := run_endLoop (P := P) hl (by rw [hRR]; simp [recOf13])
      have hpn : (R .ready).pending = none := by rw [hRR]; rfl
      rw [hpn] at hend
      exact ⟨none, _, hend, hdone s X _ (hIp s X _ _ _ _ hi (by omega) (by omega) hs) hs ((World.putObj_heap_other (by omega)).trans hd)⟩

/-- What an operation comes to outside of all fences it comes to in a round of a loop, too. -/
theorem uponIn_of_upon {l n : Nat} {P : Program} {o : Oper} {a : Act} {K : Act → World → Prop} {Q : Exit → Act → World → Prop} {r : Result Next} (h : o.upon P a K Q r) : o.uponIn (Fence.wide.inRound l) n P a K Q r := by
  cases r with
  | ok x w =>
    cases x with
    | value v => exact h
    | skip => exact h
    | defer d => exact h
    | enter f args =>
      have h' : CallsIn Fence.wide (n - 1) P f args w _ := callsIn_wide.2 h
      exact ⟨fun e => absurd e (by simp [Fence.wide]), h'.1, h'.2⟩
    | row row args => exact ⟨fun e => absurd e (by simp [Fence.wide]), fun c cs _ => let ⟨v, w', r, s⟩ := h c cs; ⟨v, w', r, stepsIn_wide.2 s⟩⟩
    | _ => exact h.elim
  | halt x w =>
    cases x with
    | panic v => exact h
    | _ => exact h.elim
theorem wpOpIn_of_wpOp {l n i : Nat} {P : Program} {ops : Array Oper} {Q : Exit → Act → World → Prop} {K K' : Act → World → Prop} {a : Act} {w : World} (hd : ∀ o, ops[i]? = some o → ∀ c, o.op ≠ .defer c) (hL : ∀ a w, ¬ Q .outgrown a w)
    (hK : ∀ a w, K a w → K' a w) (h : wpOp P ops Q i K a w) : wpOpIn (Fence.wide.inRound l) n P ops Q i K' a w := by
  have h := wpOp_mono hK h
  unfold wpOp at h
  unfold wpOpIn
  cases ho : ops[i]? with
  | none => rw [ho] at h; exact h
  | some o =>
    rw [ho] at h
    simp only at h ⊢
    split
    · rename_i hw
      rw [if_pos hw] at h
      rcases h with h | ⟨_, a₀, w₀, hq⟩
      · refine ⟨fun _ _ => trivial, ?_⟩
        rw [show (Fence.wide.inRound l).round = some l from rfl, Oper.semAt_some l a.eval o (hd o ho)]
        exact uponIn_of_upon h
      · exact absurd hq (hL a₀ w₀)
    · rename_i hw
      rw [if_neg hw] at h
      exact ⟨fun _ _ => trivial, h⟩
theorem wpAnyIn_of_wpAny {l n : Nat} {P : Program} {md : Region.Mode} {ops : Array Oper} {Q : Exit → Act → World → Prop} (hd : ∀ (i : Nat) o, ops[i]? = some o → ∀ c, o.op ≠ .defer c) (hL : ∀ a w, ¬ Q .outgrown a w) :
    ∀ (fuel : Nat) (listed : Array Bool) (a : Act) (w : World), wpAny P md ops Q fuel listed a w → wpAnyIn (Fence.wide.inRound l) n P md ops Q fuel listed a w
  | 0, _, _, _, h => h
  | fuel + 1, _, _, _, h => ⟨h.1, fun i hi => wpOpIn_of_wpOp (hd i) hL (fun a' w' h' => wpAnyIn_of_wpAny hd hL fuel _ a' w' h') (h.2 i hi)⟩
/-- No operation puts a call off. -/
def noDefer (o : Oper) : Bool := match o.op with | .defer _ => false | _ => true
theorem noDefer_all {ops : Array Oper} (h : ops.all noDefer = true) (i : Nat) (o : Oper) (ho : ops[i]? = some o) (c : _) : o.op ≠ .defer c := by
  intro e
  obtain ⟨hi, rfl⟩ := Array.getElem?_eq_some_iff.1 ho
  have := (Array.all_eq_true.1 h) i hi
  simp [noDefer, e] at this
/-- A region that draws its order, in a round of a loop: by the steps that serve outside. -/
theorem region_round {l n id : Nat} {P : Program} {ops : Array Oper} {Q : Exit → Act → World → Prop} {a : Act} {w : World} (S : World → Prop) (hm : P.follows .mixedOrders = true) (hd : ops.all noDefer = true) (hL : ∀ a w, ¬ Q .outgrown a w) (hS : S w.drew)
    (h : S w.drew → wpAnyH P .any ops Q S ops.size (Array.replicate ops.size false) a w.drew) : (Code.region id ops true).wpIn (Fence.wide.inRound l) n P Q a w :=
  wpIn_region_any hm (wpAnyIn_of_wpAny (noDefer_all hd) hL _ _ _ _ (wpAny_of_held _ _ _ _ (h hS)))
end Go.Proofs.Ytfklbinccpdnmaa
