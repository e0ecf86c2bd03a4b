/-
  A range over a closure whose iterator makes memory, by a body that goes on or returns; the shadow's iterators under such a body. (Out of XZRange and XZQTell.)
-/
import Derived.Test.YtmgchfjfkdkaoaaGreatDoorMQ
import Derived.Test.YtmgchfjfkdkaoaaGreatDoorMR
namespace Go.Proofs.YtmgchfjfkdkaoaaGreatDoor
open Go.RowKit Go.Maps Go.Shelf

def goesOr14 (B : Nat) (W : World) (I E : World → Prop) : Exit → Act → World → Prop
  | .normal, _, W' => W.heap.size ≤ W'.heap.size ∧ W'.heap[B]? = W.heap[B]? ∧ W'.heap[B + 1]? = W.heap[B + 1]? ∧ I W'
  | .ret, _, W' => W.heap.size ≤ W'.heap.size ∧ W'.heap[B]? = W.heap[B]? ∧ W'.heap[B + 1]? = W.heap[B + 1]? ∧ E W'
  | _, _, _ => False

/-- The record of the loop. -/
def recOf14 (w : World) (a : Act) (fn : FuncId) (ps : Array Tmp) (assign body : Code) (s : LoopState) (p : Option Code) : Loop :=
  { state := s, pending := p, fn := fn, tmps := a.tmps, params := ps, assign := assign, body := body, defers := w.heap.size }

theorem range_gl {m : Nat} {P : Program} {g : Operand} {ps : Array Tmp} {assign body : Code} {Q : Exit → Act → World → Prop} {a : Act} {w : World} {gf : Nat} {lb : Array Value}
    (hg : a.eval g = .func (.func gf) #[] lb) (eg : ∀ args w, (callFunc gf args).run P w = .ok (.enter gf args) w) (N : Nat) (args : (k : Nat) → k < N → Array Value) (hps : ∀ k hk, (args k hk).size = ps.size)
    (I0 : World → Prop) (I : Nat → World → Nat → World → Prop) (E : World → Prop) (h0 : ∀ o o', I0 ((w.alloc o).alloc o'))
    (hst : ∀ W X, I0 W → w.heap.size + 2 ≤ W.heap.size → Below W.heap.size W X → I W.heap.size X 0 X)
    (hIp : ∀ s X k W l o, I s X k W → w.heap.size ≤ l → l < w.heap.size + 2 → w.heap.size + 2 ≤ s → I s X k (W.putObj l o)) (hEp : ∀ W l o, E W → w.heap.size ≤ l → l < w.heap.size + 2 → E (W.putObj l o)) (a₁ : (k : Nat) → k < N → Act)
    (hit : ∀ (l : Nat) (J0 : World → Prop) (J : Nat → World → Nat → World → Prop) (D : World → Prop), (∀ W, J0 W → I0 W) → (∀ W X, J0 W → Below W.heap.size W X → J W.heap.size X 0 X) → (∀ s X k W, J s X k W → I s X k W) →
      (∀ s X k (hk : k < N) W, J s X k W → YieldAt Fence.wide m P l (args k hk) W fun e W' => (e = .returned (.bool true) ∧ J s X (k + 1) W') ∨ (e = .returned (.bool false) ∧ D W')) → ∀ W, J0 W →
      CallsIn Fence.wide (m + 2) P gf (#[.func (.yield l) #[] #[]] ++ lb) W fun e W' => (∃ v, e = .returned v) ∧ ((∃ s X, J s X N W') ∨ D W'))
    (hassign : ∀ (l k : Nat) (hk : k < N) (W : World) (K : Act → World → Prop), K (a₁ k hk) W →
      assign.wpIn (Fence.wide.inRound l) m P (Exit.then K (fun _ _ _ => False)) { tmps := (ps.zip (args k hk)).foldl (fun t (p, v) => t.setIfInBounds p v) a.tmps, defers := [] } W)
    (hbody : ∀ (l s : Nat) (X : World) (k : Nat) (hk : k < N) (W : World), w.heap.size + 2 ≤ s → I s X k W → body.wpIn (Fence.wide.inRound l) m P (goesOr14 w.heap.size W (I s X (k + 1)) E) (a₁ k hk) W)
    (hdone : ∀ (s : Nat) (X W : World), I s X N W → w.heap.size + 2 ≤ s → W.heap[w.heap.size]? = some (.deferred (some [])) → Q .normal { a with defers := { target := .collected w.heap.size, args := #[] } :: a.defers } W)
    (hstop : ∀ (W : World), E W → W.heap[w.heap.size]? = some (.deferred (some [])) → Code.ret.wpIn Fence.wide (m + 3) P Q { a with defers := { target := .collected w.heap.size, args := #[] } :: a.defers } W) :
    (Code.rangeFunc g ps assign body).wpIn Fence.wide (m + 3) P Q a w := by
  refine wpIn_rangeFunc ?_
  intro fn _
  obtain ⟨R, hRR⟩ : ∃ R, R = recOf14 w a fn ps assign body := ⟨_, rfl⟩
  obtain ⟨W1, hW1⟩ : ∃ W1, W1 = (w.alloc (.deferred (some []))).alloc (.loop (R .ready none)) := ⟨_, rfl⟩
  have hl1 : W1.heap[w.heap.size + 1]? = some (.loop (R .ready none)) := by
    rw [hW1]
    have := World.alloc_heap_new (w.alloc (.deferred (some []))) (.loop (R .ready none))
    rwa [World.size_alloc] at this
  have hd1 : W1.heap[w.heap.size]? = some (.deferred (some [])) := by
    rw [hW1]
    exact (Below.heap_alloc _ _ _ (by simp)).trans (World.alloc_heap_new w _)
  have hi1 : I0 W1 := by rw [hW1]; exact h0 _ _
  refine ⟨w.heap.size + 1, [{ target := .collected w.heap.size, args := #[] }], W1, { target := .fn (.func gf) lb, args := #[.func (.yield (w.heap.size + 1)) #[] #[]] }, W1, gf,
    #[.func (.yield (w.heap.size + 1)) #[] #[]] ++ lb, W1, ?_, ?_, fun _ _ => trivial, ?_, fun h => absurd h (by simp [Fence.wide]), ?_⟩
  · rw [hW1, hRR]
    exact run_enterLoop_outer _ _ _ _ _
  · simp only [resolve, hg]
    simp [go_sem]
  · simp [invoke, go_sem, eg]
  · refine (hit (w.heap.size + 1) (fun W => I0 W ∧ W.heap[w.heap.size + 1]? = some (.loop (R .ready none)) ∧ W.heap[w.heap.size]? = some (.deferred (some [])))
      (fun s X k W => I s X k W ∧ W.heap[w.heap.size + 1]? = some (.loop (R .ready none)) ∧ W.heap[w.heap.size]? = some (.deferred (some [])) ∧ w.heap.size + 2 ≤ s)
      (fun W => E W ∧ W.heap[w.heap.size + 1]? = some (.loop (R .done (some .ret))) ∧ W.heap[w.heap.size]? = some (.deferred (some [])))
      (fun _ h => h.1) ?_ (fun _ _ _ _ h => h.1) ?_ W1 ⟨hi1, hl1, hd1⟩).mono ?_
    · rintro W X ⟨hi, hl, hd⟩ hb
      have hlt : w.heap.size + 1 < W.heap.size := (Array.getElem?_eq_some_iff.1 hl).1
      exact ⟨hst W X hi (by omega) hb, (hb.block _ hlt).trans hl, (hb.block _ (by omega)).trans hd, by omega⟩
    · rintro s X k hk W ⟨hi, hl, hd, hs⟩
      have hy := run_yield (P := P) (args := args k hk) hl (by rw [hRR]; exact hps k hk)
      rw [hRR] at hy
      refine ⟨fn, _, assign, body, hy, roundIn_of_wpIn trivial (hassign _ k hk W _ ⟨_, run_beginRound hl (by rw [hRR]; rfl), ?_⟩)⟩
      have hlt : w.heap.size + 1 < W.heap.size := (Array.getElem?_eq_some_iff.1 hl).1
      refine wpIn_mono (hbody _ s X k hk _ hs (hIp s X k _ _ _ hi (by omega) (by omega) hs)) ?_
      intro e a3 W3 hp
      cases e with
      | normal =>
        obtain ⟨hz, hk0, hk1, hi3⟩ := hp
        rw [World.putObj_size] at hz
        have hl3 : W3.heap[w.heap.size + 1]? = some (.loop { R .ready none with state := .busy }) := hk1.trans (World.putObj_heap_same hlt)
        have hd3 : W3.heap[w.heap.size]? = some (.deferred (some [])) := hk0.trans ((World.putObj_heap_other (by omega)).trans hd)
        refine ⟨_, _, run_endRound (P := P) none hl3, ?_⟩
        refine Or.inl ⟨rfl, hIp s X _ _ _ _ hi3 (by omega) (by omega) hs, ?_, ?_, hs⟩
        · rw [World.putObj_heap_same (by omega), hRR]
          rfl
        · exact (World.putObj_heap_other (by omega)).trans hd3
      | ret =>
        obtain ⟨hz, hk0, hk1, hi3⟩ := hp
        rw [World.putObj_size] at hz
        have hl3 : W3.heap[w.heap.size + 1]? = some (.loop { R .ready none with state := .busy }) := hk1.trans (World.putObj_heap_same hlt)
        have hd3 : W3.heap[w.heap.size]? = some (.deferred (some [])) := hk0.trans ((World.putObj_heap_other (by omega)).trans hd)
        refine ⟨_, _, run_endRound (P := P) (some .ret) hl3, ?_⟩
        refine Or.inr ⟨rfl, hEp _ _ _ hi3 (by omega) (by omega), ?_, ?_⟩
        · rw [World.putObj_heap_same (by omega), hRR]
          rfl
        · exact (World.putObj_heap_other (by omega)).trans hd3
      | exit _ => exact hp.elim
      | goto _ => exact hp.elim
      | panic _ => exact hp.elim
      | outgrown => exact hp.elim
    · rintro e W2 ⟨⟨v, rfl⟩, ⟨s, X, hi, hl, hd, hs⟩ | ⟨hi, hl, hd⟩⟩
      · have hend := run_endLoop (P := P) hl (by rw [hRR]; simp [recOf14])
        have hpn : (R .ready none).pending = none := by rw [hRR]; rfl
        rw [hpn] at hend
        exact ⟨none, _, hend, hdone s X _ (hIp s X _ _ _ _ hi (by omega) (by omega) hs) hs ((World.putObj_heap_other (by omega)).trans hd)⟩
      · have hend := run_endLoop (P := P) hl (by rw [hRR]; simp [recOf14])
        have hpn : (R .done (some .ret)).pending = some .ret := by rw [hRR]; rfl
        rw [hpn] at hend
        exact ⟨some .ret, _, hend, hstop _ (hEp _ _ _ hi (by omega) (by omega)) ((World.putObj_heap_other (by omega)).trans hd)⟩

end Go.Proofs.YtmgchfjfkdkaoaaGreatDoor
namespace Go.Proofs.YtmgchfjfkdkaoaaGreatDoor.Q
open Go.RowKit Go.Maps Go.Shelf

set_option maxHeartbeats 2000000 in
theorem tell14_in (n l : Nat) {o : Option Nat} {L : List (Int × Value)} (J0 : World → Prop) (J : Nat → World → Nat → World → Prop) (D : World → Prop) (hJ0 : ∀ W, J0 W → MapV W o L) (hS : ∀ W X, J0 W → Below W.heap.size W X → J W.heap.size X 0 X)
    (hF : ∀ s X k W, J s X k W → ∀ j, s ≤ j → j < X.heap.size → W.heap[j]? = X.heap[j]?)
    (hY : ∀ s X k (hk : k < L.length) W, J s X k W → YieldAt Fence.wide n Tryz.prog l #[.int .i64 (L[k]'hk).1, (L[k]'hk).2] W fun e W' => (e = .returned (.bool true) ∧ J s X (k + 1) W') ∨ (e = .returned (.bool false) ∧ D W'))
    (W : World) (h0 : J0 W) (hl : L.length ≤ 100000) :
    CallsIn Fence.wide (n + 1) Tryz.prog 100 #[.map o, .func (.yield l) #[] #[]] W fun e W' => (∃ v, e = .returned v) ∧ ((∃ s X, J s X L.length W') ∨ D W') := by
  have hfn : ∀ (f : Fn) (a b : Array Value) (W : World), (binOp .eql 150 (.func f a b) .nilFunc).run Tryz.prog W = .ok (.bool false) W := fun f a b W => eql_fn W _ f a b Tryz.underlying150
  have HC : Hid (∀ x, CallsIn Fence.wide x Tryz.prog 135 #[.map o] W fun e w' => ∃ o', e = .returned (.map o') ∧ MapV w' o' L ∧ Below W.heap.size W w' ∧ ∀ k, o' = some k → W.heap.size ≤ k) := fun x => callsIn_wide.2 (clone_any W (hJ0 W h0))
  obtain ⟨len, hlen⟩ : ∃ x, x = L.length := ⟨_, rfl⟩
  have HP : Hid (∀ x w (o : Option Nat), MapV w o L → CallsIn Fence.wide x Tryz.prog 136 #[.map o] w fun e w' => ∃ g cap, e = .returned (.slice (some ⟨g, 0, none⟩) len cap) ∧
      w'.ownsRow w.heap.size 3 1 (.slice (some ⟨g, 0, none⟩) len cap) len (M.ks L) ∧ Below w.heap.size w w') := by
    rw [hlen]
    exact fun x w o h => callsIn_wide.2 (places_any w h hl)
  have HM : Hid (∀ (o' : Option Nat) (w1 X : World) (g cap : Nat), MapV w1 o' L → (∀ k, o' = some k → W.heap.size ≤ k) → Below W.heap.size W w1 → Below w1.heap.size w1 X → X.ownsRow w1.heap.size 3 1 (.slice (some ⟨g, 0, none⟩) len cap) len (M.ks L) →
      J W.heap.size X 0 X ∧ ∀ k wr, J W.heap.size X k wr → MapV wr o' L ∧ ∀ k (hk : k < L.length), wr.cell? ⟨g, k, none⟩ = some (.int .i64 (L[k]'hk).1)) :=
    fun o' w1 X g cap h1 h2 h3 h4 h5 => ⟨hS W X h0 (h3.trans (h4.mono h3.size)), fun k wr hk => made_kept h1 h2 h4 (by rw [hlen] at h5; exact h5) h3.size (hF _ _ _ _ hk)⟩
  have HY := Lib.hid hY
  have HU := Lib.hid (fun (w : World) (o : Option Nat) (h : MapV w o L) => h.up)
  clear hY hS hF hJ0 h0
  rw [← hlen] at hl
  rw [← hlen]
  have HN := Lib.hid hlen
  clear hlen
  refine callsIn_of_wp Tryz.func100 rfl trivial ?_ rfl
  simp only [Tryz.ntmps100, List.size_toArray, List.length_cons, List.length_nil, Nat.reduceAdd, Nat.reduceSub, Array.replicate_succ, Array.replicate_zero, List.push_toArray, List.append_toArray, List.nil_append, List.cons_append]
  gi_wp2_with (first
    | (refine ⟨trivial, ?_⟩; gi_at_call 135; refine (HC.out _).mono ?_; rintro e w1 ⟨o', rfl, hm1, hb1, ho1⟩)
    | (refine ⟨trivial, ?_⟩; gi_at_call 136; refine (HP.out _ _ _ hm1).mono ?_; rintro e X ⟨g, cap, rfl, hr2, hb2⟩
       obtain ⟨hj0, hkk⟩ := HM.out o' w1 X g cap hm1 ho1 hb1 hb2 hr2
       have HU1 := Lib.hid (HU.out _ _ hm1)
       have HK := Lib.hid hkk
       have HJ := Lib.hid hj0
       clear hm1 ho1 hb1 hb2 hr2 hj0 hkk HC HP HM))
  gi_loopw [14] (fun i wr => ∃ k : Nat, k ≤ len ∧ i = .int .i64 k ∧ J W.heap.size X k wr) (fun i _ => len - (intOf i).toNat)
  case atStart => exact ⟨0, Nat.zero_le _, rfl, HJ.out⟩
  case round =>
    obtain ⟨k, hk, rfl, hJk⟩ := hrel
    have HJk := Lib.hid hJk
    clear hJk
    by_cases hlt : k < len
    · have hlt' : (k : Int) < (len : Int) := by omega
      have hk0 : (0 : Int) ≤ (k : Int) := by omega
      have hkl : k < L.length := by rw [← HN.out]; exact hlt
      obtain ⟨hmk, hck⟩ := HK.out k wr HJk.out
      have hc := hck k hkl
      have hlk := hmk.look1 Tryz.underlying126 (zeroE13 wr) (M.find_of_mem HU1.out (List.getElem_mem hkl))
      obtain ⟨fn, tmps, assign, body, hy, hR⟩ := HY.out W.heap.size X k hkl wr HJk.out
      obtain ⟨at_, hat⟩ : ∃ x, x = (L[k]'hkl).1 := ⟨_, rfl⟩
      obtain ⟨y, hy'⟩ : ∃ x, x = (L[k]'hkl).2 := ⟨_, rfl⟩
      rw [← hat] at hc hlk hy
      rw [← hy'] at hlk hy
      clear hat hy' hmk hck HY HK hkl
      gi_wp2_with fail
      refine hR.mono ?_
      rintro e W3 (⟨rfl, hJ3⟩ | ⟨rfl, hJ3⟩)
      · clear hc hlk hy
        gi_wp2_with fail
        go_roundw
        case rel => exact ⟨k + 1, by omega, by go_num, hJ3⟩
        case measure => simp [intOf]; omega
      · clear hc hlk hy
        gi_wp2_with fail
        exact bodyPost_ret (results_none rfl _ _ _) rfl ⟨⟨_, rfl⟩, Or.inr hJ3⟩
    · have e : k = len := by omega
      subst e
      gi_wp2_with fail
      go_end0
      exact ⟨⟨_, rfl⟩, Or.inl ⟨_, _, HJk.out⟩⟩


set_option maxHeartbeats 1000000 in
theorem fresh14_in (n l : Nat) {b sb : Nat} {o : Option Nat} {L : List (Int × Value)} (J0 : World → Prop) (J : Nat → World → Nat → World → Prop) (D : World → Prop) (hJ0 : ∀ W, J0 W → MapV W o L ∧ W.cell? ⟨sb, 0, none⟩ = some (.pointer (some ⟨b, 0, none⟩)) ∧ W.cell? ⟨b, 0, none⟩ = some (.map o)) (hS : ∀ W X, J0 W → Below W.heap.size W X → J W.heap.size X 0 X)
    (hF : ∀ s X k W, J s X k W → ∀ j, s ≤ j → j < X.heap.size → W.heap[j]? = X.heap[j]?)
    (hY : ∀ s X k (hk : k < L.length) W, J s X k W → YieldAt Fence.wide n Tryz.prog l #[.int .i64 (L[k]'hk).1, (L[k]'hk).2] W fun e W' => (e = .returned (.bool true) ∧ J s X (k + 1) W') ∨ (e = .returned (.bool false) ∧ D W'))
    (W : World) (h0 : J0 W) (hl : L.length ≤ 100000) :
    CallsIn Fence.wide (n + 2) Tryz.prog 131 #[.func (.yield l) #[] #[], .pointer (some ⟨sb, 0, none⟩)] W fun e W' => (∃ v, e = .returned v) ∧ ((∃ s X, J s X L.length W') ∨ D W') := by
  obtain ⟨-, c0, c1⟩ := hJ0 W h0
  have HT := Lib.hid (tell14_in n l J0 J D (fun W h => (hJ0 W h).1) hS hF hY W h0 hl)
  clear hJ0 hS hF hY h0
  refine callsIn_of_wp Tryz.func131 rfl trivial ?_ rfl
  simp only [Tryz.ntmps131, List.size_toArray, List.length_cons, List.length_nil, Nat.reduceAdd, Nat.reduceSub, Array.replicate_succ, Array.replicate_zero, List.push_toArray, List.append_toArray, List.nil_append, List.cons_append]
  gi_wp2_with (refine ⟨trivial, ?_⟩; gi_at_call 100; refine HT.out.mono ?_; rintro e W3 ⟨⟨v, rfl⟩, hJ3⟩)
  go_end0
  exact ⟨⟨_, rfl⟩, hJ3⟩

set_option maxHeartbeats 1000000 in
theorem kept14_in (n l : Nat) {b sb : Nat} {o : Option Nat} {L : List (Int × Value)} (J0 : World → Prop) (J : Nat → World → Nat → World → Prop) (hJ0 : ∀ W, J0 W → MapV W o L ∧ W.cell? ⟨sb, 0, none⟩ = some (.pointer (some ⟨b, 0, none⟩)) ∧ W.cell? ⟨b, 1, none⟩ = some (.map o)) (hS : ∀ W X, J0 W → Below W.heap.size W X → J W.heap.size X 0 X)
    (hF : ∀ s X k W, J s X k W → ∀ j, s ≤ j → j < X.heap.size → W.heap[j]? = X.heap[j]?)
    (hY : ∀ s X k (hk : k < L.length) W, J s X k W → YieldAt Fence.wide n Tryz.prog l #[.int .i64 (L[k]'hk).1, (L[k]'hk).2] W fun e W' => e = .returned (.bool true) ∧ J s X (k + 1) W')
    (W : World) (h0 : J0 W) (hl : L.length ≤ 100000) :
    CallsIn Fence.wide (n + 2) Tryz.prog 99 #[.func (.yield l) #[] #[], .pointer (some ⟨sb, 0, none⟩)] W fun e W' => (∃ v, e = .returned v) ∧ ∃ s X, J s X L.length W' := by
  obtain ⟨-, c0, c1⟩ := hJ0 W h0
  have HT := Lib.hid (tell13_in n l J0 J (fun W h => (hJ0 W h).1) hS hF hY W h0 hl)
  clear hJ0 hS hF hY h0
  refine callsIn_of_wp Tryz.func99 rfl trivial ?_ rfl
  simp only [Tryz.ntmps99, List.size_toArray, List.length_cons, List.length_nil, Nat.reduceAdd, Nat.reduceSub, Array.replicate_succ, Array.replicate_zero, List.push_toArray, List.append_toArray, List.nil_append, List.cons_append]
  gi_wp2_with (refine ⟨trivial, ?_⟩; gi_at_call 100; refine HT.out.mono ?_; rintro e W3 ⟨⟨v, rfl⟩, hJ3⟩)
  go_end0
  exact ⟨⟨_, rfl⟩, hJ3⟩
end Go.Proofs.YtmgchfjfkdkaoaaGreatDoor.Q
