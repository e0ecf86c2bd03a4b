/-
  Walks over disk.settle, Flush and Restart; clear of a map.
-/
import Derived.Test.YtnjhbmpdpejpcaaDWrite
import Derived.MapFrom
namespace Go.Proofs.Ytnjhbmpdpejpcaa
open Go.RowKit Go.Maps Go.MapKept

/-- clear(m): nothing is in the map any more. -/
theorem run_clear_map {P : Program} {w : World} {t k e : TypeId} (ht : P.underlying t = some (.map k e)) {R : Value → Option (DataW Unit × List MemPlace)} {b n : Nat} {m : DataW Unit} (hown : w.ownsMap P k R b n m) (ty : TypeId) :
    ∃ w', (Builtin.clear_ #[t] ty #[.map (some b)]).run P w = .ok (.tuple #[]) w' ∧ w'.ownsMap P k R b 0 (.map []) ∧ Kept (fun j => j = b) w w' := by
  obtain ⟨es, clock, hb, F, _, _⟩ := hown
  refine ⟨{ w with heap := w.heap.setIfInBounds b (.map #[] clock) }, by simp [Builtin.clear_, run_underlying ht, MapKept.run_getObj_map hb, MapKept.run_setObj_map _ hb, Result.andThen], ?_, ?_⟩
  · exact ⟨#[], clock, (heap_set hb).1, ⟨by simp, stamped_empty _, by simp⟩, Nat.le_refl _, rfl⟩
  · exact ⟨rfl, rfl, rfl, by simp, fun k _ hp => (heap_set hb).2 k hp⟩
theorem wpList_clear_own {P : Program} (w : World) {ops : Array Oper} {rest : List Oper} {o : Oper} {a : Act} {Q : Exit → Act → World → Prop} (hg : o.guard = none) (m : Operand) (t : TypeId)
    (hop : o.op = Op.call { callee := Callee.builtin Builtin.clear, args := #[m], argTypes := #[t] }) (k e : TypeId) (ht : P.underlying t = some (.map k e)) (R : Value → Option (DataW Unit × List MemPlace)) (b n : Nat) (D : DataW Unit)
    (hm : a.eval m = .map (some b)) (hown : w.ownsMap P k R b n D) (hK : ∀ w', w'.ownsMap P k R b 0 (.map []) → Kept (fun j => j = b) w w' → wpList P ops Q rest (a.put o.dst (.tuple #[])) w') :
    wpList P ops Q (o :: rest) a w := by
  refine wpList_plain hg fun K' hK' => ?_
  obtain ⟨w', hrun, r1, r2⟩ := run_clear_map ht hown o.type
  unfold Oper.wp
  simp [execOp, hop, resolve, invoke, builtin, hm, hrun, Result.andThen]
  exact hK' _ _ (hK w' r1 r2)

/-- The cells of a write. -/
theorem owned_writes {w : World} {B g n cap i : Nat} {L : List (Nat × ByteArray)} {p : Nat × ByteArray} (h : w.ownsRow B 80 2 (.slice (some ⟨g, 0, none⟩) n cap) n (M.cells L)) (hp : L[i]? = some p) :
    w.cell? ⟨g, i * 2, none⟩ = some (.int .i64 (p.1 : Nat)) ∧ w.cell? ⟨g, i * 2 + 1, none⟩ = some (.string p.2) := by
  have h1 := h.cells (g := g) rfl _ _ (M.cells_at hp).1
  have h2 := h.cells (g := g) rfl _ _ (M.cells_at hp).2
  rw [blk_add] at h1 h2
  exact ⟨h1, h2⟩

/-- Behind the last round: nothing waits. -/
theorem DiskAt.settled {w y y2 : World} {b sb mb : Nat} {WV FV : Value} {d : M.D} {T : List ByteArray} (h : DiskAt w b sb mb WV FV d) (hk : Kept (fun k => k = sb) w y) (hB : Box y sb 9 (T.map Value.string).toArray) (hT : T.length = d.S.length) (hT2 : ∀ s ∈ T, s.size = 64)
    (hown : y2.ownsMap Try.prog 3 (plainElem Try.prog 3) mb 0 (DataW.map [] : DataW Unit)) (hk2 : Kept (fun j => j = mb) (y.setCell ⟨b, 1, none⟩ (.slice none 0 0)) y2) :
    DiskAt y2 b sb mb (.slice none 0 0) FV { d with S := T, L := [] } ∧ Kept (fun k => k = b ∨ k = sb ∨ k = mb) w y2 := by
  have hk1 : Kept (fun k => k = b) y (y.setCell ⟨b, 1, none⟩ (.slice none 0 0)) := Kept.set' (P := fun k => k = b) rfl 1 _
  have hka : Kept (fun k => k = b ∨ k = sb ∨ k = mb) w y2 := ((hk.mono (fun _ _ e => Or.inr (Or.inl e))).trans (hk1.mono (fun _ _ e => Or.inl e))).trans (hk2.mono (fun _ _ e => Or.inr (Or.inr e)))
  refine ⟨⟨?_, ?_, ⟨_, hown, M.MapIs.nil⟩, World.ownsRow_nil _ _ _ _, ?_, ⟨?_, hT2, fun p hp => (by cases hp), fun p hp => (by cases hp), Nat.zero_le _⟩, h.bs, h.bm, h.sm, fun k e => (by cases e), fun k e => ⟨(h.fn k e).1, (h.fn k e).2.1, (h.fn k e).2.2.1, fun e => (by cases e)⟩⟩, hka⟩
  · refine hk2.box ?_ h.bm
    have := (hk.box h.box h.bs).set 1 (.slice none 0 0)
    simpa [hT] using this
  · exact hk2.box (hk1.box hB (Ne.symm h.bs)) h.sm
  · exact hka.owns h.fails (fun k e e' => e'.elim (fun e' => (h.fn k e).1 e') (fun e' => e'.elim (fun e' => (h.fn k e).2.1 e') (fun e' => (h.fn k e).2.2.1 e')))
  · show T.length ≤ 1000
    rw [hT]
    exact h.inv.many

set_option maxRecDepth 100000 in
set_option maxHeartbeats 1000000 in
theorem settle_at (fn : FuncId) (cp : Array Value) (f : Nat → Bool) (w : World) {b sb mb : Nat} {WV FV : Value} {d : M.D} (h : DiskAt w b sb mb WV FV d) (ho : d.ops ≤ 1099511627777)
    (hcf : ∀ (args : Array Value) (y : World), (callFunc fn args).run Try.prog y = .ok (.enter fn args) y)
    (HF : Hid (∀ y, Kept (fun k => k = sb) w y → ∀ i : Nat, i < d.L.length → Calls Try.prog fn (#[.int .i64 (i : Nat)] ++ cp) y fun e y' => e = .returned (.bool (f i)) ∧ y' = y)) :
    Calls Try.prog 45 #[.pointer (some ⟨b, 0, none⟩), .func (.func fn) #[] cp] w fun e w' => e = .returned (.tuple #[]) ∧
      DiskAt w' b sb mb (.slice none 0 0) FV { d with S := M.rounds f d.S d.L d.L.length, L := [] } ∧ Kept (fun k => k = b ∨ k = sb ∨ k = mb) w w' := by
  obtain ⟨m, hm1, hm2⟩ := h.map
  have c1 := h.c1
  have hsome := h.inv.some_
  have HE : Hid (∀ y y2 : World, Kept (fun k => k = sb) w y → Box y sb 9 ((M.rounds f d.S d.L d.L.length).map Value.string).toArray → y2.ownsMap Try.prog 3 (plainElem Try.prog 3) mb 0 (DataW.map [] : DataW Unit) → Kept (fun j => j = mb) (y.setCell ⟨b, 1, none⟩ (.slice none 0 0)) y2 →
      DiskAt y2 b sb mb (.slice none 0 0) FV { d with S := M.rounds f d.S d.L d.L.length, L := [] } ∧ Kept (fun k => k = b ∨ k = sb ∨ k = mb) w y2) :=
    fun y y2 h1 h2 h3 h4 => h.settled h1 h2 (M.rounds_len _ _ _ _) (M.rounds_mem h.inv.sure h.inv.wide _) h3 h4
  have HC : Hid (∀ y : World, Kept (fun k => k = sb) w y → y.cell? ⟨b, 0, none⟩ = some (.slice (some ⟨sb, 0, none⟩) d.S.length d.S.length) ∧ y.cell? ⟨b, 1, none⟩ = some WV ∧ y.cell? ⟨b, 2, none⟩ = some (.map (some mb)) ∧ y.frozen? ⟨b, 1, none⟩ = false ∧
      (y.setCell ⟨b, 1, none⟩ (.slice none 0 0)).cell? ⟨b, 2, none⟩ = some (.map (some mb)) ∧ Hid ((y.setCell ⟨b, 1, none⟩ (.slice none 0 0)).ownsMap Try.prog 3 (plainElem Try.prog 3) mb d.L.length m)) := by
    intro y hk
    have hB := hk.box h.box h.bs
    have hB1 := hB.set 1 (.slice none 0 0)
    exact ⟨by simpa using hB.cell 0, by simpa using hB.cell 1, by simpa using hB.cell 2, hB.frozen 1, by simpa using hB1.cell 2, (hk.map hm1 (Ne.symm h.sm)).setCell (Ne.symm h.bm) _⟩
  have HW : Hid (∀ y : World, Kept (fun k => k = sb) w y → y.ownsRow 0 80 2 WV d.L.length (M.cells d.L)) := fun y hk => hk.owns h.writes (fun k e => (h.wn k e).2.1)
  have HS0 := Lib.hid h.sure
  have HLS := Lib.hid h.inv.lies
  have hsl := h.sure.lt
  have hbs := h.bs
  rcases h.writes.2 with ⟨e, hn0⟩ | ⟨g, cap, cur, e, _, _, hcap, _, _, _⟩
  · subst e
    have hL : d.L = [] := List.eq_nil_of_length_eq_zero hn0
    rw [hL] at HE HC ⊢
    clear hL hn0 HW HLS h hm1 hm2 HF hsome
    go_enter Try.func45, Try.ntmps45
    go_wp2_with fail
    go_loopw [11] (fun i wr => i = .int .i64 0 ∧ wr = w) (fun i _ => 0)
    case atStart => exact ⟨rfl, rfl⟩
    case round =>
      obtain ⟨rfl, rfl⟩ := hrel
      obtain ⟨e0, e1, e2, g1, e2', HM⟩ := HC.out wr (Kept.refl _ _)
      go_wp2_with (refine wpList_clear_own _ rfl _ 65 rfl 3 3 Try.underlying65 _ mb _ m rfl HM.out ?_; intro y2 ho2 hk2; have HX := Lib.hid (HE.out wr y2 (Kept.refl _ _) HS0.out ho2 hk2); clear ho2 hk2)
      go_end0
      exact ⟨rfl, HX.out⟩
  · subst e
    obtain ⟨n, hn⟩ : ∃ n, n = d.L.length := ⟨_, rfl⟩
    obtain ⟨z, hz⟩ : ∃ z, z = d.S.length := ⟨_, rfl⟩
    rw [← hn] at c1 HF HC HE HW hcap
    rw [← hz] at HC
    rw [← hn]
    have hn40 : (n : Int) ≤ 1099511627777 := by omega
    have hz1000 : (z : Int) ≤ 1000 := by have := h.inv.many; omega
    have HN := Lib.hid hn
    have HZ := Lib.hid hz
    clear h hm1 hm2 hn hz hsome
    go_enter Try.func45, Try.ntmps45
    go_wp2_with fail
    go_loopw [11] (fun i wr => ∃ k : Nat, k ≤ n ∧ i = .int .i64 k ∧ Kept (fun k => k = sb) w wr ∧ Box wr sb 9 ((M.rounds f d.S d.L k).map Value.string).toArray) (fun i _ => n - (intOf i).toNat)
    case atStart => exact ⟨0, Nat.zero_le _, rfl, Kept.refl _ _, HS0.out⟩
    case round =>
      obtain ⟨k, hk, rfl, hK, hB⟩ := hrel
      obtain ⟨e0, e1, e2, g1, e2', HM⟩ := HC.out wr hK
      by_cases hlt : k < n
      · have hlt' : (k : Int) < (n : Int) := by omega
        have hk0 : (0 : Int) ≤ (k : Int) := by omega
        obtain ⟨p, hp⟩ : ∃ p, d.L[k]? = some p := ⟨d.L[k]'(by have := HN.out; omega), List.getElem?_eq_getElem _⟩
        obtain ⟨x0, x1⟩ := owned_writes (HW.out wr hK) hp
        obtain ⟨a, s⟩ := p
        simp only at x0 x1
        have haz : a < z := by have := HLS.out _ (List.mem_of_getElem? hp); rw [HZ.out]; exact this
        have haz' : (a : Int) < (z : Int) := by omega
        have ha0 : (0 : Int) ≤ (a : Int) := by omega
        obtain ⟨x, hx⟩ : ∃ x, x = wr.alloc (Obj.cells #[.int .i64 (a : Nat), .string s] 80) := ⟨_, rfl⟩
        have HKx : Hid (Kept (fun k => k = sb) w x) := by rw [hx]; exact hK.alloc _
        have HBx : Hid (Box x sb 9 ((M.rounds f d.S d.L k).map Value.string).toArray) := by rw [hx]; exact (Below.heap_alloc wr _ _ hB.lt).trans hB
        have HFx := Lib.hid (HF.out x HKx.out k hlt)
        obtain ⟨y0, _, _, _, _, _⟩ := HC.out x HKx.out
        have y3 : x.cell? ⟨wr.heap.size, 0, none⟩ = some (.int .i64 (a : Nat)) := by rw [hx]; exact (cells2 wr _ _ _).1
        have y4 : x.cell? ⟨wr.heap.size, 1, none⟩ = some (.string s) := by rw [hx]; exact (cells2 wr _ _ _).2
        have HP := Lib.hid hp
        have HX := Lib.hid hx
        clear hx hB hK hp HC HF e2 g1 e2' HM HS0
        cases hf : f k with
        | false =>
          rw [hf] at HFx
          have HR : Hid (M.rounds f d.S d.L (k + 1) = M.rounds f d.S d.L k) := M.rounds_no HP.out hf
          clear hf
          go_wp2_with fail
          rw [← HX.out]
          refine HFx.out.mono ?_
          rintro e w1 ⟨rfl, rfl⟩
          go_wp2_with fail
          go_roundw
          case rel => exact ⟨k + 1, by omega, by go_num, HKx.out, by rw [HR.out]; exact HBx.out⟩
          case measure => simp [intOf]; omega
        | true =>
          rw [hf] at HFx
          have HR : Hid (M.rounds f d.S d.L (k + 1) = (M.rounds f d.S d.L k).set a s) := M.rounds_yes HP.out hf
          clear hf
          go_wp2_with fail
          rw [← HX.out]
          refine HFx.out.mono ?_
          rintro e w1 ⟨rfl, rfl⟩
          go_wp2_with fail
          go_still_tail 9, (by kernel_rfl)
          change wpList _ _ _ _ _ w1.drew
          obtain ⟨w3, hw3⟩ : ∃ v, v = w1.drew := ⟨_, rfl⟩
          have hal : a < (M.rounds f d.S d.L k).length := by rw [M.rounds_len, ← HZ.out]; exact haz
          have hB3 : Box w3 sb 9 ((M.rounds f d.S d.L k).map Value.string).toArray := by rw [hw3]; exact HBx.out
          have z1 : w3.cell? ⟨sb, a, none⟩ = some (.string ((M.rounds f d.S d.L k)[a]'hal)) := by rw [hB3.cell a]; simp [hal]
          have z2 := hB3.frozen a
          have HK3 : Hid (Kept (fun k => k = sb) w (w3.setCell ⟨sb, a, none⟩ (.string s))) := by rw [hw3]; exact HKx.out.drew.trans (Kept.set' (P := fun k => k = sb) rfl a _)
          have HB3 : Hid (Box (w3.setCell ⟨sb, a, none⟩ (.string s)) sb 9 ((M.rounds f d.S d.L (k + 1)).map Value.string).toArray) := by
            have := hB3.set a (.string s)
            rw [List.setIfInBounds_toArray, ← List.map_set] at this
            rw [HR.out]
            exact this
          obtain ⟨old, hold⟩ : ∃ o, o = (M.rounds f d.S d.L k)[a]'hal := ⟨_, rfl⟩
          rw [← hold] at z1
          rw [← hw3]
          clear hw3 hB3 hold hal HKx HBx HFx y0 y3 y4 HR
          go_wp2_with fail
          go_roundw
          case rel => exact ⟨k + 1, by omega, by go_num, HK3.out, HB3.out⟩
          case measure => simp [intOf]; omega
      · have e : k = n := by omega
        subst e
        have HBk := Lib.hid hB
        have HKk := Lib.hid hK
        clear hB hK
        go_wp2_with (refine wpList_clear_own _ rfl _ 65 rfl 3 3 Try.underlying65 _ mb _ m rfl HM.out ?_; intro y2 ho2 hk2; have HX := Lib.hid (HE.out wr y2 HKk.out HBk.out ho2 hk2); clear ho2 hk2)
        go_end0
        exact ⟨rfl, HX.out⟩
end Go.Proofs.Ytnjhbmpdpejpcaa
