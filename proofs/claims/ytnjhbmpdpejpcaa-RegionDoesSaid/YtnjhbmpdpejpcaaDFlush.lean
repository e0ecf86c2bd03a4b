/-
  Walks over disk.Flush and disk.Restart.
-/
import Derived.Test.YtnjhbmpdpejpcaaDSettle
import Derived.Shelf.Abstract
namespace Go.Proofs.Ytnjhbmpdpejpcaa
open Go.RowKit Go.Maps Go.Shelf

theorem enter_flush1 (args : Array Value) (y : World) : (callFunc 60 args).run Try.prog y = .ok (.enter 60 args) y :=
  enters_of Try.func60 (by kernel_rfl) rfl args y
theorem enter_restart1 (args : Array Value) (y : World) : (callFunc 46 args).run Try.prog y = .ok (.enter 46 args) y :=
  enters_of Try.func46 (by kernel_rfl) rfl args y
theorem flush1_any (i : Int) (w : World) : Calls Try.prog 60 #[.int .i64 i] w fun e w' => e = .returned (.bool true) ∧ w' = w := by
  go_enter Try.func60, Try.ntmps60
  go_wp2_with fail
  go_ret
  exact ⟨rfl, rfl⟩

/-- The disk behind a flush. -/
def M.flushD (d : M.D) : M.D := if M.beginE d = 0 then { M.beginD d with S := M.rounds (fun _ => true) d.S d.L d.L.length, L := [] } else M.beginD d

theorem flush_nil (w : World) : Calls Try.prog 41 #[.pointer none] w fun e w' => e = .returned (.int .i64 10) ∧ w' = w := by
  go_enter Try.func41, Try.ntmps41
  go_wp2_with fail
  refine (begin_nil w).mono ?_
  rintro e w1 ⟨rfl, rfl⟩
  go_wp2_with fail
  go_ret
  exact ⟨rfl, rfl⟩

set_option maxHeartbeats 1000000 in
theorem flush_any (w : World) {b : Nat} {P : Nat → Prop} {d : M.D} (h : Disk w b P d) (ho : d.ops ≤ 1099511627776) :
    Calls Try.prog 41 #[.pointer (some ⟨b, 0, none⟩)] w fun e w' => e = .returned (.int .i64 (M.beginE d)) ∧ Disk w' b P (M.flushD d) ∧ Kept P w w' := by
  obtain ⟨sb, mb, WV, FV, h, p1, p2, p3, p4, p5⟩ := h
  have HB := Lib.hid (begin_at w h ho)
  unfold M.flushD
  have HP : Hid (∀ k, k = b ∨ FV.ownBlock = some k → P k) := fun k e => e.elim (fun e => e ▸ p1) (p5 k)
  have HP2 : Hid (∀ k, k = b ∨ k = sb ∨ k = mb → P k) := fun k e => by
    rcases e with e | e | e
    · exact e ▸ p1
    · exact e ▸ p2
    · exact e ▸ p3
  have HD : Hid (∀ y FV' d', DiskAt y b sb mb WV FV' d' → FV'.ownBlock = FV.ownBlock → Disk y b P d') := fun y FV' d' hy hf => ⟨sb, mb, WV, FV', hy, p1, p2, p3, p4, fun k e => p5 k (hf ▸ e)⟩
  have HD2 : Hid (∀ y FV' d', DiskAt y b sb mb (.slice none 0 0) FV' d' → FV'.ownBlock = FV.ownBlock → Disk y b P d') := fun y FV' d' hy hf => ⟨sb, mb, _, FV', hy, p1, p2, p3, fun k e => (by cases e), fun k e => p5 k (hf ▸ e)⟩
  have HS : Hid (∀ y FV', DiskAt y b sb mb WV FV' (M.beginD d) → Calls Try.prog 45 #[.pointer (some ⟨b, 0, none⟩), .func (.func 60) #[] #[]] y fun e w' => e = .returned (.tuple #[]) ∧
      DiskAt w' b sb mb (.slice none 0 0) FV' { M.beginD d with S := M.rounds (fun _ => true) d.S d.L d.L.length, L := [] } ∧ Kept (fun k => k = b ∨ k = sb ∨ k = mb) y w') :=
    fun y FV' hy => settle_at _ #[] (fun _ => true) y hy (by show d.ops + 1 ≤ _; omega) enter_flush1 (fun x _ i _ => by
      have e : (#[.int .i64 (i : Nat)] ++ #[] : Array Value) = #[.int .i64 (i : Nat)] := by simp
      rw [e]
      exact flush1_any i x)
  clear h ho p1 p2 p3 p4 p5
  by_cases hE : M.beginE d = 0
  · rw [if_pos hE]
    rw [hE] at HB ⊢
    clear hE
    go_enter Try.func41, Try.ntmps41
    go_wp2_with fail
    refine HB.out.mono ?_
    rintro e w1 ⟨rfl, FV', hA, hf, hk⟩
    have HA := Lib.hid hA
    have HF := Lib.hid hf
    have HK := Lib.hid hk
    clear hA hf hk
    go_wp2_with fail
    refine (HS.out _ _ HA.out).mono ?_
    rintro e w2 ⟨rfl, hA2, hk2⟩
    have HA2 := Lib.hid hA2
    have HK2 := Lib.hid hk2
    clear hA2 hk2
    go_wp2_with fail
    go_ret
    exact ⟨rfl, HD2.out _ _ _ HA2.out HF.out, (HK.out.mono (fun k _ e => HP.out k e)).trans (HK2.out.mono (fun k _ e => HP2.out k e))⟩
  · rw [if_neg hE]
    obtain ⟨E, hEE⟩ : ∃ E, E = M.beginE d := ⟨_, rfl⟩
    rw [← hEE] at HB hE ⊢
    have hE' : (E == 0) = false := by rw [beq_eq_false_iff_ne]; exact hE
    clear hEE
    go_enter Try.func41, Try.ntmps41
    go_wp2_with fail
    refine HB.out.mono ?_
    rintro e w1 ⟨rfl, FV', hA, hf, hk⟩
    have HA := Lib.hid hA
    have HF := Lib.hid hf
    have HK := Lib.hid hk
    clear hA hf hk
    go_wp2_with fail
    go_ret
    exact ⟨rfl, HD.out _ _ _ HA.out HF.out, HK.out.mono (fun k _ e => HP.out k e)⟩

/-- Does the i-th write survive? -/
def M.odd (len : Nat) (z : Nat → Int) (i : Nat) : Bool := decide (i < len) && ((z i).tmod 2 != 0)
/-- The numbers z lie at A. -/
def ChoAt (w : World) (A : Option Addr) (len : Nat) (z : Nat → Int) : Prop := ∀ i, i < len → ∃ ad : Addr, A = some ad ∧ ad.block < w.heap.size ∧ w.cell? (ad.add i) = some (.int .i64 (z i))
theorem restart1_any (i : Nat) (g : Nat) (A : Option Addr) (len cap : Nat) (z : Nat → Int) (w : World) (hi : i ≤ 1099511627777) (hg : w.cell? ⟨g, 0, none⟩ = some (.slice A len cap)) (hz : ChoAt w A len z) :
    Calls Try.prog 46 #[.int .i64 (i : Nat), .pointer (some ⟨g, 0, none⟩)] w fun e w' => e = .returned (.bool (M.odd len z i)) ∧ w' = w := by
  by_cases hl : i < len
  · obtain ⟨ad, rfl, _, hc⟩ := hz i hl
    have hd : M.odd len z i = ((z i).tmod 2 != 0) := by simp [M.odd, hl]
    rw [hd]
    have hl' : (i : Int) < (len : Int) := by omega
    have h0 : (0 : Int) ≤ (i : Int) := by omega
    obtain ⟨x, hx⟩ : ∃ x, x = z i := ⟨_, rfl⟩
    rw [← hx] at hc ⊢
    clear hz hx hd
    go_enter Try.func46, Try.ntmps46
    go_wp2_with fail
    go_ret
    exact ⟨rfl, rfl⟩
  · have hd : M.odd len z i = false := by simp [M.odd, hl]
    rw [hd]
    have hl' : ¬ (i : Int) < (len : Int) := by omega
    clear hz hd
    go_enter Try.func46, Try.ntmps46
    go_wp2_with fail
    go_ret
    exact ⟨rfl, rfl⟩

/-- The disk behind a restart. -/
def M.restartD (d : M.D) (f : Nat → Bool) : M.D := ⟨M.rounds f d.S d.L d.L.length, [], d.ops, [], 0, false⟩

theorem restart_nil (A : Option Addr) (len cap : Nat) (w : World) : Calls Try.prog 24 #[.pointer none, .slice A len cap] w fun e w' => e = .returned (.tuple #[]) ∧ Below w.heap.size w w' := by
  go_enter Try.func24, Try.ntmps24
  go_wp2_with fail
  exact bodyPost_ret (results_none rfl _ _ _) rfl ⟨rfl, (Below.refl _ _).alloc (Nat.le_refl _) _⟩

/-- Nothing fails, nothing goes down. -/
theorem DiskAt.fresh {w : World} {b sb mb : Nat} {WV FV : Value} {d : M.D} (h : DiskAt w b sb mb WV FV d) :
    w.cell? ⟨b, 4, none⟩ = some FV ∧ w.frozen? ⟨b, 4, none⟩ = false ∧
      (w.setCell ⟨b, 4, none⟩ (.slice none 0 0)).cell? ⟨b, 5, none⟩ = some (.int .i64 d.da) ∧ (w.setCell ⟨b, 4, none⟩ (.slice none 0 0)).frozen? ⟨b, 5, none⟩ = false ∧
      ((w.setCell ⟨b, 4, none⟩ (.slice none 0 0)).setCell ⟨b, 5, none⟩ (.int .i64 0)).cell? ⟨b, 6, none⟩ = some (.bool d.dn) ∧ ((w.setCell ⟨b, 4, none⟩ (.slice none 0 0)).setCell ⟨b, 5, none⟩ (.int .i64 0)).frozen? ⟨b, 6, none⟩ = false ∧
      Hid (DiskAt (((w.setCell ⟨b, 4, none⟩ (.slice none 0 0)).setCell ⟨b, 5, none⟩ (.int .i64 0)).setCell ⟨b, 6, none⟩ (.bool false)) b sb mb WV (.slice none 0 0) ⟨d.S, d.L, d.ops, [], 0, false⟩ ∧
        Kept (fun k => k = b) w (((w.setCell ⟨b, 4, none⟩ (.slice none 0 0)).setCell ⟨b, 5, none⟩ (.int .i64 0)).setCell ⟨b, 6, none⟩ (.bool false))) := by
  have h1 := h.box.set 4 (.slice none 0 0)
  have h2 := h1.set 5 (.int .i64 0)
  have h3 := h2.set 6 (.bool false)
  have hk : Kept (fun k => k = b) w (((w.setCell ⟨b, 4, none⟩ (.slice none 0 0)).setCell ⟨b, 5, none⟩ (.int .i64 0)).setCell ⟨b, 6, none⟩ (.bool false)) :=
    ((Kept.set' (P := fun k => k = b) rfl 4 _).set (fun _ => rfl) 5 _).set (fun _ => rfl) 6 _
  obtain ⟨m, hm1, hm2⟩ := h.map
  refine ⟨h.c4, h.box.frozen 4, by simpa using h1.cell 5, h1.frozen 5, by simpa using h2.cell 6, h2.frozen 6, ⟨by simpa using h3, hk.box h.sure (Ne.symm h.bs), ⟨m, hk.map hm1 (Ne.symm h.bm), hm2⟩, hk.owns h.writes (fun k e => (h.wn k e).1), World.ownsRow_nil _ _ _ _, ⟨h.inv.many, h.inv.sure, h.inv.lies, h.inv.wide, h.inv.some_⟩, h.bs, h.bm, h.sm, h.wn, fun k e => (by cases e)⟩, hk⟩

set_option maxHeartbeats 1000000 in
theorem restart_any (A : Option Addr) (len cap : Nat) (z : Nat → Int) (w : World) {b : Nat} {P : Nat → Prop} {d : M.D} (h : Disk w b P d) (ho : d.ops ≤ 1099511627776) (hz : ChoAt w A len z) (hA : 0 < len → ∀ ad, A = some ad → ¬ P ad.block) :
    Calls Try.prog 24 #[.pointer (some ⟨b, 0, none⟩), .slice A len cap] w fun e w' => e = .returned (.tuple #[]) ∧ Disk w' b P (M.restartD d (M.odd len z)) ∧ Kept P w w' := by
  obtain ⟨sb, mb, WV, FV, h, p1, p2, p3, p4, p5⟩ := h
  have hsome := h.inv.some_
  have hsl := h.sure.lt
  have HA : Hid (DiskAt (w.alloc (.cells #[.slice A len cap] 49)) b sb mb WV FV d) := h.alloc _
  have HS : Hid (Calls Try.prog 45 #[.pointer (some ⟨b, 0, none⟩), .func (.func 46) #[] #[.pointer (some ⟨w.heap.size, 0, none⟩)]] (w.alloc (.cells #[.slice A len cap] 49)) fun e w' => e = .returned (.tuple #[]) ∧
      DiskAt w' b sb mb (.slice none 0 0) FV { d with S := M.rounds (M.odd len z) d.S d.L d.L.length, L := [] } ∧ Kept (fun k => k = b ∨ k = sb ∨ k = mb) (w.alloc (.cells #[.slice A len cap] 49)) w') := by
    refine settle_at _ #[.pointer (some ⟨w.heap.size, 0, none⟩)] (M.odd len z) _ HA.out (by omega) enter_restart1 (fun x hx i hi => ?_)
    have e : (#[.int .i64 (i : Nat)] ++ #[.pointer (some ⟨w.heap.size, 0, none⟩)] : Array Value) = #[.int .i64 (i : Nat), .pointer (some ⟨w.heap.size, 0, none⟩)] := by simp
    rw [e]
    refine restart1_any i w.heap.size A len cap z x (by omega) ?_ ?_
    · have hb : Box (w.alloc (.cells #[.slice A len cap] 49)) w.heap.size 49 #[.slice A len cap] := Box.new _ _ _
      have := (hx.box hb (by omega)).cell 0
      simpa using this
    · intro j hj
      obtain ⟨ad, ha, hb, hc⟩ := hz j hj
      have hne : ad.block ≠ sb := fun e => hA (by omega) ad ha (e ▸ p2)
      have hbx : x.heap[ad.block]? = w.heap[ad.block]? := (hx.block ad.block (by rw [World.size_alloc]; omega) hne).trans (Below.heap_alloc _ _ _ hb)
      have hab : (ad.add j).block = ad.block := by unfold Addr.add; split <;> rfl
      exact ⟨ad, ha, Nat.lt_of_lt_of_le hb (Nat.le_trans (by rw [World.size_alloc]; omega) hx.size), (World.cell?_of_block (by rw [hab]; exact hbx)).trans hc⟩
  have HD : Hid (∀ y, DiskAt y b sb mb (.slice none 0 0) (.slice none 0 0) ⟨M.rounds (M.odd len z) d.S d.L d.L.length, [], d.ops, [], 0, false⟩ → Disk y b P (M.restartD d (M.odd len z))) := fun y hy => ⟨sb, mb, _, _, hy, p1, p2, p3, fun k e => (by cases e), fun k e => (by cases e)⟩
  have HP : Hid (∀ k, k = b ∨ k = sb ∨ k = mb → P k) := fun k e => by
    rcases e with e | e | e
    · exact e ▸ p1
    · exact e ▸ p2
    · exact e ▸ p3
  clear h ho hz hA HA hsome hsl p2 p3 p4 p5
  go_enter Try.func24, Try.ntmps24
  go_wp2_with fail
  refine HS.out.mono ?_
  rintro e w2 ⟨rfl, hA2, hk2⟩
  obtain ⟨q1, q2, q3, q4, q5, q6, HX⟩ := hA2.fresh
  have HK2 : Hid (Kept P w w2) := ((Kept.refl P w).alloc _).trans (hk2.mono (fun k _ e => HP.out k e))
  clear hA2 hk2 HS
  go_wp2_with fail
  go_end0
  exact ⟨rfl, HD.out _ HX.out.1, HK2.out.trans (HX.out.2.mono (fun k _ e => HP.out k (Or.inl e)))⟩
end Go.Proofs.Ytnjhbmpdpejpcaa
