/-
  Walks over disk.Write. Walks over disk.settle, Flush and Restart; clear of a map. Walks over disk.Flush and disk.Restart. Walks over disk.Read. Disks of which no call fails: what the calls do, one contract a call.
-/
import Derived.Test.YtmgchfjfkdkaoaaGreatDoorMD
import Derived.MapFrom
import Derived.Shelf.Abstract
namespace Go.Proofs.YtmgchfjfkdkaoaaGreatDoor
open Go.RowKit Go.Maps

theorem DiskAt.disk {w : World} {b sb mb : Nat} {WV FV : Value} {d : M.D} (h : DiskAt w b sb mb WV FV d) : Disk w b (fun _ => True) d := ⟨sb, mb, WV, FV, h, trivial, trivial, trivial, fun _ _ => trivial, fun _ _ => trivial⟩
theorem DiskAt.alloc {w : World} {b sb mb : Nat} {WV FV : Value} {d : M.D} (h : DiskAt w b sb mb WV FV d) (o : Obj) : DiskAt (w.alloc o) b sb mb WV FV d :=
  h.kept ((Kept.refl (fun _ => False) w).alloc o) id id id (fun _ _ => id) (fun _ _ => id)
theorem cells2 (w : World) (x y : Value) (t : TypeId) : (w.alloc (.cells #[x, y] t)).cell? ⟨w.heap.size, 0, none⟩ = some x ∧ (w.alloc (.cells #[x, y] t)).cell? ⟨w.heap.size, 1, none⟩ = some y :=
  ⟨((Box.new w t #[x, y]).cell 0).trans rfl, ((Box.new w t #[x, y]).cell 1).trans rfl⟩

/-- Is a write laid? -/
def M.lays (d : M.D) (i : Int) (s : ByteArray) : Bool := decide (M.wrong d.S.length i s = 0) && (decide (M.beginE d = 0) || ((M.beginD d).dn && !d.dn))
/-- The disk behind a write. -/
def M.writeD (d : M.D) (i : Int) (s : ByteArray) : M.D := if M.lays d i s = true then { M.beginD d with L := d.L ++ [(i.toNat, s)] } else M.beginD d
/-- What a write comes to. -/
def M.writeE (d : M.D) (i : Int) (s : ByteArray) : Int := M.or2 (M.beginE d) (M.wrong d.S.length i s)

/-- How a call may begin. -/
theorem M.dbegins (d : M.D) : (d.dn = true ∧ M.beginE d = 31 ∧ (M.beginD d).dn = true) ∨ (d.dn = false ∧ M.beginE d = 31 ∧ (M.beginD d).dn = true) ∨ (d.dn = false ∧ M.beginE d = 30 ∧ (M.beginD d).dn = false) ∨ (d.dn = false ∧ M.beginE d = 0 ∧ (M.beginD d).dn = false) := by
  unfold M.beginE M.beginD
  cases h : d.dn with
  | true => exact Or.inl ⟨rfl, rfl, rfl⟩
  | false =>
    by_cases h1 : d.da = (d.ops + 1 : Nat)
    · exact Or.inr (Or.inl ⟨rfl, by simp [h1], by simp [h1]⟩)
    · by_cases h2 : ((d.ops + 1 : Nat) : Int) ∈ d.fails
      · exact Or.inr (Or.inr (Or.inl ⟨rfl, by rw [if_neg (by simp), if_neg h1, if_pos h2], by simpa using h1⟩))
      · exact Or.inr (Or.inr (Or.inr ⟨rfl, by rw [if_neg (by simp), if_neg h1, if_neg h2], by simpa using h1⟩))

theorem write_nil (i : Int) (s : ByteArray) (w : World) : Calls Tryz.prog 92 #[.pointer none, .int .i64 i, .string s] w fun e w' => e = .returned (.int .i64 10) ∧ Below w.heap.size w w' := by
  have HC := Lib.hid (fun (w : World) => or_any (x := 10) (y := 3) _ (cells2 w (.int .i64 10) (.int .i64 3) 32).1 (cells2 w (.int .i64 10) (.int .i64 3) 32).2)
  go_enter Tryz.func92, Tryz.ntmps92
  go_wp2_with fail
  refine (down_nil w).mono ?_
  rintro e w1 ⟨rfl, rfl⟩
  go_wp2_with fail
  refine (begin_nil _).mono ?_
  rintro e w1 ⟨rfl, rfl⟩
  go_wp2_with fail
  refine (down_nil _).mono ?_
  rintro e w1 ⟨rfl, rfl⟩
  go_wp2_with fail
  refine (refuses_nil i s _).mono ?_
  rintro e w1 ⟨rfl, rfl⟩
  go_wp2_with fail
  refine (HC.out _).mono ?_
  rintro e w2 ⟨rfl, rfl⟩
  go_wp2_with fail
  go_ret
  exact ⟨rfl, (Below.refl _ _).alloc (Nat.le_refl _) _⟩

set_option maxHeartbeats 1000000 in
/-- A write that is not laid. -/
theorem write_no (i : Int) (s : ByteArray) (w : World) {b sb mb : Nat} {WV FV : Value} {d : M.D} (h : DiskAt w b sb mb WV FV d) (ho : d.ops ≤ 1099511627776) (hno : M.lays d i s = false) :
    Calls Tryz.prog 92 #[.pointer (some ⟨b, 0, none⟩), .int .i64 i, .string s] w fun e w' => e = .returned (.int .i64 (M.writeE d i s)) ∧
      ∃ FV', DiskAt w' b sb mb WV FV' (M.beginD d) ∧ FV'.ownBlock = FV.ownBlock ∧ Kept (fun k => k = b ∨ FV.ownBlock = some k) w w' := by
  have HD := Lib.hid (down_any w h.disk)
  have HB := Lib.hid (begin_at w h ho)
  have hbs := M.dbegins d
  unfold M.writeE
  unfold M.lays at hno
  have HC : Hid (∀ y FV', DiskAt y b sb mb WV FV' (M.beginD d) → (Calls Tryz.prog 124 #[.pointer (some ⟨b, 0, none⟩)] y fun e w' => e = .returned (.bool (M.beginD d).dn) ∧ w' = y) ∧
      (Calls Tryz.prog 125 #[.pointer (some ⟨b, 0, none⟩), .int .i64 i, .string s] y fun e w' => e = .returned (.int .i64 (M.wrong d.S.length i s)) ∧ w' = y)) :=
    fun y FV' hy => ⟨down_any y hy.disk, refuses_any (d := M.beginD d) i s y hy.disk⟩
  obtain ⟨E, hE⟩ : ∃ E, E = M.beginE d := ⟨_, rfl⟩
  obtain ⟨F, hF⟩ : ∃ F, F = M.wrong d.S.length i s := ⟨_, rfl⟩
  rw [← hE] at HB hbs hno
  rw [← hF] at HC hno
  rw [← hE, ← hF]
  have HO := Lib.hid (fun (w : World) => or_any (x := E) (y := F) _ (cells2 w (.int .i64 E) (.int .i64 F) 32).1 (cells2 w (.int .i64 E) (.int .i64 F) 32).2)
  clear hE hF h ho
  rcases hbs with ⟨h1, rfl, h3⟩ | ⟨h1, rfl, h3⟩ | ⟨h1, rfl, h3⟩ | ⟨h1, rfl, h3⟩
  all_goals
    rw [h1] at HD
    rw [h3] at HC
    rw [h1, h3] at hno
    have hw : (F = 0) ∨ ((F == 0) = false) := by
      by_cases h : F = 0
      · exact Or.inl h
      · exact Or.inr (by rw [beq_eq_false_iff_ne]; exact h)
    clear h1 h3
    rcases hw with rfl | hw
    all_goals first | (exfalso; simp at hno; done) | skip
  all_goals
    clear hno
    go_enter Tryz.func92, Tryz.ntmps92
    go_wp2_with fail
    refine HD.out.mono ?_
    rintro e w1 ⟨rfl, rfl⟩
    go_wp2_with fail
    refine HB.out.mono ?_
    rintro e w2 ⟨rfl, FV', hA, hfv, hk⟩
    have HA := Lib.hid hA
    have HV := Lib.hid hfv
    have HK := Lib.hid hk
    clear hA hfv hk HB HD
    go_wp2_with fail
    refine (HC.out _ _ HA.out).1.mono ?_
    rintro e w3 ⟨rfl, rfl⟩
    go_wp2_with fail
    refine (HC.out _ _ HA.out).2.mono ?_
    rintro e w4 ⟨rfl, rfl⟩
    go_wp2_with fail
    refine (HO.out _).mono ?_
    rintro e w5 ⟨rfl, rfl⟩
    go_wp2_with fail
    go_ret
    exact ⟨rfl, FV', HA.out.alloc _, HV.out, HK.out.alloc _⟩

theorem M.wrong_ok {n : Nat} {i : Int} {s : ByteArray} (h : M.wrong n i s = 0) : ∃ k : Nat, i = k ∧ k < n ∧ s.size = 64 := by
  unfold M.wrong at h
  split at h
  · rename_i hb
    unfold M.hasB at hb
    simp at hb
    split at h
    · rename_i hs
      exact ⟨i.toNat, by omega, by omega, hs⟩
    · cases h
  · cases h

set_option maxHeartbeats 1000000 in
/-- A write that is laid. -/
theorem write_yes (k : Nat) (s : ByteArray) (w : World) {b sb mb : Nat} {WV FV : Value} {d : M.D} (h : DiskAt w b sb mb WV FV d) (ho : d.ops ≤ 1099511627776) (hyes : M.lays d k s = true) (hk : k < d.S.length) (hs : s.size = 64) :
    Calls Tryz.prog 92 #[.pointer (some ⟨b, 0, none⟩), .int .i64 k, .string s] w fun e w' => e = .returned (.int .i64 (M.writeE d k s)) ∧
      ∃ WV' FV', DiskAt w' b sb mb WV' FV' { M.beginD d with L := d.L ++ [(k, s)] } ∧ FV'.ownBlock = FV.ownBlock ∧ (∀ g, WV'.ownBlock = some g → WV.ownBlock = some g ∨ w.heap.size ≤ g) ∧ Kept (fun j => j = b ∨ j = mb ∨ WV.ownBlock = some j ∨ FV.ownBlock = some j) w w' := by
  have HD := Lib.hid (down_any w h.disk)
  have HB := Lib.hid (begin_at w h ho)
  have hbs := M.dbegins d
  have hsome := h.inv.some_
  unfold M.writeE
  unfold M.lays at hyes
  have HC : Hid (∀ y FV', DiskAt y b sb mb WV FV' (M.beginD d) → (Calls Tryz.prog 124 #[.pointer (some ⟨b, 0, none⟩)] y fun e w' => e = .returned (.bool (M.beginD d).dn) ∧ w' = y) ∧
      (Calls Tryz.prog 125 #[.pointer (some ⟨b, 0, none⟩), .int .i64 k, .string s] y fun e w' => e = .returned (.int .i64 (M.wrong d.S.length k s)) ∧ w' = y)) :=
    fun y FV' hy => ⟨down_any y hy.disk, refuses_any (d := M.beginD d) k s y hy.disk⟩
  have HL : Hid (∀ y FV', DiskAt y b sb mb WV FV' (M.beginD d) → Calls Tryz.prog 126 #[.pointer (some ⟨b, 0, none⟩), .int .i64 k, .string s] y fun e w' => e = .returned (.tuple #[]) ∧
      ∃ WV', DiskAt w' b sb mb WV' FV' { M.beginD d with L := d.L ++ [(k, s)] } ∧ (∀ g, WV'.ownBlock = some g → WV.ownBlock = some g ∨ y.heap.size ≤ g) ∧ Kept (fun j => j = b ∨ j = mb ∨ WV.ownBlock = some j) y w') :=
    fun y FV' hy => lay_at k s y hy hk hs (by show d.L.length < d.ops + 1; omega) (by show d.ops + 1 ≤ _; omega)
  obtain ⟨E, hE⟩ : ∃ E, E = M.beginE d := ⟨_, rfl⟩
  obtain ⟨F, hF⟩ : ∃ F, F = M.wrong d.S.length k s := ⟨_, rfl⟩
  rw [← hE] at HB hbs hyes
  rw [← hF] at HC hyes
  rw [← hE, ← hF]
  have HO := Lib.hid (fun (w : World) => or_any (x := E) (y := F) _ (cells2 w (.int .i64 E) (.int .i64 F) 32).1 (cells2 w (.int .i64 E) (.int .i64 F) 32).2)
  clear hE hF h ho hsome hk hs
  rcases hbs with ⟨h1, rfl, h3⟩ | ⟨h1, rfl, h3⟩ | ⟨h1, rfl, h3⟩ | ⟨h1, rfl, h3⟩
  all_goals
    rw [h1] at HD
    rw [h3] at HC
    rw [h1, h3] at hyes
    all_goals first | (exfalso; simp at hyes; done) | skip
  all_goals
    have hw : F = 0 := by simpa using hyes
    clear h1 h3 hyes
    subst hw
    go_enter Tryz.func92, Tryz.ntmps92
    go_wp2_with fail
    refine HD.out.mono ?_
    rintro e w1 ⟨rfl, rfl⟩
    go_wp2_with fail
    refine HB.out.mono ?_
    rintro e w2 ⟨rfl, FV', hA, hfv, hk⟩
    have HA := Lib.hid hA
    have HV := Lib.hid hfv
    have HK := Lib.hid hk
    clear hA hfv hk HB HD
    go_wp2_with fail
    refine (HC.out _ _ HA.out).1.mono ?_
    rintro e w3 ⟨rfl, rfl⟩
    go_wp2_with fail
    refine (HC.out _ _ HA.out).2.mono ?_
    rintro e w4 ⟨rfl, rfl⟩
    go_wp2_with fail
    refine (HL.out _ _ HA.out).mono ?_
    rintro e w5 ⟨rfl, WV', hA5, hwv, hk5⟩
    have HA5 := Lib.hid hA5
    have HW5 := Lib.hid hwv
    have HK5 := Lib.hid hk5
    clear hA5 hwv hk5
    go_wp2_with fail
    refine (HO.out _).mono ?_
    rintro e w6 ⟨rfl, rfl⟩
    go_wp2_with fail
    go_ret
    exact ⟨rfl, WV', FV', HA5.out.alloc _, HV.out, fun g e => (HW5.out g e).imp id (fun e => Nat.le_trans HK.out.size e), ((HK.out.mono (fun _ _ e => e.elim Or.inl (fun e => Or.inr (Or.inr (Or.inr e))))).trans (HK5.out.mono (fun _ _ e => e.imp id (fun e => e.imp id Or.inl)))).alloc _⟩

/-- P, and whatever is new. -/
def M.plus (P : Nat → Prop) (n : Nat) : Nat → Prop := fun k => P k ∨ n ≤ k

theorem write_any (i : Int) (s : ByteArray) (w : World) {b : Nat} {P : Nat → Prop} {d : M.D} (h : Disk w b P d) (ho : d.ops ≤ 1099511627776) :
    Calls Tryz.prog 92 #[.pointer (some ⟨b, 0, none⟩), .int .i64 i, .string s] w fun e w' => e = .returned (.int .i64 (M.writeE d i s)) ∧ Disk w' b (M.plus P w.heap.size) (M.writeD d i s) ∧ Kept P w w' := by
  obtain ⟨sb, mb, WV, FV, h, p1, p2, p3, p4, p5⟩ := h
  unfold M.writeD
  cases hl : M.lays d i s with
  | false =>
    refine (write_no i s w h ho hl).mono ?_
    rintro e w' ⟨rfl, FV', hA, hf, hk⟩
    exact ⟨rfl, ⟨sb, mb, WV, FV', hA, Or.inl p1, Or.inl p2, Or.inl p3, fun k e => Or.inl (p4 k e), fun k e => Or.inl (p5 k (hf ▸ e))⟩, hk.mono (fun k _ e => e.elim (fun e => e ▸ p1) (p5 k))⟩
  | true =>
    have hw : M.wrong d.S.length i s = 0 := by
      unfold M.lays at hl
      simp at hl
      exact hl.1
    obtain ⟨k, rfl, hk, hs⟩ := M.wrong_ok hw
    refine (write_yes k s w h ho hl hk hs).mono ?_
    rintro e w' ⟨rfl, WV', FV', hA, hf, hwv, hk⟩
    refine ⟨rfl, ⟨sb, mb, WV', FV', hA, Or.inl p1, Or.inl p2, Or.inl p3, fun k e => (hwv k e).imp (p4 k) id, fun k e => Or.inl (p5 k (hf ▸ e))⟩, hk.mono (fun k _ e => ?_)⟩
    rcases e with e | e | e | e
    · exact e ▸ p1
    · exact e ▸ p3
    · exact p4 k e
    · exact p5 k e
end Go.Proofs.YtmgchfjfkdkaoaaGreatDoor
namespace Go.Proofs.YtmgchfjfkdkaoaaGreatDoor
open Go.RowKit Go.Maps Go.MapKept

/-- clear(m): nothing is in the map any more. -/
theorem run_clear_map {P : Program} {w : World} {t k e : TypeId} (ht : P.underlying t = some (.map k e)) {R : Value → Option (DataW Unit × List MemPlace)} {b n : Nat} {m : DataW Unit} (hown : w.ownsMap P k R b n m) (ty : TypeId) :
    ∃ w', (Builtin.clear_ #[t] ty #[.map (some b)]).run P w = .ok (.tuple #[]) w' ∧ w'.ownsMap P k R b 0 (.map []) ∧ Kept (fun j => j = b) w w' := by
  obtain ⟨es, clock, hb, F, _, _⟩ := hown
  refine ⟨{ w with heap := w.heap.setIfInBounds b (.map #[] clock) }, by simp [Builtin.clear_, run_underlying ht, MapKept.run_getObj_map hb, MapKept.run_setObj_map _ hb, Result.andThen], ?_, ?_⟩
  · exact ⟨#[], clock, (heap_set hb).1, ⟨by simp, stamped_empty _, by simp⟩, Nat.le_refl _, rfl⟩
  · exact ⟨rfl, rfl, rfl, by simp, fun k _ hp => (heap_set hb).2 k hp⟩
theorem wpList_clear_own {P : Program} (w : World) {ops : Array Oper} {rest : List Oper} {o : Oper} {a : Act} {Q : Exit → Act → World → Prop} (hg : o.guard = none) (m : Operand) (t : TypeId)
    (hop : o.op = Op.call { callee := Callee.builtin Builtin.clear, args := #[m], argTypes := #[t] }) (k e : TypeId) (ht : P.underlying t = some (.map k e)) (R : Value → Option (DataW Unit × List MemPlace)) (b n : Nat) (D : DataW Unit)
    (hm : a.eval m = .map (some b)) (hown : w.ownsMap P k R b n D) (hK : ∀ w', w'.ownsMap P k R b 0 (.map []) → Kept (fun j => j = b) w w' → wpList P ops Q rest (a.put o.dst (.tuple #[])) w') :
    wpList P ops Q (o :: rest) a w := by
  refine wpList_plain hg fun K' hK' => ?_
  obtain ⟨w', hrun, r1, r2⟩ := run_clear_map ht hown o.type
  unfold Oper.wp
  simp [execOp, hop, resolve, invoke, builtin, hm, hrun, Result.andThen]
  exact hK' _ _ (hK w' r1 r2)

/-- The cells of a write. -/
theorem owned_writes {w : World} {B g n cap i : Nat} {L : List (Nat × ByteArray)} {p : Nat × ByteArray} (h : w.ownsRow B 111 2 (.slice (some ⟨g, 0, none⟩) n cap) n (M.cells L)) (hp : L[i]? = some p) :
    w.cell? ⟨g, i * 2, none⟩ = some (.int .i64 (p.1 : Nat)) ∧ w.cell? ⟨g, i * 2 + 1, none⟩ = some (.string p.2) := by
  have h1 := h.cells (g := g) rfl _ _ (M.cells_at hp).1
  have h2 := h.cells (g := g) rfl _ _ (M.cells_at hp).2
  rw [blk_add] at h1 h2
  exact ⟨h1, h2⟩

/-- Behind the last round: nothing waits. -/
theorem DiskAt.settled {w y y2 : World} {b sb mb : Nat} {WV FV : Value} {d : M.D} {T : List ByteArray} (h : DiskAt w b sb mb WV FV d) (hk : Kept (fun k => k = sb) w y) (hB : Box y sb 9 (T.map Value.string).toArray) (hT : T.length = d.S.length) (hT2 : ∀ s ∈ T, s.size = 64)
    (hown : y2.ownsMap Tryz.prog 3 (plainElem Tryz.prog 3) mb 0 (DataW.map [] : DataW Unit)) (hk2 : Kept (fun j => j = mb) (y.setCell ⟨b, 1, none⟩ (.slice none 0 0)) y2) :
    DiskAt y2 b sb mb (.slice none 0 0) FV { d with S := T, L := [] } ∧ Kept (fun k => k = b ∨ k = sb ∨ k = mb) w y2 := by
  have hk1 : Kept (fun k => k = b) y (y.setCell ⟨b, 1, none⟩ (.slice none 0 0)) := Kept.set' (P := fun k => k = b) rfl 1 _
  have hka : Kept (fun k => k = b ∨ k = sb ∨ k = mb) w y2 := ((hk.mono (fun _ _ e => Or.inr (Or.inl e))).trans (hk1.mono (fun _ _ e => Or.inl e))).trans (hk2.mono (fun _ _ e => Or.inr (Or.inr e)))
  refine ⟨⟨?_, ?_, ⟨_, hown, M.MapIs.nil⟩, World.ownsRow_nil _ _ _ _, ?_, ⟨?_, hT2, fun p hp => (by cases hp), fun p hp => (by cases hp), Nat.zero_le _⟩, h.bs, h.bm, h.sm, fun k e => (by cases e), fun k e => ⟨(h.fn k e).1, (h.fn k e).2.1, (h.fn k e).2.2.1, fun e => (by cases e)⟩⟩, hka⟩
  · refine hk2.box ?_ h.bm
    have := (hk.box h.box h.bs).set 1 (.slice none 0 0)
    simpa [hT] using this
  · exact hk2.box (hk1.box hB (Ne.symm h.bs)) h.sm
  · exact hka.owns h.fails (fun k e e' => e'.elim (fun e' => (h.fn k e).1 e') (fun e' => e'.elim (fun e' => (h.fn k e).2.1 e') (fun e' => (h.fn k e).2.2.1 e')))
  · show T.length ≤ 1000
    rw [hT]
    exact h.inv.many

set_option maxRecDepth 100000 in
set_option maxHeartbeats 1000000 in
theorem settle_at (fn : FuncId) (cp : Array Value) (f : Nat → Bool) (w : World) {b sb mb : Nat} {WV FV : Value} {d : M.D} (h : DiskAt w b sb mb WV FV d) (ho : d.ops ≤ 1099511627777)
    (hcf : ∀ (args : Array Value) (y : World), (callFunc fn args).run Tryz.prog y = .ok (.enter fn args) y)
    (HF : Hid (∀ y, Kept (fun k => k = sb) w y → ∀ i : Nat, i < d.L.length → Calls Tryz.prog fn (#[.int .i64 (i : Nat)] ++ cp) y fun e y' => e = .returned (.bool (f i)) ∧ y' = y)) :
    Calls Tryz.prog 29 #[.pointer (some ⟨b, 0, none⟩), .func (.func fn) #[] cp] w fun e w' => e = .returned (.tuple #[]) ∧
      DiskAt w' b sb mb (.slice none 0 0) FV { d with S := M.rounds f d.S d.L d.L.length, L := [] } ∧ Kept (fun k => k = b ∨ k = sb ∨ k = mb) w w' := by
  obtain ⟨m, hm1, hm2⟩ := h.map
  have c1 := h.c1
  have hsome := h.inv.some_
  have HE : Hid (∀ y y2 : World, Kept (fun k => k = sb) w y → Box y sb 9 ((M.rounds f d.S d.L d.L.length).map Value.string).toArray → y2.ownsMap Tryz.prog 3 (plainElem Tryz.prog 3) mb 0 (DataW.map [] : DataW Unit) → Kept (fun j => j = mb) (y.setCell ⟨b, 1, none⟩ (.slice none 0 0)) y2 →
      DiskAt y2 b sb mb (.slice none 0 0) FV { d with S := M.rounds f d.S d.L d.L.length, L := [] } ∧ Kept (fun k => k = b ∨ k = sb ∨ k = mb) w y2) :=
    fun y y2 h1 h2 h3 h4 => h.settled h1 h2 (M.rounds_len _ _ _ _) (M.rounds_mem h.inv.sure h.inv.wide _) h3 h4
  have HC : Hid (∀ y : World, Kept (fun k => k = sb) w y → y.cell? ⟨b, 0, none⟩ = some (.slice (some ⟨sb, 0, none⟩) d.S.length d.S.length) ∧ y.cell? ⟨b, 1, none⟩ = some WV ∧ y.cell? ⟨b, 2, none⟩ = some (.map (some mb)) ∧ y.frozen? ⟨b, 1, none⟩ = false ∧
      (y.setCell ⟨b, 1, none⟩ (.slice none 0 0)).cell? ⟨b, 2, none⟩ = some (.map (some mb)) ∧ Hid ((y.setCell ⟨b, 1, none⟩ (.slice none 0 0)).ownsMap Tryz.prog 3 (plainElem Tryz.prog 3) mb d.L.length m)) := by
    intro y hk
    have hB := hk.box h.box h.bs
    have hB1 := hB.set 1 (.slice none 0 0)
    exact ⟨by simpa using hB.cell 0, by simpa using hB.cell 1, by simpa using hB.cell 2, hB.frozen 1, by simpa using hB1.cell 2, (hk.map hm1 (Ne.symm h.sm)).setCell (Ne.symm h.bm) _⟩
  have HW : Hid (∀ y : World, Kept (fun k => k = sb) w y → y.ownsRow 0 111 2 WV d.L.length (M.cells d.L)) := fun y hk => hk.owns h.writes (fun k e => (h.wn k e).2.1)
  have HS0 := Lib.hid h.sure
  have HLS := Lib.hid h.inv.lies
  have hsl := h.sure.lt
  have hbs := h.bs
  rcases h.writes.2 with ⟨e, hn0⟩ | ⟨g, cap, cur, e, _, _, hcap, _, _, _⟩
  · subst e
    have hL : d.L = [] := List.eq_nil_of_length_eq_zero hn0
    rw [hL] at HE HC ⊢
    clear hL hn0 HW HLS h hm1 hm2 HF hsome
    go_enter Tryz.func29, Tryz.ntmps29
    go_wp2_with fail
    go_loopw [11] (fun i wr => i = .int .i64 0 ∧ wr = w) (fun i _ => 0)
    case atStart => exact ⟨rfl, rfl⟩
    case round =>
      obtain ⟨rfl, rfl⟩ := hrel
      obtain ⟨e0, e1, e2, g1, e2', HM⟩ := HC.out wr (Kept.refl _ _)
      go_wp2_with (refine wpList_clear_own _ rfl _ 67 rfl 3 3 Tryz.underlying67 _ mb _ m rfl HM.out ?_; intro y2 ho2 hk2; have HX := Lib.hid (HE.out wr y2 (Kept.refl _ _) HS0.out ho2 hk2); clear ho2 hk2)
      go_end0
      exact ⟨rfl, HX.out⟩
  · subst e
    obtain ⟨n, hn⟩ : ∃ n, n = d.L.length := ⟨_, rfl⟩
    obtain ⟨z, hz⟩ : ∃ z, z = d.S.length := ⟨_, rfl⟩
    rw [← hn] at c1 HF HC HE HW hcap
    rw [← hz] at HC
    rw [← hn]
    have hn40 : (n : Int) ≤ 1099511627777 := by omega
    have hz1000 : (z : Int) ≤ 1000 := by have := h.inv.many; omega
    have HN := Lib.hid hn
    have HZ := Lib.hid hz
    clear h hm1 hm2 hn hz hsome
    go_enter Tryz.func29, Tryz.ntmps29
    go_wp2_with fail
    go_loopw [11] (fun i wr => ∃ k : Nat, k ≤ n ∧ i = .int .i64 k ∧ Kept (fun k => k = sb) w wr ∧ Box wr sb 9 ((M.rounds f d.S d.L k).map Value.string).toArray) (fun i _ => n - (intOf i).toNat)
    case atStart => exact ⟨0, Nat.zero_le _, rfl, Kept.refl _ _, HS0.out⟩
    case round =>
      obtain ⟨k, hk, rfl, hK, hB⟩ := hrel
      obtain ⟨e0, e1, e2, g1, e2', HM⟩ := HC.out wr hK
      by_cases hlt : k < n
      · have hlt' : (k : Int) < (n : Int) := by omega
        have hk0 : (0 : Int) ≤ (k : Int) := by omega
        obtain ⟨p, hp⟩ : ∃ p, d.L[k]? = some p := ⟨d.L[k]'(by have := HN.out; omega), List.getElem?_eq_getElem _⟩
        obtain ⟨x0, x1⟩ := owned_writes (HW.out wr hK) hp
        obtain ⟨a, s⟩ := p
        simp only at x0 x1
        have haz : a < z := by have := HLS.out _ (List.mem_of_getElem? hp); rw [HZ.out]; exact this
        have haz' : (a : Int) < (z : Int) := by omega
        have ha0 : (0 : Int) ≤ (a : Int) := by omega
        obtain ⟨x, hx⟩ : ∃ x, x = wr.alloc (Obj.cells #[.int .i64 (a : Nat), .string s] 111) := ⟨_, rfl⟩
        have HKx : Hid (Kept (fun k => k = sb) w x) := by rw [hx]; exact hK.alloc _
        have HBx : Hid (Box x sb 9 ((M.rounds f d.S d.L k).map Value.string).toArray) := by rw [hx]; exact (Below.heap_alloc wr _ _ hB.lt).trans hB
        have HFx := Lib.hid (HF.out x HKx.out k hlt)
        obtain ⟨y0, _, _, _, _, _⟩ := HC.out x HKx.out
        have y3 : x.cell? ⟨wr.heap.size, 0, none⟩ = some (.int .i64 (a : Nat)) := by rw [hx]; exact (cells2 wr _ _ _).1
        have y4 : x.cell? ⟨wr.heap.size, 1, none⟩ = some (.string s) := by rw [hx]; exact (cells2 wr _ _ _).2
        have HP := Lib.hid hp
        have HX := Lib.hid hx
        clear hx hB hK hp HC HF e2 g1 e2' HM HS0
        cases hf : f k with
        | false =>
          rw [hf] at HFx
          have HR : Hid (M.rounds f d.S d.L (k + 1) = M.rounds f d.S d.L k) := M.rounds_no HP.out hf
          clear hf
          go_wp2_with fail
          rw [← HX.out]
          refine HFx.out.mono ?_
          rintro e w1 ⟨rfl, rfl⟩
          go_wp2_with fail
          go_roundw
          case rel => exact ⟨k + 1, by omega, by go_num, HKx.out, by rw [HR.out]; exact HBx.out⟩
          case measure => simp [intOf]; omega
        | true =>
          rw [hf] at HFx
          have HR : Hid (M.rounds f d.S d.L (k + 1) = (M.rounds f d.S d.L k).set a s) := M.rounds_yes HP.out hf
          clear hf
          go_wp2_with fail
          rw [← HX.out]
          refine HFx.out.mono ?_
          rintro e w1 ⟨rfl, rfl⟩
          go_wp2_with fail
          go_still_tail 9, (by kernel_rfl)
          change wpList _ _ _ _ _ w1.drew
          obtain ⟨w3, hw3⟩ : ∃ v, v = w1.drew := ⟨_, rfl⟩
          have hal : a < (M.rounds f d.S d.L k).length := by rw [M.rounds_len, ← HZ.out]; exact haz
          have hB3 : Box w3 sb 9 ((M.rounds f d.S d.L k).map Value.string).toArray := by rw [hw3]; exact HBx.out
          have z1 : w3.cell? ⟨sb, a, none⟩ = some (.string ((M.rounds f d.S d.L k)[a]'hal)) := by rw [hB3.cell a]; simp [hal]
          have z2 := hB3.frozen a
          have HK3 : Hid (Kept (fun k => k = sb) w (w3.setCell ⟨sb, a, none⟩ (.string s))) := by rw [hw3]; exact HKx.out.drew.trans (Kept.set' (P := fun k => k = sb) rfl a _)
          have HB3 : Hid (Box (w3.setCell ⟨sb, a, none⟩ (.string s)) sb 9 ((M.rounds f d.S d.L (k + 1)).map Value.string).toArray) := by
            have := hB3.set a (.string s)
            rw [List.setIfInBounds_toArray, ← List.map_set] at this
            rw [HR.out]
            exact this
          obtain ⟨old, hold⟩ : ∃ o, o = (M.rounds f d.S d.L k)[a]'hal := ⟨_, rfl⟩
          rw [← hold] at z1
          rw [← hw3]
          clear hw3 hB3 hold hal HKx HBx HFx y0 y3 y4 HR
          go_wp2_with fail
          go_roundw
          case rel => exact ⟨k + 1, by omega, by go_num, HK3.out, HB3.out⟩
          case measure => simp [intOf]; omega
      · have e : k = n := by omega
        subst e
        have HBk := Lib.hid hB
        have HKk := Lib.hid hK
        clear hB hK
        go_wp2_with (refine wpList_clear_own _ rfl _ 67 rfl 3 3 Tryz.underlying67 _ mb _ m rfl HM.out ?_; intro y2 ho2 hk2; have HX := Lib.hid (HE.out wr y2 HKk.out HBk.out ho2 hk2); clear ho2 hk2)
        go_end0
        exact ⟨rfl, HX.out⟩
end Go.Proofs.YtmgchfjfkdkaoaaGreatDoor
namespace Go.Proofs.YtmgchfjfkdkaoaaGreatDoor
open Go.RowKit Go.Maps Go.Shelf

theorem enter_flush1 (args : Array Value) (y : World) : (callFunc 65 args).run Tryz.prog y = .ok (.enter 65 args) y :=
  enters_of Tryz.func65 (by kernel_rfl) rfl args y
theorem enter_restart1 (args : Array Value) (y : World) : (callFunc 30 args).run Tryz.prog y = .ok (.enter 30 args) y :=
  enters_of Tryz.func30 (by kernel_rfl) rfl args y
theorem flush1_any (i : Int) (w : World) : Calls Tryz.prog 65 #[.int .i64 i] w fun e w' => e = .returned (.bool true) ∧ w' = w := by
  go_enter Tryz.func65, Tryz.ntmps65
  go_wp2_with fail
  go_ret
  exact ⟨rfl, rfl⟩

/-- The disk behind a flush. -/
def M.flushD (d : M.D) : M.D := if M.beginE d = 0 then { M.beginD d with S := M.rounds (fun _ => true) d.S d.L d.L.length, L := [] } else M.beginD d

theorem flush_nil (w : World) : Calls Tryz.prog 28 #[.pointer none] w fun e w' => e = .returned (.int .i64 10) ∧ w' = w := by
  go_enter Tryz.func28, Tryz.ntmps28
  go_wp2_with fail
  refine (begin_nil w).mono ?_
  rintro e w1 ⟨rfl, rfl⟩
  go_wp2_with fail
  go_ret
  exact ⟨rfl, rfl⟩

set_option maxHeartbeats 1000000 in
theorem flush_any (w : World) {b : Nat} {P : Nat → Prop} {d : M.D} (h : Disk w b P d) (ho : d.ops ≤ 1099511627776) :
    Calls Tryz.prog 28 #[.pointer (some ⟨b, 0, none⟩)] w fun e w' => e = .returned (.int .i64 (M.beginE d)) ∧ Disk w' b P (M.flushD d) ∧ Kept P w w' := by
  obtain ⟨sb, mb, WV, FV, h, p1, p2, p3, p4, p5⟩ := h
  have HB := Lib.hid (begin_at w h ho)
  unfold M.flushD
  have HP : Hid (∀ k, k = b ∨ FV.ownBlock = some k → P k) := fun k e => e.elim (fun e => e ▸ p1) (p5 k)
  have HP2 : Hid (∀ k, k = b ∨ k = sb ∨ k = mb → P k) := fun k e => by
    rcases e with e | e | e
    · exact e ▸ p1
    · exact e ▸ p2
    · exact e ▸ p3
  have HD : Hid (∀ y FV' d', DiskAt y b sb mb WV FV' d' → FV'.ownBlock = FV.ownBlock → Disk y b P d') := fun y FV' d' hy hf => ⟨sb, mb, WV, FV', hy, p1, p2, p3, p4, fun k e => p5 k (hf ▸ e)⟩
  have HD2 : Hid (∀ y FV' d', DiskAt y b sb mb (.slice none 0 0) FV' d' → FV'.ownBlock = FV.ownBlock → Disk y b P d') := fun y FV' d' hy hf => ⟨sb, mb, _, FV', hy, p1, p2, p3, fun k e => (by cases e), fun k e => p5 k (hf ▸ e)⟩
  have HS : Hid (∀ y FV', DiskAt y b sb mb WV FV' (M.beginD d) → Calls Tryz.prog 29 #[.pointer (some ⟨b, 0, none⟩), .func (.func 65) #[] #[]] y fun e w' => e = .returned (.tuple #[]) ∧
      DiskAt w' b sb mb (.slice none 0 0) FV' { M.beginD d with S := M.rounds (fun _ => true) d.S d.L d.L.length, L := [] } ∧ Kept (fun k => k = b ∨ k = sb ∨ k = mb) y w') :=
    fun y FV' hy => settle_at _ #[] (fun _ => true) y hy (by show d.ops + 1 ≤ _; omega) enter_flush1 (fun x _ i _ => by
      have e : (#[.int .i64 (i : Nat)] ++ #[] : Array Value) = #[.int .i64 (i : Nat)] := by simp
      rw [e]
      exact flush1_any i x)
  clear h ho p1 p2 p3 p4 p5
  by_cases hE : M.beginE d = 0
  · rw [if_pos hE]
    rw [hE] at HB ⊢
    clear hE
    go_enter Tryz.func28, Tryz.ntmps28
    go_wp2_with fail
    refine HB.out.mono ?_
    rintro e w1 ⟨rfl, FV', hA, hf, hk⟩
    have HA := Lib.hid hA
    have HF := Lib.hid hf
    have HK := Lib.hid hk
    clear hA hf hk
    go_wp2_with fail
    refine (HS.out _ _ HA.out).mono ?_
    rintro e w2 ⟨rfl, hA2, hk2⟩
    have HA2 := Lib.hid hA2
    have HK2 := Lib.hid hk2
    clear hA2 hk2
    go_wp2_with fail
    go_ret
    exact ⟨rfl, HD2.out _ _ _ HA2.out HF.out, (HK.out.mono (fun k _ e => HP.out k e)).trans (HK2.out.mono (fun k _ e => HP2.out k e))⟩
  · rw [if_neg hE]
    obtain ⟨E, hEE⟩ : ∃ E, E = M.beginE d := ⟨_, rfl⟩
    rw [← hEE] at HB hE ⊢
    have hE' : (E == 0) = false := by rw [beq_eq_false_iff_ne]; exact hE
    clear hEE
    go_enter Tryz.func28, Tryz.ntmps28
    go_wp2_with fail
    refine HB.out.mono ?_
    rintro e w1 ⟨rfl, FV', hA, hf, hk⟩
    have HA := Lib.hid hA
    have HF := Lib.hid hf
    have HK := Lib.hid hk
    clear hA hf hk
    go_wp2_with fail
    go_ret
    exact ⟨rfl, HD.out _ _ _ HA.out HF.out, HK.out.mono (fun k _ e => HP.out k e)⟩

/-- Does the i-th write survive? -/
def M.odd (len : Nat) (z : Nat → Int) (i : Nat) : Bool := decide (i < len) && ((z i).tmod 2 != 0)
/-- The numbers z lie at A. -/
def ChoAt (w : World) (A : Option Addr) (len : Nat) (z : Nat → Int) : Prop := ∀ i, i < len → ∃ ad : Addr, A = some ad ∧ ad.block < w.heap.size ∧ w.cell? (ad.add i) = some (.int .i64 (z i))
theorem restart1_any (i : Nat) (g : Nat) (A : Option Addr) (len cap : Nat) (z : Nat → Int) (w : World) (hi : i ≤ 1099511627777) (hg : w.cell? ⟨g, 0, none⟩ = some (.slice A len cap)) (hz : ChoAt w A len z) :
    Calls Tryz.prog 30 #[.int .i64 (i : Nat), .pointer (some ⟨g, 0, none⟩)] w fun e w' => e = .returned (.bool (M.odd len z i)) ∧ w' = w := by
  by_cases hl : i < len
  · obtain ⟨ad, rfl, _, hc⟩ := hz i hl
    have hd : M.odd len z i = ((z i).tmod 2 != 0) := by simp [M.odd, hl]
    rw [hd]
    have hl' : (i : Int) < (len : Int) := by omega
    have h0 : (0 : Int) ≤ (i : Int) := by omega
    obtain ⟨x, hx⟩ : ∃ x, x = z i := ⟨_, rfl⟩
    rw [← hx] at hc ⊢
    clear hz hx hd
    go_enter Tryz.func30, Tryz.ntmps30
    go_wp2_with fail
    go_ret
    exact ⟨rfl, rfl⟩
  · have hd : M.odd len z i = false := by simp [M.odd, hl]
    rw [hd]
    have hl' : ¬ (i : Int) < (len : Int) := by omega
    clear hz hd
    go_enter Tryz.func30, Tryz.ntmps30
    go_wp2_with fail
    go_ret
    exact ⟨rfl, rfl⟩

/-- The disk behind a restart. -/
def M.restartD (d : M.D) (f : Nat → Bool) : M.D := ⟨M.rounds f d.S d.L d.L.length, [], d.ops, [], 0, false⟩

theorem restart_nil (A : Option Addr) (len cap : Nat) (w : World) : Calls Tryz.prog 15 #[.pointer none, .slice A len cap] w fun e w' => e = .returned (.tuple #[]) ∧ Below w.heap.size w w' := by
  go_enter Tryz.func15, Tryz.ntmps15
  go_wp2_with fail
  exact bodyPost_ret (results_none rfl _ _ _) rfl ⟨rfl, (Below.refl _ _).alloc (Nat.le_refl _) _⟩

/-- Nothing fails, nothing goes down. -/
theorem DiskAt.fresh {w : World} {b sb mb : Nat} {WV FV : Value} {d : M.D} (h : DiskAt w b sb mb WV FV d) :
    w.cell? ⟨b, 4, none⟩ = some FV ∧ w.frozen? ⟨b, 4, none⟩ = false ∧
      (w.setCell ⟨b, 4, none⟩ (.slice none 0 0)).cell? ⟨b, 5, none⟩ = some (.int .i64 d.da) ∧ (w.setCell ⟨b, 4, none⟩ (.slice none 0 0)).frozen? ⟨b, 5, none⟩ = false ∧
      ((w.setCell ⟨b, 4, none⟩ (.slice none 0 0)).setCell ⟨b, 5, none⟩ (.int .i64 0)).cell? ⟨b, 6, none⟩ = some (.bool d.dn) ∧ ((w.setCell ⟨b, 4, none⟩ (.slice none 0 0)).setCell ⟨b, 5, none⟩ (.int .i64 0)).frozen? ⟨b, 6, none⟩ = false ∧
      Hid (DiskAt (((w.setCell ⟨b, 4, none⟩ (.slice none 0 0)).setCell ⟨b, 5, none⟩ (.int .i64 0)).setCell ⟨b, 6, none⟩ (.bool false)) b sb mb WV (.slice none 0 0) ⟨d.S, d.L, d.ops, [], 0, false⟩ ∧
        Kept (fun k => k = b) w (((w.setCell ⟨b, 4, none⟩ (.slice none 0 0)).setCell ⟨b, 5, none⟩ (.int .i64 0)).setCell ⟨b, 6, none⟩ (.bool false))) := by
  have h1 := h.box.set 4 (.slice none 0 0)
  have h2 := h1.set 5 (.int .i64 0)
  have h3 := h2.set 6 (.bool false)
  have hk : Kept (fun k => k = b) w (((w.setCell ⟨b, 4, none⟩ (.slice none 0 0)).setCell ⟨b, 5, none⟩ (.int .i64 0)).setCell ⟨b, 6, none⟩ (.bool false)) :=
    ((Kept.set' (P := fun k => k = b) rfl 4 _).set (fun _ => rfl) 5 _).set (fun _ => rfl) 6 _
  obtain ⟨m, hm1, hm2⟩ := h.map
  refine ⟨h.c4, h.box.frozen 4, by simpa using h1.cell 5, h1.frozen 5, by simpa using h2.cell 6, h2.frozen 6, ⟨by simpa using h3, hk.box h.sure (Ne.symm h.bs), ⟨m, hk.map hm1 (Ne.symm h.bm), hm2⟩, hk.owns h.writes (fun k e => (h.wn k e).1), World.ownsRow_nil _ _ _ _, ⟨h.inv.many, h.inv.sure, h.inv.lies, h.inv.wide, h.inv.some_⟩, h.bs, h.bm, h.sm, h.wn, fun k e => (by cases e)⟩, hk⟩

set_option maxHeartbeats 1000000 in
theorem restart_any (A : Option Addr) (len cap : Nat) (z : Nat → Int) (w : World) {b : Nat} {P : Nat → Prop} {d : M.D} (h : Disk w b P d) (ho : d.ops ≤ 1099511627776) (hz : ChoAt w A len z) (hA : 0 < len → ∀ ad, A = some ad → ¬ P ad.block) :
    Calls Tryz.prog 15 #[.pointer (some ⟨b, 0, none⟩), .slice A len cap] w fun e w' => e = .returned (.tuple #[]) ∧ Disk w' b P (M.restartD d (M.odd len z)) ∧ Kept P w w' := by
  obtain ⟨sb, mb, WV, FV, h, p1, p2, p3, p4, p5⟩ := h
  have hsome := h.inv.some_
  have hsl := h.sure.lt
  have HA : Hid (DiskAt (w.alloc (.cells #[.slice A len cap] 63)) b sb mb WV FV d) := h.alloc _
  have HS : Hid (Calls Tryz.prog 29 #[.pointer (some ⟨b, 0, none⟩), .func (.func 30) #[] #[.pointer (some ⟨w.heap.size, 0, none⟩)]] (w.alloc (.cells #[.slice A len cap] 63)) fun e w' => e = .returned (.tuple #[]) ∧
      DiskAt w' b sb mb (.slice none 0 0) FV { d with S := M.rounds (M.odd len z) d.S d.L d.L.length, L := [] } ∧ Kept (fun k => k = b ∨ k = sb ∨ k = mb) (w.alloc (.cells #[.slice A len cap] 63)) w') := by
    refine settle_at _ #[.pointer (some ⟨w.heap.size, 0, none⟩)] (M.odd len z) _ HA.out (by omega) enter_restart1 (fun x hx i hi => ?_)
    have e : (#[.int .i64 (i : Nat)] ++ #[.pointer (some ⟨w.heap.size, 0, none⟩)] : Array Value) = #[.int .i64 (i : Nat), .pointer (some ⟨w.heap.size, 0, none⟩)] := by simp
    rw [e]
    refine restart1_any i w.heap.size A len cap z x (by omega) ?_ ?_
    · have hb : Box (w.alloc (.cells #[.slice A len cap] 63)) w.heap.size 63 #[.slice A len cap] := Box.new _ _ _
      have := (hx.box hb (by omega)).cell 0
      simpa using this
    · intro j hj
      obtain ⟨ad, ha, hb, hc⟩ := hz j hj
      have hne : ad.block ≠ sb := fun e => hA (by omega) ad ha (e ▸ p2)
      have hbx : x.heap[ad.block]? = w.heap[ad.block]? := (hx.block ad.block (by rw [World.size_alloc]; omega) hne).trans (Below.heap_alloc _ _ _ hb)
      have hab : (ad.add j).block = ad.block := by unfold Addr.add; split <;> rfl
      exact ⟨ad, ha, Nat.lt_of_lt_of_le hb (Nat.le_trans (by rw [World.size_alloc]; omega) hx.size), (World.cell?_of_block (by rw [hab]; exact hbx)).trans hc⟩
  have HD : Hid (∀ y, DiskAt y b sb mb (.slice none 0 0) (.slice none 0 0) ⟨M.rounds (M.odd len z) d.S d.L d.L.length, [], d.ops, [], 0, false⟩ → Disk y b P (M.restartD d (M.odd len z))) := fun y hy => ⟨sb, mb, _, _, hy, p1, p2, p3, fun k e => (by cases e), fun k e => (by cases e)⟩
  have HP : Hid (∀ k, k = b ∨ k = sb ∨ k = mb → P k) := fun k e => by
    rcases e with e | e | e
    · exact e ▸ p1
    · exact e ▸ p2
    · exact e ▸ p3
  clear h ho hz hA HA hsome hsl p2 p3 p4 p5
  go_enter Tryz.func15, Tryz.ntmps15
  go_wp2_with fail
  refine HS.out.mono ?_
  rintro e w2 ⟨rfl, hA2, hk2⟩
  obtain ⟨q1, q2, q3, q4, q5, q6, HX⟩ := hA2.fresh
  have HK2 : Hid (Kept P w w2) := ((Kept.refl P w).alloc _).trans (hk2.mono (fun k _ e => HP.out k e))
  clear hA2 hk2 HS
  go_wp2_with fail
  go_end0
  exact ⟨rfl, HD.out _ HX.out.1, HK2.out.trans (HX.out.2.mono (fun k _ e => HP.out k (Or.inl e)))⟩
end Go.Proofs.YtmgchfjfkdkaoaaGreatDoor
namespace Go.Proofs.YtmgchfjfkdkaoaaGreatDoor
open Go.RowKit Go.Maps

theorem zeroI (w : World) : (zeroValue 3).run Tryz.prog w = .ok (.int .i64 0) w := by kernel_rfl

theorem read_nil (i : Int) (w : World) : Calls Tryz.prog 84 #[.pointer none, .int .i64 i] w fun e w' => e = .returned (.tuple #[.string ⟨#[]⟩, .int .i64 10]) ∧ w' = w := by
  go_enter Tryz.func84, Tryz.ntmps84
  go_wp2_with fail
  refine (begin_nil w).mono ?_
  rintro e w1 ⟨rfl, rfl⟩
  go_wp2_with fail
  go_ret2
  exact ⟨rfl, rfl⟩

/-- What a read comes to. -/
def M.readE (d : M.D) (i : Int) : Int := if M.beginE d = 0 then (if M.hasB d.S.length i = true then 0 else 3) else M.beginE d
def M.readS (d : M.D) (i : Int) : ByteArray := if M.beginE d = 0 then (if M.hasB d.S.length i = true then M.seen d.S d.L i.toNat else ⟨#[]⟩) else ⟨#[]⟩

set_option maxHeartbeats 1000000 in
theorem read_at (i : Int) (w : World) {b sb mb : Nat} {WV FV : Value} {d : M.D} (h : DiskAt w b sb mb WV FV d) (ho : d.ops ≤ 1099511627776) :
    Calls Tryz.prog 84 #[.pointer (some ⟨b, 0, none⟩), .int .i64 i] w fun e w' => e = .returned (.tuple #[.string (M.readS d i), .int .i64 (M.readE d i)]) ∧
      ∃ FV', DiskAt w' b sb mb WV FV' (M.beginD d) ∧ FV'.ownBlock = FV.ownBlock ∧ Kept (fun k => k = b ∨ FV.ownBlock = some k) w w' := by
  have HB := Lib.hid (begin_at w h ho)
  have HH : Hid (∀ y FV', DiskAt y b sb mb WV FV' (M.beginD d) → Calls Tryz.prog 114 #[.pointer (some ⟨b, 0, none⟩), .int .i64 i] y fun e w' => e = .returned (.bool (M.hasB d.S.length i)) ∧ w' = y) :=
    fun y FV' hy => dhas_any (d := M.beginD d) i y hy.disk
  have hsome := h.inv.some_
  have hmany := h.inv.many
  unfold M.readS M.readE
  by_cases hE : M.beginE d = 0
  · rw [if_pos hE, if_pos hE]
    rw [hE] at HB
    clear hE
    cases hb : M.hasB d.S.length i with
    | false =>
      rw [hb] at HH
      rw [if_neg (by simp), if_neg (by simp)]
      clear hb h
      go_enter Tryz.func84, Tryz.ntmps84
      go_wp2_with fail
      refine HB.out.mono ?_
      rintro e w1 ⟨rfl, FV', hA, hf, hk⟩
      have HA := Lib.hid hA
      have HF := Lib.hid hf
      have HK := Lib.hid hk
      clear hA hf hk
      go_wp2_with fail
      refine (HH.out _ _ HA.out).mono ?_
      rintro e w2 ⟨rfl, rfl⟩
      go_wp2_with fail
      go_ret2
      exact ⟨rfl, FV', HA.out, HF.out, HK.out⟩
    | true =>
      rw [hb] at HH
      rw [if_pos rfl, if_pos rfl]
      obtain ⟨k, rfl, hkn⟩ : ∃ k : Nat, i = k ∧ k < d.S.length := by
        unfold M.hasB at hb
        simp at hb
        exact ⟨i.toNat, by omega, by omega⟩
      rw [Int.toNat_natCast]
      have hk0 : (0 : Int) ≤ (k : Int) := by omega
      have hwf : (Lit.int .i64 (k : Int)).wf = true := WalkArith.wf_i64 (by omega)
      obtain ⟨n, hn⟩ : ∃ n, n = d.L.length := ⟨_, rfl⟩
      obtain ⟨zz, hzz⟩ : ∃ zz, zz = d.S.length := ⟨_, rfl⟩
      have HC : Hid (∀ y FV', DiskAt y b sb mb WV FV' (M.beginD d) → ∃ m : DataW Unit, y.cell? ⟨b, 0, none⟩ = some (.slice (some ⟨sb, 0, none⟩) zz zz) ∧ y.cell? ⟨b, 1, none⟩ = some WV ∧ y.cell? ⟨b, 2, none⟩ = some (.map (some mb)) ∧ Hid (y.ownsMap Tryz.prog 3 (plainElem Tryz.prog 3) mb n m) ∧ Hid (M.MapIs m d.L) ∧
          y.cell? ⟨sb, k, none⟩ = some (.string (d.S[k]'hkn)) ∧ Hid (y.ownsRow 0 111 2 WV n (M.cells d.L))) := by
        intro y FV' hy
        obtain ⟨m, h1, h2⟩ := hy.map
        refine ⟨m, by rw [hzz]; exact hy.c0, hy.c1, hy.c2, by rw [hn]; exact h1, h2, ?_, by rw [hn]; exact hy.writes⟩
        rw [hy.sure.cell k]
        show ((d.S.map Value.string).toArray)[k]? = _
        simp [hkn]
      have hkz : (k : Int) < (zz : Int) := by omega
      have HKN := Lib.hid hkn
      obtain ⟨o, hoo⟩ : ∃ o, o = M.seen d.S d.L k := ⟨_, rfl⟩
      rw [← hoo]
      have HOO := Lib.hid hoo
      clear hoo
      have HN := Lib.hid hn
      have hn40 : (n : Int) ≤ 1099511627777 := by omega
      clear hb h hn hzz
      go_enter Tryz.func84, Tryz.ntmps84
      go_wp2_with fail
      refine HB.out.mono ?_
      rintro e w1 ⟨rfl, FV', hA, hf, hk⟩
      have HA := Lib.hid hA
      have HF := Lib.hid hf
      have HK := Lib.hid hk
      clear hA hf hk HB
      go_wp2_with fail
      refine (HH.out _ _ HA.out).mono ?_
      rintro e w2 ⟨rfl, rfl⟩
      obtain ⟨m, y0, y1, y2, HM, HI, y3, HW⟩ := HC.out _ _ HA.out
      clear HC HH
      rcases HI.out.2 k with ⟨hh, hs⟩ | ⟨j, p, hh, hat, hp, hs⟩
      · have HSS : Hid (M.seen d.S d.L k = d.S[k]'HKN.out) := by
          show M.seen _ _ _ = _
          unfold M.seen
          rw [hs]
          simp [HKN.out]
        obtain ⟨s, hss⟩ : ∃ s, s = d.S[k]'HKN.out := ⟨_, rfl⟩
        rw [← hss] at y3
        have HSO : Hid (o = s) := HOO.out.trans (HSS.out.trans hss.symm)
        clear hs hss HSS HOO
        go_wp2_with (at_lookup; refine wpList_lookup_own_ok_int _ rfl _ _ 67 rfl 3 3 .i64 keyI Tryz.underlying67 Tryz.underlying3 (zeroI _) mb n m rfl HM.out _ _ rfl (keyOf_int_mk Tryz.underlying3 hwf) ?_; intro c _ _; rw [hh])
        go_ret2
        exact ⟨by rw [HSO.out]; rfl, FV', HA.out, HF.out, HK.out⟩
      · have HSS : Hid (M.seen d.S d.L k = p.2) := by
          show M.seen _ _ _ = _
          unfold M.seen
          rw [hs]
          rfl
        obtain ⟨a, s⟩ := p
        have HSO : Hid (o = s) := HOO.out.trans HSS.out
        have hjn : j < n := by rw [HN.out]; exact (List.getElem?_eq_some_iff.1 hp).1
        have hjn' : (j : Int) < (n : Int) := by omega
        have hj0 : (0 : Int) ≤ (j : Int) := by omega
        rcases HW.out.2 with ⟨_, e⟩ | ⟨g, cap, cur, rfl, _⟩
        · omega
        · obtain ⟨_, x1⟩ := owned_writes HW.out hp
          simp only at x1
          clear hs HSS hp HOO
          go_wp2_with (at_lookup; refine wpList_lookup_own_ok_int _ rfl _ _ 67 rfl 3 3 .i64 keyI Tryz.underlying67 Tryz.underlying3 (zeroI _) mb n m rfl HM.out _ _ rfl (keyOf_int_mk Tryz.underlying3 hwf) ?_; intro c hat2 _; rw [hh]; obtain rfl : c = (j : Int) := (by rw [hat] at hat2; injection hat2 with e; injection e with _ e; exact e.symm))
          go_ret2
          exact ⟨by rw [HSO.out]; rfl, FV', HA.out, HF.out, HK.out⟩
  · rw [if_neg hE, if_neg hE]
    obtain ⟨E, hEE⟩ : ∃ E, E = M.beginE d := ⟨_, rfl⟩
    rw [← hEE] at HB hE ⊢
    have hE' : (E == 0) = false := by rw [beq_eq_false_iff_ne]; exact hE
    clear hEE h
    go_enter Tryz.func84, Tryz.ntmps84
    go_wp2_with fail
    refine HB.out.mono ?_
    rintro e w1 ⟨rfl, FV', hA, hf, hk⟩
    have HA := Lib.hid hA
    have HF := Lib.hid hf
    have HK := Lib.hid hk
    clear hA hf hk
    go_wp2_with fail
    go_ret2
    exact ⟨rfl, FV', HA.out, HF.out, HK.out⟩

theorem read_any (i : Int) (w : World) {b : Nat} {P : Nat → Prop} {d : M.D} (h : Disk w b P d) (ho : d.ops ≤ 1099511627776) :
    Calls Tryz.prog 84 #[.pointer (some ⟨b, 0, none⟩), .int .i64 i] w fun e w' => e = .returned (.tuple #[.string (M.readS d i), .int .i64 (M.readE d i)]) ∧ Disk w' b P (M.beginD d) ∧ Kept P w w' := by
  obtain ⟨sb, mb, WV, FV, h, p1, p2, p3, p4, p5⟩ := h
  refine (read_at i w h ho).mono ?_
  rintro e w' ⟨rfl, FV', hA, hf, hk⟩
  exact ⟨rfl, ⟨sb, mb, WV, FV', hA, p1, p2, p3, p4, fun k e => p5 k (hf ▸ e)⟩, hk.mono (fun k _ e => e.elim (fun e => e ▸ p1) (p5 k))⟩
end Go.Proofs.YtmgchfjfkdkaoaaGreatDoor
namespace Go.Proofs.YtmgchfjfkdkaoaaGreatDoor
open Go.RowKit Go.Maps

/-- Nothing fails, nothing goes down. -/
structure M.Calm (d : M.D) : Prop where
  dn : d.dn = false
  fails : d.fails = []
  da : d.da = 0
theorem M.Calm.E {d : M.D} (h : M.Calm d) : M.beginE d = 0 := by
  unfold M.beginE
  rw [h.dn, h.fails, h.da, if_neg (by simp), if_neg (by omega), if_neg (by simp)]
theorem M.Calm.D {d : M.D} (h : M.Calm d) : M.beginD d = { d with ops := d.ops + 1 } := by
  unfold M.beginD
  have e : decide (d.da = ((d.ops + 1 : Nat) : Int)) = false := by rw [h.da]; simp; omega
  rw [e, h.fails]
  simp [h.dn]
theorem M.Calm.writeE {d : M.D} (h : M.Calm d) (i : Int) (s : ByteArray) : M.writeE d i s = M.wrong d.S.length i s := by
  unfold M.writeE M.or2
  rw [h.E, if_pos rfl]
/-- The disk behind a write. -/
def M.writeC (d : M.D) (i : Int) (s : ByteArray) : M.D := if M.wrong d.S.length i s = 0 then ⟨d.S, d.L ++ [(i.toNat, s)], d.ops + 1, d.fails, d.da, d.dn⟩ else ⟨d.S, d.L, d.ops + 1, d.fails, d.da, d.dn⟩
theorem M.Calm.writeD {d : M.D} (h : M.Calm d) (i : Int) (s : ByteArray) : M.writeD d i s = M.writeC d i s := by
  unfold M.writeD M.writeC M.lays
  rw [h.E, h.D]
  by_cases e : M.wrong d.S.length i s = 0
  · rw [if_pos (by simp [e]), if_pos e]
  · rw [if_neg (by simp [e]), if_neg e]
theorem M.Calm.write {d : M.D} (h : M.Calm d) (i : Int) (s : ByteArray) : M.Calm (M.writeC d i s) := by
  unfold M.writeC
  split <;> exact ⟨h.dn, h.fails, h.da⟩
theorem M.writeC_ops (d : M.D) (i : Int) (s : ByteArray) : (M.writeC d i s).ops = d.ops + 1 := by unfold M.writeC; split <;> rfl
theorem M.writeC_S (d : M.D) (i : Int) (s : ByteArray) : (M.writeC d i s).S = d.S := by unfold M.writeC; split <;> rfl
def M.flushC (d : M.D) : M.D := ⟨M.rounds (fun _ => true) d.S d.L d.L.length, [], d.ops + 1, d.fails, d.da, d.dn⟩
theorem M.Calm.flushD {d : M.D} (h : M.Calm d) : M.flushD d = M.flushC d := by
  unfold M.flushD M.flushC
  rw [h.E, if_pos rfl, h.D]
theorem M.Calm.flush {d : M.D} (h : M.Calm d) : M.Calm (M.flushC d) := ⟨h.dn, h.fails, h.da⟩
theorem M.calm_restart (d : M.D) (f : Nat → Bool) : M.Calm (M.restartD d f) := ⟨rfl, rfl, rfl⟩
def M.readC (d : M.D) : M.D := ⟨d.S, d.L, d.ops + 1, d.fails, d.da, d.dn⟩
theorem M.Calm.readE {d : M.D} (h : M.Calm d) {k : Nat} (hk : k < d.S.length) : M.readE d k = 0 ∧ M.readS d k = M.seen d.S d.L k := by
  unfold M.readE M.readS M.hasB
  have e : (decide (0 ≤ (k : Int)) && decide ((k : Int) < (d.S.length : Int))) = true := by simp; omega
  rw [h.E, if_pos rfl, if_pos rfl, if_pos e, if_pos e]
  exact ⟨rfl, by simp⟩
theorem M.Calm.read {d : M.D} (h : M.Calm d) : M.Calm (M.readC d) := ⟨h.dn, h.fails, h.da⟩
theorem M.calm_new (c : Nat) : M.Calm (M.new c) := ⟨rfl, rfl, rfl⟩

/-- A disk that a call has made, in a world that came of w; all from block N on is new, and the disk's own but what P shuts out. -/
structure Dk (w y : World) (N b : Nat) (P : Nat → Prop) (d : M.D) : Prop where
  disk : Disk y b P d
  low : ∀ k, P k → N ≤ k
  up : ∀ k, y.heap.size ≤ k → P k
  below : Below N w y
  le : N ≤ y.heap.size
theorem Dk.step {w y y' : World} {N b : Nat} {P : Nat → Prop} {d d' : M.D} (h : Dk w y N b P d) (hd : Disk y' b (M.plus P y.heap.size) d') (hk : Kept P y y') : Dk w y' N b P d' :=
  ⟨hd.mono (fun k _ e => e.elim id (h.up k)), h.low, fun k hk' => h.up k (Nat.le_trans hk.size hk'), h.below.trans (hk.below h.le (fun k hk e => by have := h.low k e; omega)), Nat.le_trans h.le hk.size⟩
theorem Disk.plus {y : World} {b : Nat} {P : Nat → Prop} {d : M.D} (h : Disk y b P d) (n : Nat) : Disk y b (M.plus P n) d := h.mono (fun _ _ e => Or.inl e)
theorem Dk.alloc {w y : World} {N b : Nat} {P : Nat → Prop} {d : M.D} (h : Dk w y N b P d) (o : Obj) : Dk w (y.alloc o) N b P d :=
  ⟨h.disk.kept ((Kept.refl (fun _ => False) y).alloc o) (fun _ _ => id), h.low, fun k hk => h.up k (by rw [World.size_alloc] at hk; omega), h.below.alloc h.le o, by rw [World.size_alloc]; exact Nat.le_trans h.le (Nat.le_succ _)⟩
theorem Dk.drewN {w y : World} {N b : Nat} {P : Nat → Prop} {d : M.D} (h : Dk w y N b P d) (n : Nat) : Dk w (y.drewN n) N b P d := ⟨h.disk.drewN n, h.low, h.up, below_drewN h.below n, h.le⟩
theorem Dk.drew {w y : World} {N b : Nat} {P : Nat → Prop} {d : M.D} (h : Dk w y N b P d) : Dk w y.drew N b P d := h.drewN 1

section
variable {w y : World} {N b : Nat} {P : Nat → Prop} {d : M.D}
theorem kwrite (h : Dk w y N b P d) (hc : M.Calm d) (ho : d.ops ≤ 1000000) (i : Int) (s : ByteArray) :
    Calls Tryz.prog 92 #[.pointer (some ⟨b, 0, none⟩), .int .i64 i, .string s] y fun e y' => e = .returned (.int .i64 (M.wrong d.S.length i s)) ∧ Dk w y' N b P (M.writeC d i s) ∧ Kept P y y' := by
  have := write_any i s y h.disk (by omega)
  rw [hc.writeE, hc.writeD] at this
  exact this.mono fun e y' ⟨h1, h2, h3⟩ => ⟨h1, h.step h2 h3, h3⟩
theorem kflush (h : Dk w y N b P d) (hc : M.Calm d) (ho : d.ops ≤ 1000000) :
    Calls Tryz.prog 28 #[.pointer (some ⟨b, 0, none⟩)] y fun e y' => e = .returned (.int .i64 0) ∧ Dk w y' N b P (M.flushC d) ∧ Kept P y y' := by
  have := flush_any y h.disk (by omega)
  rw [hc.E, hc.flushD] at this
  exact this.mono fun e y' ⟨h1, h2, h3⟩ => ⟨h1, h.step (h2.plus _) h3, h3⟩
theorem krestart (h : Dk w y N b P d) (ho : d.ops ≤ 1000000) (A : Option Addr) (len cap : Nat) (z : Nat → Int) (hz : ChoAt y A len z) (hA : 0 < len → ∀ ad, A = some ad → ¬ P ad.block) :
    Calls Tryz.prog 15 #[.pointer (some ⟨b, 0, none⟩), .slice A len cap] y fun e y' => e = .returned (.tuple #[]) ∧ Dk w y' N b P (M.restartD d (M.odd len z)) ∧ Kept P y y' :=
  (restart_any A len cap z y h.disk (by omega) hz hA).mono fun e y' ⟨h1, h2, h3⟩ => ⟨h1, h.step (h2.plus _) h3, h3⟩
theorem kread (h : Dk w y N b P d) (hc : M.Calm d) (ho : d.ops ≤ 1000000) (k : Nat) (hk : k < d.S.length) :
    Calls Tryz.prog 84 #[.pointer (some ⟨b, 0, none⟩), .int .i64 (k : Nat)] y fun e y' => e = .returned (.tuple #[.string (M.seen d.S d.L k), .int .i64 0]) ∧ Dk w y' N b P (M.readC d) ∧ Kept P y y' := by
  have := read_any k y h.disk (by omega)
  rw [(hc.readE hk).1, (hc.readE hk).2, hc.D] at this
  exact this.mono fun e y' ⟨h1, h2, h3⟩ => ⟨h1, h.step (h2.plus _) h3, h3⟩
theorem ksectors (h : Dk w y N b P d) : Calls Tryz.prog 103 #[.pointer (some ⟨b, 0, none⟩)] y fun e y' => e = .returned (.int .i64 (d.S.length : Nat)) ∧ y' = y := sectors_any y h.disk
end
theorem knew (n : Int) (w y : World) (hb : Below w.heap.size w y) : Calls Tryz.prog 22 #[.int .i64 n] y fun e y' => ∃ b, e = .returned (.pointer (some ⟨b, 0, none⟩)) ∧ Dk w y' w.heap.size b (fun k => w.heap.size ≤ k) (M.new (M.held n)) := by
  refine (new_any n y).mono ?_
  rintro e y' ⟨b, rfl, hd, hb2⟩
  have h2 := hb2.size
  have h1 := hb.size
  exact ⟨b, rfl, hd.mono (fun k _ e => Nat.le_trans h1 e), fun _ e => e, fun k e => (by show w.heap.size ≤ k; omega), hb.trans (hb2.mono h1), by omega⟩
end Go.Proofs.YtmgchfjfkdkaoaaGreatDoor
