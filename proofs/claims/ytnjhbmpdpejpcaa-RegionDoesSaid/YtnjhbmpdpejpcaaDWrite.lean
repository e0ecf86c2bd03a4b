/-
  Walks over disk.Write.
-/
import Derived.Test.YtnjhbmpdpejpcaaDLay
namespace Go.Proofs.Ytnjhbmpdpejpcaa
open Go.RowKit Go.Maps

theorem DiskAt.disk {w : World} {b sb mb : Nat} {WV FV : Value} {d : M.D} (h : DiskAt w b sb mb WV FV d) : Disk w b (fun _ => True) d := ⟨sb, mb, WV, FV, h, trivial, trivial, trivial, fun _ _ => trivial, fun _ _ => trivial⟩
theorem DiskAt.alloc {w : World} {b sb mb : Nat} {WV FV : Value} {d : M.D} (h : DiskAt w b sb mb WV FV d) (o : Obj) : DiskAt (w.alloc o) b sb mb WV FV d :=
  h.kept ((Kept.refl (fun _ => False) w).alloc o) id id id (fun _ _ => id) (fun _ _ => id)
theorem cells2 (w : World) (x y : Value) (t : TypeId) : (w.alloc (.cells #[x, y] t)).cell? ⟨w.heap.size, 0, none⟩ = some x ∧ (w.alloc (.cells #[x, y] t)).cell? ⟨w.heap.size, 1, none⟩ = some y :=
  ⟨((Box.new w t #[x, y]).cell 0).trans rfl, ((Box.new w t #[x, y]).cell 1).trans rfl⟩

/-- Is a write laid? -/
def M.lays (d : M.D) (i : Int) (s : ByteArray) : Bool := decide (M.wrong d.S.length i s = 0) && (decide (M.beginE d = 0) || ((M.beginD d).dn && !d.dn))
/-- The disk behind a write. -/
def M.writeD (d : M.D) (i : Int) (s : ByteArray) : M.D := if M.lays d i s = true then { M.beginD d with L := d.L ++ [(i.toNat, s)] } else M.beginD d
/-- What a write comes to. -/
def M.writeE (d : M.D) (i : Int) (s : ByteArray) : Int := M.or2 (M.beginE d) (M.wrong d.S.length i s)

/-- How a call may begin. -/
theorem M.begins (d : M.D) : (d.dn = true ∧ M.beginE d = 31 ∧ (M.beginD d).dn = true) ∨ (d.dn = false ∧ M.beginE d = 31 ∧ (M.beginD d).dn = true) ∨ (d.dn = false ∧ M.beginE d = 30 ∧ (M.beginD d).dn = false) ∨ (d.dn = false ∧ M.beginE d = 0 ∧ (M.beginD d).dn = false) := by
  unfold M.beginE M.beginD
  cases h : d.dn with
  | true => exact Or.inl ⟨rfl, rfl, rfl⟩
  | false =>
    by_cases h1 : d.da = (d.ops + 1 : Nat)
    · exact Or.inr (Or.inl ⟨rfl, by simp [h1], by simp [h1]⟩)
    · by_cases h2 : ((d.ops + 1 : Nat) : Int) ∈ d.fails
      · exact Or.inr (Or.inr (Or.inl ⟨rfl, by rw [if_neg (by simp), if_neg h1, if_pos h2], by simpa using h1⟩))
      · exact Or.inr (Or.inr (Or.inr ⟨rfl, by rw [if_neg (by simp), if_neg h1, if_neg h2], by simpa using h1⟩))

theorem write_nil (i : Int) (s : ByteArray) (w : World) : Calls Try.prog 39 #[.pointer none, .int .i64 i, .string s] w fun e w' => e = .returned (.int .i64 10) ∧ Below w.heap.size w w' := by
  have HC := Lib.hid (fun (w : World) => or_any (x := 10) (y := 3) _ (cells2 w (.int .i64 10) (.int .i64 3) 30).1 (cells2 w (.int .i64 10) (.int .i64 3) 30).2)
  go_enter Try.func39, Try.ntmps39
  go_wp2_with fail
  refine (down_nil w).mono ?_
  rintro e w1 ⟨rfl, rfl⟩
  go_wp2_with fail
  refine (begin_nil _).mono ?_
  rintro e w1 ⟨rfl, rfl⟩
  go_wp2_with fail
  refine (down_nil _).mono ?_
  rintro e w1 ⟨rfl, rfl⟩
  go_wp2_with fail
  refine (refuses_nil i s _).mono ?_
  rintro e w1 ⟨rfl, rfl⟩
  go_wp2_with fail
  refine (HC.out _).mono ?_
  rintro e w2 ⟨rfl, rfl⟩
  go_wp2_with fail
  go_ret
  exact ⟨rfl, (Below.refl _ _).alloc (Nat.le_refl _) _⟩

set_option maxHeartbeats 1000000 in
/-- A write that is not laid. -/
theorem write_no (i : Int) (s : ByteArray) (w : World) {b sb mb : Nat} {WV FV : Value} {d : M.D} (h : DiskAt w b sb mb WV FV d) (ho : d.ops ≤ 1099511627776) (hno : M.lays d i s = false) :
    Calls Try.prog 39 #[.pointer (some ⟨b, 0, none⟩), .int .i64 i, .string s] w fun e w' => e = .returned (.int .i64 (M.writeE d i s)) ∧
      ∃ FV', DiskAt w' b sb mb WV FV' (M.beginD d) ∧ FV'.ownBlock = FV.ownBlock ∧ Kept (fun k => k = b ∨ FV.ownBlock = some k) w w' := by
  have HD := Lib.hid (down_any w h.disk)
  have HB := Lib.hid (begin_at w h ho)
  have hbs := M.begins d
  unfold M.writeE
  unfold M.lays at hno
  have HC : Hid (∀ y FV', DiskAt y b sb mb WV FV' (M.beginD d) → (Calls Try.prog 54 #[.pointer (some ⟨b, 0, none⟩)] y fun e w' => e = .returned (.bool (M.beginD d).dn) ∧ w' = y) ∧
      (Calls Try.prog 55 #[.pointer (some ⟨b, 0, none⟩), .int .i64 i, .string s] y fun e w' => e = .returned (.int .i64 (M.wrong d.S.length i s)) ∧ w' = y)) :=
    fun y FV' hy => ⟨down_any y hy.disk, refuses_any (d := M.beginD d) i s y hy.disk⟩
  obtain ⟨E, hE⟩ : ∃ E, E = M.beginE d := ⟨_, rfl⟩
  obtain ⟨F, hF⟩ : ∃ F, F = M.wrong d.S.length i s := ⟨_, rfl⟩
  rw [← hE] at HB hbs hno
  rw [← hF] at HC hno
  rw [← hE, ← hF]
  have HO := Lib.hid (fun (w : World) => or_any (x := E) (y := F) _ (cells2 w (.int .i64 E) (.int .i64 F) 30).1 (cells2 w (.int .i64 E) (.int .i64 F) 30).2)
  clear hE hF h ho
  rcases hbs with ⟨h1, rfl, h3⟩ | ⟨h1, rfl, h3⟩ | ⟨h1, rfl, h3⟩ | ⟨h1, rfl, h3⟩
  all_goals
    rw [h1] at HD
    rw [h3] at HC
    rw [h1, h3] at hno
    have hw : (F = 0) ∨ ((F == 0) = false) := by
      by_cases h : F = 0
      · exact Or.inl h
      · exact Or.inr (by rw [beq_eq_false_iff_ne]; exact h)
    clear h1 h3
    rcases hw with rfl | hw
    all_goals first | (exfalso; simp at hno; done) | skip
  all_goals
    clear hno
    go_enter Try.func39, Try.ntmps39
    go_wp2_with fail
    refine HD.out.mono ?_
    rintro e w1 ⟨rfl, rfl⟩
    go_wp2_with fail
    refine HB.out.mono ?_
    rintro e w2 ⟨rfl, FV', hA, hfv, hk⟩
    have HA := Lib.hid hA
    have HV := Lib.hid hfv
    have HK := Lib.hid hk
    clear hA hfv hk HB HD
    go_wp2_with fail
    refine (HC.out _ _ HA.out).1.mono ?_
    rintro e w3 ⟨rfl, rfl⟩
    go_wp2_with fail
    refine (HC.out _ _ HA.out).2.mono ?_
    rintro e w4 ⟨rfl, rfl⟩
    go_wp2_with fail
    refine (HO.out _).mono ?_
    rintro e w5 ⟨rfl, rfl⟩
    go_wp2_with fail
    go_ret
    exact ⟨rfl, FV', HA.out.alloc _, HV.out, HK.out.alloc _⟩

theorem M.wrong_ok {n : Nat} {i : Int} {s : ByteArray} (h : M.wrong n i s = 0) : ∃ k : Nat, i = k ∧ k < n ∧ s.size = 64 := by
  unfold M.wrong at h
  split at h
  · rename_i hb
    unfold M.hasB at hb
    simp at hb
    split at h
    · rename_i hs
      exact ⟨i.toNat, by omega, by omega, hs⟩
    · cases h
  · cases h

set_option maxHeartbeats 1000000 in
/-- A write that is laid. -/
theorem write_yes (k : Nat) (s : ByteArray) (w : World) {b sb mb : Nat} {WV FV : Value} {d : M.D} (h : DiskAt w b sb mb WV FV d) (ho : d.ops ≤ 1099511627776) (hyes : M.lays d k s = true) (hk : k < d.S.length) (hs : s.size = 64) :
    Calls Try.prog 39 #[.pointer (some ⟨b, 0, none⟩), .int .i64 k, .string s] w fun e w' => e = .returned (.int .i64 (M.writeE d k s)) ∧
      ∃ WV' FV', DiskAt w' b sb mb WV' FV' { M.beginD d with L := d.L ++ [(k, s)] } ∧ FV'.ownBlock = FV.ownBlock ∧ (∀ g, WV'.ownBlock = some g → WV.ownBlock = some g ∨ w.heap.size ≤ g) ∧ Kept (fun j => j = b ∨ j = mb ∨ WV.ownBlock = some j ∨ FV.ownBlock = some j) w w' := by
  have HD := Lib.hid (down_any w h.disk)
  have HB := Lib.hid (begin_at w h ho)
  have hbs := M.begins d
  have hsome := h.inv.some_
  unfold M.writeE
  unfold M.lays at hyes
  have HC : Hid (∀ y FV', DiskAt y b sb mb WV FV' (M.beginD d) → (Calls Try.prog 54 #[.pointer (some ⟨b, 0, none⟩)] y fun e w' => e = .returned (.bool (M.beginD d).dn) ∧ w' = y) ∧
      (Calls Try.prog 55 #[.pointer (some ⟨b, 0, none⟩), .int .i64 k, .string s] y fun e w' => e = .returned (.int .i64 (M.wrong d.S.length k s)) ∧ w' = y)) :=
    fun y FV' hy => ⟨down_any y hy.disk, refuses_any (d := M.beginD d) k s y hy.disk⟩
  have HL : Hid (∀ y FV', DiskAt y b sb mb WV FV' (M.beginD d) → Calls Try.prog 56 #[.pointer (some ⟨b, 0, none⟩), .int .i64 k, .string s] y fun e w' => e = .returned (.tuple #[]) ∧
      ∃ WV', DiskAt w' b sb mb WV' FV' { M.beginD d with L := d.L ++ [(k, s)] } ∧ (∀ g, WV'.ownBlock = some g → WV.ownBlock = some g ∨ y.heap.size ≤ g) ∧ Kept (fun j => j = b ∨ j = mb ∨ WV.ownBlock = some j) y w') :=
    fun y FV' hy => lay_at k s y hy hk hs (by show d.L.length < d.ops + 1; omega) (by show d.ops + 1 ≤ _; omega)
  obtain ⟨E, hE⟩ : ∃ E, E = M.beginE d := ⟨_, rfl⟩
  obtain ⟨F, hF⟩ : ∃ F, F = M.wrong d.S.length k s := ⟨_, rfl⟩
  rw [← hE] at HB hbs hyes
  rw [← hF] at HC hyes
  rw [← hE, ← hF]
  have HO := Lib.hid (fun (w : World) => or_any (x := E) (y := F) _ (cells2 w (.int .i64 E) (.int .i64 F) 30).1 (cells2 w (.int .i64 E) (.int .i64 F) 30).2)
  clear hE hF h ho hsome hk hs
  rcases hbs with ⟨h1, rfl, h3⟩ | ⟨h1, rfl, h3⟩ | ⟨h1, rfl, h3⟩ | ⟨h1, rfl, h3⟩
  all_goals
    rw [h1] at HD
    rw [h3] at HC
    rw [h1, h3] at hyes
    all_goals first | (exfalso; simp at hyes; done) | skip
  all_goals
    have hw : F = 0 := by simpa using hyes
    clear h1 h3 hyes
    subst hw
    go_enter Try.func39, Try.ntmps39
    go_wp2_with fail
    refine HD.out.mono ?_
    rintro e w1 ⟨rfl, rfl⟩
    go_wp2_with fail
    refine HB.out.mono ?_
    rintro e w2 ⟨rfl, FV', hA, hfv, hk⟩
    have HA := Lib.hid hA
    have HV := Lib.hid hfv
    have HK := Lib.hid hk
    clear hA hfv hk HB HD
    go_wp2_with fail
    refine (HC.out _ _ HA.out).1.mono ?_
    rintro e w3 ⟨rfl, rfl⟩
    go_wp2_with fail
    refine (HC.out _ _ HA.out).2.mono ?_
    rintro e w4 ⟨rfl, rfl⟩
    go_wp2_with fail
    refine (HL.out _ _ HA.out).mono ?_
    rintro e w5 ⟨rfl, WV', hA5, hwv, hk5⟩
    have HA5 := Lib.hid hA5
    have HW5 := Lib.hid hwv
    have HK5 := Lib.hid hk5
    clear hA5 hwv hk5
    go_wp2_with fail
    refine (HO.out _).mono ?_
    rintro e w6 ⟨rfl, rfl⟩
    go_wp2_with fail
    go_ret
    exact ⟨rfl, WV', FV', HA5.out.alloc _, HV.out, fun g e => (HW5.out g e).imp id (fun e => Nat.le_trans HK.out.size e), ((HK.out.mono (fun _ _ e => e.elim Or.inl (fun e => Or.inr (Or.inr (Or.inr e))))).trans (HK5.out.mono (fun _ _ e => e.imp id (fun e => e.imp id Or.inl)))).alloc _⟩

/-- P, and whatever is new. -/
def M.plus (P : Nat → Prop) (n : Nat) : Nat → Prop := fun k => P k ∨ n ≤ k

theorem write_any (i : Int) (s : ByteArray) (w : World) {b : Nat} {P : Nat → Prop} {d : M.D} (h : Disk w b P d) (ho : d.ops ≤ 1099511627776) :
    Calls Try.prog 39 #[.pointer (some ⟨b, 0, none⟩), .int .i64 i, .string s] w fun e w' => e = .returned (.int .i64 (M.writeE d i s)) ∧ Disk w' b (M.plus P w.heap.size) (M.writeD d i s) ∧ Kept P w w' := by
  obtain ⟨sb, mb, WV, FV, h, p1, p2, p3, p4, p5⟩ := h
  unfold M.writeD
  cases hl : M.lays d i s with
  | false =>
    refine (write_no i s w h ho hl).mono ?_
    rintro e w' ⟨rfl, FV', hA, hf, hk⟩
    exact ⟨rfl, ⟨sb, mb, WV, FV', hA, Or.inl p1, Or.inl p2, Or.inl p3, fun k e => Or.inl (p4 k e), fun k e => Or.inl (p5 k (hf ▸ e))⟩, hk.mono (fun k _ e => e.elim (fun e => e ▸ p1) (p5 k))⟩
  | true =>
    have hw : M.wrong d.S.length i s = 0 := by
      unfold M.lays at hl
      simp at hl
      exact hl.1
    obtain ⟨k, rfl, hk, hs⟩ := M.wrong_ok hw
    refine (write_yes k s w h ho hl hk hs).mono ?_
    rintro e w' ⟨rfl, WV', FV', hA, hf, hwv, hk⟩
    refine ⟨rfl, ⟨sb, mb, WV', FV', hA, Or.inl p1, Or.inl p2, Or.inl p3, fun k e => (hwv k e).imp (p4 k) id, fun k e => Or.inl (p5 k (hf ▸ e))⟩, hk.mono (fun k _ e => ?_)⟩
    rcases e with e | e | e | e
    · exact e ▸ p1
    · exact e ▸ p3
    · exact p4 k e
    · exact p5 k e
end Go.Proofs.Ytnjhbmpdpejpcaa
