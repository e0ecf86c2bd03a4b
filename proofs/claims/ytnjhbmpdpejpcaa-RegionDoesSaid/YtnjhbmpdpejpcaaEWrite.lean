/-
  Walks over solderref08's Write, Flush, Fail and Restart(nil).
-/
import Derived.Test.YtnjhbmpdpejpcaaEPut
import Derived.Test.YtnjhbmpdpejpcaaDWrite
namespace Go.Proofs.Ytnjhbmpdpejpcaa
open Go.RowKit

/-- Is a write laid? -/
def M.rlays (r : M.R) (i : Int) (s : ByteArray) : Bool := decide (M.wrong r.seen.length i s = 0) && (decide (M.callE r = 0) || M.callL r)
def M.rwriteR (r : M.R) (i : Int) (s : ByteArray) : M.R := if M.rlays r i s = true then { M.callR r with seen := r.seen.set i.toNat s, wait := r.wait ++ [(i.toNat, s)] } else M.callR r
def M.rwriteE (r : M.R) (i : Int) (s : ByteArray) : Int := M.or2 (M.callE r) (M.wrong r.seen.length i s)
theorem M.rbegins (r : M.R) : (M.callE r = 31 ∧ M.callL r = false) ∨ (M.callE r = 31 ∧ M.callL r = true) ∨ (M.callE r = 30 ∧ M.callL r = false) ∨ (M.callE r = 0 ∧ M.callL r = false) := by
  unfold M.callE M.callL
  cases h : r.off with
  | true => exact Or.inl ⟨rfl, rfl⟩
  | false =>
    by_cases h1 : r.at_ = (r.ops + 1 : Nat)
    · exact Or.inr (Or.inl ⟨by simp [h1], by simp [h1]⟩)
    · by_cases h2 : ((r.ops + 1 : Nat) : Int) ∈ r.fails
      · exact Or.inr (Or.inr (Or.inl ⟨by rw [if_neg (by simp), if_neg h1, if_pos h2], by simpa using h1⟩))
      · exact Or.inr (Or.inr (Or.inr ⟨by rw [if_neg (by simp), if_neg h1, if_neg h2], by simpa using h1⟩))

set_option maxHeartbeats 1000000 in
theorem rwrite_no (i : Int) (s : ByteArray) (w : World) {b : Nat} {SV EV WV FV : Value} {r : M.R} (h : RefAt w b SV EV WV FV r) (ho : r.ops ≤ 1099511627776) (hno : M.rlays r i s = false) :
    Calls Try.prog 40 #[.pointer (some ⟨b, 0, none⟩), .int .i64 i, .string s] w fun e w' => e = .returned (.int .i64 (M.rwriteE r i s)) ∧ RefAt w' b SV EV WV FV (M.callR r) ∧ Kept (fun k => k = b) w w' := by
  have HC := Lib.hid (rcall_at w h ho)
  have HM : Hid (∀ y, RefAt y b SV EV WV FV (M.callR r) → Calls Try.prog 58 #[.pointer (some ⟨b, 0, none⟩), .int .i64 i, .string s] y fun e w' => e = .returned (.int .i64 (M.wrong r.seen.length i s)) ∧ w' = y) := fun y hy => rmay_at (r := M.callR r) i s y hy
  have hbs := M.rbegins r
  unfold M.rwriteE M.or2
  unfold M.rlays at hno
  obtain ⟨F, hF⟩ : ∃ F, F = M.wrong r.seen.length i s := ⟨_, rfl⟩
  rw [← hF] at HM hno ⊢
  clear hF h ho
  rcases hbs with ⟨h1, h2⟩ | ⟨h1, h2⟩ | ⟨h1, h2⟩ | ⟨h1, h2⟩
  all_goals
    rw [h1, h2] at HC hno
    rw [h1]
    have hw : (F = 0) ∨ ((F == 0) = false) := by
      by_cases h : F = 0
      · exact Or.inl h
      · exact Or.inr (by rw [beq_eq_false_iff_ne]; exact h)
    clear h1 h2
    rcases hw with rfl | hw
    all_goals first | (exfalso; simp at hno; done) | skip
  all_goals
    clear hno
    go_enter Try.func40, Try.ntmps40
    go_wp2_with fail
    refine HC.out.mono ?_
    rintro e w1 ⟨rfl, hA, hk⟩
    have HA := Lib.hid hA
    have HK := Lib.hid hk
    clear hA hk HC
    go_wp2_with fail
    refine (HM.out _ HA.out).mono ?_
    rintro e w2 ⟨rfl, rfl⟩
    go_wp2_with fail
    go_ret
    exact ⟨rfl, HA.out, HK.out⟩

set_option maxHeartbeats 1000000 in
theorem rwrite_yes (k : Nat) (s : ByteArray) (w : World) {b : Nat} {SV EV WV FV : Value} {r : M.R} (h : RefAt w b SV EV WV FV r) (ho : r.ops ≤ 1099511627776) (hyes : M.rlays r k s = true) (hk : k < r.seen.length) :
    Calls Try.prog 40 #[.pointer (some ⟨b, 0, none⟩), .int .i64 k, .string s] w fun e w' => e = .returned (.int .i64 (M.rwriteE r k s)) ∧
      ∃ EV' WV', RefAt w' b SV EV' WV' FV { M.callR r with seen := r.seen.set k s, wait := r.wait ++ [(k, s)] } ∧ (∀ g, EV'.ownBlock = some g → w.heap.size ≤ g) ∧ (∀ g, WV'.ownBlock = some g → w.heap.size ≤ g) ∧ Kept (fun k => k = b) w w' := by
  have HC := Lib.hid (rcall_at w h ho)
  have hso := h.some_
  have HM : Hid (∀ y, RefAt y b SV EV WV FV (M.callR r) → Calls Try.prog 58 #[.pointer (some ⟨b, 0, none⟩), .int .i64 k, .string s] y fun e w' => e = .returned (.int .i64 (M.wrong r.seen.length k s)) ∧ w' = y) := fun y hy => rmay_at (r := M.callR r) k s y hy
  have HP : Hid (∀ y, RefAt y b SV EV WV FV (M.callR r) → Calls Try.prog 59 #[.pointer (some ⟨b, 0, none⟩), .int .i64 k, .string s] y fun e w' => e = .returned (.tuple #[]) ∧
      ∃ EV' WV', RefAt w' b SV EV' WV' FV { M.callR r with seen := r.seen.set k s, wait := r.wait ++ [(k, s)] } ∧ (∀ g, EV'.ownBlock = some g → y.heap.size ≤ g) ∧ (∀ g, WV'.ownBlock = some g → y.heap.size ≤ g) ∧ Kept (fun j => j = b) y w') :=
    fun y hy => rput_at k s y hy hk (by show r.wait.length < r.ops + 1; omega) (by show r.ops + 1 ≤ _; omega)
  have hbs := M.rbegins r
  unfold M.rwriteE M.or2
  unfold M.rlays at hyes
  obtain ⟨F, hF⟩ : ∃ F, F = M.wrong r.seen.length k s := ⟨_, rfl⟩
  rw [← hF] at HM hyes ⊢
  clear hF h ho hk hso
  rcases hbs with ⟨h1, h2⟩ | ⟨h1, h2⟩ | ⟨h1, h2⟩ | ⟨h1, h2⟩
  all_goals
    rw [h1, h2] at HC hyes
    rw [h1]
    clear h1 h2
    all_goals first | (exfalso; simp at hyes; done) | skip
  all_goals
    have hw : F = 0 := by simpa using hyes
    clear hyes
    subst hw
    go_enter Try.func40, Try.ntmps40
    go_wp2_with fail
    refine HC.out.mono ?_
    rintro e w1 ⟨rfl, hA, hk⟩
    have HA := Lib.hid hA
    have HK := Lib.hid hk
    clear hA hk HC
    go_wp2_with fail
    refine (HM.out _ HA.out).mono ?_
    rintro e w2 ⟨rfl, rfl⟩
    go_wp2_with fail
    refine (HP.out _ HA.out).mono ?_
    rintro e w3 ⟨rfl, EV', WV', hA3, he, hw3, hk3⟩
    have HX : Hid (∃ EV' WV', RefAt w3 b SV EV' WV' FV { M.callR r with seen := r.seen.set k s, wait := r.wait ++ [(k, s)] } ∧ (∀ g, EV'.ownBlock = some g → w.heap.size ≤ g) ∧ (∀ g, WV'.ownBlock = some g → w.heap.size ≤ g) ∧ Kept (fun k => k = b) w w3) :=
      ⟨EV', WV', hA3, fun g e => Nat.le_trans HK.out.size (he g e), fun g e => Nat.le_trans HK.out.size (hw3 g e), HK.out.trans hk3⟩
    clear hA3 he hw3 hk3
    go_wp2_with fail
    go_ret
    exact ⟨rfl, HX.out⟩

theorem rwrite_any (i : Int) (s : ByteArray) (w : World) {b : Nat} {P : Nat → Prop} {r : M.R} (h : Ref w b P r) (ho : r.ops ≤ 1099511627776) :
    Calls Try.prog 40 #[.pointer (some ⟨b, 0, none⟩), .int .i64 i, .string s] w fun e w' => e = .returned (.int .i64 (M.rwriteE r i s)) ∧ Ref w' b (M.plus P w.heap.size) (M.rwriteR r i s) ∧ Kept P w w' := by
  obtain ⟨SV, EV, WV, FV, h, p0, p1, p2, p3, p4⟩ := h
  unfold M.rwriteR
  cases hl : M.rlays r i s with
  | false =>
    refine (rwrite_no i s w h ho hl).mono ?_
    rintro e w' ⟨rfl, hA, hk⟩
    exact ⟨rfl, ⟨SV, EV, WV, FV, hA, Or.inl p0, fun k e => Or.inl (p1 k e), fun k e => Or.inl (p2 k e), fun k e => Or.inl (p3 k e), fun k e => Or.inl (p4 k e)⟩, hk.mono (fun k _ e => e ▸ p0)⟩
  | true =>
    have hw : M.wrong r.seen.length i s = 0 := by
      unfold M.rlays at hl
      simp at hl
      exact hl.1
    obtain ⟨k, rfl, hk, _⟩ := M.wrong_ok hw
    refine (rwrite_yes k s w h ho hl hk).mono ?_
    rintro e w' ⟨rfl, EV', WV', hA, he, hwv, hk⟩
    exact ⟨rfl, ⟨SV, EV', WV', FV, hA, Or.inl p0, fun k e => Or.inl (p1 k e), fun k e => Or.inr (he k e), fun k e => Or.inr (hwv k e), fun k e => Or.inl (p4 k e)⟩, hk.mono (fun k _ e => e ▸ p0)⟩
theorem rread_any (i : Int) (w : World) {b : Nat} {P : Nat → Prop} {r : M.R} (h : Ref w b P r) (ho : r.ops ≤ 1099511627776) :
    Calls Try.prog 38 #[.pointer (some ⟨b, 0, none⟩), .int .i64 i] w fun e w' => e = .returned (.tuple #[.string (M.rreadS r i), .int .i64 (M.rreadE r i)]) ∧ Ref w' b P (M.callR r) ∧ Kept P w w' := by
  obtain ⟨SV, EV, WV, FV, h, p0, p1, p2, p3, p4⟩ := h
  refine (rread_at i w h ho).mono ?_
  rintro e w' ⟨rfl, hA, hk⟩
  exact ⟨rfl, ⟨SV, EV, WV, FV, hA, p0, p1, p2, p3, p4⟩, hk.mono (fun k _ e => e ▸ p0)⟩
end Go.Proofs.Ytnjhbmpdpejpcaa
