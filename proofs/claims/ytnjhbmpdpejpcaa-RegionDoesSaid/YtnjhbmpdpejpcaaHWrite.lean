/-
  Walks over solderref09's Write.
-/
import Derived.Test.YtnjhbmpdpejpcaaHSplit
namespace Go.Proofs.Ytnjhbmpdpejpcaa
open Go.RowKit

/-- Sectors are written, in order, up to the first error. -/
def M.rwr : List (Nat × ByteArray) → M.R → Int × M.R
  | [], r => (0, r)
  | p :: L, r => if M.rwriteE r p.1 p.2 = 0 then M.rwr L (M.rwriteR r p.1 p.2) else (M.rwriteE r p.1 p.2, M.rwriteR r p.1 p.2)
theorem M.rwriteR_ops (r : M.R) (i : Int) (s : ByteArray) : (M.rwriteR r i s).ops = r.ops + 1 := by unfold M.rwriteR; split <;> rfl

/-- The document's disk, its part and the sectors, in the midst of Write. -/
structure RWrAt (w y : World) (rb b fr mn : Nat) (P : Nat → Prop) (r : M.R) (v : Value) (L : List (Nat × ByteArray)) : Prop where
  ref : ∃ Q : Nat → Prop, Ref y b Q r ∧ (∀ k, Q k → k ≠ rb ∧ v.ownBlock ≠ some k ∧ k < y.heap.size ∧ (k < w.heap.size → P k))
  kept : Kept P w y
  reg : RReg y rb b fr mn
  row : y.ownsRow w.heap.size 80 2 v L.length (M.cells L)
section
variable {w y : World} {rb b fr mn : Nat} {P : Nat → Prop} {r : M.R} {v : Value} {L : List (Nat × ByteArray)}
theorem RWrAt.drew (h : RWrAt w y rb b fr mn P r v L) : RWrAt w y.drew rb b fr mn P r v L := by
  obtain ⟨Q, h1, h2⟩ := h.ref
  exact ⟨⟨Q, h1.kept ((Kept.refl (fun _ => False) y).drewN 1) (fun _ _ => id), h2⟩, h.kept.drew, h.reg.kept ((Kept.refl (fun _ => False) y).drew) id, ((Kept.refl (fun _ => False) y).drew).owns h.row (fun _ _ => id)⟩
theorem RWrAt.write (h : RWrAt w y rb b fr mn P r v L) (ho : r.ops ≤ 1099511627776) (i : Int) (s : ByteArray) :
    Calls Try.prog 40 #[.pointer (some ⟨b, 0, none⟩), .int .i64 i, .string s] y fun e y' => e = .returned (.int .i64 (M.rwriteE r i s)) ∧ RWrAt w y' rb b fr mn P (M.rwriteR r i s) v L := by
  obtain ⟨Q, h1, h2⟩ := h.ref
  refine (rwrite_any i s y h1 ho).mono ?_
  rintro e y' ⟨rfl, h3, h4⟩
  have hz := h4.size
  have hw := h.kept.size
  have hrl := h.reg.lt
  refine ⟨rfl, ⟨fun k => (Q k ∨ y.heap.size ≤ k) ∧ k < y'.heap.size, h3.mono (fun _ hk e => ⟨e, hk⟩), fun k e => ?_⟩, h.kept.next h4 (fun k hk e => (h2 k e).2.2.2 hk), h.reg.kept h4 (fun e => (h2 rb e).1 rfl), h4.owns h.row (fun k e e' => (h2 k e').2.1 e)⟩
  rcases e.1 with e1 | e1
  · exact ⟨(h2 k e1).1, (h2 k e1).2.1, e.2, (h2 k e1).2.2.2⟩
  · exact ⟨by omega, fun e' => by have := (h.row.lt k e').2; omega, e.2, fun h => by omega⟩
theorem RWrAt.out (h : RWrAt w y rb b fr mn P r v L) : Ref y b (M.plus P w.heap.size) r ∧ Kept P w y := by
  obtain ⟨Q, h1, h2⟩ := h.ref
  refine ⟨h1.mono (fun k _ e => ?_), h.kept⟩
  by_cases hlt : k < w.heap.size
  · exact Or.inl ((h2 k e).2.2.2 hlt)
  · exact Or.inr (by omega)
theorem RWrAt.cells (h : RWrAt w y rb b fr mn P r v L) {A : Option Addr} {c n : Nat} (hv : v = .slice A n c) {k : Nat} {p : Nat × ByteArray} (hp : L[k]? = some p) : ∃ g, A = some ⟨g, 0, none⟩ ∧ y.cell? ⟨g, k * 2, none⟩ = some (.int .i64 (p.1 : Nat)) ∧ y.cell? ⟨g, k * 2 + 1, none⟩ = some (.string p.2) := by
  have hl := (List.getElem?_eq_some_iff.1 hp).1
  rcases h.row.2 with ⟨_, e⟩ | ⟨g, cap, cur, e, _⟩
  · omega
  · have hr := h.row
    rw [e] at hr
    refine ⟨g, ?_, owned_writes hr hp⟩
    rw [hv] at e
    injection e
end

set_option maxRecDepth 100000 in
set_option maxHeartbeats 1000000 in
theorem hwrite_yes (i n : Nat) (s : ByteArray) (w : World) {rb b fr mn : Nat} {P : Nat → Prop} {r : M.R} (h : Ref w b P r) (hr : RReg w rb b fr mn) (hp : ¬ P rb) (hs : s.size = 64 * n) (hin : i + n ≤ mn) (hf : fr ≤ 1000) (hmn : mn ≤ 1000) (ho : r.ops ≤ 1000000000) :
    Calls Try.prog 18 #[.pointer (some ⟨rb, 0, none⟩), .int .i64 (i : Nat), .string s] w fun e w' =>
      e = .returned (.int .i64 (M.rwr (M.cut n (fr + i) s) r).1) ∧ Ref w' b (M.plus P w.heap.size) (M.rwr (M.cut n (fr + i) s) r).2 ∧ Kept P w w' := by
  have HSP := Lib.hid (hsplit_yes i n s w hr hs hin hf hmn)
  obtain ⟨L, hL⟩ : ∃ L, L = M.cut n (fr + i) s := ⟨_, rfl⟩
  have hLn : L.length = n := by rw [hL, M.cut_len]
  rw [← hL] at HSP ⊢
  have HST : Hid (∀ w1 v, w1.ownsRow w.heap.size 80 2 v n (M.cells L) → Below w.heap.size w w1 → RWrAt w w1 rb b fr mn P r v L) := by
    intro w1 v h1 h2
    have hk : Kept (fun _ => False) w w1 := Kept.of_below h2 _
    have hz := h2.size
    have hrl := hr.lt
    refine ⟨⟨fun k => P k ∧ k < w.heap.size, (h.mono (fun _ hk e => ⟨e, hk⟩)).kept hk (fun _ _ => id), fun k e => ⟨fun e' => hp (e' ▸ e.1), fun e' => by have := (h1.lt k e').1; omega, by omega, fun _ => e.1⟩⟩, hk.mono (fun _ _ e => e.elim), hr.kept hk id, ?_⟩
    rw [hLn]
    exact h1
  obtain ⟨R, hR⟩ : ∃ R, R = M.rwr L r := ⟨_, rfl⟩
  have HF := Lib.hid hR
  have HLN := Lib.hid hLn
  have HO : Hid (r.ops ≤ 1000000000 ∧ n ≤ 1000) := ⟨ho, by omega⟩
  have hn1 : (n : Int) ≤ 1000 := by omega
  rw [← hR]
  clear h hr hp hs hin hf hmn ho hL hLn hR
  go_enter Try.func18, Try.ntmps18
  go_wp2_with fail
  refine HSP.out.mono ?_
  rintro e w1 ⟨v, rfl, h1, h2⟩
  have HA0 := Lib.hid (HST.out w1 v h1 h2)
  obtain ⟨A, c, hv, _⟩ := owns_shape h1
  subst hv
  clear h1 h2 HST HSP
  go_wp2_with fail
  go_loopw [8, 9] (fun x j wr => ∃ (k : Nat) (rk : M.R) (E : Int), k ≤ n ∧ x = .int .i64 E ∧ j = .int .i64 k ∧ Hid (RWrAt w wr rb b fr mn P rk (.slice A n c) L) ∧ Hid (rk.ops = r.ops + k) ∧ ((E = 0 ∧ Hid (R = M.rwr (L.drop k) rk)) ∨ (E ≠ 0 ∧ Hid (R = (E, rk))))) (fun x j _ => n - (intOf j).toNat)
  case atStart => exact ⟨0, r, 0, Nat.zero_le _, rfl, rfl, HA0, rfl, Or.inl ⟨rfl, HF.out⟩⟩
  case round =>
    clear HA0 HF
    obtain ⟨k, rk, E, hk, rfl, rfl, HA, HOk, ⟨rfl, HRk⟩ | ⟨hE0, HRk⟩⟩ := hrel
    · by_cases hlt : k < n
      · have hk0 : (0 : Int) ≤ (k : Int) := by omega
        have hlt' : (k : Int) < (n : Int) := by omega
        obtain ⟨p, hp⟩ : ∃ p, L[k]? = some p := ⟨L[k]'(by have := HLN.out; omega), List.getElem?_eq_getElem _⟩
        obtain ⟨g, rfl, x0, x1⟩ := HA.out.cells rfl hp
        have HRn : Hid (R = M.rwr (p :: L.drop (k + 1)) rk) := by show R = _; rw [← M.drop_at hp]; exact HRk.out
        obtain ⟨at_, t⟩ := p
        simp only at x0 x1
        have c0 := HA.out.reg.c0
        have HW := Lib.hid (HA.out.drew.write (by have := HOk.out; have := HO.out; omega) (at_ : Nat) t)
        have HON : Hid ((M.rwriteR rk (at_ : Nat) t).ops = r.ops + (k + 1)) := by show (M.rwriteR rk (at_ : Nat) t).ops = _; rw [M.rwriteR_ops, HOk.out]; omega
        obtain ⟨E, hEE⟩ : ∃ E, E = M.rwriteE rk (at_ : Nat) t := ⟨_, rfl⟩
        have HRm : Hid ((E = 0 ∧ Hid (R = M.rwr (L.drop (k + 1)) (M.rwriteR rk (at_ : Nat) t))) ∨ (E ≠ 0 ∧ Hid (R = (E, M.rwriteR rk (at_ : Nat) t)))) := by
          by_cases hE : M.rwriteE rk (at_ : Nat) t = 0
          · refine Or.inl ⟨hEE.trans hE, ?_⟩
            show R = _
            rw [HRn.out, M.rwr, if_pos hE]
          · refine Or.inr ⟨hEE ▸ hE, ?_⟩
            show R = _
            rw [HRn.out, M.rwr, if_neg hE, hEE]
        rw [← hEE] at HW
        clear hp HA HRk HOk hk HRn hEE
        go_wp2_with fail
        go_still_tail 14, (by kernel_rfl)
        change wpList _ _ _ _ _ wr.drew
        go_wp2_with fail
        refine HW.out.mono ?_
        rintro e w2 ⟨rfl, h2⟩
        have H2 := Lib.hid h2
        clear h2 HW
        go_wp2_with fail
        go_roundw
        case rel => exact ⟨k + 1, _, E, hlt, rfl, by go_num, H2, HON, HRm.out⟩
        case measure => simp [intOf]; omega
      · have e : k = n := by omega
        subst e
        have HRn : Hid (R = (0, rk)) := by
          show R = _
          rw [HRk.out, List.drop_eq_nil_of_le (by rw [HLN.out]; exact Nat.le_refl _), M.rwr]
        clear hlt hk HRk HOk
        go_wp2_with fail
        go_ret
        rw [HRn.out]
        exact ⟨rfl, HA.out.out⟩
    · have hE' : (E == 0) = false := by rw [beq_eq_false_iff_ne]; exact hE0
      clear hE0
      by_cases hlt : k < n
      · have hd : decide (k < n) = true := by simp; omega
        clear hlt hk
        go_wp2_with fail
        go_ret
        rw [HRk.out]
        exact ⟨rfl, HA.out.out⟩
      · have hd : decide (k < n) = false := by simp; omega
        clear hlt hk
        go_wp2_with fail
        go_ret
        rw [HRk.out]
        exact ⟨rfl, HA.out.out⟩
theorem hwrite_bad (i E : Int) (s : ByteArray) (w : World) (rb : Nat) (_ : (E == 0) = false) (h : Calls Try.prog 15 #[.pointer (some ⟨rb, 0, none⟩), .int .i64 i, .string s] w fun e w' => e = .returned (.tuple #[.slice none 0 0, .int .i64 E]) ∧ w' = w) :
    Calls Try.prog 18 #[.pointer (some ⟨rb, 0, none⟩), .int .i64 i, .string s] w fun e w' => e = .returned (.int .i64 E) ∧ w' = w := by
  have HS := Lib.hid h
  clear h
  go_enter Try.func18, Try.ntmps18
  go_wp2_with fail
  refine HS.out.mono ?_
  rintro e w2 ⟨rfl, rfl⟩
  go_wp2_with fail
  go_loopw [8, 9] (fun x j wr => x = .int .i64 E ∧ j = .int .i64 0 ∧ wr = w2) (fun x j _ => 0)
  case atStart => exact ⟨rfl, rfl, rfl⟩
  case round =>
    obtain ⟨rfl, rfl, rfl⟩ := hrel
    go_wp2_with fail
    go_ret
    exact ⟨rfl, rfl⟩
/-- What a write comes to, wherever. -/
def M.hwrite (r : M.R) (fr mn : Nat) (i : Int) (s : ByteArray) : Int × M.R :=
  if (M.gsplit fr mn i s).2 = 0 then M.rwr (M.gsplit fr mn i s).1 r else ((M.gsplit fr mn i s).2, r)
theorem hwrite_any (i : Int) (s : ByteArray) (w : World) {rb b fr mn : Nat} {P : Nat → Prop} {r : M.R} (h : Ref w b P r) (hr : RReg w rb b fr mn) (hp : ¬ P rb) (hsz : s.size ≤ 1000000000) (hf : fr ≤ 1000) (hmn : mn ≤ 1000) (ho : r.ops ≤ 1000000000) :
    Calls Try.prog 18 #[.pointer (some ⟨rb, 0, none⟩), .int .i64 i, .string s] w fun e w' =>
      e = .returned (.int .i64 (M.hwrite r fr mn i s).1) ∧ Ref w' b (M.plus P w.heap.size) (M.hwrite r fr mn i s).2 ∧ Kept P w w' := by
  unfold M.hwrite M.gsplit
  by_cases hs : s.size % 64 = 0
  · rw [if_pos hs]
    obtain ⟨n, hn⟩ : ∃ n, n = s.size / 64 := ⟨_, rfl⟩
    have hsn : s.size = 64 * n := by omega
    rw [← hn]
    by_cases hy : M.within i ((n : Nat) : Int) (mn : Nat) = true
    · rw [if_pos hy, if_pos rfl]
      obtain ⟨h0, h1, h2⟩ := M.within_yes hy
      obtain ⟨k, rfl⟩ : ∃ k : Nat, i = k := ⟨i.toNat, by omega⟩
      rw [Int.toNat_natCast]
      exact hwrite_yes k n s w h hr hp hsn (by omega) hf hmn ho
    · rw [if_neg hy, if_neg (by simp)]
      refine (hwrite_bad i 3 s w rb (by decide) (hsplit_no i n s w hr hsn (by omega) hmn (by simpa using hy))).mono ?_
      rintro e w' ⟨rfl, rfl⟩
      exact ⟨rfl, h.plus _, Kept.refl _ _⟩
  · rw [if_neg hs, if_neg (by simp)]
    refine (hwrite_bad i 12 s w rb (by decide) (hsplit_size i s w hs)).mono ?_
    rintro e w' ⟨rfl, rfl⟩
    exact ⟨rfl, h.plus _, Kept.refl _ _⟩
end Go.Proofs.Ytnjhbmpdpejpcaa
