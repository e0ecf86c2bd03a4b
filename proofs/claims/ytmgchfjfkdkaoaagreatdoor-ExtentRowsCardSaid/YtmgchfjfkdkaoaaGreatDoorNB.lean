/-
  Walks over wal.inOrder where no step fails, and over wal.layDown, of any disk.
-/
import Derived.Test.YtmgchfjfkdkaoaaGreatDoorNA
import Derived.Test.YtmgchfjfkdkaoaaGreatDoorMB
namespace Go.Proofs.YtmgchfjfkdkaoaaGreatDoor
open Go.RowKit

set_option maxHeartbeats 1000000 in
/-- Steps that do not fail are done one by one. -/
theorem inOrder_ok (g n c : Nat) (hn : n ≤ 100) (S : Nat → ByteArray) (f : Nat → Nat) (bd cp : Nat → Array Value) (J : Nat → World → Prop) (w : World) (h0 : J 0 w)
    (hcell : ∀ k y, k < n → J k y → y.cell? ⟨g, k * 2, none⟩ = some (.string (S k)) ∧ y.cell? ⟨g, k * 2 + 1, none⟩ = some (.func (.func (f k)) (bd k) (cp k)))
    (hkeep : ∀ k y y', J k y → Below y.heap.size y y' → J k y')
    (hen : ∀ k, k < n → ∀ args y, (callFunc (f k) args).run Tryz.prog y = .ok (.enter (f k) args) y)
    (hcall : ∀ k, k < n → ∀ y, J k y → Calls Tryz.prog (f k) (bd k ++ cp k) y fun e y' => e = .returned (.int .i64 0) ∧ J (k + 1) y') :
    Calls Tryz.prog 49 #[.slice (some ⟨g, 0, none⟩) n c] w fun e w' => e = .returned .nilIface ∧ J n w' := by
  have H0 := Lib.hid h0
  have HC := Lib.hid hcell
  have HK := Lib.hid hkeep
  have HE := Lib.hid hen
  have HA := Lib.hid hcall
  have hn1 : (n : Int) ≤ 100 := by omega
  clear h0 hcell hkeep hen hcall hn
  go_enter Tryz.func49, Tryz.ntmps49
  go_wp2_with fail
  go_loopw [8] (fun j wr => ∃ (k : Nat), k ≤ n ∧ j = .int .i64 k ∧ Hid (J k wr)) (fun j _ => n - (intOf j).toNat)
  case atStart => exact ⟨0, Nat.zero_le _, rfl, H0⟩
  case round =>
    clear H0
    obtain ⟨k, hk, rfl, HJ⟩ := hrel
    by_cases hlt : k < n
    · have hk0 : (0 : Int) ≤ (k : Int) := by omega
      have hlt' : (k : Int) < (n : Int) := by omega
      obtain ⟨x0, x1⟩ := HC.out k wr hlt HJ.out
      have he := HE.out k hlt
      have HA1 := Lib.hid (HA.out k hlt)
      have HKL : Hid (k < n) := hlt
      obtain ⟨fk, hfk⟩ : ∃ x, x = f k := ⟨_, rfl⟩
      obtain ⟨bk, hbk⟩ : ∃ x, x = bd k := ⟨_, rfl⟩
      obtain ⟨ck, hck⟩ : ∃ x, x = cp k := ⟨_, rfl⟩
      obtain ⟨sk, hsk⟩ : ∃ x, x = S k := ⟨_, rfl⟩
      rw [← hfk] at he HA1 x1
      rw [← hbk] at HA1 x1
      rw [← hck] at HA1 x1
      rw [← hsk] at x0
      obtain ⟨x, hx⟩ : ∃ x, x = (wr.alloc (.cells #[.string sk, .nilFunc] 82)).setCell ⟨wr.heap.size, 1, none⟩ (.func (.func fk) bk ck) := ⟨_, rfl⟩
      have z1 : (wr.alloc (.cells #[.string sk, .nilFunc] 82)).cell? ⟨wr.heap.size, 1, none⟩ = some .nilFunc := (Box.new wr 82 #[.string sk, .nilFunc]).cell 1
      have z2 : (wr.alloc (.cells #[.string sk, .nilFunc] 82)).frozen? ⟨wr.heap.size, 1, none⟩ = false := (Box.new wr 82 #[.string sk, .nilFunc]).frozen 1
      have hbx : Box x wr.heap.size 82 #[.string sk, .func (.func fk) bk ck] := by rw [hx]; exact (Box.new wr 82 #[.string sk, .nilFunc]).set 1 _
      have y4 := hbx.cell 1
      have HJ1 : Hid (J k x) := HK.out k wr x HJ.out (by rw [hx]; exact (below1 _ _).setCell (by simp) _)
      have hst : (store ⟨wr.heap.size, 1, none⟩ (.func (.func fk) bk ck)).run Tryz.prog (wr.alloc (.cells #[.string sk, .nilFunc] 82)) = .ok () x := by
        rw [run_store _ _ _ _ _ rfl, z1, z2, hx]
        rfl
      clear hfk hbk hck hsk HJ HC HK HE HA hbx hx z1 z2
      go_wp2_with fail
      refine (HA1.out x HJ1.out).mono ?_
      rintro e w2 ⟨rfl, hJ2⟩
      have HJ2 := Lib.hid hJ2
      clear hJ2 HA1 HJ1
      go_wp2_with fail
      go_roundw
      case rel => exact ⟨k + 1, HKL.out, by go_num, HJ2⟩
      case measure => have := HKL.out; simp [intOf]; omega
    · have e : k = n := by omega
      subst e
      clear hlt hk
      go_wp2_with fail
      go_ret
      exact ⟨rfl, HJ.out⟩

set_option maxHeartbeats 1000000 in
/-- Sectors are written one by one. -/
theorem layDown_any (A : Option Addr) (c fr ra rr : Nat) (L : List (Nat × ByteArray)) (hl : L.length ≤ 100000) (w : World) {a : Nat} {P : Nat → Prop} {d : M.D} (h : Disk w a P d) (x : Nat → Int) (t : Nat → ByteArray) (hS : SecF w A L.length x t)
    (hx : ∀ k p, L[k]? = some p → x k = (p.1 : Nat) ∧ t k = p.2) (hP : ∀ ad, A = some ad → ¬ P ad.block) (ho : d.ops ≤ 1000000000) :
    Calls Tryz.prog 79 #[M.logv a fr ra rr, .slice A L.length c] w fun e w' => e = .returned (.int .i64 (M.wr L d).1) ∧ Disk w' a (M.plus P w.heap.size) (M.wr L d).2 ∧ Kept P w w' := by
  have HM := Lib.hid (below1 w (.cells #[.pointer (some ⟨a, 0, none⟩), .int .i64 (fr : Nat), .pointer (some ⟨ra, 0, none⟩), .pointer (some ⟨rr, 0, none⟩)] 59))
  have HLB := Lib.hid (LogB.new w a fr ra rr)
  obtain ⟨W, hW⟩ : ∃ x, x = w.alloc (.cells #[.pointer (some ⟨a, 0, none⟩), .int .i64 (fr : Nat), .pointer (some ⟨ra, 0, none⟩), .pointer (some ⟨rr, 0, none⟩)] 59) := ⟨_, rfl⟩
  have hz : W.heap.size = w.heap.size + 1 := by rw [hW]; simp
  rw [← hW] at HM HLB
  obtain ⟨F, hF⟩ : ∃ F : Nat → Prop, F = fun j => (j < w.heap.size ∧ ¬ P j) ∨ (w.heap.size ≤ j ∧ j < W.heap.size) := ⟨_, rfl⟩
  have H0 : Hid (One w W a P F d) := by rw [hF]; exact (One.start h).beside (Kept.of_below HM.out _)
  have HFL : Hid (F w.heap.size) := by rw [hF]; exact Or.inr ⟨Nat.le_refl _, by omega⟩
  have HFS : Hid (∀ k, k < L.length → ∀ y, Kept (fun j => ¬ F j) W y → ∃ (ad : Addr) (p : Nat × ByteArray), A = some ad ∧ L[k]? = some p ∧ y.cell? (ad.add (k * 2)) = some (.int .i64 (p.1 : Nat)) ∧ y.cell? ⟨(ad.add (k * 2)).block, (ad.add (k * 2)).off + 1, none⟩ = some (.string p.2)) := by
    intro k hk y hy
    obtain ⟨ad, h1, h2, h3, h4, _⟩ := hS k hk
    have e1 : L[k]? = some (L[k]'hk) := List.getElem?_eq_getElem _
    obtain ⟨e2, e3⟩ := hx k _ e1
    rw [e2] at h3
    rw [e3] at h4
    have hf : F ad.block := by rw [hF]; exact Or.inl ⟨h2, hP ad h1⟩
    have hk2 := (Kept.of_below HM.out (fun j => ¬ F j)).trans hy
    exact ⟨ad, _, h1, e1, hk2.cell h3 (by rw [add_block]; exact fun e => e hf), hk2.cell h4 (by show ¬ ¬ F (ad.add (k * 2)).block; rw [add_block]; exact fun e => e hf)⟩
  obtain ⟨R, hR⟩ : ∃ R, R = M.wr L d := ⟨_, rfl⟩
  have HF0 := Lib.hid hR
  obtain ⟨n, hn⟩ : ∃ n, n = L.length := ⟨_, rfl⟩
  have HO : Hid (d.ops ≤ 1000000000 ∧ n ≤ 100000) := ⟨ho, by omega⟩
  have hn1 : (n : Int) ≤ 100000 := by omega
  have HLN : Hid (L.length = n) := hn.symm
  rw [← hR, ← hn]
  rw [← hn] at HFS
  have HKW : Hid (Kept (fun j => ¬ F j) W W) := Kept.refl _ _
  clear h hS hx hP ho hl hz hF hn hR
  unfold M.logv
  go_enter Tryz.func79, Tryz.ntmps79
  go_wp2_with fail
  rw [← hW]
  clear hW
  go_loopw [10] (fun j wr => ∃ (k : Nat) (dk : M.D), k ≤ n ∧ j = .int .i64 k ∧ Hid (One w wr a P F dk) ∧ Hid (Kept (fun j => ¬ F j) W wr) ∧ Hid (dk.ops = d.ops + k) ∧ Hid (R = M.wr (L.drop k) dk)) (fun j _ => n - (intOf j).toNat)
  case atStart => exact ⟨0, d, Nat.zero_le _, rfl, H0, HKW, rfl, HF0.out⟩
  case round =>
    clear H0 HF0 HKW
    obtain ⟨k, dk, hk, rfl, HA, HKK, HOk, HRk⟩ := hrel
    by_cases hlt : k < n
    · have hk0 : (0 : Int) ≤ (k : Int) := by omega
      have hlt' : (k : Int) < (n : Int) := by omega
      obtain ⟨ad, p, hA, hp, x0, x1⟩ := HFS.out k hlt wr HKK.out
      have HRn : Hid (R = M.wr (p :: L.drop (k + 1)) dk) := by show R = _; rw [← M.drop_at hp]; exact HRk.out
      obtain ⟨at_, t⟩ := p
      simp only at x0 x1
      have HAx : Hid (One w (wr.alloc (Obj.cells #[.int .i64 (at_ : Nat), .string t] 111)) a P F dk) := HA.out.alloc _
      obtain ⟨y3, y4⟩ := cells2 wr (.int .i64 (at_ : Nat)) (.string t) 111
      have HKx : Hid (Kept (fun j => ¬ F j) W (wr.alloc (Obj.cells #[.int .i64 (at_ : Nat), .string t] 111))) := HKK.out.alloc _
      obtain ⟨x, hx⟩ : ∃ x, x = wr.alloc (Obj.cells #[.int .i64 (at_ : Nat), .string t] 111) := ⟨_, rfl⟩
      rw [← hx] at HAx y3 y4 HKx
      have HX := Lib.hid hx
      have c0 := (HKx.out.box HLB.out (fun e => e HFL.out)).cell 0
      simp only [List.getElem?_toArray, List.getElem?_cons_zero] at c0
      have HW := Lib.hid (owrite HAx.out (by have := HOk.out; have := HO.out; omega) (at_ : Nat) t)
      have HON : Hid ((M.writeD dk (at_ : Nat) t).ops = d.ops + (k + 1)) := by show (M.writeD dk (at_ : Nat) t).ops = _; rw [M.writeD_ops, HOk.out]; omega
      have HKL : Hid (k < n) := hlt
      rw [hx] at c0 y3 y4
      clear hp hx HA HRk HOk hlt hk HAx HKK HFS
      subst hA
      by_cases hE : M.writeE dk (at_ : Nat) t = 0
      · rw [hE] at HW
        have HRm : Hid (R = M.wr (L.drop (k + 1)) (M.writeD dk (at_ : Nat) t)) := by
          show R = _
          rw [HRn.out, M.wr, if_pos hE]
        clear hE HRn
        go_wp2_with fail
        rw [← HX.out]
        refine HW.out.mono ?_
        rintro e w2 ⟨rfl, h2, h3⟩
        have H2 := Lib.hid h2
        have H3 := Lib.hid (HKx.out.trans h3)
        clear h2 h3 HW
        go_wp2_with fail
        go_roundw
        case rel => exact ⟨k + 1, _, HKL.out, by go_num, H2, H3, HON, HRm⟩
        case measure => have := HKL.out; simp [intOf]; omega
      · obtain ⟨E, hEE⟩ : ∃ E, E = M.writeE dk (at_ : Nat) t := ⟨_, rfl⟩
        have HRm : Hid (R = (E, M.writeD dk (at_ : Nat) t)) := by
          show R = _
          rw [HRn.out, M.wr, if_neg hE, hEE]
        rw [← hEE] at HW hE
        have hE' : (E == 0) = false := by rw [beq_eq_false_iff_ne]; exact hE
        clear hE HRn hEE
        go_wp2_with fail
        rw [← HX.out]
        refine HW.out.mono ?_
        rintro e w2 ⟨rfl, h2, h3⟩
        have H2 := Lib.hid h2
        clear h2 h3 HW
        go_wp2_with fail
        go_ret
        rw [HRm.out]
        exact ⟨rfl, H2.out.out⟩
    · have e : k = n := by omega
      subst e
      have HRn : Hid (R = (0, dk)) := by
        show R = _
        rw [HRk.out, List.drop_eq_nil_of_le (by rw [HLN.out]; exact Nat.le_refl _), M.wr]
      clear hlt hk HRk HOk HFS
      go_wp2_with fail
      go_ret
      rw [HRn.out]
      exact ⟨rfl, HA.out.out⟩
end Go.Proofs.YtmgchfjfkdkaoaaGreatDoor
