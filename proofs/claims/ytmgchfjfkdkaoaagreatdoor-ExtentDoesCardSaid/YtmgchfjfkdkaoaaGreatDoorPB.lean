/-
  wal.cause where no step failed; a log is moved on where no call fails. A disk beside what stands apart, as steps of a log lean on it; blank sectors. wal.inOrder where a step fails, and wal.cause over what it says.
-/
import Derived.Test.YtmgchfjfkdkaoaaGreatDoorNE
import Derived.Test.YtmgchfjfkdkaoaaGreatDoorNB
import Derived.Test.YtmgchfjfkdkaoaaGreatDoorPA
namespace Go.Proofs.YtmgchfjfkdkaoaaGreatDoor
open Go.RowKit

/-- errors.As(nil, target). -/
theorem as_nil14 (t : Value) (w : World) : Calls Tryz.prog 90 #[.nilIface, t] w fun e w' => e = .returned (.bool false) ∧ w' = w := by
  go_enter Tryz.func90, Tryz.ntmps90
  go_wp2
  go_ret
  exact ⟨rfl, rfl⟩

theorem cause_nil (w : World) : Calls Tryz.prog 48 #[.nilIface] w fun e w' => e = .returned (.int .i64 0) ∧ Below w.heap.size w w' := by
  have hb := Box.new w 32 #[.int .i64 0]
  have c0 := hb.cell 0
  simp only [List.getElem?_toArray, List.getElem?_cons_zero] at c0
  clear hb
  go_enter Tryz.func48, Tryz.ntmps48
  go_wp2_with fail
  refine (as_nil14 _ _).mono ?_
  rintro e w1 ⟨rfl, rfl⟩
  go_wp2_with fail
  go_ret
  exact ⟨rfl, below1 _ _⟩
end Go.Proofs.YtmgchfjfkdkaoaaGreatDoor
namespace Go.Proofs.YtmgchfjfkdkaoaaGreatDoor
open Go.RowKit

section
variable {y0 y z : World} {a : Nat} {P F : Nat → Prop} {d : M.D}
theorem One.beside14 (h : One y0 y a P F d) (hb : Below y.heap.size y z) : One y0 z a P F d := h.kept (Kept.of_below hb (fun _ => False)) (fun _ e => e.elim)
end
/-- What a step of a log leans on. -/
structure At14 (w W y : World) (a : Nat) (P F : Nat → Prop) (d : M.D) : Prop where
  one : One w y a P F d
  kept : Kept (fun j => ¬ F j) W y
theorem At14.beside {w W y z : World} {a : Nat} {P F : Nat → Prop} {d : M.D} (h : At14 w W y a P F d) (hb : Below y.heap.size y z) : At14 w W z a P F d := ⟨h.one.beside14 hb, h.kept.trans (Kept.of_below hb _)⟩
theorem At14.call {w W y : World} {a : Nat} {P F : Nat → Prop} {d d' : M.D} {f : FuncId} {args : Array Value} {v : Value} (h : At14 w W y a P F d) (C : ∀ Q, (∀ k, Q k → k < y.heap.size ∧ ¬ F k) → Disk y a Q d → Calls Tryz.prog f args y fun e y' => e = .returned v ∧ Disk y' a (M.plus Q y.heap.size) d' ∧ Kept Q y y') :
    Calls Tryz.prog f args y fun e y' => e = .returned v ∧ At14 w W y' a P F d' := (h.one.call C).mono fun _ _ ⟨h1, h2, h3⟩ => ⟨h1, h2, h.kept.trans h3⟩
theorem At14.flush {w W y : World} {a : Nat} {P F : Nat → Prop} {d d' : M.D} (h : At14 w W y a P F d) (he : M.beginE d = 0) (hd : d' = M.flushD d) (ho : d.ops ≤ 1099511627776) :
    Calls Tryz.prog 28 #[.pointer (some ⟨a, 0, none⟩)] y fun e y' => e = .returned (.int .i64 0) ∧ At14 w W y' a P F d' := by
  rw [← he, hd]
  exact h.call (fun Q _ hq => flush14_any y hq ho)
theorem At14.box {w W y : World} {a : Nat} {P F : Nat → Prop} {d : M.D} (h : At14 w W y a P F d) {g : Nat} {t : TypeId} {cs : Array Value} (hB : Box W g t cs) (hg : F g) : Box y g t cs := h.kept.box hB (fun e => e hg)

end Go.Proofs.YtmgchfjfkdkaoaaGreatDoor
namespace Go.Proofs.YtmgchfjfkdkaoaaGreatDoor
open Go.RowKit

section
variable {w W y z : World} {a : Nat} {P F : Nat → Prop} {d d' : M.D}
/-- A step's call behind the step's own box. -/
theorem At14.late {f : FuncId} {args : Array Value} {v : Value} (h : At14 w W y a P F d) (hb : Below y.heap.size y z) (C : ∀ Q, (∀ k, Q k → k < z.heap.size ∧ ¬ F k) → Disk z a Q d → Calls Tryz.prog f args z fun e y' => e = .returned v ∧ Disk y' a (M.plus Q z.heap.size) d' ∧ Kept Q z y') :
    Calls Tryz.prog f args z fun e y' => e = .returned v ∧ At14 w W y' a P F d' ∧ Kept (fun j => j < y.heap.size) z y' := by
  have h2 := h.one.beside (Kept.of_below hb _)
  refine (h2.call (fun Q hq hd => C Q (fun k e => ⟨(hq k e).1, fun e' => (hq k e).2 (Or.inl e')⟩) hd)).mono ?_
  rintro e y' ⟨e1, e2, e3⟩
  exact ⟨e1, ⟨e2.less (fun k => Or.inl), (h.kept.trans (Kept.of_below hb _)).trans (e3.mono fun k _ hn => fun hf => hn (Or.inl hf))⟩, e3.mono fun k hk hn => Nat.lt_of_not_le fun hle => hn (Or.inr ⟨hle, hk⟩)⟩
end

/-- What the failing step left. -/
def Failed14 (E : Int) (e : Ending) (w : World) : Prop := ∃ b, e = .returned (.iface 140 (.pointer (some ⟨b, 0, none⟩))) ∧ w.cell? ⟨b, 1, none⟩ = some (.iface 32 (.int .i64 E))

set_option maxHeartbeats 1000000 in
/-- Steps are done one by one up to the first that fails. -/
theorem inOrder_fails (g n c m : Nat) (hn : n ≤ 100) (hm : m < n) (E : Int) (hE : E ≠ 0) (S : Nat → ByteArray) (f : Nat → Nat) (bd cp : Nat → Array Value) (J : Nat → World → Prop) (w : World) (h0 : J 0 w)
    (hcell : ∀ k y, k ≤ m → J k y → y.cell? ⟨g, k * 2, none⟩ = some (.string (S k)) ∧ y.cell? ⟨g, k * 2 + 1, none⟩ = some (.func (.func (f k)) (bd k) (cp k)))
    (hkeep : ∀ k y y', J k y → Below y.heap.size y y' → J k y')
    (hen : ∀ k, k ≤ m → ∀ args y, (callFunc (f k) args).run Tryz.prog y = .ok (.enter (f k) args) y)
    (hcall : ∀ k, k < m → ∀ y, J k y → Calls Tryz.prog (f k) (bd k ++ cp k) y fun e y' => e = .returned (.int .i64 0) ∧ J (k + 1) y')
    (hlast : ∀ y z, J m y → Below y.heap.size y z → Calls Tryz.prog (f m) (bd m ++ cp m) z fun e y' => e = .returned (.int .i64 E) ∧ J (m + 1) y' ∧ Kept (fun j => j < y.heap.size) z y') :
    Calls Tryz.prog 49 #[.slice (some ⟨g, 0, none⟩) n c] w fun e w' => Failed14 E e w' ∧ J (m + 1) w' := by
  have H0 := Lib.hid h0
  have HC := Lib.hid hcell
  have HK := Lib.hid hkeep
  have HEN := Lib.hid hen
  have HA := Lib.hid hcall
  have HL := Lib.hid hlast
  have hn1 : (n : Int) ≤ 100 := by omega
  have hE' : (E == 0) = false := by rw [beq_eq_false_iff_ne]; exact hE
  clear h0 hcell hkeep hen hcall hlast hn hE
  go_enter Tryz.func49, Tryz.ntmps49
  go_wp2_with fail
  go_loopw [8] (fun j wr => ∃ (k : Nat), k ≤ m ∧ j = .int .i64 k ∧ Hid (J k wr)) (fun j _ => n - (intOf j).toNat)
  case atStart => exact ⟨0, Nat.zero_le _, rfl, H0⟩
  case round =>
    clear H0
    obtain ⟨k, hk, rfl, HJ⟩ := hrel
    have hk0 : (0 : Int) ≤ (k : Int) := by omega
    have hlt' : (k : Int) < (n : Int) := by omega
    obtain ⟨x0, x1⟩ := HC.out k wr hk HJ.out
    have he := HEN.out k hk
    obtain ⟨fk, hfk⟩ : ∃ x, x = f k := ⟨_, rfl⟩
    obtain ⟨bk, hbk⟩ : ∃ x, x = bd k := ⟨_, rfl⟩
    obtain ⟨ck, hck⟩ : ∃ x, x = cp k := ⟨_, rfl⟩
    obtain ⟨sk, hsk⟩ : ∃ x, x = S k := ⟨_, rfl⟩
    have HKN : Hid (k < n) := by show k < n; omega
    by_cases hlt : k < m
    · have HA1 := Lib.hid (HA.out k hlt)
      have HKL : Hid (k < m) := hlt
      rw [← hfk] at he HA1 x1
      rw [← hbk] at HA1 x1
      rw [← hck] at HA1 x1
      rw [← hsk] at x0
      obtain ⟨x, hx⟩ : ∃ x, x = (wr.alloc (.cells #[.string sk, .nilFunc] 82)).setCell ⟨wr.heap.size, 1, none⟩ (.func (.func fk) bk ck) := ⟨_, rfl⟩
      have z1 : (wr.alloc (.cells #[.string sk, .nilFunc] 82)).cell? ⟨wr.heap.size, 1, none⟩ = some .nilFunc := (Box.new wr 82 #[.string sk, .nilFunc]).cell 1
      have z2 : (wr.alloc (.cells #[.string sk, .nilFunc] 82)).frozen? ⟨wr.heap.size, 1, none⟩ = false := (Box.new wr 82 #[.string sk, .nilFunc]).frozen 1
      have hbx : Box x wr.heap.size 82 #[.string sk, .func (.func fk) bk ck] := by rw [hx]; exact (Box.new wr 82 #[.string sk, .nilFunc]).set 1 _
      have y4 := hbx.cell 1
      have HJ1 : Hid (J k x) := HK.out k wr x HJ.out (by rw [hx]; exact (below1 _ _).setCell (by simp) _)
      have hst : (store ⟨wr.heap.size, 1, none⟩ (.func (.func fk) bk ck)).run Tryz.prog (wr.alloc (.cells #[.string sk, .nilFunc] 82)) = .ok () x := by
        rw [run_store _ _ _ _ _ rfl, z1, z2, hx]
        rfl
      clear hfk hbk hck hsk HJ HC HK HEN HA HL hbx hx z1 z2 hlt hk hm
      go_wp2_with fail
      refine (HA1.out x HJ1.out).mono ?_
      rintro e w2 ⟨rfl, hJ2⟩
      have HJ2 := Lib.hid hJ2
      clear hJ2 HA1 HJ1
      go_wp2_with fail
      go_roundw
      case rel => exact ⟨k + 1, HKL.out, by go_num, HJ2⟩
      case measure => have := HKN.out; simp [intOf]; omega
    · have hkm : k = m := by omega
      subst hkm
      have HXB : Hid (Below wr.heap.size wr ((wr.alloc (.cells #[.string sk, .nilFunc] 82)).setCell ⟨wr.heap.size, 1, none⟩ (.func (.func fk) bk ck))) := (below1 _ _).setCell (by simp) _
      have HA1 := Lib.hid (HL.out wr _ HJ.out HXB.out)
      rw [← hfk] at he HA1 x1
      rw [← hbk] at HA1 x1
      rw [← hck] at HA1 x1
      rw [← hsk] at x0
      obtain ⟨x, hx⟩ : ∃ x, x = (wr.alloc (.cells #[.string sk, .nilFunc] 82)).setCell ⟨wr.heap.size, 1, none⟩ (.func (.func fk) bk ck) := ⟨_, rfl⟩
      rw [← hx] at HA1
      have z1 : (wr.alloc (.cells #[.string sk, .nilFunc] 82)).cell? ⟨wr.heap.size, 1, none⟩ = some .nilFunc := (Box.new wr 82 #[.string sk, .nilFunc]).cell 1
      have z2 : (wr.alloc (.cells #[.string sk, .nilFunc] 82)).frozen? ⟨wr.heap.size, 1, none⟩ = false := (Box.new wr 82 #[.string sk, .nilFunc]).frozen 1
      have hbx : Box x wr.heap.size 82 #[.string sk, .func (.func fk) bk ck] := by rw [hx]; exact (Box.new wr 82 #[.string sk, .nilFunc]).set 1 _
      have HBX := Lib.hid hbx
      have y4 := hbx.cell 1
      have hst : (store ⟨wr.heap.size, 1, none⟩ (.func (.func fk) bk ck)).run Tryz.prog (wr.alloc (.cells #[.string sk, .nilFunc] 82)) = .ok () x := by
        rw [run_store _ _ _ _ _ rfl, z1, z2, hx]
        rfl
      clear hfk hbk hck hsk HJ HC HEN HA HL hbx hx z1 z2 hlt hk HXB
      go_wp2_with fail
      refine HA1.out.mono ?_
      rintro e w2 ⟨rfl, hJ2, hK⟩
      have HJ2 := Lib.hid hJ2
      have b2 := hK.box HBX.out (Nat.lt_irrefl _)
      have y5 := b2.cell 0
      simp only [List.getElem?_toArray, List.getElem?_cons_zero] at y5
      clear hJ2 HA1 hK b2 HBX
      have HB3 := Lib.hid (Box.new w2 142 #[.string sk, .iface 32 (.int .i64 E)])
      have HJ3 := Lib.hid (HK.out _ _ _ HJ2.out (below1 w2 (.cells #[.string sk, .iface 32 (.int .i64 E)] 142)))
      clear HK HJ2
      go_wp2_with fail
      go_ret
      exact ⟨⟨_, rfl, HB3.out.cell 1⟩, HJ3.out⟩

set_option maxHeartbeats 1000000 in
theorem cause_failed (b : Nat) (E : Int) (w : World) (hc : w.cell? ⟨b, 1, none⟩ = some (.iface 32 (.int .i64 E)))
    (hg : w.cell? ⟨1, 0, none⟩ = some (.iface 203 (.agg #[.pointer (some ⟨3, 95, none⟩)]))) :
    Calls Tryz.prog 48 #[.iface 140 (.pointer (some ⟨b, 0, none⟩))] w fun e w' => e = .returned (.int .i64 E) ∧ Below w.heap.size w w' := by
  have hb := Box.new w 32 #[.int .i64 0]
  have c0 := hb.cell 0
  have f0 := hb.frozen 0
  simp only [List.getElem?_toArray, List.getElem?_cons_zero] at c0
  have hlt : 1 < w.heap.size := World.block_lt_of_cell? w _ hg
  have hbl : b < w.heap.size := World.block_lt_of_cell? w _ hc
  obtain ⟨x, hx⟩ : ∃ x, x = w.alloc (.cells #[.int .i64 0] 32) := ⟨_, rfl⟩
  have hz : x.heap.size = w.heap.size + 1 := by rw [hx]; simp
  have hg1 : x.cell? ⟨1, 0, none⟩ = some (.iface 203 (.agg #[.pointer (some ⟨3, 95, none⟩)])) := by rw [hx, World.cell?_alloc_lt _ _ ⟨1, 0, none⟩ hlt]; exact hg
  have hc1 : x.cell? ⟨b, 1, none⟩ = some (.iface 32 (.int .i64 E)) := by rw [hx, World.cell?_alloc_lt _ _ ⟨b, 1, none⟩ hbl]; exact hc
  rw [← hx] at c0 f0
  have HAS := Lib.hid (as_wrap14 b ⟨w.heap.size, 0, none⟩ E _ x hg1 c0 f0 hc1)
  have HB : Hid (Below w.heap.size w (asW x ⟨w.heap.size, 0, none⟩ E)) := by
    show Below _ _ _
    unfold asW
    rw [hx]
    exact ((((((Below.refl _ w).alloc (Nat.le_refl _) _).alloc (by simp) _).alloc (by simp <;> omega) _).alloc (by simp <;> omega) _).alloc (by simp <;> omega) _).setCell (by simp) _
  have HCE : Hid ((asW x ⟨w.heap.size, 0, none⟩ E).cell? ⟨w.heap.size, 0, none⟩ = some (.int .i64 E)) := by
    show _ = _
    unfold asW
    refine World.cell?_setCell_same _ _ _ (u := .int .i64 0) ?_
    rw [World.cell?_alloc_lt _ _ ⟨w.heap.size, 0, none⟩ (by simp <;> omega), World.cell?_alloc_lt _ _ ⟨w.heap.size, 0, none⟩ (by simp <;> omega), World.cell?_alloc_lt _ _ ⟨w.heap.size, 0, none⟩ (by simp <;> omega), World.cell?_alloc_lt _ _ ⟨w.heap.size, 0, none⟩ (by show w.heap.size < x.heap.size; omega)]
    exact c0
  have HX := Lib.hid hx
  clear hb c0 f0 hg hc hg1 hc1 hx hz
  go_enter Tryz.func48, Tryz.ntmps48
  go_wp2_with fail
  rw [← HX.out]
  refine HAS.out.mono ?_
  rintro e w1 ⟨rfl, rfl⟩
  have c1 := HCE.out
  go_wp2_with fail
  go_ret
  exact ⟨rfl, HB.out⟩
end Go.Proofs.YtmgchfjfkdkaoaaGreatDoor
