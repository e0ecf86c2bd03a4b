/-
  What ExtentDoes knows, call by call. Walks over ExtentDoes, where there is nothing to do.
-/
import Derived.Test.YtmgchfjfkdkaoaaGreatDoorXD
import Derived.Test.YtmgchfjfkdkaoaaGreatDoorMD
import Derived.Test.YtmgchfjfkdkaoaaGreatDoorXF
import Derived.StillTailTactics
import Derived.Deep.RegionHeld3
import Derived.BigQuiet
namespace Go.Proofs.YtmgchfjfkdkaoaaGreatDoor
open Go.RowKit Go.Maps

/-- The row while its slots are set. -/
def M.half20 (k : Nat) : Nat → ByteArray := fun j => if j < k then M.zeros 128 else ⟨#[]⟩
theorem M.half20_next (k j : Nat) : M.setB (M.half20 k) k (M.zeros 128) j = M.half20 (k + 1) j := by
  by_cases e : j = k
  · subst e
    rw [M.setB_same]
    exact (if_pos (by omega)).symm
  · rw [M.setB_other _ _ e]
    unfold M.half20
    by_cases e' : j < k
    · rw [if_pos e', if_pos (by omega)]
    · rw [if_neg e', if_neg (by omega)]
theorem M.made20 (E : Nat) : madeCells #[Value.string ⟨#[]⟩] E = (M.srow (fun _ => ⟨#[]⟩) E).toArray := by
  rw [M.part_made ⟨#[]⟩ E]
  congr 1
  apply List.ext_getElem?
  intro i
  by_cases e : i < E
  · rw [M.srow_at _ _ _ e]
    simp [M.part, e]
  · rw [List.getElem?_eq_none (by rw [M.part_len _ _ _ (Nat.zero_le _)]; omega), List.getElem?_eq_none (by rw [M.srow_len]; omega)]
theorem make_strs20 (E : Nat) (hE : E ≤ 24) (W : World) : (Instr.makeSlice 36 (.int .i64 (E : Int)) (.int .i64 (E : Int))).run Tryz.prog W = .ok (.slice (some ⟨W.heap.size, 0, none⟩) E E) (W.alloc (.cells (M.srow (fun _ => ⟨#[]⟩) E).toArray 9)) := by
  rw [← M.made20 E]
  exact run_make_row' 36 9 (.string ⟨#[]⟩) 16 Tryz.underlying36 infoS rfl .i64 .i64 E (by omega) (by omega) W

section
variable {E S L : Nat} {h : M.lokB E S L = true} {R : Nat → Prop} {N b d n lb al i : Nat} {w2 x z : World} {act : Bool} {f g : Nat → ByteArray}
theorem LV.start {s : M.Wl} (H : OW (M.geo E S L h) N w2 x b s (fun _ => M.zeros 64) n) (h2 : s.act = true) (h3 : s.l = []) (h5 : s.dk = d) :
    LV E S L h N w2 d b x.heap.size (fun _ => M.zeros 128) (fun _ => ⟨#[]⟩) 0 n (x.alloc (.cells (M.srow (fun _ => ⟨#[]⟩) E).toArray 9)) := by
  have q := QS.start (I := M.IE E (fun _ => M.zeros 128)) (lb := 0) H (by rw [h3]; simp) h5 (by rw [M.now_nil _ h3]; exact M.IE_zero E)
  rw [h2] at q
  exact LV.make q
theorem LV.stageO (H : LV E S L h N w2 d b al f g lb n x) (X : Int) (t : ByteArray) (hX : X < 0 ∨ (E : Int) ≤ X) :
    Calls Tryz.prog 11 #[.pointer (some ⟨b, 0, none⟩), Cf E S L, .int .i64 X, .string t] x fun e z => e = .returned (.int .i64 3) ∧ LV E S L h N w2 d b al f g (lb + 2) n z := by
  refine (stageO20 (some ⟨b, 0, none⟩) E S L X t x (fun _ => hX)).mono ?_
  rintro e z ⟨e1, e2⟩
  exact ⟨e1, (H.beside e2).more (by omega) (Nat.le_refl _)⟩
theorem LV.stageS (H : LV E S L h N w2 d b al f g lb n x) (t : ByteArray) (hi : i < E) (ht : t.size ≠ 128) :
    Calls Tryz.prog 11 #[.pointer (some ⟨b, 0, none⟩), Cf E S L, .int .i64 (i : Nat), .string t] x fun e z => e = .returned (.int .i64 12) ∧ LV E S L h N w2 d b al f g (lb + 2) n z := by
  refine (stageS20 (some ⟨b, 0, none⟩) E S L i t x h hi ht).mono ?_
  rintro e z ⟨e1, e2⟩
  exact ⟨e1, (H.beside e2).more (by omega) (Nat.le_refl _)⟩
/-- What same may know; g: the box of its volume's numbers. -/
def LR (E S L : Nat) (h : M.lokB E S L = true) (R : Nat → Prop) (N : Nat) (w2 : World) (d b al : Nat) (f : Nat → ByteArray) (act : Bool) (lb n : Nat) (x : World) : Prop :=
  ∃ F : List Nat, ¬ (R al ∧ al ∉ F) ∧ QS (M.geo E S L h) R N w2 b d F (M.IE E f) act lb n x ∧ StrB x al E f
def LRG (E S L : Nat) (h : M.lokB E S L = true) (R : Nat → Prop) (N : Nat) (w2 : World) (d b al : Nat) (f : Nat → ByteArray) (act : Bool) (lb n g : Nat) (x : World) : Prop :=
  ∃ F : List Nat, ¬ (R al ∧ al ∉ F) ∧ g ∈ F ∧ QS (M.geo E S L h) R N w2 b d F (M.IE E f) act lb n x ∧ StrB x al E f ∧ BCk x g E S L
theorem LRG.beside {g : Nat} (H : LRG E S L h R N w2 d b al f act lb n g x) (hb : Below x.heap.size x z) : LRG E S L h R N w2 d b al f act lb n g z := by
  obtain ⟨F, h1, h2, h3, h4, h5⟩ := H
  exact ⟨F, h1, h2, h3.beside hb, Box.below h4 hb (Box.lt h4), Box.below h5 hb (Box.lt h5)⟩
theorem LR.same (hE : E ≤ 24) (cap : Nat) (H : LR E S L h R N w2 d b al f act lb n x) (hn : n ≤ 300000) :
    Calls Tryz.prog 13 #[.pointer (some ⟨b, 0, none⟩), Cf E S L, .slice (some ⟨al, 0, none⟩) E cap] x fun e z => e = .returned (.bool true) ∧ LR E S L h R N w2 d b al f act lb (n + 60) z := by
  refine same20_any E S L b al f (fun n x => LR E S L h R N w2 d b al f act lb n x) (fun n g x => LRG E S L h R N w2 d b al f act lb n g x) hE ?_ ?_ ?_ ?_ ?_ ?_ n x cap hn H
  · rintro n x ⟨F, h1, h2, h3⟩
    refine ⟨x.heap.size :: F, fun e => h1 ⟨e.1, fun e' => e.2 (List.mem_cons_of_mem _ e')⟩, List.mem_cons_self .., h2.own (ib1 x _) (fun j e => ?_), Box.below h3 (ib1 x _) (Box.lt h3), Box.new _ _ _⟩
    rcases List.mem_cons.1 e with e | e
    · exact Or.inr ⟨by omega, by rw [World.size_alloc]; omega⟩
    · exact Or.inl e
  · rintro n g x i hi hn ⟨F, h1, h2, h3, h4, h5⟩
    refine (h3.eread readC20 hn hi).mono ?_
    rintro e z ⟨e1, e2, e3⟩
    exact ⟨e1, F, h1, h2, e2, e3.box h4 h1, e3.box h5 (fun e => e.2 h2)⟩
  · rintro n g x q
    refine (readO20 (some ⟨b, 0, none⟩) E S L (E : Nat) x (fun _ => Or.inr (Int.le_refl _))).mono ?_
    rintro e z ⟨e1, e2⟩
    exact ⟨e1, q.beside e2⟩
  · rintro n g x ⟨F, h1, h2, h3, h4, h5⟩
    exact ⟨h5, h4⟩
  · rintro n g x k q
    exact q.beside (below_drewN (Below.refl _ _) _)
  · rintro n m g x ⟨F, h1, h2, h3, h4, h5⟩ hm
    exact ⟨F, h1, h3.more (Nat.le_refl _) hm, h4⟩
theorem LV.same (hE : E ≤ 24) (cap : Nat) (H : LV E S L h N w2 d b al f f lb n x) (hn : n ≤ 300000) :
    Calls Tryz.prog 13 #[.pointer (some ⟨b, 0, none⟩), Cf E S L, .slice (some ⟨al, 0, none⟩) E cap] x fun e z => e = .returned (.bool true) ∧ LV E S L h N w2 d b al f f lb (n + 60) z := by
  obtain ⟨F, h1, h2, h3⟩ := H
  have ha := (h2.old h1).2
  refine (LR.same hE cap ⟨F, fun e => e.2 h1, h2, h3⟩ hn).mono ?_
  rintro e z ⟨e1, F', e2, e3, e4⟩
  exact ⟨e1, F', Classical.byContradiction fun q => e2 ⟨ha, q⟩, e3, e4⟩
theorem LVS.same (hE : E ≤ 24) (cap : Nat) (H : LVS E S L h N w2 d b al f act lb n x) (hn : n ≤ 300000) :
    Calls Tryz.prog 13 #[.pointer (some ⟨b, 0, none⟩), Cf E S L, .slice (some ⟨al, 0, none⟩) E cap] x fun e z => e = .returned (.bool true) ∧ Below N w2 z := by
  obtain ⟨R, F, h1, h2, h3⟩ := H
  refine (LR.same hE cap ⟨F, h1, h2, h3⟩ hn).mono ?_
  rintro e z ⟨e1, F', e2, e3, e4⟩
  exact ⟨e1, e3.below⟩
end
end Go.Proofs.YtmgchfjfkdkaoaaGreatDoor
namespace Go.Proofs.YtmgchfjfkdkaoaaGreatDoor
open Go.RowKit Go.Maps

set_option maxRecDepth 100000 in
set_option maxHeartbeats 1000000 in
theorem extentDoes_big (E S L : Nat) (h : M.lokB E S L = true) (hL : 60 < L) (A : Option Addr) (len cap : Nat) (X : Nat → Int) (D : Nat → ByteArray) (w : World) (hE : Env10 w) (hET : ErrT w) (hO : Row20 w w.heap.size A len X D) (hl63 : (len : Int) ≤ 9223372036854775807) :
    Calls Tryz.prog 3 #[Cf E S L, .slice A len cap] w fun en z => en = .returned (.bool true) ∧ Below w.heap.size w z := by
  have HB := ib1 w (Ck E S L)
  have C0 := Lib.hid (works20_any (w.alloc (Ck E S L)) (hE.below HB) (hET.low HB hET.lt))
  have C1 := Lib.hid (fun x => small18_ok E S L h x)
  have hb0 : decide ((L : Int) ≤ 60) = false := by simp; omega
  rw [hb0] at C1
  have CG : Hid (∀ x, Below w.heap.size w x → Calls Tryz.prog 7 #[.slice A len cap] x fun e y' => (e = .returned (.bool true) ∧ y' = x) ∨ (e = .returned (.bool false) ∧ y' = x ∧ Hid (len ≤ 60 ∧ ∀ i, i < len → (D i).size ≤ 1000))) := fun x hb => great20_any A len cap _ X D x (hO.below hb) hl63
  have HX : Hid (BCk (w.alloc (Ck E S L)) w.heap.size E S L) := Box.new _ _ _
  have HB0 := Lib.hid HB
  clear hE hET HB h hL hb0 hO hl63
  go_enter Tryz.func3, Tryz.ntmps3
  go_wp2_with fail
  refine C0.out.mono ?_
  rintro en w1 ⟨rfl, hb1⟩
  have HB1 := Lib.hid (HB0.out.trans (hb1.mono HB0.out.size))
  obtain ⟨c0, c1, c2⟩ := BCk.cells (Box.below HX.out hb1 (Box.lt HX.out))
  clear hb1
  go_wp2_with fail
  refine (CG.out _ HB1.out).mono ?_
  rintro en w2 (⟨rfl, rfl⟩ | ⟨rfl, rfl, -⟩)
  · go_wp2_with fail
    go_ret
    exact ⟨rfl, HB1.out⟩
  · go_wp2_with fail
    refine (C1.out _).mono ?_
    rintro en w3 ⟨rfl, hb2⟩
    have HB2 := Lib.hid (HB1.out.trans (hb2.mono HB1.out.size))
    clear hb2
    go_wp2_with fail
    go_ret
    exact ⟨rfl, HB2.out⟩
set_option maxRecDepth 100000 in
set_option maxHeartbeats 2000000 in
theorem extentDoes_no (a b c : Int) (hl : M.lokB a b c = false) (A : Option Addr) (len cap : Nat) (X : Nat → Int) (D : Nat → ByteArray) (w : World) (hE : Env10 w) (hET : ErrT w) (hO : Row20 w w.heap.size A len X D) (hl63 : (len : Int) ≤ 9223372036854775807) :
    Calls Tryz.prog 3 #[Cf a b c, .slice A len cap] w fun en z => en = .returned (.bool true) ∧ Below w.heap.size w z := by
  have HB := ib1 w (Ck a b c)
  have C0 := Lib.hid (works20_any (w.alloc (Ck a b c)) (hE.below HB) (hET.low HB hET.lt))
  have C1 := Lib.hid (fun x => small18_no a b c hl x)
  have C2 := Lib.hid (fun x => begun16_no a b c hl x)
  have C3 := Lib.hid (fun x => readO20 none a b c 0 x (fun e => by rw [hl] at e; cases e))
  have C4 := Lib.hid (fun x => stageO20 none a b c 0 ⟨#[]⟩ x (fun e => by rw [hl] at e; cases e))
  have CG : Hid (∀ x, Below w.heap.size w x → Calls Tryz.prog 7 #[.slice A len cap] x fun e y' => (e = .returned (.bool true) ∧ y' = x) ∨ (e = .returned (.bool false) ∧ y' = x ∧ Hid (len ≤ 60 ∧ ∀ i, i < len → (D i).size ≤ 1000))) := fun x hb => great20_any A len cap _ X D x (hO.below hb) hl63
  have HX : Hid (BCk (w.alloc (Ck a b c)) w.heap.size a b c) := Box.new _ _ _
  have FC : Hid (∀ x, Below (w.alloc (Ck a b c)).heap.size (w.alloc (Ck a b c)) x → x.cell? ⟨w.heap.size, 0, none⟩ = some (.int .i64 a) ∧ x.cell? ⟨w.heap.size, 1, none⟩ = some (.int .i64 b) ∧ x.cell? ⟨w.heap.size, 2, none⟩ = some (.int .i64 c)) := fun x hb => BCk.cells (Box.below HX.out hb (Box.lt HX.out))
  have FZ : Hid (∀ x, Below (w.alloc (Ck a b c)).heap.size (w.alloc (Ck a b c)) x → Below w.heap.size w x) := fun x hb => HB.trans (hb.mono HB.size)
  have FT : Hid (∀ x y, Below (w.alloc (Ck a b c)).heap.size (w.alloc (Ck a b c)) x → Below x.heap.size x y → Below (w.alloc (Ck a b c)).heap.size (w.alloc (Ck a b c)) y) := fun x y h1 h2 => h1.trans (h2.mono h1.size)
  clear hE hET HB hl HX hO hl63
  go_enter Tryz.func3, Tryz.ntmps3
  go_wp2_with fail
  refine C0.out.mono ?_
  rintro en w1 ⟨rfl, hb1⟩
  have HB1 := Lib.hid hb1
  clear hb1 C0
  obtain ⟨c0, c1, c2⟩ := FC.out _ HB1.out
  go_wp2_with fail
  refine (CG.out _ (FZ.out _ HB1.out)).mono ?_
  rintro en w2 (⟨rfl, rfl⟩ | ⟨rfl, rfl, -⟩)
  · have HZ := Lib.hid (FZ.out _ HB1.out)
    go_wp2_with fail
    go_ret
    exact ⟨rfl, HZ.out⟩
  · go_wp2_with fail
    refine (C1.out _).mono ?_
    rintro en w3 ⟨rfl, hb⟩
    have HB2 := Lib.hid (FT.out _ _ HB1.out hb)
    clear hb C1 HB1 c0 c1 c2
    obtain ⟨c0, c1, c2⟩ := FC.out _ HB2.out
    go_wp2_with fail
    refine (C2.out _).mono ?_
    rintro en w4 ⟨rfl, hb⟩
    have HB3 := Lib.hid (FT.out _ _ HB2.out hb)
    clear hb C2 HB2 c0 c1 c2
    obtain ⟨c0, c1, c2⟩ := FC.out _ HB3.out
    go_wp2_with fail
    refine (C3.out _).mono ?_
    rintro en w5 ⟨rfl, hb⟩
    have HB4 := Lib.hid (FT.out _ _ HB3.out hb)
    clear hb C3 HB3 c0 c1 c2
    obtain ⟨c0, c1, c2⟩ := FC.out _ HB4.out
    go_wp2_with fail
    refine (C4.out _).mono ?_
    rintro en w6 ⟨rfl, hb⟩
    have HB5 := Lib.hid (FZ.out _ (FT.out _ _ HB4.out hb))
    clear hb C4 HB4 c0 c1 c2
    go_wp2_with fail
    go_ret
    exact ⟨rfl, HB5.out⟩
end Go.Proofs.YtmgchfjfkdkaoaaGreatDoor
