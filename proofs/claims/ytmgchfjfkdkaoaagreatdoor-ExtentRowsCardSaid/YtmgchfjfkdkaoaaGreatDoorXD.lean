/-
  The state of layer 20's laws: all extents' bytes at a wal of the law's own, beside a row of texts, call by call; what extent.Read and extent.Stage are to do, as hypotheses. Walks over extent.Read and Stage. A walk over solderlaw20.works, over what extent.Read and Stage are to do. A walk over solderlaw20.same, where all is as it is to be: P n x is what is known ahead of it, P1 n g x the same in its midst (g: the box of its volume's numbers).
-/
import Derived.Test.YtmgchfjfkdkaoaaGreatDoorXA
import Derived.Test.YtmgchfjfkdkaoaaGreatDoorTA
import Derived.Test.YtmgchfjfkdkaoaaGreatDoorIA
import Derived.Test.YtmgchfjfkdkaoaaGreatDoorMA
import Derived.BigQuiet
namespace Go.Proofs.YtmgchfjfkdkaoaaGreatDoor
open Go.RowKit Go.Maps

/-- extent.Read and extent.Stage do as the chapter says. -/
def ReadC20 : Prop := ∀ (E S L : Nat) (h : M.lokB E S L = true) (R : Nat → Prop) (y : World) (b n : Nat) (s : M.Wl) (T : Nat → ByteArray), QA (M.geo E S L h) R y b s T n → n ≤ 400000 → ∀ i : Nat, i < E →
  Calls Tryz.prog 10 #[.pointer (some ⟨b, 0, none⟩), Cf E S L, .int .i64 (i : Nat)] y fun e z => e = .returned (.tuple #[.string (M.now s T (M.lx E + 2 * i) ++ M.now s T (M.lx E + 2 * i + 1)), .int .i64 0]) ∧ ∃ d', QA (M.geo E S L h) R z b { s with d := d' } T (n + 2) ∧ Kept R y z
def ReadO20 : Prop := ∀ (wp : Option Addr) (a b c i : Int) (y : World), (M.lokB a b c = true → i < 0 ∨ a ≤ i) →
  Calls Tryz.prog 10 #[.pointer wp, Cf a b c, .int .i64 i] y fun e z => e = .returned (.tuple #[.string ⟨#[]⟩, .int .i64 3]) ∧ Below y.heap.size y z
def StageC20 : Prop := ∀ (E S L : Nat) (h : M.lokB E S L = true) (R : Nat → Prop) (y : World) (b n : Nat) (s : M.Wl) (T : Nat → ByteArray), QA (M.geo E S L h) R y b s T n → s.act = true → s.l.length ≤ 14 → ∀ i : Nat, i < E → ∀ t : ByteArray, t.size = 128 →
  Calls Tryz.prog 11 #[.pointer (some ⟨b, 0, none⟩), Cf E S L, .int .i64 (i : Nat), .string t] y fun e z => e = .returned (.int .i64 0) ∧
    QA (M.geo E S L h) R z b { s with l := M.ins ((M.lx E + 2 * i + 1 : Nat) : Int) (.string (t.extract 64 128)) (M.ins ((M.lx E + 2 * i : Nat) : Int) (.string (t.extract 0 64)) s.l) } T n ∧ Kept R y z
def StageO20 : Prop := ∀ (wp : Option Addr) (a b c i : Int) (t : ByteArray) (y : World), (M.lokB a b c = true → i < 0 ∨ a ≤ i) →
  Calls Tryz.prog 11 #[.pointer wp, Cf a b c, .int .i64 i, .string t] y fun e z => e = .returned (.int .i64 3) ∧ Below y.heap.size y z
def StageS20 : Prop := ∀ (wp : Option Addr) (E S L : Nat) (i : Nat) (t : ByteArray) (y : World), M.lokB E S L = true → i < E → t.size ≠ 128 →
  Calls Tryz.prog 11 #[.pointer wp, Cf E S L, .int .i64 (i : Nat), .string t] y fun e z => e = .returned (.int .i64 12) ∧ Below y.heap.size y z
section
variable {E S L : Nat} {h : M.lokB E S L = true} {R : Nat → Prop} {N b d n lb al i : Nat} {w2 x z : World} {F : List Nat} {act : Bool} {f g : Nat → ByteArray}
theorem QS.eread (C : ReadC20) (H : QS (M.geo E S L h) R N w2 b d F (M.IE E f) act lb n x) (hn : n ≤ 400000) (hi : i < E) :
    Calls Tryz.prog 10 #[.pointer (some ⟨b, 0, none⟩), Cf E S L, .int .i64 (i : Nat)] x fun e z => e = .returned (.tuple #[.string (f i), .int .i64 0]) ∧ QS (M.geo E S L h) R N w2 b d F (M.IE E f) act lb (n + 2) z ∧ Kept (fun j => R j ∧ j ∉ F) x z :=
  H.call (P := fun e => e = .returned (.tuple #[.string (f i), .int .i64 0])) (fun Q s T q h4 h5 h6 => by
    refine (C E S L h Q x b n s T q hn i hi).mono ?_
    rintro e z ⟨e1, d', e2, e3⟩
    rw [h6 i hi] at e1
    exact ⟨e1, _, T, e2, h4, h5, rfl, h6, e3⟩)
theorem QS.estage (C : StageC20) (H : QS (M.geo E S L h) R N w2 b d F (M.IE E f) true lb n x) (hlb : lb ≤ 14) (hi : i < E) (t : ByteArray) (ht : t.size = 128) :
    Calls Tryz.prog 11 #[.pointer (some ⟨b, 0, none⟩), Cf E S L, .int .i64 (i : Nat), .string t] x fun e z => e = .returned (.int .i64 0) ∧ QS (M.geo E S L h) R N w2 b d F (M.IE E (M.setB f i t)) true (lb + 2) n z ∧ Kept (fun j => R j ∧ j ∉ F) x z :=
  H.call (P := fun e => e = .returned (.int .i64 0)) (fun Q s T q h4 h5 h6 => by
    refine (C E S L h Q x b n s T q h4 (by omega) i hi t ht).mono ?_
    rintro e z ⟨e1, e2, e3⟩
    refine ⟨e1, _, T, e2, h4, ?_, rfl, h6.put i t ht (fun j => M.now_two20 s T (M.lx E + 2 * i) _ _ j), e3⟩
    have h1 := M.ins_le ((M.lx E + 2 * i : Nat) : Int) (Value.string (t.extract 0 64)) s.l
    have h2 := M.ins_le ((M.lx E + 2 * i + 1 : Nat) : Int) (Value.string (t.extract 64 128)) (M.ins ((M.lx E + 2 * i : Nat) : Int) (.string (t.extract 0 64)) s.l)
    show (M.ins _ _ _).length ≤ _
    omega)
/-- In a transaction: f is what the sectors have, g what the law's row has. -/
def LV (E S L : Nat) (h : M.lokB E S L = true) (N : Nat) (w2 : World) (d b al : Nat) (f g : Nat → ByteArray) (lb n : Nat) (x : World) : Prop :=
  ∃ F : List Nat, al ∈ F ∧ QS (M.geo E S L h) (fun j => N ≤ j) N w2 b d F (M.IE E f) true lb n x ∧ StrB x al E g
theorem LV.below (H : LV E S L h N w2 d b al f g lb n x) : Below N w2 x := by
  obtain ⟨F, h1, h2, h3⟩ := H
  exact h2.below
theorem LV.beside (H : LV E S L h N w2 d b al f g lb n x) (hb : Below x.heap.size x z) : LV E S L h N w2 d b al f g lb n z := by
  obtain ⟨F, h1, h2, h3⟩ := H
  exact ⟨F, h1, h2.beside hb, Box.below h3 hb (Box.lt h3)⟩
theorem LV.more {lb' n' : Nat} (H : LV E S L h N w2 d b al f g lb n x) (hl : lb ≤ lb') (hn : n ≤ n') : LV E S L h N w2 d b al f g lb' n' x := by
  obtain ⟨F, h1, h2, h3⟩ := H
  exact ⟨F, h1, h2.more hl hn, h3⟩
theorem LV.make (H : QS (M.geo E S L h) (fun j => N ≤ j) N w2 b d F (M.IE E f) true lb n x) : LV E S L h N w2 d b x.heap.size f (fun _ => ⟨#[]⟩) lb n (x.alloc (.cells (M.srow (fun _ => ⟨#[]⟩) E).toArray 9)) :=
  ⟨x.heap.size :: F, List.mem_cons_self .., H.own (ib1 x _) (fun j e => (List.mem_cons.1 e).elim (fun e => Or.inr ⟨by omega, by rw [World.size_alloc]; omega⟩) Or.inl), Box.new _ _ _⟩
theorem LV.store (H : LV E S L h N w2 d b al f g lb n x) (i : Nat) (t : ByteArray) : LV E S L h N w2 d b al f (M.setB g i t) lb n (x.setCell ⟨al, i, none⟩ (.string t)) := by
  obtain ⟨F, h1, h2, h3⟩ := H
  exact ⟨F, h1, h2.turn ((Kept.refl _ x).set (fun _ => h1) _ _) (fun _ e => Or.inl e), StrB.put h3 i t⟩
theorem LV.congr {g' : Nat → ByteArray} (H : LV E S L h N w2 d b al f g lb n x) (hg : ∀ j, j < E → g j = g' j) : LV E S L h N w2 d b al f g' lb n x := by
  obtain ⟨F, h1, h2, h3⟩ := H
  exact ⟨F, h1, h2, StrB.congr h3 hg⟩
theorem LV.row (H : LV E S L h N w2 d b al f g lb n x) : StrB x al E g := by
  obtain ⟨F, h1, h2, h3⟩ := H
  exact h3
theorem LV.stage (C : StageC20) (H : LV E S L h N w2 d b al f g lb n x) (hlb : lb ≤ 14) (hi : i < E) (t : ByteArray) (ht : t.size = 128) :
    Calls Tryz.prog 11 #[.pointer (some ⟨b, 0, none⟩), Cf E S L, .int .i64 (i : Nat), .string t] x fun e z => e = .returned (.int .i64 0) ∧ LV E S L h N w2 d b al (M.setB f i t) g (lb + 2) n z := by
  obtain ⟨F, h1, h2, h3⟩ := H
  refine (h2.estage C hlb hi t ht).mono ?_
  rintro e z ⟨e1, e2, e3⟩
  exact ⟨e1, F, h1, e2, e3.box h3 (fun e => e.2 h1)⟩
theorem LV.next (H : LV E S L h N w2 d b al f g lb n x) (hn : n ≤ 300000) (hlb : lb ≤ 12) (hE : ErrT w2) (hN : 1 < N) :
    Calls Tryz.prog 12 #[.pointer (some ⟨b, 0, none⟩)] x fun e z => e = .returned (.bool true) ∧ LV E S L h N w2 d b al f g 0 (n + 1200) z := by
  have hv := (M.lok_iff E S L).1 h
  obtain ⟨F, h1, h2, h3⟩ := H
  refine (h2.next hn (by show lb + 3 ≤ L; omega) hE hN).mono ?_
  rintro e z ⟨e1, e2, e3⟩
  exact ⟨e1, F, h1, e2, e3.box h3 (fun e => e.2 h1)⟩
/-- The disk with nothing that waits. -/
def LVD (E S L : Nat) (h : M.lokB E S L = true) (N : Nat) (w2 : World) (d al : Nat) (f : Nat → ByteArray) (n : Nat) (x : World) : Prop :=
  ∃ F : List Nat, al ∈ F ∧ QD (M.geo E S L h) N w2 d F (M.IE E f) n x ∧ StrB x al E f
theorem LV.flush (H : LV E S L h N w2 d b al f f 0 n x) (hn : n ≤ 300000) : Calls Tryz.prog 14 #[.pointer (some ⟨b, 0, none⟩)] x fun e z => e = .returned (.int .i64 0) ∧ LVD E S L h N w2 d al f (n + 3) z := by
  obtain ⟨F, h1, h2, h3⟩ := H
  refine (h2.flush hn).mono ?_
  rintro e z ⟨e1, e2, e3⟩
  exact ⟨e1, F, h1, e2, e3.box h3 (fun e => e.2 h1)⟩
theorem LVD.below (H : LVD E S L h N w2 d al f n x) : Below N w2 x := by
  obtain ⟨F, h1, h2, h3⟩ := H
  exact h2.below
theorem LVD.beside (H : LVD E S L h N w2 d al f n x) (hb : Below x.heap.size x z) : LVD E S L h N w2 d al f n z := by
  obtain ⟨F, h1, h2, h3⟩ := H
  exact ⟨F, h1, h2.beside hb, Box.below h3 hb (Box.lt h3)⟩
theorem LVD.restart (H : LVD E S L h N w2 d al f n x) (hn : n ≤ 400000) : Calls Tryz.prog 15 #[.pointer (some ⟨d, 0, none⟩), .slice none 0 0] x fun e z => e = .returned (.tuple #[]) ∧ LVD E S L h N w2 d al f n z := by
  obtain ⟨F, h1, h2, h3⟩ := H
  refine (h2.restart hn).mono ?_
  rintro e z ⟨e1, e2, e3⟩
  exact ⟨e1, F, h1, e2, e3.box h3 (fun e => e.2 h1)⟩
/-- The log is open anew; or in a transaction: what same may know. -/
def LVS (E S L : Nat) (h : M.lokB E S L = true) (N : Nat) (w2 : World) (d b al : Nat) (f : Nat → ByteArray) (act : Bool) (lb n : Nat) (x : World) : Prop :=
  ∃ (R : Nat → Prop) (F : List Nat), ¬ (R al ∧ al ∉ F) ∧ QS (M.geo E S L h) R N w2 b d F (M.IE E f) act lb n x ∧ StrB x al E f
theorem LVS.beside (H : LVS E S L h N w2 d b al f act lb n x) (hb : Below x.heap.size x z) : LVS E S L h N w2 d b al f act lb n z := by
  obtain ⟨R, F, h1, h2, h3⟩ := H
  exact ⟨R, F, h1, h2.beside hb, Box.below h3 hb (Box.lt h3)⟩
theorem LVS.below (H : LVS E S L h N w2 d b al f act lb n x) : Below N w2 x := by
  obtain ⟨R, F, h1, h2, h3⟩ := H
  exact h2.below
theorem LVD.opens (H : LVD E S L h N w2 d al f n x) (hn : n ≤ 400000) (hE : Env10 w2) (hET : ErrT w2) (h1' : 0 < N) (h2' : 1 < N) :
    Calls Tryz.prog 16 #[.pointer (some ⟨d, 0, none⟩), .int .i64 (M.ll E S : Nat), .int .i64 (L : Nat)] x fun e z => ∃ b2, e = .returned (.tuple #[.pointer (some ⟨b2, 0, none⟩), .int .i64 0]) ∧ LVS E S L h N w2 d b2 al f false 0 (n + 5000) z := by
  obtain ⟨F, h1, h2, h3⟩ := H
  refine (h2.opens hn hE hET h1' h2').mono ?_
  rintro e z ⟨b2, e1, e2, e3⟩
  exact ⟨b2, e1, _, [], fun e => e.1.2 h1, e2, e3.box h3 (fun e => e.2 h1)⟩
theorem LVS.read (C : ReadC20) (H : LVS E S L h N w2 d b al f act lb n x) (hn : n ≤ 400000) (hi : i < E) :
    Calls Tryz.prog 10 #[.pointer (some ⟨b, 0, none⟩), Cf E S L, .int .i64 (i : Nat)] x fun e z => e = .returned (.tuple #[.string (f i), .int .i64 0]) ∧ LVS E S L h N w2 d b al f act lb (n + 2) z := by
  obtain ⟨R, F, h1, h2, h3⟩ := H
  refine (h2.eread C hn hi).mono ?_
  rintro e z ⟨e1, e2, e3⟩
  exact ⟨e1, R, F, h1, e2, e3.box h3 h1⟩
end
end Go.Proofs.YtmgchfjfkdkaoaaGreatDoor
namespace Go.Proofs.YtmgchfjfkdkaoaaGreatDoor
open Go.RowKit Go.Maps

abbrev Ck (a b c : Int) : Obj := .cells #[.int .i64 a, .int .i64 b, .int .i64 c] 23
abbrev BCk (y : World) (g : Nat) (a b c : Int) : Prop := Box y g 23 #[.int .i64 a, .int .i64 b, .int .i64 c]
theorem BCk.cells {y : World} {g : Nat} {a b c : Int} (h : BCk y g a b c) : y.cell? ⟨g, 0, none⟩ = some (.int .i64 a) ∧ y.cell? ⟨g, 1, none⟩ = some (.int .i64 b) ∧ y.cell? ⟨g, 2, none⟩ = some (.int .i64 c) :=
  ⟨Box.cell h 0, Box.cell h 1, Box.cell h 2⟩
theorem M.gd_ext {E S L : Nat} (h : M.lokB E S L = true) {i j : Nat} (hi : i < E) (hj : j < 2) : M.gd (M.geo E S L h) (M.lx E + 2 * i + j) := by
  left
  show _ < M.ll E S
  unfold M.ll M.ls
  omega
theorem M.rows20_two (p : Nat) (t : ByteArray) (L : List (Int × Value)) : M.rows20 (p : Nat) t L 2 = M.ins ((p + 1 : Nat) : Int) (.string (t.extract 64 128)) (M.ins (p : Int) (.string (t.extract 0 64)) L) := rfl

set_option maxHeartbeats 1000000 in
theorem extentE20 (a b c i : Int) (hl : M.lokB a b c = true → i < 0 ∨ a ≤ i) (y : World) : Calls Tryz.prog 20 #[Cf a b c, .int .i64 i] y fun e z => e = .returned (.tuple #[.int .i64 0, .int .i64 3]) ∧ Below y.heap.size y z := by
  cases h : M.lokB a b c with
  | false => exact extent15_no a b c i h y
  | true =>
    have hv := (M.lok_iff a b c).1 h
    obtain ⟨E, rfl⟩ : ∃ E : Nat, a = E := ⟨a.toNat, by omega⟩
    obtain ⟨S, rfl⟩ : ∃ E : Nat, b = E := ⟨b.toNat, by omega⟩
    obtain ⟨L, rfl⟩ : ∃ E : Nat, c = E := ⟨c.toNat, by omega⟩
    exact extent15_out E S L i h (hl h) y
set_option maxHeartbeats 1000000 in
theorem readO20 : ReadO20 := by
  intro wp a b c i y hl
  have C1 := Lib.hid (fun x => extentE20 a b c i hl x)
  have HB := Lib.hid (ib1 y (Ck a b c))
  clear hl
  go_enter Tryz.func10, Tryz.ntmps10
  go_wp2_with fail
  refine (C1.out _).mono ?_
  rintro e z1 ⟨rfl, hb⟩
  have HB1 := Lib.hid (HB.out.trans (hb.mono HB.out.size))
  clear hb
  go_wp2_with fail
  go_ret2
  exact ⟨rfl, HB1.out⟩
set_option maxHeartbeats 1000000 in
theorem stageO20 : StageO20 := by
  intro wp a b c i t y hl
  have C1 := Lib.hid (fun x => extentE20 a b c i hl x)
  have HB := Lib.hid (ib1 y (Ck a b c))
  clear hl
  go_enter Tryz.func11, Tryz.ntmps11
  go_wp2_with fail
  refine (C1.out _).mono ?_
  rintro e z1 ⟨rfl, hb⟩
  have HB1 := Lib.hid (HB.out.trans (hb.mono HB.out.size))
  clear hb
  go_wp2_with fail
  go_ret
  exact ⟨rfl, HB1.out⟩
set_option maxHeartbeats 1000000 in
theorem stageS20 : StageS20 := by
  intro wp E S L i t y h hi ht
  have C1 := Lib.hid (fun x => extent15_ok E S L i h hi x)
  obtain ⟨p, hp⟩ : ∃ p, p = M.lx E + 2 * i := ⟨_, rfl⟩
  rw [← hp] at C1
  have HB := Lib.hid (ib1 y (Ck E S L))
  have d1 : ((t.size : Int) == 128) = false := by rw [beq_eq_false_iff_ne]; omega
  have d2 : ((t.size : Int) != 128) = true := by rw [bne, d1]; rfl
  have d3 : ¬ (t.size : Int) = 128 := by omega
  clear h hi ht hp
  go_enter Tryz.func11, Tryz.ntmps11
  go_wp2_with fail
  refine (C1.out _).mono ?_
  rintro e z1 ⟨rfl, hb⟩
  have HB1 := Lib.hid (HB.out.trans (hb.mono HB.out.size))
  clear hb
  go_wp2_with fail
  go_ret
  exact ⟨rfl, HB1.out⟩
set_option maxHeartbeats 1000000 in
/-- Over a wal that is none. -/
theorem readN20 (E S L : Nat) (i : Nat) (h : M.lokB E S L = true) (hi : i < E) (y : World) : Calls Tryz.prog 10 #[.pointer none, Cf E S L, .int .i64 (i : Nat)] y fun e z => e = .returned (.tuple #[.string ⟨#[]⟩, .int .i64 10]) ∧ Below y.heap.size y z := by
  have C1 := Lib.hid (fun x => extent15_ok E S L i h hi x)
  obtain ⟨p, hp⟩ : ∃ p, p = M.lx E + 2 * i := ⟨_, rfl⟩
  rw [← hp] at C1
  have C2 := Lib.hid (fun x => load20_nil (p : Nat) x)
  have HB := Lib.hid (ib1 y (Ck E S L))
  clear h hi hp
  go_enter Tryz.func10, Tryz.ntmps10
  go_wp2_with fail
  refine (C1.out _).mono ?_
  rintro e z1 ⟨rfl, hb⟩
  have HB1 := Lib.hid (HB.out.trans (hb.mono HB.out.size))
  clear hb
  go_wp2_with fail
  refine (C2.out _).mono ?_
  rintro e z2 ⟨rfl, hb⟩
  have HB2 := Lib.hid (HB1.out.trans (hb.mono HB1.out.size))
  clear hb
  go_wp2_with fail
  go_ret2
  exact ⟨rfl, HB2.out⟩
set_option maxHeartbeats 1000000 in
theorem stageN20 (E S L : Nat) (i : Nat) (h : M.lokB E S L = true) (hi : i < E) (t : ByteArray) (ht : t.size = 128) (y : World) : Calls Tryz.prog 11 #[.pointer none, Cf E S L, .int .i64 (i : Nat), .string t] y fun e z => e = .returned (.int .i64 10) ∧ Below y.heap.size y z := by
  have C1 := Lib.hid (fun x => extent15_ok E S L i h hi x)
  obtain ⟨p, hp⟩ : ∃ p, p = M.lx E + 2 * i := ⟨_, rfl⟩
  rw [← hp] at C1
  have C2 := Lib.hid (fun x => save20_nil (p : Nat) t ht x)
  have HB := Lib.hid (ib1 y (Ck E S L))
  have d1 : ((t.size : Int) == 128) = true := by simp; omega
  have d2 : ((t.size : Int) != 128) = false := by rw [bne, d1]; rfl
  have d3 : (t.size : Int) = 128 := by omega
  clear h hi hp ht
  go_enter Tryz.func11, Tryz.ntmps11
  go_wp2_with fail
  refine (C1.out _).mono ?_
  rintro e z1 ⟨rfl, hb⟩
  have HB1 := Lib.hid (HB.out.trans (hb.mono HB.out.size))
  clear hb
  go_wp2_with fail
  refine (C2.out _).mono ?_
  rintro e z2 ⟨rfl, hb⟩
  have HB2 := Lib.hid (HB1.out.trans (hb.mono HB1.out.size))
  clear hb
  go_wp2_with fail
  go_ret
  exact ⟨rfl, HB2.out⟩
set_option maxHeartbeats 1000000 in
theorem readC20 : ReadC20 := by
  intro E S L h R y b n s T H hn i hi
  have C1 := Lib.hid (fun x => extent15_ok E S L i h hi x)
  have hv := (M.lok_iff E S L).1 h
  obtain ⟨p, hp⟩ : ∃ p, p = M.lx E + 2 * i := ⟨_, rfl⟩
  have hp9 : p ≤ 200 := by rw [hp]; unfold M.lx; omega
  have hg : ∀ j, j < 2 → M.gd (M.geo E S L h) (p + j) := fun j hj => by rw [hp]; exact M.gd_ext h hi hj
  rw [← hp] at C1 ⊢
  have HB := Lib.hid (ib1 y (Ck E S L))
  have C2 : Hid (∀ x, Below y.heap.size y x → Calls Tryz.prog 19 #[.pointer (some ⟨b, 0, none⟩), .int .i64 (p : Nat), .int .i64 2] x fun e z => e = .returned (.tuple #[.string (M.now s T p ++ M.now s T (p + 1)), .int .i64 0]) ∧ ∃ d', QA (M.geo E S L h) R z b { s with d := d' } T (n + 2) ∧ Kept R y z) := by
    intro x hb
    refine (load20 (H.beside hb) hn (p : Nat) (by omega) (by omega) 2 (by omega)).mono ?_
    rintro e z ⟨t, er, e1, e2, ⟨d', e3⟩, e4⟩
    obtain ⟨rfl, rfl⟩ := e2 p rfl hg
    rw [M.cat_two] at e1
    exact ⟨e1, d', e3, (Kept.of_below hb R).trans e4⟩
  obtain ⟨u, hu⟩ : ∃ u, u = M.now s T p ++ M.now s T (p + 1) := ⟨_, rfl⟩
  rw [← hu] at C2 ⊢
  clear H hn hi hv hp hp9 hg hu
  go_enter Tryz.func10, Tryz.ntmps10
  go_wp2_with fail
  refine (C1.out _).mono ?_
  rintro e z1 ⟨rfl, hb⟩
  have HB1 := Lib.hid (HB.out.trans (hb.mono HB.out.size))
  clear hb
  go_wp2_with fail
  refine (C2.out _ HB1.out).mono ?_
  rintro e z2 ⟨rfl, hb⟩
  have HB2 := Lib.hid hb
  clear hb
  go_wp2_with fail
  go_ret2
  exact ⟨rfl, HB2.out⟩
set_option maxHeartbeats 1000000 in
theorem stageC20 : StageC20 := by
  intro E S L h R y b n s T H hact hl i hi t ht
  have C1 := Lib.hid (fun x => extent15_ok E S L i h hi x)
  have hv := (M.lok_iff E S L).1 h
  obtain ⟨p, hp⟩ : ∃ p, p = M.lx E + 2 * i := ⟨_, rfl⟩
  have hp9 : p ≤ 200 := by rw [hp]; unfold M.lx; omega
  have hg : ∀ j, j < 2 → M.gd (M.geo E S L h) (p + j) := fun j hj => by rw [hp]; exact M.gd_ext h hi hj
  rw [← hp] at C1 ⊢
  have HB := Lib.hid (ib1 y (Ck E S L))
  have C2 : Hid (∀ x, Below y.heap.size y x → Calls Tryz.prog 18 #[.pointer (some ⟨b, 0, none⟩), .int .i64 (p : Nat), .string t] x fun e z => e = .returned (.int .i64 0) ∧
      QA (M.geo E S L h) R z b { s with l := M.ins ((p + 1 : Nat) : Int) (.string (t.extract 64 128)) (M.ins (p : Int) (.string (t.extract 0 64)) s.l) } T n ∧ Kept R y z) := by
    intro x hb
    refine (save20 (H.beside hb) hact (p : Nat) (by omega) (by omega) t 2 (by omega) (by omega) (by omega)).mono ?_
    rintro e z ⟨⟨e1, e2, e3⟩ | ⟨⟨j, hj, e1⟩, e2, e3⟩, e4⟩
    · rw [M.rows20_two] at e3
      exact ⟨e2, e3, (Kept.of_below hb R).trans e4⟩
    · have h9 := M.gd_guards (hg j hj)
      rw [Int.natCast_add, e1] at h9
      cases h9
  obtain ⟨u, hu⟩ : ∃ u, u = M.ins ((p + 1 : Nat) : Int) (.string (t.extract 64 128)) (M.ins (p : Int) (.string (t.extract 0 64)) s.l) := ⟨_, rfl⟩
  rw [← hu] at C2 ⊢
  have d1 : ((t.size : Int) == 128) = true := by simp; omega
  have d2 : ((t.size : Int) != 128) = false := by rw [bne, d1]; rfl
  have d3 : (t.size : Int) = 128 := by omega
  clear H hact hl hi hv hp hp9 hg hu ht
  go_enter Tryz.func11, Tryz.ntmps11
  go_wp2_with fail
  refine (C1.out _).mono ?_
  rintro e z1 ⟨rfl, hb⟩
  have HB1 := Lib.hid (HB.out.trans (hb.mono HB.out.size))
  clear hb
  go_wp2_with fail
  refine (C2.out _ HB1.out).mono ?_
  rintro e z2 ⟨rfl, hb⟩
  have HB2 := Lib.hid hb
  clear hb
  go_wp2_with fail
  go_ret
  exact ⟨rfl, HB2.out⟩
end Go.Proofs.YtmgchfjfkdkaoaaGreatDoor
namespace Go.Proofs.YtmgchfjfkdkaoaaGreatDoor
open Go.RowKit Go.Maps

theorem M.lok20 : M.lokB (3 : Nat) (1 : Nat) (24 : Nat) = true := by decide
def M.one20 : ByteArray := M.zeros 127 ++ (⟨#[120]⟩ : ByteArray)
theorem M.one20_size : M.one20.size = 128 := by rw [M.one20, ByteArray.size_append, M.zeros_size]; rfl
abbrev M.ones20 : Nat → ByteArray := M.setB (fun _ => M.zeros 128) 2 M.one20
set_option maxHeartbeats 1000000 in
theorem works20_parts (RC : ReadC20) (SC : StageC20) (w1 : World) (hE : Env10 w1) (hET : ErrT w1) : ∃ (q t : ByteArray) (nn : Array Value) (W0 W1 W2 : World → Nat → Prop) (W3 : World → Prop),
    (q ++ (⟨#[120]⟩ : ByteArray) = t ∧ q.size ≤ 1000) ∧
    (∀ W : World, (Instr.makeSlice 37 (.int .i64 127) (.int .i64 127)).run Tryz.prog W = .ok (.slice (some ⟨W.heap.size, 0, none⟩) 127 127) (W.alloc (.cells nn 5))) ∧
    (∀ W : World, Sem.run Tryz.prog (convert 37 9 (.slice (some ⟨W.heap.size, 0, none⟩) 127 127)) (W.alloc (.cells nn 5)) = .ok (.string q) (W.alloc (.cells nn 5))) ∧
    (Calls Tryz.prog 9 #[Cf 3 1 24] w1 fun e z => ∃ d b, e = .returned (.tuple #[.pointer (some ⟨d, 0, none⟩), .pointer (some ⟨b, 0, none⟩)]) ∧ W0 z b) ∧
    (∀ x b, W0 x b → Calls Tryz.prog 11 #[.pointer (some ⟨b, 0, none⟩), Cf 3 1 24, .int .i64 2, .string t] x fun e z => e = .returned (.int .i64 0) ∧ W1 z b) ∧
    (∀ x b, W1 x b → Calls Tryz.prog 12 #[.pointer (some ⟨b, 0, none⟩)] x fun e z => e = .returned (.bool true) ∧ W2 z b) ∧
    (∀ x b, W2 x b → Calls Tryz.prog 10 #[.pointer (some ⟨b, 0, none⟩), Cf 3 1 24, .int .i64 2] x fun e z => e = .returned (.tuple #[.string t, .int .i64 0]) ∧ W3 z) ∧
    (∀ x z b, W0 x b → Below x.heap.size x z → W0 z b) ∧ (∀ x z b, W1 x b → Below x.heap.size x z → W1 z b) ∧
    (∀ x b, W0 x b → Below w1.heap.size w1 x) ∧ (∀ x b, W1 x b → Below w1.heap.size w1 x) ∧ (∀ x b, W2 x b → Below w1.heap.size w1 x) ∧ (∀ x, W3 x → Below w1.heap.size w1 x) := by
  have h := M.lok20
  refine ⟨M.zeros 127, M.one20, M.nils 127,
    fun x b => ∃ d, QS (M.geo 3 1 24 h) (fun j => w1.heap.size ≤ j) w1.heap.size w1 b d [] (M.IE 3 (fun _ => M.zeros 128)) true 0 6000 x,
    fun x b => ∃ d, QS (M.geo 3 1 24 h) (fun j => w1.heap.size ≤ j) w1.heap.size w1 b d [] (M.IE 3 M.ones20) true 2 6000 x,
    fun x b => ∃ d, QS (M.geo 3 1 24 h) (fun j => w1.heap.size ≤ j) w1.heap.size w1 b d [] (M.IE 3 M.ones20) true 0 7200 x,
    fun x => Below w1.heap.size w1 x, ⟨rfl, by rw [M.zeros_size]; omega⟩, fun W => make_nils 127 (by omega) W, fun W => conv_nils 127 _ _ (Box.new _ _ _), ?_, ?_, ?_, ?_, ?_, ?_, ?_, ?_, ?_, ?_⟩
  · refine (begun16_ok 3 1 24 h w1 hE hET).mono ?_
    rintro e z ⟨d, b, s, e1, e2, e3, e4, e5, e6⟩
    have q := QS.start (I := M.IE 3 (fun _ => M.zeros 128)) (lb := 0) e2 (by rw [e4]; simp) e6 (by rw [M.now_nil _ e4]; exact M.IE_zero 3)
    rw [e3] at q
    exact ⟨d, b, e1, d, q⟩
  · rintro x b ⟨d, h1⟩
    refine (h1.estage SC (by omega) (i := 2) (by omega) M.one20 M.one20_size).mono ?_
    rintro e z ⟨e1, e2, e3⟩
    exact ⟨e1, d, e2⟩
  · rintro x b ⟨d, h1⟩
    refine (h1.next (by omega) (by show 2 + 3 ≤ 24; omega) hET hET.lt).mono ?_
    rintro e z ⟨e1, e2, e3⟩
    exact ⟨e1, d, e2⟩
  · rintro x b ⟨d, h1⟩
    refine (h1.eread RC (by omega) (i := 2) (by omega)).mono ?_
    rintro e z ⟨e1, e2, e3⟩
    rw [show M.ones20 2 = M.one20 from M.setB_same _ _ _] at e1
    exact ⟨e1, e2.below⟩
  · rintro x z b ⟨d, h1⟩ hb
    exact ⟨d, h1.beside hb⟩
  · rintro x z b ⟨d, h1⟩ hb
    exact ⟨d, h1.beside hb⟩
  · rintro x b ⟨d, h1⟩
    exact h1.below
  · rintro x b ⟨d, h1⟩
    exact h1.below
  · rintro x b ⟨d, h1⟩
    exact h1.below
  · exact fun x hx => hx

set_option maxHeartbeats 4000000 in
theorem works20_any (w : World) (hE : Env10 w) (hET : ErrT w) : Calls Tryz.prog 6 #[] w fun e z => e = .returned (.bool true) ∧ Below w.heap.size w z := by
  have HB0 := ib1 w (Ck 3 1 24)
  obtain ⟨q, t, nn, W0, W1, W2, W3, ⟨ht, hq9⟩, hmk, hcv, p1, p2, p3, p4, d0, d1, q0, q1, q2, q3⟩ := works20_parts readC20 stageC20 (w.alloc (Ck 3 1 24)) (hE.below HB0) (hET.low HB0 hET.lt)
  have P1 := Lib.hid p1
  have P2 := Lib.hid p2
  have P3 := Lib.hid p3
  have P4 := Lib.hid p4
  have HC : Hid (∀ x, Below (w.alloc (Ck 3 1 24)).heap.size (w.alloc (Ck 3 1 24)) x → BCk x w.heap.size 3 1 24) := fun x hb => Box.below (Box.new _ _ _) hb (by rw [World.size_alloc]; omega)
  have D0 := Lib.hid d0
  have C0 : Hid (∀ x b, W0 x b → BCk x w.heap.size 3 1 24) := fun x b hw => HC.out x (q0 x b hw)
  have C2 : Hid (∀ x b, W2 x b → BCk x w.heap.size 3 1 24) := fun x b hw => HC.out x (q2 x b hw)
  have HZ : Hid (∀ x, W3 x → Below w.heap.size w x) := fun x hw => HB0.trans ((q3 x hw).mono HB0.size)
  clear p1 p2 p3 p4 q0 q1 q2 q3 d0 d1 hE hET HB0 HC
  go_enter Tryz.func6, Tryz.ntmps6
  go_wp2_with fail
  refine P1.out.mono ?_
  rintro e w1 ⟨d, b, rfl, h1⟩
  have G1 := Lib.hid (D0.out w1 (w1.alloc (.cells nn 5)) b h1 (ib1 _ _))
  clear h1 P1 D0
  obtain ⟨c0, c1, c2⟩ := BCk.cells (C0.out _ _ G1.out)
  go_wp2_with fail
  clear hmk hcv
  refine (P2.out _ b G1.out).mono ?_
  rintro e w2 ⟨rfl, h2⟩
  have G2 := Lib.hid (P3.out _ b h2)
  clear h2 P2 P3 G1 c0 c1 c2 C0
  go_wp2_with fail
  refine G2.out.mono ?_
  rintro e w3 ⟨rfl, h3⟩
  have G3 := Lib.hid (P4.out _ b h3)
  obtain ⟨c0, c1, c2⟩ := BCk.cells (C2.out _ _ h3)
  clear h3 G2 P4 C2 ht hq9
  have hss : (t.toList == t.toList) = true := by simp
  go_wp2_with fail
  refine G3.out.mono ?_
  rintro e w4 ⟨rfl, h4⟩
  have G4 := Lib.hid (HZ.out _ h4)
  clear h4 G3 HZ c0 c1 c2
  go_wp2_with fail
  go_ret
  exact ⟨rfl, G4.out⟩
end Go.Proofs.YtmgchfjfkdkaoaaGreatDoor
namespace Go.Proofs.YtmgchfjfkdkaoaaGreatDoor
open Go.RowKit Go.Maps

set_option maxRecDepth 100000 in
set_option maxHeartbeats 4000000 in
theorem same20_any (E S L b al : Nat) (f : Nat → ByteArray) (P : Nat → World → Prop) (P1 : Nat → Nat → World → Prop) (hE : E ≤ 24)
    (hA : ∀ n x, P n x → P1 n x.heap.size (x.alloc (Ck E S L)))
    (hR : ∀ n g x i, i < E → n ≤ 400000 → P1 n g x → Calls Tryz.prog 10 #[.pointer (some ⟨b, 0, none⟩), Cf E S L, .int .i64 (i : Nat)] x fun e z => e = .returned (.tuple #[.string (f i), .int .i64 0]) ∧ P1 (n + 2) g z)
    (hO : ∀ n g x, P1 n g x → Calls Tryz.prog 10 #[.pointer (some ⟨b, 0, none⟩), Cf E S L, .int .i64 (E : Nat)] x fun e z => e = .returned (.tuple #[.string ⟨#[]⟩, .int .i64 3]) ∧ P1 n g z)
    (hC : ∀ n g x, P1 n g x → BCk x g E S L ∧ StrB x al E f) (hD : ∀ n g x k, P1 n g x → P1 n g (World.drewN x k)) (hZ : ∀ n m g x, P1 n g x → n ≤ m → P m x)
    (n : Nat) (x : World) (cap : Nat) (hn : n ≤ 300000) (H : P n x) :
    Calls Tryz.prog 13 #[.pointer (some ⟨b, 0, none⟩), Cf E S L, .slice (some ⟨al, 0, none⟩) E cap] x fun e z => e = .returned (.bool true) ∧ P (n + 60) z := by
  have G0 := Lib.hid (hA n x H)
  obtain ⟨g, hg⟩ : ∃ g, g = x.heap.size := ⟨_, rfl⟩
  rw [← hg] at G0
  have HR : Hid (∀ k y, k < E → P1 (n + 2 * k) g y → Calls Tryz.prog 10 #[.pointer (some ⟨b, 0, none⟩), Cf E S L, .int .i64 (k : Nat)] y fun e z => e = .returned (.tuple #[.string (f k), .int .i64 0]) ∧ P1 (n + 2 * (k + 1)) g z) := fun k y hk q => hR (n + 2 * k) g y k hk (by omega) q
  have HO := Lib.hid (fun y => hO (n + 2 * E) g y)
  have HC := Lib.hid (fun m y => hC m g y)
  have HD := Lib.hid hD
  have HZ : Hid (∀ y, P1 (n + 2 * E) g y → P (n + 60) y) := fun y q => hZ _ _ g y q (by omega)
  clear hA hR hO hC hZ hD H hn
  go_enter Tryz.func13, Tryz.ntmps13
  go_wp2_with fail
  rw [← hg]
  clear hg
  obtain ⟨x0, hx0⟩ : ∃ y, y = x.alloc (Ck E S L) := ⟨_, rfl⟩
  rw [← hx0] at G0 ⊢
  clear hx0
  go_loopw [7] (fun i wr => ∃ k : Nat, k ≤ E ∧ i = .int .i64 (k : Nat) ∧ Hid (P1 (n + 2 * k) g wr)) (fun i _ => E - (intOf i).toNat)
  case atStart => exact ⟨0, Nat.zero_le _, rfl, G0⟩
  case round =>
    clear G0
    obtain ⟨k, hk, rfl, HP⟩ := hrel
    by_cases hlt : k < E
    · have hlt' : (k : Int) < (E : Int) := by omega
      have hk0 : (0 : Int) ≤ (k : Int) := by omega
      have hd9 : decide (k < E) = true := by simpa using hlt
      have C1 := Lib.hid (HR.out k wr hlt HP.out)
      have HX : Hid (∀ y, P1 (n + 2 * (k + 1)) g y → y.cell? ⟨al, k, none⟩ = some (.string (f k))) := fun y q => StrB.at (HC.out _ y q).2 hlt
      obtain ⟨c0, c1, c2⟩ := BCk.cells (HC.out _ _ HP.out).1
      obtain ⟨t, ht⟩ : ∃ t, t = f k := ⟨_, rfl⟩
      rw [← ht] at C1 HX
      have zt : (t.toList == t.toList) = true := by simp
      clear ht HP hlt
      go_wp2_with fail
      refine C1.out.mono ?_
      rintro e w1 ⟨rfl, h1⟩
      have G1 := Lib.hid h1
      clear h1 C1 c0 c1 c2
      have s0 := HX.out _ G1.out
      go_wp2_with fail
      go_roundw
      case rel => exact ⟨k + 1, by omega, by go_num, by first | exact G1.out | exact HD.out _ _ _ _ G1.out⟩
      case measure => simp [intOf]; omega
    · have e : k = E := by omega
      subst e
      have hd9 : decide (k < k) = false := by simp
      have C1 := Lib.hid (HO.out _ HP.out)
      obtain ⟨c0, c1, c2⟩ := BCk.cells (HC.out _ _ HP.out).1
      clear hlt hk HP
      go_wp2_with fail
      refine C1.out.mono ?_
      rintro e w1 ⟨rfl, h1⟩
      have G1 := Lib.hid (HZ.out _ h1)
      clear h1 C1 c0 c1 c2
      go_wp2_with fail
      go_ret
      exact ⟨rfl, G1.out⟩
end Go.Proofs.YtmgchfjfkdkaoaaGreatDoor
