/-
  A volume's numbers as an argument: opened and shut. An entry as an argument: opened and shut. solderlaw16.Next at any wal on a disk of which no call fails: with room, and where room is made. Plain mathematics for layer 18 (table): all entries, two in a sector. No program in this text. A table in memory; walks over table.New and read. Walks over table.Get. Walks over table.Put. Rows of a call's own beside a wal. A walk over table.stageAll, where all is staged. Walks over table.Format. Walks over table.All. A walk over solderlaw18.same, where all is as it is to be. The state of the laws of layer 18: a table at a wal of the call's own, call by call. A walk over solderlaw18.works.
-/
import Derived.Test.YtlihgaejkadonaaGreatDoorRows
import Derived.Test.YtlihgaejkadonaaGreatDoorMA
import Derived.Test.YtlihgaejkadonaaGreatDoorTA
import Derived.Test.YtlihgaejkadonaaGreatDoorVB
import Derived.Test.YtlihgaejkadonaaGreatDoorWC
import Derived.Test.YtlihgaejkadonaaGreatDoorVC
import Derived.Test.YtlihgaejkadonaaGreatDoorIA
import Derived.Test.YtlihgaejkadonaaGreatDoorMD
import Derived.ProofKit
import Derived.OpenShut
import Derived.ChangeSame
import Derived.Deep.Strs
import Derived.OwnWalk
import Derived.Laws.AppendOwn
import Derived.Maps.AppendAt
import Derived.Deep.OwnRows
import Derived.Deep.AppendLies
namespace Go.Proofs.YtlihgaejkadonaaGreatDoor
open Go.ChangeShapes Go.WideShapes Go.ChangeAt Go.RowKit Go.Deep

theorem three_of15 (l : List Value) (h : l.length = 3) : ∃ a b c, l = [a, b, c] := by
  match l, h with
  | [a, b, c], _ => exact ⟨a, b, c, rfl⟩
set_option maxRecDepth 100000 in
theorem cf_open {H : Type} {enc : TypeId × Value → H} {W : World} {r : Reach} {b0 : Nat} {v : Value} {d : DataW H} {p : List MemPlace} (hval : Value.okWide Tryz.prog W r b0 23 v)
    (h : DataW.Trod enc Tryz.prog W 0 (fun _ => true) true 23 v d p) :
    ∃ a b c : Int, v = .agg #[.int .i64 a, .int .i64 b, .int .i64 c] ∧ d = .agg [.lit (.int .i64 a), .lit (.int .i64 b), .lit (.int .i64 c)] ∧ p = [] ∧ (Lit.int .i64 a).wf = true ∧ (Lit.int .i64 b).wf = true ∧ (Lit.int .i64 c).wf = true := by
  obtain ⟨cs, rfl, hsz, _⟩ : ∃ cs, v = .agg cs ∧ cs.size = Tryz.prog.cellsOf 23 ∧ Row.okWide Tryz.prog W r b0 23 cs := by
    simpa [Value.okWide, Tryz.underlying23] using hval
  have c3 : Tryz.prog.cellsOf 23 = 3 := by kernel_rfl
  have c1 : Tryz.prog.cellsOf 3 = 1 := by kernel_rfl
  rw [c3] at hsz
  obtain ⟨l⟩ := cs
  obtain ⟨e0, e1, e2, rfl⟩ := three_of15 l hsz
  obtain ⟨fuel, hf⟩ := h
  obtain ⟨y0, y1, y2, m, hx, _, hy0, hy1, hy2⟩ := trod_struct3 Tryz.underlying23 hf
  rw [c1] at hy0 hy1 hy2
  obtain ⟨x0, h0, g0, w0⟩ := DataW.trod_int Tryz.underlying3 hy0
  obtain ⟨x1, h1, g1, w1⟩ := DataW.trod_int Tryz.underlying3 hy1
  obtain ⟨x2, h2, g2, w2⟩ := DataW.trod_int Tryz.underlying3 hy2
  obtain rfl : e0 = .int .i64 x0 := by have h : [e0] = [Value.int .i64 x0] := h0; simpa using h
  obtain rfl : e1 = .int .i64 x1 := by have h : [e1] = [Value.int .i64 x1] := h1; simpa using h
  obtain rfl : e2 = .int .i64 x2 := by have h : [e2] = [Value.int .i64 x2] := h2; simpa using h
  subst g0 g1 g2
  obtain ⟨rfl, rfl⟩ := Prod.mk.inj hx
  exact ⟨x0, x1, x2, rfl, rfl, rfl, w0, w1, w2⟩
set_option maxRecDepth 100000 in
theorem cf_shut {H : Type} {enc : TypeId × Value → H} {W : World} {base : Nat} {spare : Nat → Bool} {held : Bool} {a b c : Int} (wa : (Lit.int .i64 a).wf = true) (wb : (Lit.int .i64 b).wf = true) (wc : (Lit.int .i64 c).wf = true) :
    DataW.Trod enc Tryz.prog W base spare held 23 (.agg #[.int .i64 a, .int .i64 b, .int .i64 c]) (.agg [.lit (.int .i64 a), .lit (.int .i64 b), .lit (.int .i64 c)]) [] := by
  have c3 : Tryz.prog.cellsOf 23 = 3 := by kernel_rfl
  have c1 : Tryz.prog.cellsOf 3 = 1 := by kernel_rfl
  refine ⟨2, ?_⟩
  have := trod_struct3_mk (enc := enc) (w := W) (base := base) (spare := spare) (held := held) (n := 1) (cs := [.int .i64 a, .int .i64 b, .int .i64 c]) Tryz.underlying23 (by rw [c3]; rfl)
    (by rw [c1]; exact trod_int_mk 0 Tryz.underlying3 wa) (by rw [c1]; exact trod_int_mk 0 Tryz.underlying3 wb) (by rw [c1]; exact trod_int_mk 0 Tryz.underlying3 wc)
  exact this

end Go.Proofs.YtlihgaejkadonaaGreatDoor
namespace Go.Proofs.YtlihgaejkadonaaGreatDoor
open Go.ChangeShapes Go.WideShapes Go.ChangeAt Go.RowKit Go.Deep

theorem Tryz.cellsE18 : Tryz.prog.cellsOf 41 = 3 := by kernel_rfl
theorem Tryz.cellsV18 : Tryz.prog.cellsOf 39 = 2 := by kernel_rfl
theorem Tryz.cellsInt18 : Tryz.prog.cellsOf 3 = 1 := by kernel_rfl
/-- Three cells as an entry. -/
theorem entry_open18 {H : Type} {enc : TypeId × Value → H} {W : World} {base fuel : Nat} {spare : Nat → Bool} {held : Bool} {e0 e1 e2 : Value} {x : DataW H × List MemPlace}
    (h : DataW.trod enc Tryz.prog W base spare held fuel 41 [e0, e1, e2] = some x) : ∃ a b s : Int, e0 = .int .i64 a ∧ e1 = .int .i64 b ∧ e2 = .int .i64 s ∧
      x = (.agg [.agg [.lit (.int .i64 a), .lit (.int .i64 b)], .lit (.int .i64 s)], []) ∧ (Lit.int .i64 a).wf = true ∧ (Lit.int .i64 b).wf = true ∧ (Lit.int .i64 s).wf = true := by
  obtain ⟨y0, y1, n, hx, _, hy0, hy1⟩ := trod_struct2 Tryz.underlying41 h
  have hy0' : DataW.trod enc Tryz.prog W base spare held n 39 [e0, e1] = some y0 := by rw [Tryz.cellsV18] at hy0; exact hy0
  have hy1' : DataW.trod enc Tryz.prog W base spare held n 3 [e2] = some y1 := by rw [Tryz.cellsInt18] at hy1; exact hy1
  obtain ⟨z0, z1, m, hz, _, hz0, hz1⟩ := trod_struct2 Tryz.underlying39 hy0'
  rw [Tryz.cellsInt18] at hz0 hz1
  obtain ⟨a, ha, g0, w0⟩ := DataW.trod_int Tryz.underlying3 hz0
  obtain ⟨b, hb, g1, w1⟩ := DataW.trod_int Tryz.underlying3 hz1
  obtain ⟨s, hs, g2, w2⟩ := DataW.trod_int Tryz.underlying3 hy1'
  obtain rfl : e0 = .int .i64 a := by have h : [e0] = [Value.int .i64 a] := ha; simpa using h
  obtain rfl : e1 = .int .i64 b := by have h : [e1] = [Value.int .i64 b] := hb; simpa using h
  obtain rfl : e2 = .int .i64 s := by have h : [e2] = [Value.int .i64 s] := hs; simpa using h
  subst g0 g1 g2 hz
  exact ⟨a, b, s, rfl, rfl, rfl, hx, w0, w1, w2⟩
end Go.Proofs.YtlihgaejkadonaaGreatDoor
namespace Go.Proofs.YtlihgaejkadonaaGreatDoor
open Go.RowKit Go.Maps

section
variable {a : M.Geo} {b n : Nat} {y : World} {R : Nat → Prop} {s : M.Wl} {T : Nat → ByteArray}
theorem ErrT.kept {y z : World} {R : Nat → Prop} (h : ErrT y) (hk : Kept R y z) (hP : ¬ R 1) : ErrT z := hk.cell h hP
theorem WA.news {z : World} (h : WA a z b (fun j => R j ∨ y.heap.size ≤ j) s T n) (new : ∀ j, y.heap.size ≤ j → R j) : WA a z b R s T n := h.mono (fun j _ e => e.elim id (new j))
theorem WA.commits (h : WA a y b R s T n) (new : ∀ j, y.heap.size ≤ j → R j) (hn : n ≤ 500000) (hE : ErrT y) (hP : ¬ R 1) (hact : s.act = true) (hu : s.used + s.l.length + 1 ≤ a.mn - 2) :
    Calls Tryz.prog 33 #[.pointer (some ⟨b, 0, none⟩)] y fun e z => e = .returned (.int .i64 0) ∧ ∃ s', WA a z b R s' (M.now s T) (n + 100) ∧ s'.act = false ∧ s'.l = [] ∧ s'.dk = s.dk ∧ Kept R y z := by
  refine (h.commit hn hE hP).mono ?_
  rintro e z ⟨hk, ⟨c1, _⟩ | ⟨c1, c2, c3, c4⟩ | ⟨_, _, c3, _⟩ | ⟨c1, c2, c3, c4, s', c5, c6, c7, c8, c9, c10⟩⟩
  · rw [hact] at c1; cases c1
  · rw [M.now_nil T c2]
    exact ⟨c3, _, (c4.news new).more (Nat.le_add_right _ _), rfl, c2, rfl, hk⟩
  · omega
  · exact ⟨c4, s', c5.news new, c6, c7, c10, hk⟩
theorem WA.begins (h : WA a y b R s T n) (hact : s.act = false) : Calls Tryz.prog 25 #[.pointer (some ⟨b, 0, none⟩)] y fun e z => e = .returned (.int .i64 0) ∧ WA a z b R { s with act := true } T n ∧ Kept R y z := by
  refine h.begin.mono ?_
  rintro e z ⟨e1, e2, e3⟩
  rw [hact] at e1
  exact ⟨e1, e2, e3⟩
theorem Kept.newR {y z : World} {R : Nat → Prop} (hk : Kept R y z) (new : ∀ j, y.heap.size ≤ j → R j) : ∀ j, z.heap.size ≤ j → R j := fun j hj => new j (Nat.le_trans hk.size hj)

set_option maxHeartbeats 4000000 in
theorem wnext_room (h : WA a y b R s T n) (new : ∀ j, y.heap.size ≤ j → R j) (hn : n ≤ 400000) (hE : ErrT y) (hP : ¬ R 1) (hact : s.act = true) (hu : s.used + s.l.length + 1 ≤ a.mn - 2) :
    Calls Tryz.prog 14 #[.pointer (some ⟨b, 0, none⟩)] y fun e z => e = .returned (.bool true) ∧ ∃ s', WA a z b R s' (M.now s T) (n + 1200) ∧ s'.act = true ∧ s'.l = [] ∧ s'.dk = s.dk ∧ Kept R y z := by
  have C1 := Lib.hid (h.commits new (by omega) hE hP hact hu)
  have C2 : Hid (∀ z, (∃ s', WA a z b R s' (M.now s T) (n + 100) ∧ s'.act = false ∧ s'.l = [] ∧ s'.dk = s.dk ∧ Kept R y z) → Calls Tryz.prog 25 #[.pointer (some ⟨b, 0, none⟩)] z fun e z' => e = .returned (.int .i64 0) ∧ ∃ s', WA a z' b R s' (M.now s T) (n + 1200) ∧ s'.act = true ∧ s'.l = [] ∧ s'.dk = s.dk ∧ Kept R y z') := by
    rintro z ⟨s', c1, c2, c3, c4, c5⟩
    refine (c1.begins c2).mono ?_
    rintro e z' ⟨e1, e2, e3⟩
    exact ⟨e1, _, e2.more (by omega), rfl, c3, c4, c5.trans e3⟩
  clear h new hn hE hP hact hu
  go_enter Tryz.func14, Tryz.ntmps14
  go_wp2_with fail
  refine C1.out.mono ?_
  rintro e z1 ⟨rfl, h1⟩
  have G1 := Lib.hid (C2.out z1 h1)
  clear h1 C1 C2
  go_wp2_with fail
  refine G1.out.mono ?_
  rintro e z2 ⟨rfl, h2⟩
  have G2 := Lib.hid h2
  clear h2 G1
  go_wp2_with fail
  go_ret
  exact ⟨rfl, G2.out⟩
set_option maxHeartbeats 4000000 in
theorem wnext_full (h : WA a y b R s T n) (new : ∀ j, y.heap.size ≤ j → R j) (hn : n ≤ 400000) (hE : ErrT y) (hP : ¬ R 1) (hact : s.act = true) (hl : s.l ≠ []) (hf : a.mn - 2 < s.used + s.l.length + 1) (hu : s.l.length + 1 ≤ a.mn - 2) :
    Calls Tryz.prog 14 #[.pointer (some ⟨b, 0, none⟩)] y fun e z => e = .returned (.bool true) ∧ ∃ s', WA a z b R s' (M.now s T) (n + 1200) ∧ s'.act = true ∧ s'.l = [] ∧ s'.dk = s.dk ∧ Kept R y z := by
  have C0 : Hid (Calls Tryz.prog 33 #[.pointer (some ⟨b, 0, none⟩)] y fun e z => e = .returned (.int .i64 6) ∧ WA a z b R s T n ∧ Kept R y z) := by
    refine (h.commit (by omega) hE hP).mono ?_
    rintro e z ⟨hk, ⟨c1, _⟩ | ⟨_, c2, _, _⟩ | ⟨_, _, _, c4, c5⟩ | ⟨_, _, c3, _⟩⟩
    · rw [hact] at c1; cases c1
    · exact absurd c2 hl
    · exact ⟨c4, c5.news new, hk⟩
    · omega
  have C1 : Hid (∀ z, WA a z b R s T n ∧ Kept R y z → Calls Tryz.prog 34 #[.pointer (some ⟨b, 0, none⟩)] z fun e z' => e = .returned (.int .i64 0) ∧ ∃ s', WA a z' b R s' T (n + 1000) ∧ s'.act = true ∧ s'.l = s.l ∧ s'.used = 0 ∧ s'.dk = s.dk ∧ Kept R y z') := by
    rintro z ⟨c1, c2⟩
    refine (c1.check (by omega) (hE.kept c2 hP) hP).mono ?_
    rintro e z' ⟨e1, e2, s', e3, e4, e5, e6, e7, e8, e9⟩
    exact ⟨e1, s', e3.news (c2.newR new), e4.trans hact, e5, e6, e9, c2.trans e2⟩
  have C2 : Hid (∀ z, (∃ s', WA a z b R s' T (n + 1000) ∧ s'.act = true ∧ s'.l = s.l ∧ s'.used = 0 ∧ s'.dk = s.dk ∧ Kept R y z) → Calls Tryz.prog 33 #[.pointer (some ⟨b, 0, none⟩)] z fun e z' => e = .returned (.int .i64 0) ∧ ∃ s', WA a z' b R s' (M.now s T) (n + 1100) ∧ s'.act = false ∧ s'.l = [] ∧ s'.dk = s.dk ∧ Kept R y z') := by
    rintro z ⟨s', c1, c2, c3, c4, c5, c6⟩
    refine (c1.commits (c6.newR new) (by omega) (hE.kept c6 hP) hP c2 (by rw [c3, c4]; omega)).mono ?_
    rintro e z' ⟨e1, s2, e2, e3, e4, e5, e6⟩
    have hs : M.now s' T = M.now s T := by unfold M.now; rw [c3]
    rw [hs] at e2
    exact ⟨e1, s2, e2, e3, e4, e5.trans c5, c6.trans e6⟩
  have C3 : Hid (∀ z, (∃ s', WA a z b R s' (M.now s T) (n + 1100) ∧ s'.act = false ∧ s'.l = [] ∧ s'.dk = s.dk ∧ Kept R y z) → Calls Tryz.prog 25 #[.pointer (some ⟨b, 0, none⟩)] z fun e z' => e = .returned (.int .i64 0) ∧ ∃ s', WA a z' b R s' (M.now s T) (n + 1200) ∧ s'.act = true ∧ s'.l = [] ∧ s'.dk = s.dk ∧ Kept R y z') := by
    rintro z ⟨s', c1, c2, c3, c4, c5⟩
    refine (c1.begins c2).mono ?_
    rintro e z' ⟨e1, e2, e3⟩
    exact ⟨e1, _, e2.more (by omega), rfl, c3, c4, c5.trans e3⟩
  clear h new hn hE hP hact hu hl hf
  go_enter Tryz.func14, Tryz.ntmps14
  go_wp2_with fail
  refine C0.out.mono ?_
  rintro e z0 ⟨rfl, h0⟩
  have G0 := Lib.hid (C1.out z0 h0)
  clear h0 C0 C1
  go_wp2_with fail
  refine G0.out.mono ?_
  rintro e z1 ⟨rfl, h1⟩
  have G1 := Lib.hid (C2.out z1 h1)
  clear h1 G0 C2
  go_wp2_with fail
  refine G1.out.mono ?_
  rintro e z2 ⟨rfl, h2⟩
  have G2 := Lib.hid (C3.out z2 h2)
  clear h2 G1 C3
  go_wp2_with fail
  refine G2.out.mono ?_
  rintro e z3 ⟨rfl, h3⟩
  have G3 := Lib.hid h3
  clear h3 G2
  go_wp2_with fail
  go_ret
  exact ⟨rfl, G3.out⟩
/-- Next, whatever room there is. -/
theorem wnext_any (h : WA a y b R s T n) (new : ∀ j, y.heap.size ≤ j → R j) (hn : n ≤ 400000) (hE : ErrT y) (hP : ¬ R 1) (hact : s.act = true) (hu : s.l.length + 1 ≤ a.mn - 2) :
    Calls Tryz.prog 14 #[.pointer (some ⟨b, 0, none⟩)] y fun e z => e = .returned (.bool true) ∧ ∃ s', WA a z b R s' (M.now s T) (n + 1200) ∧ s'.act = true ∧ s'.l = [] ∧ s'.dk = s.dk ∧ Kept R y z := by
  by_cases hr : s.used + s.l.length + 1 ≤ a.mn - 2
  · exact wnext_room h new hn hE hP hact hr
  · by_cases hl : s.l = []
    · -- nothing is staged: the commit needs no room
      have C1 : Hid (Calls Tryz.prog 33 #[.pointer (some ⟨b, 0, none⟩)] y fun e z => e = .returned (.int .i64 0) ∧ ∃ s', WA a z b R s' (M.now s T) (n + 100) ∧ s'.act = false ∧ s'.l = [] ∧ s'.dk = s.dk ∧ Kept R y z) := by
        refine (h.commit (by omega) hE hP).mono ?_
        rintro e z ⟨hk, ⟨c1, _⟩ | ⟨c1, c2, c3, c4⟩ | ⟨_, c2, _⟩ | ⟨_, c2, _⟩⟩
        · rw [hact] at c1; cases c1
        · rw [M.now_nil T c2]
          exact ⟨c3, _, (c4.news new).more (Nat.le_add_right _ _), rfl, c2, rfl, hk⟩
        · exact absurd hl c2
        · exact absurd hl c2
      have C2 : Hid (∀ z, (∃ s', WA a z b R s' (M.now s T) (n + 100) ∧ s'.act = false ∧ s'.l = [] ∧ s'.dk = s.dk ∧ Kept R y z) → Calls Tryz.prog 25 #[.pointer (some ⟨b, 0, none⟩)] z fun e z' => e = .returned (.int .i64 0) ∧ ∃ s', WA a z' b R s' (M.now s T) (n + 1200) ∧ s'.act = true ∧ s'.l = [] ∧ s'.dk = s.dk ∧ Kept R y z') := by
        rintro z ⟨s', c1, c2, c3, c4, c5⟩
        refine (c1.begins c2).mono ?_
        rintro e z' ⟨e1, e2, e3⟩
        exact ⟨e1, _, e2.more (by omega), rfl, c3, c4, c5.trans e3⟩
      clear h new hn hE hP hact hu hl hr
      go_enter Tryz.func14, Tryz.ntmps14
      go_wp2_with fail
      refine C1.out.mono ?_
      rintro e z1 ⟨rfl, h1⟩
      have G1 := Lib.hid (C2.out z1 h1)
      clear h1 C1 C2
      go_wp2_with fail
      refine G1.out.mono ?_
      rintro e z2 ⟨rfl, h2⟩
      have G2 := Lib.hid h2
      clear h2 G1
      go_wp2_with fail
      go_ret
      exact ⟨rfl, G2.out⟩
    · exact wnext_full h new hn hE hP hact hl (by omega) hu
end
end Go.Proofs.YtlihgaejkadonaaGreatDoor
namespace Go.Proofs.YtlihgaejkadonaaGreatDoor
open Go.RowKit Go.Maps

/-- An extent's entry. -/
structure M.E1 where
  a : Int
  b : Int
  s : Int
def M.E1.may (x : M.E1) : Bool := M.emay1 x.a x.b x.s
def M.pair (x y : M.E1) : M.E2 := ⟨x.a, x.b, x.s, y.a, y.b, y.s⟩
theorem M.pair_may (x y : M.E1) : M.emay (M.pair x y) = (x.may && y.may) := rfl
/-- The entry of no changes. -/
def M.no1 : M.E1 := ⟨0, 0, -1⟩
theorem M.no1_may : M.no1.may = true := by decide
/-- One of two, and two with another one of them. -/
def M.half (r : M.E2) (w : Nat) : M.E1 := if w = 0 then ⟨r.a, r.b, r.s⟩ else ⟨r.c, r.d, r.u⟩
def M.put2 (r : M.E2) (w : Nat) (x : M.E1) : M.E2 := if w = 0 then ⟨x.a, x.b, x.s, r.c, r.d, r.u⟩ else ⟨r.a, r.b, r.s, x.a, x.b, x.s⟩
/-- The two of the sector in which an extent's entry lies. -/
def M.two (all : Nat → M.E1) (k : Nat) : M.E2 := M.pair (all (2 * k)) (all (2 * k + 1))
theorem M.half_two (all : Nat → M.E1) (i : Nat) : M.half (M.two all (i / 2)) (i % 2) = all i := by
  unfold M.half M.two M.pair
  by_cases h : i % 2 = 0
  · rw [if_pos h]
    have e : 2 * (i / 2) = i := by omega
    rw [e]
  · rw [if_neg h]
    have e : 2 * (i / 2) + 1 = i := by omega
    rw [e]
def M.set1 (all : Nat → M.E1) (i : Nat) (x : M.E1) : Nat → M.E1 := fun j => if j = i then x else all j
theorem M.two_put (all : Nat → M.E1) (i : Nat) (x : M.E1) : M.put2 (M.two all (i / 2)) (i % 2) x = M.two (M.set1 all i x) (i / 2) := by
  unfold M.put2 M.two M.pair M.set1
  by_cases h : i % 2 = 0
  · have e : 2 * (i / 2) = i := by omega
    rw [if_pos h, e, if_pos rfl, if_neg (by omega)]
  · have e : 2 * (i / 2) + 1 = i := by omega
    rw [if_neg h, e, if_pos rfl, if_neg (by omega)]
theorem M.two_other (all : Nat → M.E1) (i k : Nat) (x : M.E1) (h : k ≠ i / 2) : M.two (M.set1 all i x) k = M.two all k := by
  unfold M.two M.pair M.set1
  rw [if_neg (by omega), if_neg (by omega)]
/-- All entries, as the sectors have them. -/
structure M.TabIs (E : Nat) (V : Nat → ByteArray) (all : Nat → M.E1) : Prop where
  may : ∀ i, (all i).may = true
  sec : ∀ k, k < (E + 1) / 2 → V (2 + k) = M.ewhole (M.two all k)
theorem M.TabIs.two_may {E : Nat} {V : Nat → ByteArray} {all : Nat → M.E1} (h : M.TabIs E V all) (k : Nat) : M.emay (M.two all k) = true := by
  show ((all (2 * k)).may && (all (2 * k + 1)).may) = true
  rw [h.may, h.may]
  rfl
theorem M.TabIs.get {E : Nat} {V : Nat → ByteArray} {all : Nat → M.E1} (h : M.TabIs E V all) {i : Nat} (hi : i < E) : M.eget (V (2 + i / 2)) = (M.two all (i / 2), 0) := by
  rw [h.sec (i / 2) (by omega), M.eget_whole _ (h.two_may _)]
theorem M.set1_may {all : Nat → M.E1} (h : ∀ i, (all i).may = true) (i : Nat) {x : M.E1} (hx : x.may = true) : ∀ j, (M.set1 all i x j).may = true := by
  intro j
  unfold M.set1
  split
  · exact hx
  · exact h j
theorem M.TabIs.put {E : Nat} {V V' : Nat → ByteArray} {all : Nat → M.E1} (h : M.TabIs E V all) (i : Nat) {x : M.E1} (hx : x.may = true)
    (hV : ∀ j, V' j = if j = 2 + i / 2 then M.ewhole (M.put2 (M.two all (i / 2)) (i % 2) x) else V j) : M.TabIs E V' (M.set1 all i x) := by
  refine ⟨M.set1_may h.may i hx, fun k hk => ?_⟩
  rw [hV]
  by_cases e : k = i / 2
  · rw [if_pos (by omega), e, M.two_put]
  · rw [if_neg (by omega), h.sec k hk, M.two_other _ _ _ _ e]
theorem M.eget_zero : M.eget (M.zeros 64) = (M.e0, 4) := by
  have h1 : (M.zeros 64).extract 0 1 ≠ M.ef0 := by decide
  have h0 : (M.zeros 64).size = 64 := by decide
  unfold M.eget
  rw [if_neg (by rw [h0]; simp), if_pos h1]
theorem M.now_ins (s : M.Wl) (T : Nat → ByteArray) (k : Nat) (t : ByteArray) (j : Nat) : M.now { s with l := M.ins (k : Int) (.string t) s.l } T j = if j = k then t else M.now s T j := by
  by_cases e : j = k
  · subst e
    rw [if_pos rfl]
    exact M.now_some (M.find_ins_same _ _ _)
  · rw [if_neg e]
    unfold M.now
    rw [M.find_ins_other (k := (k : Int)) (j := (j : Int)) _ (by omega)]
theorem M.now_at (s : M.Wl) (d : M.D) (T : Nat → ByteArray) : M.now { s with d := d } T = M.now s T := rfl
theorem M.now_act (s : M.Wl) (x : Bool) (T : Nat → ByteArray) : M.now { s with act := x } T = M.now s T := rfl
end Go.Proofs.YtlihgaejkadonaaGreatDoor
namespace Go.Proofs.YtlihgaejkadonaaGreatDoor
open Go.RowKit Go.Maps

/-- A table in a box: its wal and its volume. -/
abbrev TbB (y : World) (t : Nat) (W : Value) (e s l : Int) : Prop := Box y t 62 #[W, .int .i64 e, .int .i64 s, .int .i64 l]
theorem TbB.cells {y : World} {t : Nat} {W : Value} {e s l : Int} (h : TbB y t W e s l) : y.cell? ⟨t, 0, none⟩ = some W ∧ y.cell? ⟨t, 1, none⟩ = some (.int .i64 e) ∧ y.cell? ⟨t, 2, none⟩ = some (.int .i64 s) ∧ y.cell? ⟨t, 3, none⟩ = some (.int .i64 l) :=
  ⟨Box.cell h 0, Box.cell h 1, Box.cell h 2, Box.cell h 3⟩
/-- A table at a wal: R speaks of the wal's blocks and of all that is new. -/
structure TA (E S L : Nat) (h : M.lokB E S L = true) (R : Nat → Prop) (y : World) (t b : Nat) (s : M.Wl) (T : Nat → ByteArray) (n : Nat) : Prop where
  wa : WA (M.geo E S L h) y b R s T n
  new : ∀ j, y.heap.size ≤ j → R j
  tb : TbB y t (.pointer (some ⟨b, 0, none⟩)) E S L
  nt : ¬ R t
/-- The same in the midst of a call that began in w: the blocks of F are the call's own. -/
structure TF (E S L : Nat) (h : M.lokB E S L = true) (R : Nat → Prop) (F : List Nat) (w y : World) (t b : Nat) (s : M.Wl) (T : Nat → ByteArray) (n : Nat) : Prop where
  ta : TA E S L h (fun j => R j ∧ j ∉ F) y t b s T n
  kept : Kept R w y
  nw : ∀ j, w.heap.size ≤ j → R j
  tmp : ∀ j, j ∈ F → w.heap.size ≤ j
  nt : ¬ R t
section
variable {E S L : Nat} {h : M.lokB E S L = true} {R : Nat → Prop} {F F' : List Nat} {w y z : World} {t b n m g : Nat} {s s' : M.Wl} {T T' : Nat → ByteArray}
theorem TA.more (H : TA E S L h R y t b s T n) (hm : n ≤ m) : TA E S L h R y t b s T m := ⟨H.wa.more hm, H.new, H.tb, H.nt⟩
theorem TA.beside (H : TA E S L h R y t b s T n) (hb : Below y.heap.size y z) : TA E S L h R z t b s T n :=
  ⟨H.wa.kept (Kept.of_below hb (fun _ => False)) (fun _ _ => id), fun j hj => H.new j (Nat.le_trans hb.size hj), Box.below H.tb hb (Box.lt H.tb), H.nt⟩
/-- What the wal did. -/
theorem TA.did (H : TA E S L h R y t b s T n) (h1 : WA (M.geo E S L h) z b (fun j => R j ∨ y.heap.size ≤ j) s' T' m) (h2 : Kept R y z) : TA E S L h R z t b s' T' m :=
  ⟨h1.news H.new, h2.newR H.new, h2.box H.tb H.nt, H.nt⟩
theorem TF.start (H : TA E S L h R y t b s T n) : TF E S L h R [] y y t b s T n :=
  ⟨⟨H.wa.mono (fun j _ e => ⟨e, by simp⟩), fun j hj => ⟨H.new j hj, by simp⟩, H.tb, fun e => H.nt e.1⟩, Kept.refl _ _, H.new, fun j e => by (cases e), H.nt⟩
theorem TF.old (H : TF E S L h R F w y t b s T n) {j : Nat} (hj : j ∈ F) : j < y.heap.size := Classical.byContradiction fun e => (H.ta.new j (by omega)).2 hj
/-- Beside newer blocks, of which some are the call's own from now on. -/
theorem TF.own (H : TF E S L h R F w y t b s T n) (hb : Below y.heap.size y z) (hF : ∀ j, j ∈ F' → j ∈ F ∨ (y.heap.size ≤ j ∧ j < z.heap.size)) : TF E S L h R F' w z t b s T n := by
  have hs := hb.size
  have hk := H.kept.size
  refine ⟨⟨?_, fun j hj => ⟨H.nw j (by omega), fun e => ?_⟩, Box.below H.ta.tb hb (Box.lt H.ta.tb), fun e => H.nt e.1⟩, H.kept.trans (Kept.of_below hb R), H.nw, fun j e => (hF j e).elim (H.tmp j) (fun e => by omega), H.nt⟩
  · refine ((H.ta.wa.mono (Q := fun j => (R j ∧ j ∉ F) ∧ j < y.heap.size) (fun j hj e => ⟨e, hj⟩)).kept (Kept.of_below hb (fun _ => False)) (fun _ _ => id)).mono (fun j _ e => ⟨e.1.1, fun e' => (hF j e').elim e.1.2 (fun e'' => by have := e.2; omega)⟩)
  · rcases hF j e with e' | e'
    · have := H.old e'; omega
    · omega
theorem TF.beside (H : TF E S L h R F w y t b s T n) (hb : Below y.heap.size y z) : TF E S L h R F w z t b s T n := H.own hb (fun _ e => Or.inl e)
theorem TF.alloc (H : TF E S L h R F w y t b s T n) (o : Obj) : TF E S L h R (y.heap.size :: F) w (y.alloc o) t b s T n :=
  H.own (ib1 y o) (fun j e => by
    rcases List.mem_cons.1 e with e | e
    · exact Or.inr ⟨by omega, by rw [World.size_alloc]; omega⟩
    · exact Or.inl e)
/-- What a call of the table's or of the wal's did. -/
theorem TF.call (H : TF E S L h R F w y t b s T n) (h1 : TA E S L h (fun j => R j ∧ j ∉ F) z t b s' T' m) (h2 : Kept (fun j => R j ∧ j ∉ F) y z) : TF E S L h R F w z t b s' T' m :=
  ⟨h1, H.kept.trans (h2.mono (fun _ _ e => e.1)), H.nw, H.tmp, H.nt⟩
theorem TF.did (H : TF E S L h R F w y t b s T n) (h1 : WA (M.geo E S L h) z b (fun j => (R j ∧ j ∉ F) ∨ y.heap.size ≤ j) s' T' m) (h2 : Kept (fun j => R j ∧ j ∉ F) y z) : TF E S L h R F w z t b s' T' m :=
  H.call (H.ta.did h1 h2) h2
theorem TF.set (H : TF E S L h R F w y t b s T n) (hg : g ∈ F) (i : Nat) (u : Value) : TF E S L h R F w (y.setCell ⟨g, i, none⟩ u) t b s T n := by
  have hk : Kept (fun j => j = g) y (y.setCell ⟨g, i, none⟩ u) := (Kept.refl (fun j => j = g) y).set (fun _ => rfl) i u
  have hR := H.nw g (H.tmp g hg)
  refine ⟨⟨H.ta.wa.kept hk (fun j e e' => e.2 (e' ▸ hg)), fun j hj => H.ta.new j (by simpa [World.setCell] using hj), hk.box H.ta.tb (fun e => H.nt (e ▸ hR)), H.ta.nt⟩, H.kept.trans (hk.mono (fun k _ e => e ▸ hR)), H.nw, H.tmp, H.nt⟩
theorem TF.set3 (H : TF E S L h R F w y t b s T n) (hg : g ∈ F) (v0 v1 v2 : Value) : TF E S L h R F w (((y.setCell ⟨g, 0, none⟩ v0).setCell ⟨g, 1, none⟩ v1).setCell ⟨g, 2, none⟩ v2) t b s T n := ((H.set hg 0 v0).set hg 1 v1).set hg 2 v2
theorem TF.set6 (H : TF E S L h R F w y t b s T n) (hg : g ∈ F) (v0 v1 v2 v3 v4 v5 : Value) : TF E S L h R F w ((((((y.setCell ⟨g, 0, none⟩ v0).setCell ⟨g, 1, none⟩ v1).setCell ⟨g, 2, none⟩ v2).setCell ⟨g, 3, none⟩ v3).setCell ⟨g, 4, none⟩ v4).setCell ⟨g, 5, none⟩ v5) t b s T n := (((H.set3 hg v0 v1 v2).set hg 3 v3).set hg 4 v4).set hg 5 v5
theorem TF.done (H : TF E S L h R F w y t b s T n) : TA E S L h R y t b s T n ∧ Kept R w y :=
  ⟨⟨H.ta.wa.mono (fun _ _ e => e.1), H.kept.newR H.nw, H.ta.tb, H.nt⟩, H.kept⟩
/-- What is the call's own stays, whatever the wal does. -/
theorem TF.mine {tt : TypeId} {cs : Array Value} (hB : Box y g tt cs) (hg : g ∈ F) (h2 : Kept (fun j => R j ∧ j ∉ F) y z) : Box z g tt cs := h2.box hB (fun e => e.2 hg)
end

/-- What read answers. -/
def M.tread (t : ByteArray) : Value := .tuple #[Ev2 (M.eget t).1.a (M.eget t).1.b (M.eget t).1.s (M.eget t).1.c (M.eget t).1.d (M.eget t).1.u, .int .i64 (if (M.eget t).2 = 0 then 0 else 32)]
theorem M.tread_ok {t : ByteArray} {x : M.E2} (h : M.eget t = (x, 0)) : M.egot (M.eget t) = .tuple #[Ev2 x.a x.b x.s x.c x.d x.u, .int .i64 0] ∧ M.tread t = .tuple #[Ev2 x.a x.b x.s x.c x.d x.u, .int .i64 0] := by
  unfold M.egot M.tread
  rw [h]
  exact ⟨rfl, rfl⟩
theorem M.tread_no {t : ByteArray} (h : (M.eget t).2 ≠ 0) : M.egot (M.eget t) = .tuple #[Ev2 0 0 0 0 0 0, .int .i64 (M.eget t).2] ∧ M.tread t = .tuple #[Ev2 0 0 0 0 0 0, .int .i64 32] := by
  have h1 := M.eget_no t h
  unfold M.egot M.tread
  rw [h1, if_neg h]
  exact ⟨rfl, rfl⟩
theorem M.gd_table {E S L k : Nat} (h : M.lokB E S L = true) (hk : k ≤ E) : M.gd (M.geo E S L h) (2 + k / 2) := by
  have hv := (M.lok_iff E S L).1 h
  left
  show 2 + k / 2 < M.ll E S
  unfold M.ll M.ls M.lx
  omega

theorem tnew_any (o : Option Addr) (e s l : Int) (y : World) : Calls Tryz.prog 8 #[.pointer o, Cf e s l] y fun en z => ∃ t, en = .returned (.pointer (some ⟨t, 0, none⟩)) ∧ Below y.heap.size y z ∧ y.heap.size ≤ t ∧ TbB z t (.pointer o) e s l := by
  have HX : Hid (Box ((y.alloc (.cells #[.int .i64 e, .int .i64 s, .int .i64 l] 23)).alloc (.cells #[.pointer o, .int .i64 e, .int .i64 s, .int .i64 l] 62)) (y.heap.size + 1) 62 #[.pointer o, .int .i64 e, .int .i64 s, .int .i64 l]) := by
    have := Box.new (y.alloc (.cells #[.int .i64 e, .int .i64 s, .int .i64 l] 23)) 62 #[.pointer o, .int .i64 e, .int .i64 s, .int .i64 l]
    rw [World.size_alloc] at this
    exact this
  have HB := Lib.hid (ib2 y (.cells #[.int .i64 e, .int .i64 s, .int .i64 l] 23) (.cells #[.pointer o, .int .i64 e, .int .i64 s, .int .i64 l] 62))
  go_enter Tryz.func8, Tryz.ntmps8
  go_wp2_with fail
  go_ret
  exact ⟨_, rfl, HB.out, by omega, HX.out⟩

section
variable {E S L : Nat} {h : M.lokB E S L = true} {R : Nat → Prop} {y : World} {t b n : Nat} {s : M.Wl} {T : Nat → ByteArray}
set_option maxHeartbeats 4000000 in
theorem tread_any (H : TA E S L h R y t b s T n) (hn : n ≤ 400000) (k : Nat) (hk : M.gd (M.geo E S L h) k) : Calls Tryz.prog 29 #[.pointer (some ⟨t, 0, none⟩), .int .i64 (k : Nat)] y fun e z => e = .returned (M.tread (M.now s T k)) ∧ ∃ d', TA E S L h R z t b { s with d := d' } T (n + 1) ∧ Kept R y z := by
  obtain ⟨tt, htt⟩ : ∃ x, x = M.now s T k := ⟨_, rfl⟩
  rw [← htt]
  have f1 := (TF.start H).alloc (Ec2 0 0 0 0 0 0)
  have C1 : Hid (Calls Tryz.prog 65 #[.pointer (some ⟨b, 0, none⟩), .int .i64 (k : Nat)] (y.alloc (Ec2 0 0 0 0 0 0)) fun e z => e = .returned (.tuple #[.string tt, .int .i64 0]) ∧ (∃ d', TF E S L h R [y.heap.size] y z t b { s with d := d' } T (n + 1)) ∧ B6 z y.heap.size 0 0 0 0 0 0) := by
    refine (f1.ta.wa.read (by omega) k hk).mono ?_
    rintro e z ⟨e1, d', e2, e3⟩
    exact ⟨by rw [e1, htt], ⟨d', f1.did e2 e3⟩, TF.mine (B6.new y 0 0 0 0 0 0) (List.mem_cons_self ..) e3⟩
  have C2 := Lib.hid (fun x => eget_any tt x)
  have HF : Hid (∀ z1 z2, (∃ d', TF E S L h R [y.heap.size] y z1 t b { s with d := d' } T (n + 1)) → Below z1.heap.size z1 z2 → ∃ d', TF E S L h R [y.heap.size] y z2 t b { s with d := d' } T (n + 1)) := by
    rintro z1 z2 ⟨d', h1⟩ h2
    exact ⟨d', h1.beside h2⟩
  have HQ : Hid (∀ z1 (Q : World), B6 z1 y.heap.size 0 0 0 0 0 0 → Below z1.heap.size z1 Q → y.heap.size < z1.heap.size ∧ B6 Q y.heap.size 0 0 0 0 0 0) := fun z1 Q h1 h2 => ⟨h1.lt, h1.below h2 h1.lt⟩
  have HD : Hid (∀ z (v0 v1 v2 v3 v4 v5 : Value), (∃ d', TF E S L h R [y.heap.size] y z t b { s with d := d' } T (n + 1)) → ∃ d', TA E S L h R ((((((z.setCell ⟨y.heap.size, 0, none⟩ v0).setCell ⟨y.heap.size, 1, none⟩ v1).setCell ⟨y.heap.size, 2, none⟩ v2).setCell ⟨y.heap.size, 3, none⟩ v3).setCell ⟨y.heap.size, 4, none⟩ v4).setCell ⟨y.heap.size, 5, none⟩ v5) t b { s with d := d' } T (n + 1) ∧ Kept R y ((((((z.setCell ⟨y.heap.size, 0, none⟩ v0).setCell ⟨y.heap.size, 1, none⟩ v1).setCell ⟨y.heap.size, 2, none⟩ v2).setCell ⟨y.heap.size, 3, none⟩ v3).setCell ⟨y.heap.size, 4, none⟩ v4).setCell ⟨y.heap.size, 5, none⟩ v5)) := by
    rintro z v0 v1 v2 v3 v4 v5 ⟨d', q⟩
    exact ⟨d', (q.set6 (List.mem_cons_self ..) v0 v1 v2 v3 v4 v5).done⟩
  obtain ⟨k0, k1, k2, k3⟩ := f1.ta.tb.cells
  clear H hn hk htt f1 k1 k2 k3
  by_cases h0 : (M.eget tt).2 = 0
  · obtain ⟨x, hx⟩ : ∃ x, x = (M.eget tt).1 := ⟨_, rfl⟩
    obtain ⟨g1, g2⟩ := M.tread_ok (x := x) (by rw [hx, ← h0])
    rw [g1] at C2
    rw [g2]
    obtain ⟨x1, x2, x3, x4, x5, x6⟩ := x
    simp only at C2 ⊢
    clear h0 hx g1 g2
    go_enter Tryz.func29, Tryz.ntmps29
    go_wp2_with fail
    refine C1.out.mono ?_
    rintro e z1 ⟨rfl, h1, h2⟩
    have G1 := Lib.hid h1
    have K1 := Lib.hid h2
    clear h1 h2 C1 k0
    go_wp2_with fail
    refine (C2.out _).mono ?_
    rintro e z2 ⟨rfl, hb2⟩
    have G2 := Lib.hid (HF.out _ _ G1.out (hb2.trans ((ib1 z2 (Ec2 x1 x2 x3 x4 x5 x6)).mono hb2.size)))
    have K2 := Lib.hid ((HQ.out _ _ K1.out (hb2.trans ((ib1 z2 (Ec2 x1 x2 x3 x4 x5 x6)).mono hb2.size))))
    have L2 := Lib.hid (B6.new z2 x1 x2 x3 x4 x5 x6)
    have HN2 : Hid ((z2.heap.size == y.heap.size) = false) := by show _ = _; rw [beq_eq_false_iff_ne]; have := K2.out.1; have := hb2.size; omega
    clear hb2
    have hne := HN2.out
    obtain ⟨c0, c1, c2, c3, c4, c5⟩ := B6.cells K2.out.2
    obtain ⟨f0, f1, f2, f3, f4, f5⟩ := B6.frozen K2.out.2
    obtain ⟨d0, d1, d2, d3, d4, d5⟩ := B6.cells L2.out
    go_wp2_with (exact bodyPost_ret (v := .tuple #[Ev2 x1 x2 x3 x4 x5 x6, .int .i64 0]) (by simp [results, Tryz.results29, go_sem, *]) rfl ⟨rfl, (HD.out _ _ _ _ _ _ _ G2.out)⟩)
  · obtain ⟨g1, g2⟩ := M.tread_no h0
    rw [g1] at C2
    rw [g2]
    obtain ⟨er, her⟩ : ∃ er, er = (M.eget tt).2 := ⟨_, rfl⟩
    rw [← her] at C2 h0
    clear g1 g2 her
    go_enter Tryz.func29, Tryz.ntmps29
    go_wp2_with fail
    refine C1.out.mono ?_
    rintro e z1 ⟨rfl, h1, h2⟩
    have G1 := Lib.hid h1
    have K1 := Lib.hid h2
    clear h1 h2 C1 k0
    go_wp2_with fail
    refine (C2.out _).mono ?_
    rintro e z2 ⟨rfl, hb2⟩
    have G2 := Lib.hid (HF.out _ _ G1.out (hb2.trans ((ib1 z2 (Ec2 0 0 0 0 0 0)).mono hb2.size)))
    have K2 := Lib.hid ((HQ.out _ _ K1.out (hb2.trans ((ib1 z2 (Ec2 0 0 0 0 0 0)).mono hb2.size))))
    have HN2 : Hid ((z2.heap.size == y.heap.size) = false) := by show _ = _; rw [beq_eq_false_iff_ne]; have := K2.out.1; have := hb2.size; omega
    clear hb2
    have hne := HN2.out
    obtain ⟨c0, c1, c2, c3, c4, c5⟩ := B6.cells K2.out.2
    obtain ⟨f0, f1, f2, f3, f4, f5⟩ := B6.frozen K2.out.2
    go_wp2_with (exact bodyPost_ret (v := .tuple #[Ev2 0 0 0 0 0 0, .int .i64 32]) (by simp [results, Tryz.results29, go_sem, *]) rfl ⟨rfl, (HD.out _ _ _ _ _ _ _ G2.out)⟩)
end
end Go.Proofs.YtlihgaejkadonaaGreatDoor
namespace Go.Proofs.YtlihgaejkadonaaGreatDoor
open Go.RowKit Go.Maps

/-- What Get answers. -/
def M.tgot (t : ByteArray) (w : Nat) : Value := .tuple #[Ev (M.half (M.eget t).1 w).a (M.half (M.eget t).1 w).b (M.half (M.eget t).1 w).s, .int .i64 (if (M.eget t).2 = 0 then 0 else 32)]
theorem M.tgot_no {t : ByteArray} (h : (M.eget t).2 ≠ 0) (w : Nat) : M.tgot t w = .tuple #[Ev 0 0 0, .int .i64 32] := by
  have h1 := M.eget_no t h
  unfold M.tgot
  rw [h1, if_neg h]
  unfold M.half
  split <;> rfl
theorem M.tgot_ok {t : ByteArray} {x : M.E2} (h : M.eget t = (x, 0)) (w : Nat) : M.tgot t w = .tuple #[Ev (M.half x w).a (M.half x w).b (M.half x w).s, .int .i64 0] := by
  unfold M.tgot
  rw [h]
  rfl
set_option maxHeartbeats 1000000 in
/-- Where layout has an error. -/
theorem tget_out (W : Value) (e s l i : Int) (t : Nat) (y : World) (H : TbB y t W e s l) (hT : ∀ x, Calls Tryz.prog 20 #[Cf e s l, .int .i64 i] x fun e w' => e = .returned (.tuple #[.int .i64 0, .int .i64 0, .int .i64 3]) ∧ Below x.heap.size x w') :
    Calls Tryz.prog 11 #[.pointer (some ⟨t, 0, none⟩), .int .i64 i] y fun en z => en = .returned (.tuple #[Ev 0 0 0, .int .i64 3]) ∧ Below y.heap.size y z := by
  have C1 := Lib.hid hT
  have HX := Box.below H (ib1 y (Ec 0 0 0)) (Box.lt H)
  obtain ⟨k0, k1, k2, k3⟩ := TbB.cells HX
  have HB := Lib.hid (ib1 y (Ec 0 0 0))
  have K := Lib.hid (B3e.new y 0 0 0)
  clear H HX k0 hT
  go_enter Tryz.func11, Tryz.ntmps11
  go_wp2_with fail
  refine (C1.out _).mono ?_
  rintro en z1 ⟨rfl, hb⟩
  have K1 := Lib.hid (B3e.below K.out hb (B3e.lt K.out))
  have HB1 := Lib.hid (HB.out.trans (hb.mono HB.out.size))
  clear hb
  obtain ⟨c0, c1, c2⟩ := B3e.cells K1.out
  have f0 := Box.frozen K1.out 0
  have f1 := Box.frozen K1.out 1
  have f2 := Box.frozen K1.out 2
  go_wp2_with (exact bodyPost_ret (v := .tuple #[Ev 0 0 0, .int .i64 3]) (by simp [results, Tryz.results11, go_sem, *]) rfl ⟨rfl, (by (repeat refine Below.setCell ?_ (by simp) _); exact HB1.out)⟩)
section
variable {E S L : Nat} {h : M.lokB E S L = true} {R : Nat → Prop} {y : World} {t b n : Nat} {s : M.Wl} {T : Nat → ByteArray}
set_option maxHeartbeats 4000000 in
theorem tget_any (H : TA E S L h R y t b s T n) (hn : n ≤ 400000) (i : Nat) (hi : i < E) :
    Calls Tryz.prog 11 #[.pointer (some ⟨t, 0, none⟩), .int .i64 (i : Nat)] y fun e z => e = .returned (M.tgot (M.now s T (2 + i / 2)) (i % 2)) ∧ ∃ d', TA E S L h R z t b { s with d := d' } T (n + 1) ∧ Kept R y z := by
  have C1 := Lib.hid (fun x => table15_ok E S L i h hi x)
  have f1 := (TF.start H).alloc (Ec 0 0 0)
  have CR : Hid (∀ z1, TF E S L h R [y.heap.size] y z1 t b s T n → B3e z1 y.heap.size 0 0 0 → Calls Tryz.prog 29 #[.pointer (some ⟨t, 0, none⟩), .int .i64 (2 + i / 2 : Nat)] z1 fun e z => e = .returned (M.tread (M.now s T (2 + i / 2))) ∧ (∃ d', TF E S L h R [y.heap.size] y z t b { s with d := d' } T (n + 1)) ∧ B3e z y.heap.size 0 0 0) := by
    intro z1 q1 q2
    refine (tread_any q1.ta hn _ (M.gd_table h (by omega))).mono ?_
    rintro e z ⟨e1, d', e2, e3⟩
    exact ⟨e1, ⟨d', q1.call e2 e3⟩, TF.mine q2 (List.mem_cons_self ..) e3⟩
  obtain ⟨tt, htt⟩ : ∃ x, x = M.now s T (2 + i / 2) := ⟨_, rfl⟩
  rw [← htt] at CR ⊢
  have HG1 : Hid (∀ z, Below (y.alloc (Ec 0 0 0)).heap.size (y.alloc (Ec 0 0 0)) z → TF E S L h R [y.heap.size] y z t b s T n ∧ B3e z y.heap.size 0 0 0) := fun z hb => ⟨f1.beside hb, B3e.below (B3e.new y 0 0 0) hb (B3e.lt (B3e.new y 0 0 0))⟩
  have HF : Hid (∀ z1 z2, (∃ d', TF E S L h R [y.heap.size] y z1 t b { s with d := d' } T (n + 1)) → Below z1.heap.size z1 z2 → ∃ d', TF E S L h R [y.heap.size] y z2 t b { s with d := d' } T (n + 1)) := by
    rintro z1 z2 ⟨d', h1⟩ h2
    exact ⟨d', h1.beside h2⟩
  have HD : Hid (∀ z (v0 v1 v2 : Value), (∃ d', TF E S L h R [y.heap.size] y z t b { s with d := d' } T (n + 1)) → ∃ d', TA E S L h R (((z.setCell ⟨y.heap.size, 0, none⟩ v0).setCell ⟨y.heap.size, 1, none⟩ v1).setCell ⟨y.heap.size, 2, none⟩ v2) t b { s with d := d' } T (n + 1) ∧ Kept R y (((z.setCell ⟨y.heap.size, 0, none⟩ v0).setCell ⟨y.heap.size, 1, none⟩ v1).setCell ⟨y.heap.size, 2, none⟩ v2)) := by
    rintro z v0 v1 v2 ⟨d', q⟩
    exact ⟨d', (q.set3 (List.mem_cons_self ..) v0 v1 v2).done⟩
  obtain ⟨k0, k1, k2, k3⟩ := f1.ta.tb.cells
  have hw : ((i % 2 : Nat) : Int) = 0 ∨ ((i % 2 : Nat) : Int) = 1 := by omega
  obtain ⟨pl, hpl⟩ : ∃ x, x = 2 + i / 2 := ⟨_, rfl⟩
  rw [← hpl] at C1 CR
  clear H f1 k0 hn htt hpl
  by_cases h0 : (M.eget tt).2 = 0
  · obtain ⟨x, hx⟩ : ∃ x, x = (M.eget tt).1 := ⟨_, rfl⟩
    have hxe : M.eget tt = (x, 0) := by rw [hx, ← h0]
    rw [M.tgot_ok hxe]
    rw [(M.tread_ok hxe).2] at CR
    obtain ⟨x1, x2, x3, x4, x5, x6⟩ := x
    simp only at CR
    have HR : Hid (((i % 2 : Nat) : Int) = 0 → M.half ⟨x1, x2, x3, x4, x5, x6⟩ (i % 2) = ⟨x1, x2, x3⟩) := fun e => by unfold M.half; rw [if_pos (by omega)]
    have HR' : Hid (((i % 2 : Nat) : Int) = 1 → M.half ⟨x1, x2, x3, x4, x5, x6⟩ (i % 2) = ⟨x4, x5, x6⟩) := fun e => by unfold M.half; rw [if_neg (by omega)]
    rcases hw with hw | hw
    · rw [HR.out hw]
      rw [hw] at C1
      clear HR HR' hw h0 hx hxe hi
      go_enter Tryz.func11, Tryz.ntmps11
      go_wp2_with fail
      refine (C1.out _).mono ?_
      rintro e z1 ⟨rfl, hb⟩
      have G1 := Lib.hid (HG1.out _ hb)
      clear hb k1 k2 k3 HG1
      go_wp2_with fail
      refine (CR.out _ G1.out.1 G1.out.2).mono ?_
      rintro e z2 ⟨rfl, q1, q2⟩
      have HN2 : Hid ((z2.heap.size == y.heap.size) = false) := by show _ = _; rw [beq_eq_false_iff_ne]; have := q2.lt; omega
      have G2 := Lib.hid (HF.out _ _ q1 (ib1 z2 (Ec2 x1 x2 x3 x4 x5 x6)))
      have K2 := Lib.hid (B3e.below q2 (ib1 z2 (Ec2 x1 x2 x3 x4 x5 x6)) q2.lt)
      have L2 := Lib.hid (B6.new z2 x1 x2 x3 x4 x5 x6)
      clear q1 q2
      have hne := HN2.out
      obtain ⟨c0, c1, c2⟩ := B3e.cells K2.out
      have f0 := Box.frozen K2.out 0
      have f1 := Box.frozen K2.out 1
      have f2 := Box.frozen K2.out 2
      obtain ⟨d0, d1, d2, d3, d4, d5⟩ := B6.cells L2.out
      go_wp2_with (exact bodyPost_ret (v := .tuple #[Ev x1 x2 x3, .int .i64 0]) (by simp [results, Tryz.results11, go_sem, *]) rfl ⟨rfl, (HD.out _ _ _ _ G2.out)⟩)
    · rw [HR'.out hw]
      rw [hw] at C1
      clear HR HR' hw h0 hx hxe hi
      go_enter Tryz.func11, Tryz.ntmps11
      go_wp2_with fail
      refine (C1.out _).mono ?_
      rintro e z1 ⟨rfl, hb⟩
      have G1 := Lib.hid (HG1.out _ hb)
      clear hb k1 k2 k3 HG1
      go_wp2_with fail
      refine (CR.out _ G1.out.1 G1.out.2).mono ?_
      rintro e z2 ⟨rfl, q1, q2⟩
      have HN2 : Hid ((z2.heap.size == y.heap.size) = false) := by show _ = _; rw [beq_eq_false_iff_ne]; have := q2.lt; omega
      have G2 := Lib.hid (HF.out _ _ q1 (ib1 z2 (Ec2 x1 x2 x3 x4 x5 x6)))
      have K2 := Lib.hid (B3e.below q2 (ib1 z2 (Ec2 x1 x2 x3 x4 x5 x6)) q2.lt)
      have L2 := Lib.hid (B6.new z2 x1 x2 x3 x4 x5 x6)
      clear q1 q2
      have hne := HN2.out
      obtain ⟨c0, c1, c2⟩ := B3e.cells K2.out
      have f0 := Box.frozen K2.out 0
      have f1 := Box.frozen K2.out 1
      have f2 := Box.frozen K2.out 2
      obtain ⟨d0, d1, d2, d3, d4, d5⟩ := B6.cells L2.out
      go_wp2_with (exact bodyPost_ret (v := .tuple #[Ev x4 x5 x6, .int .i64 0]) (by simp [results, Tryz.results11, go_sem, *]) rfl ⟨rfl, (HD.out _ _ _ _ G2.out)⟩)
  · rw [M.tgot_no h0]
    rw [(M.tread_no h0).2] at CR
    obtain ⟨wh, hwh⟩ : ∃ x, x = i % 2 := ⟨_, rfl⟩
    rw [← hwh] at C1
    clear hw h0 hi hwh
    go_enter Tryz.func11, Tryz.ntmps11
    go_wp2_with fail
    refine (C1.out _).mono ?_
    rintro e z1 ⟨rfl, hb⟩
    have G1 := Lib.hid (HG1.out _ hb)
    clear hb k1 k2 k3 HG1
    go_wp2_with fail
    refine (CR.out _ G1.out.1 G1.out.2).mono ?_
    rintro e z2 ⟨rfl, q1, q2⟩
    have HN2 : Hid ((z2.heap.size == y.heap.size) = false) := by show _ = _; rw [beq_eq_false_iff_ne]; have := q2.lt; omega
    have G2 := Lib.hid (HF.out _ _ q1 (ib1 z2 (Ec2 0 0 0 0 0 0)))
    have K2 := Lib.hid (B3e.below q2 (ib1 z2 (Ec2 0 0 0 0 0 0)) q2.lt)
    clear q1 q2
    have hne := HN2.out
    obtain ⟨c0, c1, c2⟩ := B3e.cells K2.out
    have f0 := Box.frozen K2.out 0
    have f1 := Box.frozen K2.out 1
    have f2 := Box.frozen K2.out 2
    go_wp2_with (exact bodyPost_ret (v := .tuple #[Ev 0 0 0, .int .i64 32]) (by simp [results, Tryz.results11, go_sem, *]) rfl ⟨rfl, (HD.out _ _ _ _ G2.out)⟩)
end
end Go.Proofs.YtlihgaejkadonaaGreatDoor
namespace Go.Proofs.YtlihgaejkadonaaGreatDoor
open Go.RowKit Go.Maps

set_option maxHeartbeats 1000000 in
/-- Where layout has an error. -/
theorem tput_out (W : Value) (e s l i a b c : Int) (t : Nat) (y : World) (H : TbB y t W e s l) (hT : ∀ x, Calls Tryz.prog 20 #[Cf e s l, .int .i64 i] x fun e w' => e = .returned (.tuple #[.int .i64 0, .int .i64 0, .int .i64 3]) ∧ Below x.heap.size x w') :
    Calls Tryz.prog 12 #[.pointer (some ⟨t, 0, none⟩), .int .i64 i, Ev a b c] y fun en z => en = .returned (.int .i64 3) ∧ Below y.heap.size y z := by
  have C1 := Lib.hid hT
  have HX := Box.below H (ib1 y (Ec a b c)) (Box.lt H)
  obtain ⟨k0, k1, k2, k3⟩ := TbB.cells HX
  have HB := Lib.hid (ib1 y (Ec a b c))
  clear H HX k0 hT
  go_enter Tryz.func12, Tryz.ntmps12
  go_wp2_with fail
  refine (C1.out _).mono ?_
  rintro en z1 ⟨rfl, hb⟩
  have HB1 := Lib.hid (HB.out.trans (hb.mono HB.out.size))
  clear hb
  go_wp2_with fail
  go_ret
  exact ⟨rfl, HB1.out⟩
set_option maxHeartbeats 1000000 in
/-- What may not be. -/
theorem tput_check (W : Value) (E S L i : Nat) (h : M.lokB E S L = true) (hi : i < E) (a b c : Int) (hc : ¬ M.emay1 a b c = true) (t : Nat) (y : World) (H : TbB y t W E S L) :
    Calls Tryz.prog 12 #[.pointer (some ⟨t, 0, none⟩), .int .i64 (i : Nat), Ev a b c] y fun en z => en = .returned (.int .i64 3) ∧ Below y.heap.size y z := by
  have C1 := Lib.hid (fun x => table15_ok E S L i h hi x)
  have C2 := Lib.hid (fun x => echeck_any a b c x)
  rw [M.eerr_no hc] at C2
  have HX := Box.below H (ib1 y (Ec a b c)) (Box.lt H)
  obtain ⟨k0, k1, k2, k3⟩ := TbB.cells HX
  have HB := Lib.hid (ib1 y (Ec a b c))
  have K := Lib.hid (B3e.new y a b c)
  obtain ⟨pl, hpl⟩ : ∃ x, x = 2 + i / 2 := ⟨_, rfl⟩
  obtain ⟨wh, hwh⟩ : ∃ x, x = i % 2 := ⟨_, rfl⟩
  rw [← hpl, ← hwh] at C1
  clear H HX k0 h hi hpl hwh hc
  go_enter Tryz.func12, Tryz.ntmps12
  go_wp2_with fail
  refine (C1.out _).mono ?_
  rintro en z1 ⟨rfl, hb⟩
  have K1 := Lib.hid (B3e.below K.out hb (B3e.lt K.out))
  have HB1 := Lib.hid (HB.out.trans (hb.mono HB.out.size))
  clear hb k1 k2 k3
  obtain ⟨c0, c1, c2⟩ := B3e.cells K1.out
  go_wp2_with fail
  refine (C2.out _).mono ?_
  rintro en z2 ⟨rfl, hb⟩
  have HB2 := Lib.hid (HB1.out.trans (hb.mono HB1.out.size))
  clear hb
  go_wp2_with fail
  go_ret
  exact ⟨rfl, HB2.out⟩

theorem M.put2_may {r : M.E2} (hr : M.emay r = true) (w : Nat) {x : M.E1} (hx : x.may = true) : M.emay (M.put2 r w x) = true := by
  unfold M.emay at hr
  rw [Bool.and_eq_true] at hr
  unfold M.put2
  split
  · exact M.emay_yes hx hr.2
  · exact M.emay_yes hr.1 hx
section
variable {E S L : Nat} {h : M.lokB E S L = true} {R : Nat → Prop} {y : World} {t b n : Nat} {s : M.Wl} {T : Nat → ByteArray}
set_option maxHeartbeats 4000000 in
/-- Where the sector says no entries. -/
theorem tput_bad (H : TA E S L h R y t b s T n) (hn : n ≤ 400000) (i : Nat) (hi : i < E) (x1 x2 x3 : Int) (hx : M.emay1 x1 x2 x3 = true) (hb : (M.eget (M.now s T (2 + i / 2))).2 ≠ 0) :
    Calls Tryz.prog 12 #[.pointer (some ⟨t, 0, none⟩), .int .i64 (i : Nat), Ev x1 x2 x3] y fun e z => e = .returned (.int .i64 32) ∧ ∃ d', TA E S L h R z t b { s with d := d' } T (n + 1) ∧ Kept R y z := by
  have C1 := Lib.hid (fun x => table15_ok E S L i h hi x)
  have C2 := Lib.hid (fun x => echeck_any x1 x2 x3 x)
  rw [M.eerr_ok hx] at C2
  have f1 := (TF.start H).alloc (Ec x1 x2 x3)
  have CR : Hid (∀ z1, TF E S L h R [y.heap.size] y z1 t b s T n → Calls Tryz.prog 29 #[.pointer (some ⟨t, 0, none⟩), .int .i64 (2 + i / 2 : Nat)] z1 fun e z => e = .returned (M.tread (M.now s T (2 + i / 2))) ∧ (∃ d', TF E S L h R [y.heap.size] y z t b { s with d := d' } T (n + 1))) := by
    intro z1 q1
    refine (tread_any q1.ta hn _ (M.gd_table h (by omega))).mono ?_
    rintro e z ⟨e1, d', e2, e3⟩
    exact ⟨e1, ⟨d', q1.call e2 e3⟩⟩
  rw [(M.tread_no hb).2] at CR
  have HG1 : Hid (∀ z, Below (y.alloc (Ec x1 x2 x3)).heap.size (y.alloc (Ec x1 x2 x3)) z → TF E S L h R [y.heap.size] y z t b s T n ∧ B3e z y.heap.size x1 x2 x3) := fun z hb => ⟨f1.beside hb, B3e.below (B3e.new y x1 x2 x3) hb (B3e.lt (B3e.new y x1 x2 x3))⟩
  have HG2 : Hid (∀ z1 z, (TF E S L h R [y.heap.size] y z1 t b s T n ∧ B3e z1 y.heap.size x1 x2 x3) → Below z1.heap.size z1 z → TF E S L h R [y.heap.size] y z t b s T n) := fun z1 z q hb => q.1.beside hb
  have HF : Hid (∀ z1 z2, (∃ d', TF E S L h R [y.heap.size] y z1 t b { s with d := d' } T (n + 1)) → Below z1.heap.size z1 z2 → ∃ d', TF E S L h R [y.heap.size] y z2 t b { s with d := d' } T (n + 1)) := by
    rintro z1 z2 ⟨d', h1⟩ h2
    exact ⟨d', h1.beside h2⟩
  obtain ⟨k0, k1, k2, k3⟩ := f1.ta.tb.cells
  obtain ⟨pl, hpl⟩ : ∃ x, x = 2 + i / 2 := ⟨_, rfl⟩
  obtain ⟨wh, hwh⟩ : ∃ x, x = i % 2 := ⟨_, rfl⟩
  rw [← hpl, ← hwh] at C1
  rw [← hpl] at CR
  clear H f1 k0 hn hpl hwh hi hx hb
  go_enter Tryz.func12, Tryz.ntmps12
  go_wp2_with fail
  refine (C1.out _).mono ?_
  rintro e z1 ⟨rfl, hb⟩
  have G1 := Lib.hid (HG1.out _ hb)
  clear hb k1 k2 k3 HG1
  obtain ⟨c0, c1, c2⟩ := B3e.cells G1.out.2
  go_wp2_with fail
  refine (C2.out _).mono ?_
  rintro e z2 ⟨rfl, hb⟩
  have G2 := Lib.hid (HG2.out _ _ G1.out hb)
  clear hb c0 c1 c2 G1
  go_wp2_with fail
  refine (CR.out _ G2.out).mono ?_
  rintro e z3 ⟨rfl, q1⟩
  have G3 := Lib.hid (HF.out _ _ q1 (ib1 z3 (Ec2 0 0 0 0 0 0)))
  clear q1 G2
  go_wp2_with fail
  go_ret
  obtain ⟨d', hd⟩ := G3.out
  exact ⟨rfl, d', hd.done⟩

set_option maxHeartbeats 8000000 in
/-- Where it says some: up to the staging, whatever that answers. -/
theorem tput_stage (H : TA E S L h R y t b s T n) (hn : n ≤ 400000) (i : Nat) (hi : i < E) (x1 x2 x3 : Int) (hx : M.emay1 x1 x2 x3 = true) (r : M.E2) (hr : M.eget (M.now s T (2 + i / 2)) = (r, 0)) (SE : Int) (f : M.D → M.Wl)
    (hS : ∀ (d' : M.D) (Q : Nat → Prop) (z : World), TA E S L h Q z t b { s with d := d' } T (n + 1) → Calls Tryz.prog 31 #[.pointer (some ⟨b, 0, none⟩), .int .i64 (2 + i / 2 : Nat), .string (M.ewhole (M.put2 r (i % 2) ⟨x1, x2, x3⟩))] z fun e z' => e = .returned (.int .i64 SE) ∧ TA E S L h Q z' t b (f d') T (n + 1) ∧ Kept Q z z') :
    Calls Tryz.prog 12 #[.pointer (some ⟨t, 0, none⟩), .int .i64 (i : Nat), Ev x1 x2 x3] y fun e z => e = .returned (.int .i64 SE) ∧ ∃ d', TA E S L h R z t b (f d') T (n + 1) ∧ Kept R y z := by
  have hmr : M.emay r = true := by
    have := M.eget_ok (M.now s T (2 + i / 2)) (by rw [hr])
    rw [hr] at this
    exact this.1
  have hp2 := M.put2_may hmr (i % 2) (x := ⟨x1, x2, x3⟩) hx
  have C1 := Lib.hid (fun x => table15_ok E S L i h hi x)
  have C2 := Lib.hid (fun x => echeck_any x1 x2 x3 x)
  rw [M.eerr_ok hx] at C2
  have f1 := (TF.start H).alloc (Ec x1 x2 x3)
  have CR : Hid (∀ z1, (TF E S L h R [y.heap.size] y z1 t b s T n ∧ B3e z1 y.heap.size x1 x2 x3) → Calls Tryz.prog 29 #[.pointer (some ⟨t, 0, none⟩), .int .i64 (2 + i / 2 : Nat)] z1 fun e z => e = .returned (M.tread (M.now s T (2 + i / 2))) ∧ (∃ d', TF E S L h R [y.heap.size] y z t b { s with d := d' } T (n + 1)) ∧ B3e z y.heap.size x1 x2 x3) := by
    rintro z1 ⟨q1, q2⟩
    refine (tread_any q1.ta hn _ (M.gd_table h (by omega))).mono ?_
    rintro e z ⟨e1, d', e2, e3⟩
    exact ⟨e1, ⟨d', q1.call e2 e3⟩, TF.mine q2 (List.mem_cons_self ..) e3⟩
  rw [(M.tread_ok hr).2] at CR
  have HG1 : Hid (∀ z, Below (y.alloc (Ec x1 x2 x3)).heap.size (y.alloc (Ec x1 x2 x3)) z → TF E S L h R [y.heap.size] y z t b s T n ∧ B3e z y.heap.size x1 x2 x3) := fun z hb => ⟨f1.beside hb, B3e.below (B3e.new y x1 x2 x3) hb (B3e.lt (B3e.new y x1 x2 x3))⟩
  have HG2 : Hid (∀ z1 z, (TF E S L h R [y.heap.size] y z1 t b s T n ∧ B3e z1 y.heap.size x1 x2 x3) → Below z1.heap.size z1 z → TF E S L h R [y.heap.size] y z t b s T n ∧ B3e z y.heap.size x1 x2 x3) := fun z1 z q hb => ⟨q.1.beside hb, q.2.below hb q.2.lt⟩
  have HG3 : Hid (∀ z1 o, (∃ d', TF E S L h R [y.heap.size] y z1 t b { s with d := d' } T (n + 1)) → ∃ d', TF E S L h R [z1.heap.size, y.heap.size] y (z1.alloc o) t b { s with d := d' } T (n + 1)) := by
    rintro z1 o ⟨d', q⟩
    exact ⟨d', q.alloc o⟩
  have HS : Hid (∀ g z1 z, (∃ d', TF E S L h R [g, y.heap.size] y z1 t b { s with d := d' } T (n + 1)) → Below z1.heap.size z1 z → z.cell? ⟨t, 0, none⟩ = some (.pointer (some ⟨b, 0, none⟩)) ∧ Calls Tryz.prog 31 #[.pointer (some ⟨b, 0, none⟩), .int .i64 (2 + i / 2 : Nat), .string (M.ewhole (M.put2 r (i % 2) ⟨x1, x2, x3⟩))] z fun e z' => e = .returned (.int .i64 SE) ∧ ∃ d', TA E S L h R z' t b (f d') T (n + 1) ∧ Kept R y z') := by
    rintro g z1 z ⟨d', q⟩ hb
    have q2 := q.beside hb
    refine ⟨q2.ta.tb.cells.1, (hS d' _ z q2.ta).mono ?_⟩
    rintro e z' ⟨e1, e2, e3⟩
    exact ⟨e1, d', (q2.call e2 e3).done⟩
  have HE := Lib.hid hp2
  obtain ⟨k0, k1, k2, k3⟩ := f1.ta.tb.cells
  have hw : ((i % 2 : Nat) : Int) = 0 ∨ ((i % 2 : Nat) : Int) = 1 := by omega
  obtain ⟨r1, r2, r3, r4, r5, r6⟩ := r
  simp only at CR
  have HR : Hid (((i % 2 : Nat) : Int) = 0 → M.put2 ⟨r1, r2, r3, r4, r5, r6⟩ (i % 2) ⟨x1, x2, x3⟩ = ⟨x1, x2, x3, r4, r5, r6⟩) := fun e => by unfold M.put2; rw [if_pos (by omega)]
  have HR' : Hid (((i % 2 : Nat) : Int) = 1 → M.put2 ⟨r1, r2, r3, r4, r5, r6⟩ (i % 2) ⟨x1, x2, x3⟩ = ⟨r1, r2, r3, x1, x2, x3⟩) := fun e => by unfold M.put2; rw [if_neg (by omega)]
  obtain ⟨pl, hpl⟩ : ∃ x, x = 2 + i / 2 := ⟨_, rfl⟩
  rw [← hpl] at C1 CR HS
  clear H f1 k0 hn hpl hi hx hr hmr hp2 hS
  rcases hw with hw | hw
  · have e2 := HR.out hw
    rw [e2] at HE HS
    have C3 := Lib.hid (fun x => eput_any x1 x2 x3 r4 r5 r6 x)
    rw [M.eput_ok HE.out] at C3
    obtain ⟨st, hst⟩ : ∃ st, st = M.ewhole ⟨x1, x2, x3, r4, r5, r6⟩ := ⟨_, rfl⟩
    rw [← hst] at C3 HS
    rw [hw] at C1
    clear HR HR' hw e2 HE hst
    go_enter Tryz.func12, Tryz.ntmps12
    go_wp2_with fail
    refine (C1.out _).mono ?_
    rintro e z1 ⟨rfl, hb⟩
    have G1 := Lib.hid (HG1.out _ hb)
    clear hb k1 k2 k3 HG1
    obtain ⟨c0, c1, c2⟩ := B3e.cells G1.out.2
    go_wp2_with fail
    refine (C2.out _).mono ?_
    rintro e z2 ⟨rfl, hb⟩
    have G2 := Lib.hid (HG2.out _ _ G1.out hb)
    clear hb c0 c1 c2 G1
    go_wp2_with fail
    refine (CR.out _ G2.out).mono ?_
    rintro e z3 ⟨rfl, q1, q2⟩
    have G4 := Lib.hid (HG3.out z3 (Ec2 x1 x2 x3 r4 r5 r6) q1)
    have HN : Hid ((y.heap.size == z3.heap.size) = false) := by show _ = _; rw [beq_eq_false_iff_ne]; have := q2.lt; omega
    have K3 := Lib.hid (B3e.below q2 (ib1 z3 (Ec2 r1 r2 r3 r4 r5 r6)) q2.lt)
    have L3 := Lib.hid (B6.new z3 r1 r2 r3 r4 r5 r6)
    clear q1 q2 G2
    have hne := HN.out
    obtain ⟨c0, c1, c2⟩ := B3e.cells K3.out
    obtain ⟨d0, d1, d2, d3, d4, d5⟩ := B6.cells L3.out
    obtain ⟨f0, f1, f2, f3, f4, f5⟩ := B6.frozen L3.out
    go_wp2_with fail
    refine (C3.out _).mono ?_
    rintro e z4 ⟨rfl, hb⟩
    have G5 := Lib.hid (HS.out _ _ _ G4.out hb)
    clear hb c0 c1 c2 d0 d1 d2 d3 d4 d5 f0 f1 f2 f3 f4 f5 G4
    obtain ⟨k0, -⟩ := G5.out
    go_wp2_with fail
    refine G5.out.2.mono ?_
    rintro e z5 ⟨rfl, q⟩
    have G6 := Lib.hid q
    clear q G5 k0
    go_wp2_with fail
    go_ret
    exact ⟨rfl, G6.out⟩
  · have e2 := HR'.out hw
    rw [e2] at HE HS
    have C3 := Lib.hid (fun x => eput_any r1 r2 r3 x1 x2 x3 x)
    rw [M.eput_ok HE.out] at C3
    obtain ⟨st, hst⟩ : ∃ st, st = M.ewhole ⟨r1, r2, r3, x1, x2, x3⟩ := ⟨_, rfl⟩
    rw [← hst] at C3 HS
    rw [hw] at C1
    clear HR HR' hw e2 HE hst
    go_enter Tryz.func12, Tryz.ntmps12
    go_wp2_with fail
    refine (C1.out _).mono ?_
    rintro e z1 ⟨rfl, hb⟩
    have G1 := Lib.hid (HG1.out _ hb)
    clear hb k1 k2 k3 HG1
    obtain ⟨c0, c1, c2⟩ := B3e.cells G1.out.2
    go_wp2_with fail
    refine (C2.out _).mono ?_
    rintro e z2 ⟨rfl, hb⟩
    have G2 := Lib.hid (HG2.out _ _ G1.out hb)
    clear hb c0 c1 c2 G1
    go_wp2_with fail
    refine (CR.out _ G2.out).mono ?_
    rintro e z3 ⟨rfl, q1, q2⟩
    have G4 := Lib.hid (HG3.out z3 (Ec2 r1 r2 r3 x1 x2 x3) q1)
    have HN : Hid ((y.heap.size == z3.heap.size) = false) := by show _ = _; rw [beq_eq_false_iff_ne]; have := q2.lt; omega
    have K3 := Lib.hid (B3e.below q2 (ib1 z3 (Ec2 r1 r2 r3 r4 r5 r6)) q2.lt)
    have L3 := Lib.hid (B6.new z3 r1 r2 r3 r4 r5 r6)
    clear q1 q2 G2
    have hne := HN.out
    obtain ⟨c0, c1, c2⟩ := B3e.cells K3.out
    obtain ⟨d0, d1, d2, d3, d4, d5⟩ := B6.cells L3.out
    obtain ⟨f0, f1, f2, f3, f4, f5⟩ := B6.frozen L3.out
    go_wp2_with fail
    refine (C3.out _).mono ?_
    rintro e z4 ⟨rfl, hb⟩
    have G5 := Lib.hid (HS.out _ _ _ G4.out hb)
    clear hb c0 c1 c2 d0 d1 d2 d3 d4 d5 f0 f1 f2 f3 f4 f5 G4
    obtain ⟨k0, -⟩ := G5.out
    go_wp2_with fail
    refine G5.out.2.mono ?_
    rintro e z5 ⟨rfl, q⟩
    have G6 := Lib.hid q
    clear q G5 k0
    go_wp2_with fail
    go_ret
    exact ⟨rfl, G6.out⟩
theorem M.stages18 {s : M.Wl} (H : M.WS (M.geo E S L h) s T n) (hact : s.act = true) (hl : s.l.length ≤ 15) {k : Nat} (hk : M.gd (M.geo E S L h) k) (tt : ByteArray) (ht : tt.size = 64) : M.wlStageE (M.geo E S L h).fr (M.geo E S L h).mn s k tt = 0 := by
  have h1 := M.gd_guards hk
  unfold M.wlStageE
  rw [hact, H.ok.len, h1, if_neg (by decide), if_neg (by decide), if_neg (fun e => e ht), if_neg (fun e => by omega)]
/-- Put, in a transaction. -/
theorem tput_ok (H : TA E S L h R y t b s T n) (hn : n ≤ 400000) (hact : s.act = true) (hl : s.l.length ≤ 15) (i : Nat) (hi : i < E) (x1 x2 x3 : Int) (hx : M.emay1 x1 x2 x3 = true) (r : M.E2) (hr : M.eget (M.now s T (2 + i / 2)) = (r, 0)) :
    Calls Tryz.prog 12 #[.pointer (some ⟨t, 0, none⟩), .int .i64 (i : Nat), Ev x1 x2 x3] y fun e z => e = .returned (.int .i64 0) ∧ ∃ d', TA E S L h R z t b { s with d := d', l := M.ins (2 + i / 2 : Nat) (.string (M.ewhole (M.put2 r (i % 2) ⟨x1, x2, x3⟩))) s.l } T (n + 1) ∧ Kept R y z := by
  refine tput_stage H hn i hi x1 x2 x3 hx r hr 0 (fun d' => { s with d := d', l := M.ins (2 + i / 2 : Nat) (.string (M.ewhole (M.put2 r (i % 2) ⟨x1, x2, x3⟩))) s.l }) ?_
  intro d' Q z q
  have hE := M.stages18 (k := 2 + i / 2) q.wa.ws hact hl (M.gd_table h (by omega)) (M.ewhole (M.put2 r (i % 2) ⟨x1, x2, x3⟩)) (M.ewhole_size _)
  have := (M.lok_iff E S L).1 h
  refine (q.wa.stage (2 + i / 2 : Nat) (M.ewhole (M.put2 r (i % 2) ⟨x1, x2, x3⟩)) (WalkArith.wf_i64 (by omega))).mono ?_
  rintro e z' ⟨e1, e2, e3⟩
  rw [hE] at e1
  unfold M.wlStage at e2
  rw [if_pos hE] at e2
  exact ⟨e1, q.did e2 e3, e3⟩
/-- Put, where no transaction was begun. -/
theorem tput_off (H : TA E S L h R y t b s T n) (hn : n ≤ 400000) (hact : s.act = false) (i : Nat) (hi : i < E) (x1 x2 x3 : Int) (hx : M.emay1 x1 x2 x3 = true) (r : M.E2) (hr : M.eget (M.now s T (2 + i / 2)) = (r, 0)) :
    Calls Tryz.prog 12 #[.pointer (some ⟨t, 0, none⟩), .int .i64 (i : Nat), Ev x1 x2 x3] y fun e z => e = .returned (.int .i64 10) ∧ ∃ d', TA E S L h R z t b { s with d := d' } T (n + 1) ∧ Kept R y z := by
  refine tput_stage H hn i hi x1 x2 x3 hx r hr 10 (fun d' => { s with d := d' }) ?_
  intro d' Q z q
  have hE : M.wlStageE (M.geo E S L h).fr (M.geo E S L h).mn { s with d := d' } (2 + i / 2 : Nat) (M.ewhole (M.put2 r (i % 2) ⟨x1, x2, x3⟩)) = 10 := by unfold M.wlStageE; rw [if_pos hact]
  have := (M.lok_iff E S L).1 h
  refine (q.wa.stage (2 + i / 2 : Nat) (M.ewhole (M.put2 r (i % 2) ⟨x1, x2, x3⟩)) (WalkArith.wf_i64 (by omega))).mono ?_
  rintro e z' ⟨e1, e2, e3⟩
  rw [hE] at e1
  unfold M.wlStage at e2
  rw [if_neg (by rw [hE]; decide)] at e2
  exact ⟨e1, q.did e2 e3, e3⟩
end
end Go.Proofs.YtlihgaejkadonaaGreatDoor
namespace Go.Proofs.YtlihgaejkadonaaGreatDoor
open Go.RowKit Go.Maps

section
variable {E S L : Nat} {h : M.lokB E S L = true} {R : Nat → Prop} {F F' F2 : List Nat} {w y z : World} {t b n m g : Nat} {s s' : M.Wl} {T T' : Nat → ByteArray}
/-- The call turned blocks of its own, and made new ones. -/
theorem TF.turn (H : TF E S L h R F w y t b s T n) (hk : Kept (fun j => j ∈ F) y z) (hF : ∀ j, j ∈ F' → j ∈ F ∨ (y.heap.size ≤ j ∧ j < z.heap.size)) : TF E S L h R F' w z t b s T n := by
  have hs := hk.size
  have hw := H.kept.size
  have hR : ∀ j, j ∈ F → R j := fun j hj => H.nw j (H.tmp j hj)
  refine ⟨⟨?_, fun j hj => ⟨H.nw j (by omega), fun e => ?_⟩, hk.box H.ta.tb (fun e => H.nt (hR _ e)), fun e => H.nt e.1⟩, H.kept.trans (hk.mono (fun j _ e => hR j e)), H.nw, fun j e => (hF j e).elim (H.tmp j) (fun e => by omega), H.nt⟩
  · refine ((H.ta.wa.mono (Q := fun j => (R j ∧ j ∉ F) ∧ j < y.heap.size) (fun j hj e => ⟨e, hj⟩)).kept hk (fun j e => e.1.2)).mono (fun j _ e => ⟨e.1.1, fun e' => (hF j e').elim e.1.2 (fun e'' => by have := e.2; omega)⟩)
  · rcases hF j e with e' | e'
    · have := H.old e'; omega
    · omega
/-- A call that left something of its own. -/
theorem TF.callF (H : TF E S L h R F w y t b s T n) (H2 : TF E S L h (fun j => R j ∧ j ∉ F) F2 y z t b s' T' m) : TF E S L h R (F2 ++ F) w z t b s' T' m := by
  have e : ∀ j, (R j ∧ j ∉ F) ∧ j ∉ F2 ↔ R j ∧ j ∉ F2 ++ F := fun j => by
    rw [List.mem_append]
    constructor
    · rintro ⟨⟨h1, h2⟩, h3⟩
      exact ⟨h1, fun q => q.elim h3 h2⟩
    · rintro ⟨h1, h2⟩
      exact ⟨⟨h1, fun q => h2 (Or.inr q)⟩, fun q => h2 (Or.inl q)⟩
  have hw := H.kept.size
  refine ⟨⟨H2.ta.wa.mono (fun j _ q => (e j).1 q), fun j hj => (e j).1 (H2.ta.new j hj), H2.ta.tb, fun q => H.nt q.1⟩, H.kept.trans (H2.kept.mono (fun _ _ q => q.1)), H.nw, fun j q => ?_, H.nt⟩
  rcases List.mem_append.1 q with q | q
  · have := H2.tmp j q; omega
  · exact H.tmp j q
theorem TF.less (H : TF E S L h R F w y t b s T n) (hF : ∀ j, j ∈ F' → j ∈ F) : TF E S L h R F' w y t b s T n := H.turn (Kept.refl _ _) (fun j e => Or.inl (hF j e))
theorem TF.more (H : TF E S L h R F w y t b s T n) (hm : n ≤ m) : TF E S L h R F w y t b s T m := ⟨H.ta.more hm, H.kept, H.nw, H.tmp, H.nt⟩
end
/-- The block of a row. -/
def M.rb (v : Value) : List Nat := v.ownBlock.toList
theorem M.rb_mem {v : Value} {k : Nat} (h : v.ownBlock = some k) : k ∈ M.rb v := by unfold M.rb; rw [h]; simp
theorem M.rb_slice (g n c : Nat) : M.rb (.slice (some ⟨g, 0, none⟩) n c) = [g] := rfl
theorem M.rb_nil : M.rb (.slice none 0 0) = [] := rfl
/-- What an append turned. -/
theorem Kept.appended {y z : World} {v : Value} (hg : y.grownBy z v.ownBlock) : Kept (fun j => j ∈ M.rb v) y z :=
  ⟨hg.os, hg.tape, hg.output, hg.size, fun k hk hp => hg.block k hk (fun e => hp (M.rb_mem e.symm))⟩
theorem owns_slice {w : World} {B : Nat} {t : TypeId} {z n : Nat} {v : Value} {xs : List Value} (h : w.ownsRow B t z v n xs) (hn : 0 < n) : ∃ g cap, v = .slice (some ⟨g, 0, none⟩) n cap ∧ n ≤ cap := by
  rcases h.2 with ⟨_, e⟩ | ⟨g, cap, cur, e, _, _, h3, _⟩
  · omega
  · exact ⟨g, cap, e, h3⟩

/-- Where the table's sectors are. -/
def M.tsec : Nat → List Value
  | 0 => []
  | n + 1 => M.tsec n ++ [.int .i64 (2 + n : Nat)]
theorem M.tsec_len (n : Nat) : (M.tsec n).length = n := by
  induction n with
  | zero => rfl
  | succ n ih => rw [M.tsec, List.length_append, ih]; rfl
theorem M.tsec_at {n i : Nat} (h : i < n) : (M.tsec n)[i]? = some (.int .i64 (2 + i : Nat)) := by
  induction n with
  | zero => omega
  | succ n ih =>
    rw [M.tsec]
    by_cases e : i < n
    · rw [List.getElem?_append_left (by rw [M.tsec_len]; omega)]
      exact ih e
    · obtain rfl : i = n := by omega
      rw [List.getElem?_append_right (by rw [M.tsec_len]; omega), M.tsec_len, Nat.sub_self]
      rfl
theorem infoI18 : (Tryz.prog.info? 3).map (fun i => (i.zero, i.size, i.bytes)) = some (some (.int .i64 0), 1, 8) := by kernel_rfl

set_option maxHeartbeats 1000000 in
theorem tsectors_no (W : Value) (e s l : Int) (hl : M.lokB e s l = false) (t : Nat) (y : World) (H : TbB y t W e s l) : Calls Tryz.prog 26 #[.pointer (some ⟨t, 0, none⟩)] y fun en z => en = .returned (.tuple #[.slice none 0 0, .int .i64 3]) ∧ Below y.heap.size y z := by
  have C1 := Lib.hid (fun x => check15_any e s l x)
  rw [M.lerr_no hl] at C1
  obtain ⟨k0, k1, k2, k3⟩ := TbB.cells H
  clear H hl k0
  go_enter Tryz.func26, Tryz.ntmps26
  go_wp2_with fail
  refine (C1.out _).mono ?_
  rintro en z1 ⟨rfl, hb⟩
  have HB1 := Lib.hid hb
  clear hb
  go_wp2_with fail
  go_returns
  exact ⟨rfl, HB1.out⟩

set_option maxRecDepth 100000 in
set_option maxHeartbeats 4000000 in
theorem tsectors_ok (E S L : Nat) (h : M.lokB E S L = true) (W : Value) (t : Nat) (y : World) (H : TbB y t W E S L) : Calls Tryz.prog 26 #[.pointer (some ⟨t, 0, none⟩)] y fun en z => ∃ g cap, en = .returned (.tuple #[.slice (some ⟨g, 0, none⟩) ((E + 1) / 2) cap, .int .i64 0]) ∧
    z.ownsRow y.heap.size 3 1 (.slice (some ⟨g, 0, none⟩) ((E + 1) / 2) cap) ((E + 1) / 2) (M.tsec ((E + 1) / 2)) ∧ Below y.heap.size y z := by
  obtain ⟨i0, hi, hz0, hz1, hz2⟩ := info_parts infoI18
  have C1 := Lib.hid (fun x => check15_any E S L x)
  rw [M.lerr_ok h] at C1
  have hv := (M.lok_iff E S L).1 h
  have HT : Hid (∀ k, k < E → ∀ x, Calls Tryz.prog 20 #[Cf E S L, .int .i64 (k : Nat)] x fun e w' => e = .returned (.tuple #[.int .i64 (2 + k / 2 : Nat), .int .i64 (k % 2 : Nat), .int .i64 0]) ∧ Below x.heap.size x w') := fun k hk x => table15_ok E S L k h hk x
  have HX : Hid (∀ x, Below y.heap.size y x → TbB x t W E S L) := fun x hb => Box.below H hb (Box.lt H)
  obtain ⟨k0, k1, k2, k3⟩ := TbB.cells H
  have hE9 : E ≤ 24 := by omega
  have HE1 : Hid (1 ≤ E) := by show _ ≤ _; omega
  clear H h k0 hv
  go_enter Tryz.func26, Tryz.ntmps26
  go_wp2_with fail
  refine (C1.out _).mono ?_
  rintro en z1 ⟨rfl, hb⟩
  have HB1 := Lib.hid hb
  clear hb k1 k2 k3 C1
  obtain ⟨k0, k1, k2, k3⟩ := TbB.cells (HX.out _ HB1.out)
  clear k0
  go_wp2_with fail
  go_loopw [5, 23] (fun v i wr => ∃ k : Nat, k ≤ E ∧ i = .int .i64 (k : Nat) ∧ Hid (wr.ownsRow y.heap.size 3 1 v ((k + 1) / 2) (M.tsec ((k + 1) / 2))) ∧ Hid (Below y.heap.size y wr)) (fun _ i _ => E - (intOf i).toNat)
  case atStart => exact ⟨0, Nat.zero_le _, rfl, World.ownsRow_nil _ _ _ _, HB1⟩
  case round =>
    obtain ⟨k, hk, rfl, HO, HB⟩ := hrel
    clear k1 k2 k3
    obtain ⟨k0, k1, k2, k3⟩ := TbB.cells (HX.out _ HB.out)
    clear k0
    by_cases hlt : k < E
    · have hlt' : (k : Int) < (E : Int) := by omega
      have hd9 : decide (k < E) = true := by simpa using hlt
      have C2 := Lib.hid (HT.out k hlt wr)
      by_cases he : k % 2 = 0
      · have e1 : ((k % 2 : Nat) : Int) = 0 := by omega
        rw [e1] at C2
        obtain ⟨m, hm⟩ : ∃ m, m = (k + 1) / 2 := ⟨_, rfl⟩
        obtain ⟨p, hp⟩ : ∃ p, p = 2 + k / 2 := ⟨_, rfl⟩
        rw [← hp] at C2
        have HO1 := Lib.hid HO.out
        rw [← hm] at HO1
        have HV : Hid (M.tsec ((k + 1 + 1) / 2) = M.tsec m ++ [.int .i64 (p : Nat)] ∧ (k + 1 + 1) / 2 = m + 1) := by
          have e2 : (k + 1 + 1) / 2 = m + 1 := by omega
          rw [e2]
          have e3 : p = 2 + m := by omega
          rw [e3]
          exact ⟨rfl, rfl⟩
        have hm9 : m ≤ 24 := by omega
        clear HO he hm hp e1 hlt
        go_wp2_with fail
        refine C2.out.mono ?_
        rintro en w1 ⟨rfl, hb⟩
        have HB2 := Lib.hid (HB.out.trans (hb.mono HB.out.size))
        have HO2 := Lib.hid ((Kept.of_below hb (fun _ => False)).owns HO1.out (fun _ _ => id))
        have hbs : y.heap.size ≤ w1.heap.size := HB2.out.size
        clear hb HO1 HB C2
        go_wp2_with (at_builtin; refine wpList_append_own _ rfl _ _ 63 rfl y.heap.size 3 i0 (.int .i64 0) 1 8 Tryz.underlying63 hi hz0 hz1 hz2 rfl (by decide) _ _ _ rfl (HO2.out.alloc _) ⟨w1.heap.size, 0, none⟩ 1 1 [.int .i64 (p : Nat)] rfl rfl (cell_one_new _ _ _) (fun x hx => by simp at hx; subst hx; rfl) (by unfold maxLen; omega) (by omega) (by simp; omega) ?_; intro v' w3 hown' hgrow3 hnil3; have X := Lib.hid (And.intro hown' (Below.grown (HB2.out.alloc hbs _) hgrow3 (by simp; omega) (fun j hj => (HO2.out.lt _ hj).1))); clear hown' hgrow3 hnil3)
        go_roundw
        case rel => exact ⟨k + 1, by omega, by go_num, by show World.ownsRow _ _ _ _ _ _ _; rw [HV.out.1, HV.out.2]; exact X.out.1, X.out.2⟩
        case measure => simp [intOf]; omega
      · have e1 : ((k % 2 : Nat) : Int) = 1 := by omega
        rw [e1] at C2
        obtain ⟨p, hp⟩ : ∃ p, p = 2 + k / 2 := ⟨_, rfl⟩
        rw [← hp] at C2
        have HV : Hid ((k + 1 + 1) / 2 = (k + 1) / 2) := by show _ = _; omega
        clear he hp e1 hlt
        go_wp2_with fail
        refine C2.out.mono ?_
        rintro en w1 ⟨rfl, hb⟩
        have HB2 := Lib.hid (HB.out.trans (hb.mono HB.out.size))
        have HO2 := Lib.hid ((Kept.of_below hb (fun _ => False)).owns HO.out (fun _ _ => id))
        clear hb HO HB C2
        go_wp2_with fail
        go_roundw
        case rel => exact ⟨k + 1, by omega, by go_num, by show World.ownsRow _ _ _ _ _ _ _; rw [HV.out]; exact HO2.out, HB2⟩
        case measure => simp [intOf]; omega
    · have e : k = E := by omega
      subst e
      have hd9 : decide (k < k) = false := by simp
      obtain ⟨g, cap, rfl, hc⟩ := owns_slice HO.out (by have := HE1.out; omega)
      clear hlt hk
      go_wp2_with fail
      go_returns
      exact ⟨g, cap, rfl, HO.out, HB.out⟩
end Go.Proofs.YtlihgaejkadonaaGreatDoor
namespace Go.Proofs.YtlihgaejkadonaaGreatDoor
open Go.RowKit Go.Maps

/-- What stageAll has done so far: k sectors are staged, of r more was read. -/
def StP (E S L : Nat) (h : M.lokB E S L = true) (R : Nat → Prop) (y : World) (t b : Nat) (T : Nat → ByteArray) (n : Nat) (tt : ByteArray) (s0 : M.Wl) (k r i : Nat) (v : Value) (x : World) : Prop :=
  ∃ s', TF E S L h R (M.rb v) y x t b s' T (n + r) ∧ s'.act = true ∧ s'.l.length ≤ s0.l.length + k ∧ s'.dk = s0.dk ∧ (∀ j, M.now s' T j = if 2 ≤ j ∧ j < 2 + k then tt else M.now s0 T j) ∧ ∃ xs, x.ownsRow 0 122 2 v i xs
section
variable {E S L : Nat} {h : M.lokB E S L = true} {R : Nat → Prop} {y x z : World} {t b n k r i : Nat} {s0 : M.Wl} {T : Nat → ByteArray} {tt : ByteArray} {v : Value}
theorem StP.beside (H : StP E S L h R y t b T n tt s0 k r i v x) (hb : Below x.heap.size x z) : StP E S L h R y t b T n tt s0 k r i v z := by
  obtain ⟨s', h1, h2, h3, h4, h5, xs, h6⟩ := H
  exact ⟨s', h1.beside hb, h2, h3, h4, h5, xs, (Kept.of_below hb (fun _ => False)).owns h6 (fun _ _ => id)⟩
theorem StP.read (H : StP E S L h R y t b T n tt s0 k r i v x) (hn : n + r ≤ 400000) (hg : M.gd (M.geo E S L h) (2 + k)) : Calls Tryz.prog 65 #[.pointer (some ⟨b, 0, none⟩), .int .i64 (2 + k : Nat)] x fun e z => ∃ q, e = .returned (.tuple #[.string q, .int .i64 0]) ∧ StP E S L h R y t b T n tt s0 k (r + 1) i v z := by
  obtain ⟨s', h1, h2, h3, h4, h5, xs, h6⟩ := H
  refine (h1.ta.wa.read (by omega) (2 + k) hg).mono ?_
  rintro e z ⟨e1, d', e2, e3⟩
  exact ⟨_, e1, _, h1.did e2 e3, h2, h3, h4, h5, xs, e3.owns h6 (fun j hj e => e.2 (M.rb_mem hj))⟩
theorem StP.stage (H : StP E S L h R y t b T n tt s0 k r i v x) (ht : tt.size = 64) (hl : s0.l.length + k ≤ 15) (hg : M.gd (M.geo E S L h) (2 + k)) (hk : k ≤ 100) : Calls Tryz.prog 31 #[.pointer (some ⟨b, 0, none⟩), .int .i64 (2 + k : Nat), .string tt] x fun e z => e = .returned (.int .i64 0) ∧ StP E S L h R y t b T n tt s0 (k + 1) r i v z := by
  obtain ⟨s', h1, h2, h3, h4, h5, xs, h6⟩ := H
  have hE := M.stages18 (k := 2 + k) h1.ta.wa.ws h2 (by omega) hg tt ht
  refine (h1.ta.wa.stage (2 + k : Nat) tt (WalkArith.wf_i64 (by omega))).mono ?_
  rintro e z ⟨e1, e2, e3⟩
  rw [hE] at e1
  unfold M.wlStage at e2
  rw [if_pos hE] at e2
  refine ⟨e1, _, h1.did e2 e3, h2, ?_, h4, fun j => ?_, xs, e3.owns h6 (fun j hj e => e.2 (M.rb_mem hj))⟩
  · have := M.ins_le ((2 + k : Nat) : Int) (Value.string tt) s'.l
    show (M.ins _ _ _).length ≤ _
    omega
  · rw [M.now_ins, h5]
    by_cases e : j = 2 + k
    · rw [if_pos e, if_pos (by omega)]
    · rw [if_neg e]
      by_cases e' : 2 ≤ j ∧ j < 2 + k
      · rw [if_pos e', if_pos (by omega)]
      · rw [if_neg e', if_neg (by omega)]
theorem StP.grown {g cap : Nat} {xs : List Value} {o : Obj} (H : StP E S L h R y t b T n tt s0 k r i v x) (ho : z.ownsRow 0 122 2 (.slice (some ⟨g, 0, none⟩) (i + 1) cap) (i + 1) xs) (hg : (x.alloc o).grownBy z v.ownBlock) (hat : v.ownBlock = some g ∨ g = (x.alloc o).heap.size) (hlt : g < z.heap.size) : StP E S L h R y t b T n tt s0 k r (i + 1) (.slice (some ⟨g, 0, none⟩) (i + 1) cap) z := by
  obtain ⟨s', h1, h2, h3, h4, h5, _, h6⟩ := H
  refine ⟨s', (h1.beside (ib1 x o)).turn (Kept.appended hg) (fun j hj => ?_), h2, h3, h4, h5, xs, ho⟩
  rw [M.rb_slice] at hj
  obtain rfl : j = g := by simpa using hj
  rcases hat with e | e
  · exact Or.inl (M.rb_mem e)
  · exact Or.inr ⟨by omega, hlt⟩

set_option maxRecDepth 100000 in
set_option maxHeartbeats 4000000 in
theorem tstage_all (H : TA E S L h R y t b s0 T n) (hn : n ≤ 300000) (hact : s0.act = true) (hl : s0.l.length ≤ 3) (ht : tt.size = 64) {gs cap m B : Nat} (hm : m = (E + 1) / 2) (hrow : y.ownsRow B 3 1 (.slice (some ⟨gs, 0, none⟩) m cap) m (M.tsec m)) (hgs : ¬ R gs) :
    Calls Tryz.prog 28 #[.pointer (some ⟨t, 0, none⟩), .slice (some ⟨gs, 0, none⟩) m cap, .string tt] y fun e z => e = .returned (.int .i64 0) ∧
      ∃ s', TA E S L h R z t b s' T (n + m) ∧ s'.act = true ∧ s'.l.length ≤ s0.l.length + m ∧ s'.dk = s0.dk ∧ (∀ j, M.now s' T j = if 2 ≤ j ∧ j < 2 + m then tt else M.now s0 T j) ∧ Kept R y z := by
  obtain ⟨i0, hi, hz0, hz1, hz2⟩ := info_parts infoSec
  have hv := (M.lok_iff E S L).1 h
  have hm9 : m ≤ 12 := by omega
  have HS0 : Hid (StP E S L h R y t b T n tt s0 0 0 0 (.slice none 0 0) y) := ⟨s0, TF.start H, hact, Nat.le_refl _, rfl, fun j => by rw [if_neg (by omega)], [], World.ownsRow_nil _ _ _ _⟩
  have HA : Hid (∀ k r i v x, StP E S L h R y t b T n tt s0 k r i v x → x.cell? ⟨t, 0, none⟩ = some (.pointer (some ⟨b, 0, none⟩)) ∧ ∀ j, j < m → x.cell? ⟨gs, j, none⟩ = some (.int .i64 (2 + j : Nat))) := by
    rintro k r i v x ⟨s', h1, -⟩
    refine ⟨h1.ta.tb.cells.1, fun j hj => ?_⟩
    have := (hrow.cells (g := gs) rfl j _ (M.tsec_at hj))
    rw [blk_add] at this
    exact h1.kept.cell this hgs
  have HR : Hid (∀ k v x, k < m → StP E S L h R y t b T n tt s0 k k k v x → Calls Tryz.prog 65 #[.pointer (some ⟨b, 0, none⟩), .int .i64 (2 + k : Nat)] x fun e z => ∃ q, e = .returned (.tuple #[.string q, .int .i64 0]) ∧ StP E S L h R y t b T n tt s0 k (k + 1) k v z) := by
    intro k v x hk hs
    refine hs.read (by omega) ?_
    have := M.gd_table (k := 2 * k) h (by omega)
    rw [show 2 * k / 2 = k by omega] at this
    exact this
  have HG : Hid (∀ k v x, k < m → StP E S L h R y t b T n tt s0 k (k + 1) k v x → Calls Tryz.prog 31 #[.pointer (some ⟨b, 0, none⟩), .int .i64 (2 + k : Nat), .string tt] x fun e z => e = .returned (.int .i64 0) ∧ StP E S L h R y t b T n tt s0 (k + 1) (k + 1) k v z) := by
    intro k v x hk hs
    refine hs.stage ht (by omega) ?_ (by omega)
    have := M.gd_table (k := 2 * k) h (by omega)
    rw [show 2 * k / 2 = k by omega] at this
    exact this
  have HZ : Hid (∀ v x, StP E S L h R y t b T n tt s0 m m m v x → ∃ s', TA E S L h R x t b s' T (n + m) ∧ s'.act = true ∧ s'.l.length ≤ s0.l.length + m ∧ s'.dk = s0.dk ∧ (∀ j, M.now s' T j = if 2 ≤ j ∧ j < 2 + m then tt else M.now s0 T j) ∧ Kept R y x) := by
    rintro v x ⟨s', h1, h2, h3, h4, h5, -⟩
    exact ⟨s', h1.done.1, h2, h3, h4, h5, h1.done.2⟩
  clear H hn hact hl ht hrow hgs hm hv
  go_enter Tryz.func28, Tryz.ntmps28
  go_wp2_with fail
  go_loopw [7, 15] (fun v i wr => ∃ (k : Nat) (V : Value), k ≤ m ∧ i = .int .i64 (k : Nat) ∧ V = v ∧ Hid (StP E S L h R y t b T n tt s0 k k k V wr)) (fun _ i _ => m - (intOf i).toNat)
  case atStart => exact ⟨0, _, Nat.zero_le _, rfl, rfl, HS0⟩
  case round =>
    clear HS0
    obtain ⟨k, V, hk, rfl, rfl, HP⟩ := hrel
    by_cases hlt : k < m
    · have hlt' : (k : Int) < (m : Int) := by omega
      have hk0 : (0 : Int) ≤ (k : Int) := by omega
      have hd9 : decide (k < m) = true := by simpa using hlt
      obtain ⟨c0, cs⟩ := HA.out _ _ _ _ _ HP.out
      have c1 := cs k hlt
      have C1 := Lib.hid (HR.out k V wr hlt HP.out)
      have HG1 := Lib.hid (fun x => HG.out k V x hlt)
      obtain ⟨p, hp⟩ : ∃ p, p = 2 + k := ⟨_, rfl⟩
      rw [← hp] at c1 C1 HG1
      have hk9 : k ≤ 12 := by omega
      clear cs HP hp hlt
      go_wp2_with fail
      refine C1.out.mono ?_
      rintro e w1 ⟨q, rfl, h1⟩
      have G1 := Lib.hid h1
      clear h1 C1 c0 c1
      obtain ⟨c0, -⟩ := HA.out _ _ _ _ _ G1.out
      go_wp2_with fail
      refine (HG1.out _ G1.out).mono ?_
      rintro e w2 ⟨rfl, h2⟩
      have G2 := Lib.hid h2
      clear h2 G1 HG1 c0
      obtain ⟨xs, HO⟩ : ∃ xs, Hid (w2.ownsRow 0 122 2 V k xs) := by
        obtain ⟨s', h1, h2, h3, h4, h5, xs, h6⟩ := G2.out
        exact ⟨xs, h6⟩
      go_wp2_with (at_builtin; refine wpList_append_lies _ rfl _ _ 83 rfl 0 122 i0 (.agg #[.int .i64 0, .string ⟨#[]⟩]) 2 24 Tryz.underlying83 hi hz0 hz1 hz2 rfl (by decide) V k xs rfl (HO.out.alloc _) ⟨w2.heap.size, 0, none⟩ 1 1 [.int .i64 (p : Nat), .string q] rfl rfl (cell2_new _ _ _ _) (fun u hu => by simp at hu; rcases hu with rfl | rfl <;> rfl) (by omega) (by unfold maxLen; omega) (by omega) (Nat.zero_le _) _ rfl ?_; intro g cp w3 hown3 hgrow3 hat3 hlt3; have G3 := Lib.hid (G2.out.grown hown3 hgrow3 hat3 hlt3); clear hown3 hgrow3 hat3 hlt3)
      go_roundw
      case rel => exact ⟨k + 1, _, by omega, by go_num, rfl, G3⟩
      case measure => simp [intOf]; omega
    · have e : k = m := by omega
      subst e
      have hd9 : decide (k < k) = false := by simp
      have HQ := Lib.hid (HZ.out _ _ HP.out)
      clear hlt hk HP HZ HA HR HG
      go_wp2_with fail
      go_ret
      exact ⟨rfl, HQ.out⟩
end
end Go.Proofs.YtlihgaejkadonaaGreatDoor
namespace Go.Proofs.YtlihgaejkadonaaGreatDoor
open Go.RowKit Go.Maps

set_option maxHeartbeats 1000000 in
/-- Of a volume that may not be. -/
theorem tfmt_no (W : Value) (e s l : Int) (hl : M.lokB e s l = false) (t : Nat) (y : World) (H : TbB y t W e s l) : Calls Tryz.prog 10 #[.pointer (some ⟨t, 0, none⟩)] y fun en z => en = .returned (.int .i64 3) ∧ Below y.heap.size y z := by
  have C1 := Lib.hid (tsectors_no W e s l hl t y H)
  clear H hl
  go_enter Tryz.func10, Tryz.ntmps10
  go_wp2_with fail
  refine C1.out.mono ?_
  rintro en z1 ⟨rfl, hb⟩
  have HB1 := Lib.hid hb
  clear hb
  go_wp2_with fail
  go_ret
  exact ⟨rfl, HB1.out⟩
theorem M.no2_may : M.emay ⟨0, 0, -1, 0, 0, -1⟩ = true := by decide
section
variable {E S L : Nat} {h : M.lokB E S L = true} {R : Nat → Prop} {y : World} {t b n : Nat} {s : M.Wl} {T : Nat → ByteArray}
set_option maxHeartbeats 2000000 in
theorem tfmt_ok (H : TA E S L h R y t b s T n) (hn : n ≤ 300000) (hact : s.act = true) (hl : s.l.length ≤ 3) :
    Calls Tryz.prog 10 #[.pointer (some ⟨t, 0, none⟩)] y fun e z => e = .returned (.int .i64 0) ∧
      ∃ s', TA E S L h R z t b s' T (n + 12) ∧ s'.act = true ∧ s'.l.length ≤ s.l.length + 12 ∧ s'.dk = s.dk ∧ M.TabIs E (M.now s' T) (fun _ => M.no1) ∧ Kept R y z := by
  have hv := (M.lok_iff E S L).1 h
  obtain ⟨m, hm⟩ : ∃ m, m = (E + 1) / 2 := ⟨_, rfl⟩
  obtain ⟨tt, htt⟩ : ∃ tt, tt = M.ewhole ⟨0, 0, -1, 0, 0, -1⟩ := ⟨_, rfl⟩
  have ht : tt.size = 64 := by rw [htt]; exact M.ewhole_size _
  have C1 : Hid (Calls Tryz.prog 26 #[.pointer (some ⟨t, 0, none⟩)] y fun en z => ∃ g cap, en = .returned (.tuple #[.slice (some ⟨g, 0, none⟩) m cap, .int .i64 0]) ∧ TF E S L h R [g] y z t b s T n ∧ z.ownsRow y.heap.size 3 1 (.slice (some ⟨g, 0, none⟩) m cap) m (M.tsec m)) := by
    refine (tsectors_ok E S L h _ t y H.tb).mono ?_
    rintro en z ⟨g, cap, e1, e2, e3⟩
    rw [← hm] at e1 e2
    have hg := e2.lt g rfl
    exact ⟨g, cap, e1, (TF.start H).own e3 (fun j hj => by obtain rfl : j = g := (by simpa using hj); exact Or.inr hg), e2⟩
  have C2 := Lib.hid (fun x => eput_any 0 0 (-1) 0 0 (-1) x)
  rw [M.eput_ok M.no2_may, ← htt] at C2
  have C3 : Hid (∀ g cap x z, (TF E S L h R [g] y x t b s T n ∧ x.ownsRow y.heap.size 3 1 (.slice (some ⟨g, 0, none⟩) m cap) m (M.tsec m)) → Below x.heap.size x z → Calls Tryz.prog 28 #[.pointer (some ⟨t, 0, none⟩), .slice (some ⟨g, 0, none⟩) m cap, .string tt] z fun e z' => e = .returned (.int .i64 0) ∧
      ∃ s', TA E S L h R z' t b s' T (n + 12) ∧ s'.act = true ∧ s'.l.length ≤ s.l.length + 12 ∧ s'.dk = s.dk ∧ M.TabIs E (M.now s' T) (fun _ => M.no1) ∧ Kept R y z') := by
    rintro g cap x z ⟨h1, h2⟩ hb
    have h1 := h1.beside hb
    have h2 : z.ownsRow y.heap.size 3 1 (.slice (some ⟨g, 0, none⟩) m cap) m (M.tsec m) := (Kept.of_below hb (fun _ => False)).owns h2 (fun _ _ => id)
    refine (tstage_all h1.ta hn hact hl ht hm h2 (fun e => e.2 (List.mem_cons_self ..))).mono ?_
    rintro e z' ⟨e1, s', e2, e3, e4, e5, e6, e7⟩
    have h3 := (h1.call e2 e7).done
    refine ⟨e1, s', h3.1.more (by omega), e3, by omega, e5, ⟨fun _ => M.no1_may, fun k hk => ?_⟩, h3.2⟩
    rw [e6, if_pos (by omega), htt]
    rfl
  clear H hn hact hl hv hm htt ht
  go_enter Tryz.func10, Tryz.ntmps10
  go_wp2_with fail
  refine C1.out.mono ?_
  rintro en z1 ⟨g, cap, rfl, h1⟩
  have G1 := Lib.hid (C3.out g cap z1 · h1)
  clear h1 C1 C3
  have HB := Lib.hid (ib1 z1 (Ec 0 0 (-1)))
  have K := Lib.hid (B3e.new z1 0 0 (-1))
  obtain ⟨c0, c1, c2⟩ := B3e.cells K.out
  go_wp2_with fail
  refine (C2.out _).mono ?_
  rintro en z2 ⟨rfl, hb⟩
  have G2 := Lib.hid (G1.out z2 (HB.out.trans (hb.mono HB.out.size)))
  clear hb G1 HB K c0 c1 c2
  go_wp2_with fail
  refine G2.out.mono ?_
  rintro en z3 ⟨rfl, h3⟩
  have G3 := Lib.hid h3
  clear h3 G2
  go_wp2_with fail
  go_ret
  exact ⟨rfl, G3.out⟩
end
end Go.Proofs.YtlihgaejkadonaaGreatDoor
namespace Go.Proofs.YtlihgaejkadonaaGreatDoor
open Go.RowKit Go.Maps

/-- Entries as cells. -/
def M.erow (f : Nat → M.E1) : Nat → List Value
  | 0 => []
  | n + 1 => M.erow f n ++ [.int .i64 (f n).a, .int .i64 (f n).b, .int .i64 (f n).s]
theorem M.erow_len (f : Nat → M.E1) (n : Nat) : (M.erow f n).length = n * 3 := by
  induction n with
  | zero => rfl
  | succ n ih => rw [M.erow, List.length_append, ih]; simp; omega
theorem M.erow_at (f : Nat → M.E1) (n i : Nat) (h : i < n) : (M.erow f n)[i * 3]? = some (.int .i64 (f i).a) ∧ (M.erow f n)[i * 3 + 1]? = some (.int .i64 (f i).b) ∧ (M.erow f n)[i * 3 + 2]? = some (.int .i64 (f i).s) := by
  induction n with
  | zero => omega
  | succ n ih =>
    rw [M.erow]
    by_cases e : i < n
    · rw [List.getElem?_append_left (by rw [M.erow_len]; omega), List.getElem?_append_left (by rw [M.erow_len]; omega), List.getElem?_append_left (by rw [M.erow_len]; omega)]
      exact ih e
    · have e : i = n := by omega
      subst e
      rw [List.getElem?_append_right (by rw [M.erow_len]; omega), List.getElem?_append_right (by rw [M.erow_len]; omega), List.getElem?_append_right (by rw [M.erow_len]; omega), M.erow_len]
      rw [show i * 3 - i * 3 = 0 by omega, show i * 3 + 1 - i * 3 = 1 by omega, show i * 3 + 2 - i * 3 = 2 by omega]
      exact ⟨rfl, rfl, rfl⟩
theorem infoE18 : (Tryz.prog.info? 41).map (fun i => (i.zero, i.size, i.bytes)) = some (some (.agg #[.int .i64 0, .int .i64 0, .int .i64 0]), 3, 24) := by kernel_rfl
theorem cell3_new18 (w : World) (x y z : Value) (t : TypeId) : ∀ j u, [x, y, z][j]? = some u → (w.alloc (.cells #[x, y, z] t)).cell? ((⟨w.heap.size, 0, none⟩ : Addr).add j) = some u := by
  intro j u hj
  rw [blk_add, (Box.new w t #[x, y, z]).cell]
  match j, hj with
  | 0, hj => exact hj
  | 1, hj => exact hj
  | 2, hj => exact hj
  | j + 3, hj => simp at hj
set_option maxHeartbeats 1000000 in
/-- Of a volume that may not be. -/
theorem tall_no (W : Value) (e s l : Int) (hl : M.lokB e s l = false) (t : Nat) (y : World) (H : TbB y t W e s l) : Calls Tryz.prog 9 #[.pointer (some ⟨t, 0, none⟩)] y fun en z => en = .returned (.tuple #[.slice none 0 0, .int .i64 3]) ∧ Below y.heap.size y z := by
  have C1 := Lib.hid (fun x => check15_any e s l x)
  rw [M.lerr_no hl] at C1
  obtain ⟨k0, k1, k2, k3⟩ := TbB.cells H
  clear H hl k0
  go_enter Tryz.func9, Tryz.ntmps9
  go_wp2_with fail
  refine (C1.out _).mono ?_
  rintro en z1 ⟨rfl, hb⟩
  have HB1 := Lib.hid hb
  clear hb
  go_wp2_with fail
  go_returns
  exact ⟨rfl, HB1.out⟩

/-- What All has done so far. -/
def AllP (E S L : Nat) (h : M.lokB E S L = true) (R : Nat → Prop) (y : World) (t b : Nat) (T : Nat → ByteArray) (n : Nat) (s : M.Wl) (all : Nat → M.E1) (k r : Nat) (v : Value) (x : World) : Prop :=
  (∃ d', TF E S L h R (M.rb v) y x t b { s with d := d' } T (n + r)) ∧ x.ownsRow 0 41 3 v k (M.erow all k)
section
variable {E S L : Nat} {h : M.lokB E S L = true} {R : Nat → Prop} {y x z : World} {t b n k r : Nat} {s : M.Wl} {T : Nat → ByteArray} {all : Nat → M.E1} {v : Value}
theorem AllP.beside (H : AllP E S L h R y t b T n s all k r v x) (hb : Below x.heap.size x z) : AllP E S L h R y t b T n s all k r v z := by
  obtain ⟨⟨d', h1⟩, h2⟩ := H
  exact ⟨⟨d', h1.beside hb⟩, (Kept.of_below hb (fun _ => False)).owns h2 (fun _ _ => id)⟩
theorem AllP.get (H : AllP E S L h R y t b T n s all k r v x) (hT : M.TabIs E (M.now s T) all) (hn : n + r ≤ 400000) (hk : k < E) : Calls Tryz.prog 11 #[.pointer (some ⟨t, 0, none⟩), .int .i64 (k : Nat)] x fun e z => e = .returned (.tuple #[Ev (all k).a (all k).b (all k).s, .int .i64 0]) ∧ AllP E S L h R y t b T n s all k (r + 1) v z := by
  obtain ⟨⟨d', h1⟩, h2⟩ := H
  refine (tget_any h1.ta (by omega) k hk).mono ?_
  rintro e z ⟨e1, d2, e2, e3⟩
  refine ⟨?_, ⟨d2, h1.call e2 e3⟩, e3.owns h2 (fun j hj e => e.2 (M.rb_mem hj))⟩
  rw [e1, M.now_at, M.tgot_ok (hT.get hk), M.half_two]
theorem AllP.grown {g cap : Nat} {o : Obj} (H : AllP E S L h R y t b T n s all k r v x) (ho : z.ownsRow 0 41 3 (.slice (some ⟨g, 0, none⟩) (k + 1) cap) (k + 1) (M.erow all k ++ [.int .i64 (all k).a, .int .i64 (all k).b, .int .i64 (all k).s])) (hg : (x.alloc o).grownBy z v.ownBlock) (hat : v.ownBlock = some g ∨ g = (x.alloc o).heap.size) (hlt : g < z.heap.size) : AllP E S L h R y t b T n s all (k + 1) r (.slice (some ⟨g, 0, none⟩) (k + 1) cap) z := by
  obtain ⟨⟨d', h1⟩, h2⟩ := H
  refine ⟨⟨d', (h1.beside (ib1 x o)).turn (Kept.appended hg) (fun j hj => ?_)⟩, ho⟩
  rw [M.rb_slice] at hj
  obtain rfl : j = g := by simpa using hj
  rcases hat with e | e
  · exact Or.inl (M.rb_mem e)
  · exact Or.inr ⟨by omega, hlt⟩

set_option maxRecDepth 100000 in
set_option maxHeartbeats 4000000 in
theorem tall_ok (H : TA E S L h R y t b s T n) (hn : n ≤ 300000) (hT : M.TabIs E (M.now s T) all) :
    Calls Tryz.prog 9 #[.pointer (some ⟨t, 0, none⟩)] y fun e z => ∃ g cap, e = .returned (.tuple #[.slice (some ⟨g, 0, none⟩) E cap, .int .i64 0]) ∧ AllP E S L h R y t b T n s all E E (.slice (some ⟨g, 0, none⟩) E cap) z := by
  obtain ⟨i0, hi, hz0, hz1, hz2⟩ := info_parts infoE18
  have hv := (M.lok_iff E S L).1 h
  have hE9 : E ≤ 24 := by omega
  have HE1 : Hid (1 ≤ E) := by show _ ≤ _; omega
  have C1 := Lib.hid (fun x => check15_any E S L x)
  rw [M.lerr_ok h] at C1
  have HS0 : Hid (∀ z, Below y.heap.size y z → AllP E S L h R y t b T n s all 0 0 (.slice none 0 0) z) := fun z hb => ⟨⟨s.d, (TF.start H).beside hb⟩, World.ownsRow_nil _ _ _ _⟩
  have HA : Hid (∀ k r v x, AllP E S L h R y t b T n s all k r v x → TbB x t (.pointer (some ⟨b, 0, none⟩)) E S L) := by
    rintro k r v x ⟨⟨d', h1⟩, -⟩
    exact h1.ta.tb
  have HR : Hid (∀ k v x, k < E → AllP E S L h R y t b T n s all k k v x → Calls Tryz.prog 11 #[.pointer (some ⟨t, 0, none⟩), .int .i64 (k : Nat)] x fun e z => e = .returned (.tuple #[Ev (all k).a (all k).b (all k).s, .int .i64 0]) ∧ AllP E S L h R y t b T n s all k (k + 1) v z) := fun k v x hk hs => hs.get hT (by omega) hk
  obtain ⟨k0, k1, k2, k3⟩ := TbB.cells H.tb
  clear H hn hT hv k0
  go_enter Tryz.func9, Tryz.ntmps9
  go_wp2_with fail
  refine (C1.out _).mono ?_
  rintro en z1 ⟨rfl, hb⟩
  have G1 := Lib.hid (HS0.out _ hb)
  clear hb k1 k2 k3 C1 HS0
  obtain ⟨k0, k1, k2, k3⟩ := TbB.cells (HA.out _ _ _ _ G1.out)
  clear k0 k2 k3
  go_wp2_with fail
  go_loopw [5, 24] (fun v i wr => ∃ (k : Nat) (V : Value), k ≤ E ∧ i = .int .i64 (k : Nat) ∧ V = v ∧ Hid (AllP E S L h R y t b T n s all k k V wr)) (fun _ i _ => E - (intOf i).toNat)
  case atStart => exact ⟨0, _, Nat.zero_le _, rfl, rfl, G1⟩
  case round =>
    clear k1 G1
    obtain ⟨k, V, hk, rfl, rfl, HP⟩ := hrel
    by_cases hlt : k < E
    · have hlt' : (k : Int) < (E : Int) := by omega
      have hd9 : decide (k < E) = true := by simpa using hlt
      have C1 := Lib.hid (HR.out k V wr hlt HP.out)
      obtain ⟨x1, hx1⟩ : ∃ x, x = (all k).a := ⟨_, rfl⟩
      obtain ⟨x2, hx2⟩ : ∃ x, x = (all k).b := ⟨_, rfl⟩
      obtain ⟨x3, hx3⟩ : ∃ x, x = (all k).s := ⟨_, rfl⟩
      have HX : Hid (x1 = (all k).a ∧ x2 = (all k).b ∧ x3 = (all k).s) := ⟨hx1, hx2, hx3⟩
      rw [← hx1, ← hx2, ← hx3] at C1
      have hk9 : k ≤ 24 := by omega
      clear hx1 hx2 hx3 HP hlt
      go_wp2_with fail
      refine C1.out.mono ?_
      rintro e w1 ⟨rfl, h1⟩
      have G1 := Lib.hid (h1.beside (ib1 w1 (Ec x1 x2 x3)))
      have K1 := Lib.hid (B3e.new w1 x1 x2 x3)
      clear h1 C1
      obtain ⟨c0, c1, c2⟩ := B3e.cells K1.out
      have HO := Lib.hid G1.out.2
      have HN : Hid (∀ j u, [Value.int .i64 x1, Value.int .i64 x2, Value.int .i64 x3][j]? = some u → ((w1.alloc (Ec x1 x2 x3)).alloc (Ec x1 x2 x3)).cell? ((⟨w1.heap.size + 1, 0, none⟩ : Addr).add j) = some u) := by
        have := cell3_new18 (w1.alloc (Ec x1 x2 x3)) (.int .i64 x1) (.int .i64 x2) (.int .i64 x3) 41
        rw [World.size_alloc] at this
        exact this
      go_wp2_with (at_builtin; (refine wpList_append_lies _ rfl _ _ 33 rfl 0 41 i0 (.agg #[.int .i64 0, .int .i64 0, .int .i64 0]) 3 24 Tryz.underlying33 hi hz0 hz1 hz2 rfl (by decide) V k (M.erow all k) rfl (HO.out.alloc _) ⟨w1.heap.size + 1, 0, none⟩ 1 1 [.int .i64 x1, .int .i64 x2, .int .i64 x3] rfl rfl HN.out (fun u hu => by simp at hu; rcases hu with rfl | rfl | rfl <;> rfl) (by omega) (by unfold maxLen; omega) (by omega) (Nat.zero_le _) _ rfl ?_); intro g cp w3 hown3 hgrow3 hat3 hlt3; rw [HX.out.1, HX.out.2.1, HX.out.2.2] at hown3; have G3 := Lib.hid (G1.out.grown hown3 hgrow3 hat3 hlt3); clear hown3 hgrow3 hat3 hlt3)
      go_roundw
      case rel => exact ⟨k + 1, _, by omega, by go_num, rfl, G3⟩
      case measure => simp [intOf]; omega
    · have e : k = E := by omega
      subst e
      have hd9 : decide (k < k) = false := by simp
      obtain ⟨g, cap, rfl, hc⟩ := owns_slice HP.out.2 (by have := HE1.out; omega)
      clear hlt hk HA HR
      go_wp2_with fail
      go_returns
      exact ⟨g, cap, rfl, HP.out⟩
end
end Go.Proofs.YtlihgaejkadonaaGreatDoor
namespace Go.Proofs.YtlihgaejkadonaaGreatDoor
open Go.RowKit Go.Maps

/-- Entries in the cells of a block. -/
def M.EntAt (x : World) (g E : Nat) (all : Nat → M.E1) : Prop := ∀ i, i < E → x.cell? ⟨g, i * 3, none⟩ = some (.int .i64 (all i).a) ∧ x.cell? ⟨g, i * 3 + 1, none⟩ = some (.int .i64 (all i).b) ∧ x.cell? ⟨g, i * 3 + 2, none⟩ = some (.int .i64 (all i).s)
theorem M.EntAt.kept {x z : World} {g E : Nat} {all : Nat → M.E1} {P : Nat → Prop} (h : M.EntAt x g E all) (hk : Kept P x z) (hg : ¬ P g) : M.EntAt z g E all := fun i hi => ⟨hk.cell (h i hi).1 hg, hk.cell (h i hi).2.1 hg, hk.cell (h i hi).2.2 hg⟩
theorem M.EntAt.of_row {x : World} {B g E cap : Nat} {all : Nat → M.E1} (h : x.ownsRow B 41 3 (.slice (some ⟨g, 0, none⟩) E cap) E (M.erow all E)) : M.EntAt x g E all := by
  intro i hi
  obtain ⟨a1, a2, a3⟩ := M.erow_at all E i hi
  have c1 := h.cells (g := g) rfl _ _ a1
  have c2 := h.cells (g := g) rfl _ _ a2
  have c3 := h.cells (g := g) rfl _ _ a3
  rw [blk_add] at c1 c2 c3
  exact ⟨c1, c2, c3⟩
/-- What same knows: the list that All told, and how many calls there were. -/
def SmP (E S L : Nat) (h : M.lokB E S L = true) (R : Nat → Prop) (y : World) (t b : Nat) (T : Nat → ByteArray) (n : Nat) (s : M.Wl) (all : Nat → M.E1) (al g r : Nat) (x : World) : Prop :=
  (∃ d', TF E S L h R [g] y x t b { s with d := d' } T (n + r)) ∧ M.EntAt x g E all ∧ M.EntAt x al E all
section
variable {E S L : Nat} {h : M.lokB E S L = true} {R : Nat → Prop} {y x z : World} {t b n r al g : Nat} {s : M.Wl} {T : Nat → ByteArray} {all : Nat → M.E1}
theorem SmP.beside (H : SmP E S L h R y t b T n s all al g r x) (hb : Below x.heap.size x z) : SmP E S L h R y t b T n s all al g r z := by
  obtain ⟨⟨d', h1⟩, h2, h3⟩ := H
  exact ⟨⟨d', h1.beside hb⟩, h2.kept (Kept.of_below hb (fun _ => False)) id, h3.kept (Kept.of_below hb (fun _ => False)) id⟩
theorem SmP.get (H : SmP E S L h R y t b T n s all al g r x) (hT : M.TabIs E (M.now s T) all) (hn : n + r ≤ 400000) (ha : ¬ R al) {k : Nat} (hk : k < E) : Calls Tryz.prog 11 #[.pointer (some ⟨t, 0, none⟩), .int .i64 (k : Nat)] x fun e z => e = .returned (.tuple #[Ev (all k).a (all k).b (all k).s, .int .i64 0]) ∧ SmP E S L h R y t b T n s all al g (r + 1) z := by
  obtain ⟨⟨d', h1⟩, h2, h3⟩ := H
  refine (tget_any h1.ta (by omega) k hk).mono ?_
  rintro e z ⟨e1, d2, e2, e3⟩
  refine ⟨?_, ⟨d2, h1.call e2 e3⟩, h2.kept e3 (fun e => e.2 (List.mem_cons_self ..)), h3.kept e3 (fun e => ha e.1)⟩
  rw [e1, M.now_at, M.tgot_ok (hT.get hk), M.half_two]
set_option maxRecDepth 100000 in
set_option maxHeartbeats 4000000 in
theorem same_yes (H : TA E S L h R y t b s T n) (hn : n ≤ 300000) (hT : M.TabIs E (M.now s T) all) (hal : M.EntAt y al E all) (ha : ¬ R al) (cap : Nat) :
    Calls Tryz.prog 15 #[.pointer (some ⟨t, 0, none⟩), .slice (some ⟨al, 0, none⟩) E cap] y fun e z => e = .returned (.bool true) ∧ ∃ d', TA E S L h R z t b { s with d := d' } T (n + 60) ∧ Kept R y z := by
  have hv := (M.lok_iff E S L).1 h
  have hE9 : E ≤ 24 := by omega
  have C1 : Hid (Calls Tryz.prog 9 #[.pointer (some ⟨t, 0, none⟩)] y fun e z => ∃ g cap, e = .returned (.tuple #[.slice (some ⟨g, 0, none⟩) E cap, .int .i64 0]) ∧ SmP E S L h R y t b T n s all al g E z) := by
    refine (tall_ok H hn hT).mono ?_
    rintro e z ⟨g, cap, e1, ⟨d', h1⟩, h2⟩
    exact ⟨g, cap, e1, ⟨d', h1⟩, M.EntAt.of_row h2, hal.kept h1.kept ha⟩
  have HR : Hid (∀ g k x, k < E → SmP E S L h R y t b T n s all al g (E + k) x → Calls Tryz.prog 11 #[.pointer (some ⟨t, 0, none⟩), .int .i64 (k : Nat)] x fun e z => e = .returned (.tuple #[Ev (all k).a (all k).b (all k).s, .int .i64 0]) ∧ SmP E S L h R y t b T n s all al g (E + k + 1) z) := fun g k x hk hs => hs.get hT (by omega) ha hk
  have HZ : Hid (∀ g x, SmP E S L h R y t b T n s all al g (E + E) x → ∃ d', TA E S L h R x t b { s with d := d' } T (n + 60) ∧ Kept R y x) := by
    rintro g x ⟨⟨d', h1⟩, -⟩
    exact ⟨d', h1.done.1.more (by omega), h1.done.2⟩
  have HQ : Hid (∀ (p q u : Int) (W : World), (Op.equalIn 10000 41 (Ev p q u) (Ev p q u)).run Tryz.prog W = .ok true W) := fun p q u W => eqEntry17 9997 p q u W
  clear H hn hT hal ha hv
  go_enter Tryz.func15, Tryz.ntmps15
  go_wp2_with fail
  refine C1.out.mono ?_
  rintro e z1 ⟨g, cp, rfl, h1⟩
  have G1 := Lib.hid h1
  clear h1 C1
  go_wp2_with fail
  go_loopw [7] (fun i wr => ∃ k : Nat, k ≤ E ∧ i = .int .i64 (k : Nat) ∧ Hid (SmP E S L h R y t b T n s all al g (E + k) wr)) (fun i _ => E - (intOf i).toNat)
  case atStart => exact ⟨0, Nat.zero_le _, rfl, G1⟩
  case round =>
    clear G1
    obtain ⟨k, hk, rfl, HP⟩ := hrel
    by_cases hlt : k < E
    · have hlt' : (k : Int) < (E : Int) := by omega
      have hk0 : (0 : Int) ≤ (k : Int) := by omega
      have hd9 : decide (k < E) = true := by simpa using hlt
      have C1 := Lib.hid (HR.out g k wr hlt HP.out)
      obtain ⟨x1, hx1⟩ : ∃ x, x = (all k).a := ⟨_, rfl⟩
      obtain ⟨x2, hx2⟩ : ∃ x, x = (all k).b := ⟨_, rfl⟩
      obtain ⟨x3, hx3⟩ : ∃ x, x = (all k).s := ⟨_, rfl⟩
      have HX : Hid (∀ x, SmP E S L h R y t b T n s all al g (E + k + 1) x → (x.cell? ⟨g, k * 3, none⟩ = some (.int .i64 x1) ∧ x.cell? ⟨g, k * 3 + 1, none⟩ = some (.int .i64 x2) ∧ x.cell? ⟨g, k * 3 + 2, none⟩ = some (.int .i64 x3)) ∧ x.cell? ⟨al, k * 3, none⟩ = some (.int .i64 x1) ∧ x.cell? ⟨al, k * 3 + 1, none⟩ = some (.int .i64 x2) ∧ x.cell? ⟨al, k * 3 + 2, none⟩ = some (.int .i64 x3)) := by
        rintro x ⟨-, q1, q2⟩
        rw [hx1, hx2, hx3]
        exact ⟨q1 k hlt, q2 k hlt⟩
      rw [← hx1, ← hx2, ← hx3] at C1
      have hq := HQ.out x1 x2 x3
      clear hx1 hx2 hx3 HP hlt
      go_wp2_with fail
      refine C1.out.mono ?_
      rintro e w1 ⟨rfl, h1⟩
      have G1 := Lib.hid (h1.beside (ib1 w1 (Ec x1 x2 x3)))
      have K1 := Lib.hid (B3e.new w1 x1 x2 x3)
      clear h1 C1
      obtain ⟨c0, c1, c2⟩ := B3e.cells K1.out
      obtain ⟨⟨d0, d1, d2⟩, f0, f1, f2⟩ := HX.out _ G1.out
      go_wp2_with fail
      go_quiet (fail)
      go_wp2_with fail
      go_roundw
      case rel => exact ⟨k + 1, by omega, by go_num, by first | exact G1.out | exact G1.out.beside (Below.refl _ _).drew | exact G1.out.beside (below_drewN (Below.refl _ _) _)⟩
      case measure => simp [intOf]; omega
    · have e : k = E := by omega
      subst e
      have hd9 : decide (k < k) = false := by simp
      have HQ := Lib.hid (HZ.out _ _ HP.out)
      clear hlt hk HP HZ HR
      go_wp2_with fail
      go_ret
      exact ⟨rfl, HQ.out⟩
end
end Go.Proofs.YtlihgaejkadonaaGreatDoor
namespace Go.Proofs.YtlihgaejkadonaaGreatDoor
open Go.RowKit Go.Maps

/-- The blocks that the wal may have: from N on, but not the table's. -/
abbrev M.Rt (N t : Nat) : Nat → Prop := fun j => N ≤ j ∧ j ≠ t
/-- Nothing is staged, and the table's sectors say nothing. -/
def TZ (E S L : Nat) (h : M.lokB E S L = true) (R : Nat → Prop) (N : Nat) (w2 : World) (t b d : Nat) (F : List Nat) (n : Nat) (x : World) : Prop :=
  ∃ z0 s, (∀ j, R j → N ≤ j) ∧ Below N w2 z0 ∧ N ≤ z0.heap.size ∧ TF E S L h R F z0 x t b s (fun _ => M.zeros 64) n ∧ s.act = true ∧ s.l = [] ∧ s.dk = d
/-- All entries are f's. -/
def TS (E S L : Nat) (h : M.lokB E S L = true) (R : Nat → Prop) (N : Nat) (w2 : World) (t b d : Nat) (F : List Nat) (f : Nat → M.E1) (act : Bool) (lb n : Nat) (x : World) : Prop :=
  ∃ z0 s T, (∀ j, R j → N ≤ j) ∧ Below N w2 z0 ∧ N ≤ z0.heap.size ∧ TF E S L h R F z0 x t b s T n ∧ s.act = act ∧ s.l.length ≤ lb ∧ s.dk = d ∧ M.TabIs E (M.now s T) f
section
variable {E S L : Nat} {h : M.lokB E S L = true} {R : Nat → Prop} {N t b d n m lb : Nat} {w2 x z : World} {F F' : List Nat} {f : Nat → M.E1} {act : Bool} {s : M.Wl} {T : Nat → ByteArray}
/-- What stands behind Begun and New. -/
theorem TZ.start (H : OW (M.geo E S L h) N w2 x b s (fun _ => M.zeros 64) n) (hact : s.act = true) (hl : s.l = []) (hd : s.dk = d) (hb : Below x.heap.size x z) (ht : x.heap.size ≤ t) (tb : TbB z t (.pointer (some ⟨b, 0, none⟩)) E S L) : TZ E S L h (M.Rt N t) N w2 t b d [] n z := by
  have hlt := Box.lt tb
  have hle := H.le
  have hs := hb.size
  refine ⟨z, s, fun j e => e.1, H.below.trans (hb.mono hle), by omega, TF.start ⟨(H.inner hb).mono (fun j _ e => ⟨e.1, by have := e.2; omega⟩), fun j hj => ⟨by omega, by omega⟩, tb, fun e => e.2 rfl⟩, hact, hl, hd⟩
theorem TF.belowN {z0 : World} (H0 : ∀ j, R j → N ≤ j) (H1 : Below N w2 z0) (H2 : N ≤ z0.heap.size) (H : TF E S L h R F z0 x t b s T n) : Below N w2 x := H1.trans (H.kept.below H2 (fun k hk e => by have := H0 k e; omega))
theorem TZ.below (H : TZ E S L h R N w2 t b d F n x) : Below N w2 x := by
  obtain ⟨z0, s, h0, h1, h2, h3, -⟩ := H
  exact h3.belowN h0 h1 h2
theorem TS.below (H : TS E S L h R N w2 t b d F f act lb n x) : Below N w2 x := by
  obtain ⟨z0, s, T, h0, h1, h2, h3, -⟩ := H
  exact h3.belowN h0 h1 h2
theorem TZ.tb (H : TZ E S L h R N w2 t b d F n x) : TbB x t (.pointer (some ⟨b, 0, none⟩)) E S L := by
  obtain ⟨z0, s, h0, h1, h2, h3, -⟩ := H
  exact h3.ta.tb
theorem TS.tb (H : TS E S L h R N w2 t b d F f act lb n x) : TbB x t (.pointer (some ⟨b, 0, none⟩)) E S L := by
  obtain ⟨z0, s, T, h0, h1, h2, h3, -⟩ := H
  exact h3.ta.tb
theorem TZ.own (H : TZ E S L h R N w2 t b d F n x) (hb : Below x.heap.size x z) (hF : ∀ j, j ∈ F' → j ∈ F ∨ (x.heap.size ≤ j ∧ j < z.heap.size)) : TZ E S L h R N w2 t b d F' n z := by
  obtain ⟨z0, s, h0, h1, h2, h3, h4⟩ := H
  exact ⟨z0, s, h0, h1, h2, h3.own hb hF, h4⟩
theorem TZ.beside (H : TZ E S L h R N w2 t b d F n x) (hb : Below x.heap.size x z) : TZ E S L h R N w2 t b d F n z := H.own hb (fun _ e => Or.inl e)
theorem TS.turn (H : TS E S L h R N w2 t b d F f act lb n x) (hk : Kept (fun j => j ∈ F) x z) (hF : ∀ j, j ∈ F' → j ∈ F ∨ (x.heap.size ≤ j ∧ j < z.heap.size)) : TS E S L h R N w2 t b d F' f act lb n z := by
  obtain ⟨z0, s, T, h0, h1, h2, h3, h4⟩ := H
  exact ⟨z0, s, T, h0, h1, h2, h3.turn hk hF, h4⟩
theorem TS.own (H : TS E S L h R N w2 t b d F f act lb n x) (hb : Below x.heap.size x z) (hF : ∀ j, j ∈ F' → j ∈ F ∨ (x.heap.size ≤ j ∧ j < z.heap.size)) : TS E S L h R N w2 t b d F' f act lb n z := H.turn (Kept.of_below hb _) hF
theorem TS.beside (H : TS E S L h R N w2 t b d F f act lb n x) (hb : Below x.heap.size x z) : TS E S L h R N w2 t b d F f act lb n z := H.own hb (fun _ e => Or.inl e)
theorem TS.more (H : TS E S L h R N w2 t b d F f act lb n x) (hm : n ≤ m) : TS E S L h R N w2 t b d F f act lb m x := by
  obtain ⟨z0, s, T, h0, h1, h2, h3, h4⟩ := H
  exact ⟨z0, s, T, h0, h1, h2, h3.more hm, h4⟩
theorem TS.old (H : TS E S L h R N w2 t b d F f act lb n x) {j : Nat} (hj : j ∈ F) : j < x.heap.size ∧ N ≤ j := by
  obtain ⟨z0, s, T, h0, h1, h2, h3, h4⟩ := H
  have := h3.tmp j hj
  exact ⟨h3.old hj, by omega⟩
theorem TZ.get0 (H : TZ E S L h R N w2 t b d F n x) (hn : n ≤ 300000) : Calls Tryz.prog 11 #[.pointer (some ⟨t, 0, none⟩), .int .i64 0] x fun e z => e = .returned (.tuple #[Ev 0 0 0, .int .i64 32]) ∧ TZ E S L h R N w2 t b d F (n + 1) z := by
  obtain ⟨z0, s, h0, h1, h2, h3, h4, h5, h6⟩ := H
  have hv := (M.lok_iff E S L).1 h
  refine (tget_any h3.ta (by omega) 0 (by omega)).mono ?_
  rintro e z ⟨e1, d', e2, e3⟩
  refine ⟨?_, z0, _, h0, h1, h2, h3.call e2 e3, h4, h5, h6⟩
  rw [e1, M.now_nil _ h5, M.tgot_no (by show (M.eget (M.zeros 64)).2 ≠ 0; rw [M.eget_zero]; decide)]
theorem TZ.put0 (H : TZ E S L h R N w2 t b d F n x) (hn : n ≤ 300000) : Calls Tryz.prog 12 #[.pointer (some ⟨t, 0, none⟩), .int .i64 0, Ev 0 0 0] x fun e z => e = .returned (.int .i64 32) ∧ TZ E S L h R N w2 t b d F (n + 1) z := by
  obtain ⟨z0, s, h0, h1, h2, h3, h4, h5, h6⟩ := H
  have hv := (M.lok_iff E S L).1 h
  refine (tput_bad h3.ta (by omega) 0 (by omega) 0 0 0 (by decide) (by rw [M.now_nil _ h5]; show (M.eget (M.zeros 64)).2 ≠ 0; rw [M.eget_zero]; decide)).mono ?_
  rintro e z ⟨e1, d', e2, e3⟩
  exact ⟨e1, z0, _, h0, h1, h2, h3.call e2 e3, h4, h5, h6⟩
theorem TZ.format (H : TZ E S L h R N w2 t b d F n x) (hn : n ≤ 300000) : Calls Tryz.prog 10 #[.pointer (some ⟨t, 0, none⟩)] x fun e z => e = .returned (.int .i64 0) ∧ TS E S L h R N w2 t b d F (fun _ => M.no1) true 12 (n + 12) z ∧ Kept (fun j => R j ∧ j ∉ F) x z := by
  obtain ⟨z0, s, h0, h1, h2, h3, h4, h5, h6⟩ := H
  refine (tfmt_ok h3.ta (by omega) h4 (by rw [h5]; simp)).mono ?_
  rintro e z ⟨e1, s', e2, e3, e4, e5, e6, e7⟩
  rw [h5] at e4
  exact ⟨e1, ⟨z0, s', _, h0, h1, h2, h3.call e2 e7, e3, by simpa using e4, e5.trans h6, e6⟩, e7⟩
theorem TS.get (H : TS E S L h R N w2 t b d F f act lb n x) (hn : n ≤ 300000) {i : Nat} (hi : i < E) : Calls Tryz.prog 11 #[.pointer (some ⟨t, 0, none⟩), .int .i64 (i : Nat)] x fun e z => e = .returned (.tuple #[Ev (f i).a (f i).b (f i).s, .int .i64 0]) ∧ TS E S L h R N w2 t b d F f act lb (n + 1) z ∧ Kept (fun j => R j ∧ j ∉ F) x z := by
  obtain ⟨z0, s, T, h0, h1, h2, h3, h4, h5, h6, h7⟩ := H
  refine (tget_any h3.ta (by omega) i hi).mono ?_
  rintro e z ⟨e1, d', e2, e3⟩
  refine ⟨?_, ⟨z0, _, T, h0, h1, h2, h3.call e2 e3, h4, h5, h6, h7⟩, e3⟩
  rw [e1, M.tgot_ok (h7.get hi), M.half_two]
theorem TS.put (H : TS E S L h R N w2 t b d F f true lb n x) (hn : n ≤ 300000) (hlb : lb ≤ 15) {i : Nat} (hi : i < E) (x1 x2 x3 : Int) (hx : M.emay1 x1 x2 x3 = true) : Calls Tryz.prog 12 #[.pointer (some ⟨t, 0, none⟩), .int .i64 (i : Nat), Ev x1 x2 x3] x fun e z => e = .returned (.int .i64 0) ∧ TS E S L h R N w2 t b d F (M.set1 f i ⟨x1, x2, x3⟩) true (lb + 1) (n + 1) z ∧ Kept (fun j => R j ∧ j ∉ F) x z := by
  obtain ⟨z0, s, T, h0, h1, h2, h3, h4, h5, h6, h7⟩ := H
  refine (tput_ok h3.ta (by omega) h4 (by omega) i hi x1 x2 x3 hx _ (h7.get hi)).mono ?_
  rintro e z ⟨e1, d', e2, e3⟩
  refine ⟨e1, ⟨z0, _, T, h0, h1, h2, h3.call e2 e3, h4, ?_, h6, ?_⟩, e3⟩
  · have := M.ins_le ((2 + i / 2 : Nat) : Int) (Value.string (M.ewhole (M.put2 (M.two f (i / 2)) (i % 2) ⟨x1, x2, x3⟩))) s.l
    show (M.ins _ _ _).length ≤ _
    omega
  · exact h7.put i (x := ⟨x1, x2, x3⟩) hx (fun j => M.now_ins { s with d := d' } T (2 + i / 2) _ j)
theorem TS.off (H : TS E S L h R N w2 t b d F f false lb n x) (hn : n ≤ 300000) {i : Nat} (hi : i < E) (x1 x2 x3 : Int) (hx : M.emay1 x1 x2 x3 = true) : Calls Tryz.prog 12 #[.pointer (some ⟨t, 0, none⟩), .int .i64 (i : Nat), Ev x1 x2 x3] x fun e z => e = .returned (.int .i64 10) ∧ TS E S L h R N w2 t b d F f false lb (n + 1) z ∧ Kept (fun j => R j ∧ j ∉ F) x z := by
  obtain ⟨z0, s, T, h0, h1, h2, h3, h4, h5, h6, h7⟩ := H
  refine (tput_off h3.ta (by omega) h4 i hi x1 x2 x3 hx _ (h7.get hi)).mono ?_
  rintro e z ⟨e1, d', e2, e3⟩
  exact ⟨e1, ⟨z0, _, T, h0, h1, h2, h3.call e2 e3, h4, h5, h6, h7⟩, e3⟩
/-- What may not be put. -/
theorem TS.refused (H : TS E S L h R N w2 t b d F f act lb n x) (i x1 x2 x3 : Int) (hx : i < 0 ∨ (E : Int) ≤ i ∨ ¬ M.emay1 x1 x2 x3 = true) : Calls Tryz.prog 12 #[.pointer (some ⟨t, 0, none⟩), .int .i64 i, Ev x1 x2 x3] x fun e z => e = .returned (.int .i64 3) ∧ TS E S L h R N w2 t b d F f act lb n z ∧ Kept (fun j => R j ∧ j ∉ F) x z := by
  have tb := H.tb
  have hC : Calls Tryz.prog 12 #[.pointer (some ⟨t, 0, none⟩), .int .i64 i, Ev x1 x2 x3] x fun e z => e = .returned (.int .i64 3) ∧ Below x.heap.size x z := by
    by_cases ho : i < 0 ∨ (E : Int) ≤ i
    · exact tput_out _ E S L i x1 x2 x3 t x tb (fun y => table15_out E S L i h ho y)
    · obtain ⟨j, rfl⟩ : ∃ j : Nat, i = j := ⟨i.toNat, by omega⟩
      exact tput_check _ E S L j h (by omega) x1 x2 x3 (hx.elim (fun e => absurd (Or.inl e) ho) (fun e => e.elim (fun e => absurd (Or.inr e) ho) id)) t x tb
  refine hC.mono ?_
  rintro e z ⟨e1, e2⟩
  exact ⟨e1, H.beside e2, Kept.of_below e2 _⟩
theorem TS.next (H : TS E S L h R N w2 t b d F f true lb n x) (hn : n ≤ 300000) (hlb : lb + 3 ≤ L) (hE : ErrT w2) (hN : 1 < N) : Calls Tryz.prog 14 #[.pointer (some ⟨b, 0, none⟩)] x fun e z => e = .returned (.bool true) ∧ TS E S L h R N w2 t b d F f true 0 (n + 1200) z ∧ Kept (fun j => R j ∧ j ∉ F) x z := by
  have hb := H.below
  obtain ⟨z0, s, T, h0, h1, h2, h3, h4, h5, h6, h7⟩ := H
  have hm : (M.geo E S L h).mn = L := rfl
  refine (wnext_any h3.ta.wa h3.ta.new (by omega) (hE.low hb hN) (fun e => by have := h0 _ e.1; omega) h4 (by rw [hm]; omega)).mono ?_
  rintro e z ⟨e1, s', e2, e3, e4, e5, e6⟩
  refine ⟨e1, ⟨z0, s', _, h0, h1, h2, h3.call ⟨e2, e6.newR h3.ta.new, e6.box h3.ta.tb h3.ta.nt, h3.ta.nt⟩ e6, e3, by rw [e4]; simp, e5.trans h6, ?_⟩, e6⟩
  rw [M.now_nil _ e4]
  exact h7
theorem TS.same (H : TS E S L h R N w2 t b d F f act lb n x) (hn : n ≤ 300000) {al : Nat} (hal : M.EntAt x al E f) (ha : ¬ (R al ∧ al ∉ F)) (cap : Nat) : Calls Tryz.prog 15 #[.pointer (some ⟨t, 0, none⟩), .slice (some ⟨al, 0, none⟩) E cap] x fun e z => e = .returned (.bool true) ∧ TS E S L h R N w2 t b d F f act lb (n + 60) z ∧ Kept (fun j => R j ∧ j ∉ F) x z := by
  obtain ⟨z0, s, T, h0, h1, h2, h3, h4, h5, h6, h7⟩ := H
  refine (same_yes h3.ta hn h7 hal ha cap).mono ?_
  rintro e z ⟨e1, d', e2, e3⟩
  exact ⟨e1, ⟨z0, _, T, h0, h1, h2, h3.call e2 e3, h4, h5, h6, h7⟩, e3⟩
end
end Go.Proofs.YtlihgaejkadonaaGreatDoor
namespace Go.Proofs.YtlihgaejkadonaaGreatDoor
open Go.RowKit Go.Maps

theorem M.lok18 : M.lokB (3 : Nat) (1 : Nat) (24 : Nat) = true := by decide
abbrev M.all18 : Nat → M.E1 := M.set1 (fun _ => M.no1) 1 ⟨4, 0, 2⟩
set_option maxHeartbeats 1000000 in
theorem works18_parts (w1 : World) (hE : Env10 w1) (hET : ErrT w1) : ∃ (W0 W1 : World → Nat → Prop) (W2 W3 W4 W5 : World → Nat → Nat → Prop) (W6 W7 : World → Nat → Nat → Nat → Prop),
    (Calls Tryz.prog 7 #[Cf 3 1 24] w1 fun e z => ∃ d b, e = .returned (.tuple #[.pointer (some ⟨d, 0, none⟩), .pointer (some ⟨b, 0, none⟩)]) ∧ W0 z b) ∧ (∀ x b, W0 x b → Below w1.heap.size w1 x) ∧
    (∀ x b, W0 x b → Calls Tryz.prog 8 #[.pointer (some ⟨b, 0, none⟩), Cf 3 1 24] x fun e z => ∃ t, e = .returned (.pointer (some ⟨t, 0, none⟩)) ∧ W1 z t) ∧
    (∀ x t, W1 x t → W2 (x.alloc (Ec 4 0 2)) t x.heap.size) ∧
    (∀ x t g, W2 x t g → Calls Tryz.prog 10 #[.pointer (some ⟨t, 0, none⟩)] x fun e z => e = .returned (.int .i64 0) ∧ W3 z t g) ∧
    (∀ x t g, W3 x t g → B3e x g 4 0 2) ∧
    (∀ x t g, W3 x t g → Calls Tryz.prog 12 #[.pointer (some ⟨t, 0, none⟩), .int .i64 1, Ev 4 0 2] x fun e z => e = .returned (.int .i64 0) ∧ W4 z t g) ∧
    (∀ x t g, W4 x t g → Calls Tryz.prog 11 #[.pointer (some ⟨t, 0, none⟩), .int .i64 1] x fun e z => e = .returned (.tuple #[Ev 4 0 2, .int .i64 0]) ∧ W5 z t g) ∧
    (∀ x t g, W5 x t g → W6 (x.alloc (Ec 4 0 2)) t g x.heap.size) ∧
    (∀ x t g k, W6 x t g k → Calls Tryz.prog 11 #[.pointer (some ⟨t, 0, none⟩), .int .i64 2] x fun e z => e = .returned (.tuple #[Ev 0 0 (-1), .int .i64 0]) ∧ W7 z t g k) ∧
    (∀ x t g k, W7 x t g k → B3e (x.alloc (Ec 0 0 (-1))) g 4 0 2 ∧ B3e (x.alloc (Ec 0 0 (-1))) k 4 0 2 ∧ Below w1.heap.size w1 (x.alloc (Ec 0 0 (-1)))) := by
  have h := M.lok18
  refine ⟨fun x b => ∃ d s, OW (M.geo 3 1 24 h) w1.heap.size w1 x b s (fun _ => M.zeros 64) 6000 ∧ s.act = true ∧ s.l = [] ∧ s.dk = d,
    fun x t => ∃ b d, TZ 3 1 24 h (M.Rt w1.heap.size t) w1.heap.size w1 t b d [] 6000 x,
    fun x t g => ∃ b d, TZ 3 1 24 h (M.Rt w1.heap.size t) w1.heap.size w1 t b d [g] 6000 x ∧ B3e x g 4 0 2,
    fun x t g => ∃ b d, TS 3 1 24 h (M.Rt w1.heap.size t) w1.heap.size w1 t b d [g] (fun _ => M.no1) true 12 6012 x ∧ B3e x g 4 0 2,
    fun x t g => ∃ b d, TS 3 1 24 h (M.Rt w1.heap.size t) w1.heap.size w1 t b d [g] M.all18 true 13 6013 x ∧ B3e x g 4 0 2,
    fun x t g => ∃ b d, TS 3 1 24 h (M.Rt w1.heap.size t) w1.heap.size w1 t b d [g] M.all18 true 13 6014 x ∧ B3e x g 4 0 2,
    fun x t g k => ∃ b d, TS 3 1 24 h (M.Rt w1.heap.size t) w1.heap.size w1 t b d [k, g] M.all18 true 13 6014 x ∧ B3e x g 4 0 2 ∧ B3e x k 4 0 2,
    fun x t g k => ∃ b d, TS 3 1 24 h (M.Rt w1.heap.size t) w1.heap.size w1 t b d [k, g] M.all18 true 13 6015 x ∧ B3e x g 4 0 2 ∧ B3e x k 4 0 2, ?_, ?_, ?_, ?_, ?_, ?_, ?_, ?_, ?_, ?_, ?_⟩
  · refine (begun16_ok 3 1 24 h w1 hE hET).mono ?_
    rintro e z ⟨d, b, s, e1, e2, e3, e4, e5, e6⟩
    exact ⟨d, b, e1, d, s, e2, e3, e4, e6⟩
  · rintro x b ⟨d, s, h1, -⟩
    exact h1.below
  · rintro x b ⟨d, s, h1, h2, h3, h4⟩
    refine (tnew_any (some ⟨b, 0, none⟩) 3 1 24 x).mono ?_
    rintro e z ⟨t, e1, e2, e3, e4⟩
    exact ⟨t, e1, b, d, TZ.start h1 h2 h3 h4 e2 e3 e4⟩
  · rintro x t ⟨b, d, h1⟩
    exact ⟨b, d, h1.own (ib1 x _) (fun j e => Or.inr (by obtain rfl : j = x.heap.size := (by simpa using e); rw [World.size_alloc]; omega)), B3e.new x 4 0 2⟩
  · rintro x t g ⟨b, d, h1, h2⟩
    refine (h1.format (by omega)).mono ?_
    rintro e z ⟨e1, e2, e3⟩
    exact ⟨e1, b, d, e2, e3.box h2 (fun e => e.2 (List.mem_cons_self ..))⟩
  · rintro x t g ⟨b, d, h1, h2⟩
    exact h2
  · rintro x t g ⟨b, d, h1, h2⟩
    refine (h1.put (by omega) (by omega) (i := 1) (by omega) 4 0 2 (by decide)).mono ?_
    rintro e z ⟨e1, e2, e3⟩
    exact ⟨e1, b, d, e2, e3.box h2 (fun e => e.2 (List.mem_cons_self ..))⟩
  · rintro x t g ⟨b, d, h1, h2⟩
    refine (h1.get (by omega) (i := 1) (by omega)).mono ?_
    rintro e z ⟨e1, e2, e3⟩
    exact ⟨e1, b, d, e2, e3.box h2 (fun e => e.2 (List.mem_cons_self ..))⟩
  · rintro x t g ⟨b, d, h1, h2⟩
    refine ⟨b, d, h1.own (ib1 x _) (fun j e => ?_), h2.below (ib1 x _) h2.lt, B3e.new x 4 0 2⟩
    rcases List.mem_cons.1 e with e | e
    · exact Or.inr (by rw [World.size_alloc]; omega)
    · exact Or.inl e
  · rintro x t g k ⟨b, d, h1, h2, h3⟩
    refine (h1.get (by omega) (i := 2) (by omega)).mono ?_
    rintro e z ⟨e1, e2, e3⟩
    exact ⟨e1, b, d, e2, e3.box h2 (fun e => e.2 (by simp)), e3.box h3 (fun e => e.2 (by simp))⟩
  · rintro x t g k ⟨b, d, h1, h2, h3⟩
    exact ⟨h2.below (ib1 x _) h2.lt, h3.below (ib1 x _) h3.lt, h1.below.trans ((ib1 x _).mono h1.below.size)⟩

set_option maxHeartbeats 4000000 in
theorem works18_any (w : World) (hE : Env10 w) (hET : ErrT w) : Calls Tryz.prog 5 #[] w fun e z => e = .returned (.bool true) ∧ Below w.heap.size w z := by
  have HB0 := ib1 w (.cells #[.int .i64 3, .int .i64 1, .int .i64 24] 23)
  obtain ⟨W0, W1, W2, W3, W4, W5, W6, W7, p1, p2, p3, p4, p5, p6, p7, p8, p9, p10, p11⟩ := works18_parts (w.alloc (.cells #[.int .i64 3, .int .i64 1, .int .i64 24] 23)) (hE.below HB0) (hET.low HB0 hET.lt)
  have P1 := Lib.hid p1
  have P3 := Lib.hid p3
  have P4 := Lib.hid p4
  have P5 := Lib.hid p5
  have P6 := Lib.hid p6
  have P7 := Lib.hid p7
  have P8 := Lib.hid p8
  have P9 := Lib.hid p9
  have P10 := Lib.hid p10
  have HC : Hid (∀ x b, W0 x b → Box x w.heap.size 23 #[.int .i64 3, .int .i64 1, .int .i64 24]) := fun x b hw => Box.below (Box.new _ _ _) (p2 x b hw) (by rw [World.size_alloc]; omega)
  have P11 : Hid (∀ x t g k, W7 x t g k → B3e (x.alloc (Ec 0 0 (-1))) g 4 0 2 ∧ B3e (x.alloc (Ec 0 0 (-1))) k 4 0 2 ∧ Below w.heap.size w (x.alloc (Ec 0 0 (-1)))) := fun x t g k hw => ⟨(p11 x t g k hw).1, (p11 x t g k hw).2.1, HB0.trans ((p11 x t g k hw).2.2.mono HB0.size)⟩
  have hq1 : ∀ W : World, (Op.equalIn 10000 41 (Ev 4 0 2) (Ev 4 0 2)).run Tryz.prog W = .ok true W := fun W => eqEntry17 9997 4 0 2 W
  have hq2 : ∀ W : World, (Op.equalIn 10000 41 (Ev 0 0 (-1)) (Ev 0 0 (-1))).run Tryz.prog W = .ok true W := fun W => eqEntry17 9997 0 0 (-1) W
  clear p1 p2 p3 p4 p5 p6 p7 p8 p9 p10 p11 hE hET HB0
  go_enter Tryz.func5, Tryz.ntmps5
  go_wp2_with fail
  refine P1.out.mono ?_
  rintro e w1 ⟨d, b, rfl, h1⟩
  have G1 := Lib.hid h1
  clear h1 P1
  have HX := Lib.hid (HC.out _ _ G1.out)
  have c0 := (HX.out.cell 0).trans (rfl : _ = some (Value.int .i64 3))
  have c1 := (HX.out.cell 1).trans (rfl : _ = some (Value.int .i64 1))
  have c2 := (HX.out.cell 2).trans (rfl : _ = some (Value.int .i64 24))
  go_wp2_with fail
  refine (P3.out _ _ G1.out).mono ?_
  rintro e w2 ⟨t, rfl, h2⟩
  have G2 := Lib.hid (P4.out _ _ h2)
  clear h2 P3 G1 c0 c1 c2 HX P4 HC
  go_wp2_with fail
  obtain ⟨g, hg⟩ : ∃ g, g = w2.heap.size := ⟨_, rfl⟩
  rw [← hg] at G2 ⊢
  refine (P5.out _ _ _ G2.out).mono ?_
  rintro e w3 ⟨rfl, h3⟩
  have G3 := Lib.hid h3
  clear h3 P5 G2 hg
  obtain ⟨c0, c1, c2⟩ := B3e.cells (P6.out _ _ _ G3.out)
  go_wp2_with fail
  refine (P7.out _ _ _ G3.out).mono ?_
  rintro e w4 ⟨rfl, h4⟩
  have G4 := Lib.hid h4
  clear h4 P7 P6 G3 c0 c1 c2
  go_wp2_with fail
  refine (P8.out _ _ _ G4.out).mono ?_
  rintro e w5 ⟨rfl, h5⟩
  have G5 := Lib.hid (P9.out _ _ _ h5)
  clear h5 P8 G4 P9
  go_wp2_with fail
  obtain ⟨k, hk⟩ : ∃ k, k = w5.heap.size := ⟨_, rfl⟩
  rw [← hk] at G5 ⊢
  refine (P10.out _ _ _ _ G5.out).mono ?_
  rintro e w6 ⟨rfl, h6⟩
  have G6 := Lib.hid (P11.out _ _ _ _ h6)
  clear h6 P10 G5 P11 hk
  obtain ⟨c0, c1, c2⟩ := B3e.cells G6.out.1
  obtain ⟨d0, d1, d2⟩ := B3e.cells G6.out.2.1
  have K6 := Lib.hid (B3e.new w6 0 0 (-1))
  obtain ⟨f0, f1, f2⟩ := B3e.cells K6.out
  go_wp2_with fail
  go_ret
  exact ⟨rfl, G6.out.2.2⟩
end Go.Proofs.YtlihgaejkadonaaGreatDoor
