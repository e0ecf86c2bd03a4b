/-
  Walks over loghead.may, Put, solderref10.May, Put, solderlaw10.own.
-/
import Derived.Test.YtoljggleekbbbaaJMath
import Derived.Test.YtoljggleekbbbaaCTail
namespace Go.Proofs.Ytoljggleekbbbaa
open Go.RowKit

/-- A head by value. -/
def M.Hd.v (h : M.Hd) : Value := .agg #[.int .i64 h.g, .int .i64 h.q, .int .i64 h.a]
def M.Hd.ok (h : M.Hd) : Prop := (-9223372036854775808 ≤ h.g ∧ h.g ≤ 9223372036854775807) ∧ (-9223372036854775808 ≤ h.q ∧ h.q ≤ 9223372036854775807) ∧ (-9223372036854775808 ≤ h.a ∧ h.a ≤ 9223372036854775807)
theorem below1 (w : World) (o1 : Obj) : Below w.heap.size w (w.alloc o1) := (Below.refl w.heap.size w).alloc (Nat.le_refl _) o1
theorem below2a (w : World) (o1 o2 : Obj) : Below w.heap.size w ((w.alloc o1).alloc o2) := (below1 w o1).alloc (by simp) o2

theorem M.hmay_flat (g q a : Int) : M.hmay ⟨g, q, a⟩ = (decide (0 ≤ g) && (decide (g < 281474976710656) && (decide (0 ≤ q) && (decide (q < 281474976710656) && (decide (0 ≤ a) && decide (a ≤ 200)))))) := by
  rw [Bool.eq_iff_iff, M.hmay_iff]
  simp only [Bool.and_eq_true, decide_eq_true_eq]
  omega
theorem M.six_cases (b1 b2 b3 b4 b5 b6 : Bool) : b1 = false ∨ (b1 = true ∧ b2 = false) ∨ (b1 = true ∧ b2 = true ∧ b3 = false) ∨ (b1 = true ∧ b2 = true ∧ b3 = true ∧ b4 = false) ∨ (b1 = true ∧ b2 = true ∧ b3 = true ∧ b4 = true ∧ b5 = false) ∨ (b1 = true ∧ b2 = true ∧ b3 = true ∧ b4 = true ∧ b5 = true ∧ b6 = false) ∨ (b1 = true ∧ b2 = true ∧ b3 = true ∧ b4 = true ∧ b5 = true ∧ b6 = true) := by
  cases b1 <;> cases b2 <;> cases b3 <;> cases b4 <;> cases b5 <;> cases b6 <;> simp
/-- Three numbers in a box. -/
def B3 (y : World) (b : Nat) (t : TypeId) (g q a : Int) : Prop := Box y b t #[.int .i64 g, .int .i64 q, .int .i64 a]
theorem B3.cells {y : World} {b : Nat} {t : TypeId} {g q a : Int} (h : B3 y b t g q a) : y.cell? ⟨b, 0, none⟩ = some (.int .i64 g) ∧ y.cell? ⟨b, 1, none⟩ = some (.int .i64 q) ∧ y.cell? ⟨b, 2, none⟩ = some (.int .i64 a) :=
  ⟨Box.cell h 0, Box.cell h 1, Box.cell h 2⟩
theorem B3.frozen {y : World} {b : Nat} {t : TypeId} {g q a : Int} (h : B3 y b t g q a) : y.frozen? ⟨b, 0, none⟩ = false ∧ y.frozen? ⟨b, 1, none⟩ = false ∧ y.frozen? ⟨b, 2, none⟩ = false :=
  ⟨Box.frozen h 0, Box.frozen h 1, Box.frozen h 2⟩
theorem B3.new (y : World) (t : TypeId) (g q a : Int) : B3 (y.alloc (.cells #[.int .i64 g, .int .i64 q, .int .i64 a] t)) y.heap.size t g q a := Box.new _ _ _
theorem B3.lt {y : World} {b : Nat} {t : TypeId} {g q a : Int} (h : B3 y b t g q a) : b < y.heap.size := Box.lt h
theorem B3.below {y z : World} {b B : Nat} {t : TypeId} {g q a : Int} (h : B3 y b t g q a) (hb : Below B y z) (hB : b < B) : B3 z b t g q a := Box.below h hb hB

/-- What Put answers. -/
def M.hput (h : M.Hd) : Value := if M.hmay h = true then .tuple #[.string (M.hwhole h), .int .i64 0] else .tuple #[.string ⟨#[]⟩, .int .i64 3]

theorem tail10 (s : ByteArray) (w : World) (hs : s.size ≤ 100000) : Calls Try.prog 16 #[.string s] w fun e w' => e = .returned (.string (M.tail s)) ∧ Below w.heap.size w w' := tail_any s w (by omega)
theorem rtail10 (s : ByteArray) (w : World) (hs : s.size ≤ 100000) : Calls Try.prog 20 #[.string s] w fun e w' => e = .returned (.string (M.tail s)) ∧ Below w.heap.size w w' := rtail_any s w (by omega)

/-- The four texts that Put comes by. -/
theorem M.hparts (h : M.Hd) (hm : M.hmay h = true) : ∃ s1 s2 : ByteArray, M.putS ⟨#[76]⟩ h.g 6 = s1 ∧ M.putS s1 h.q 6 = s2 ∧ M.putS s2 h.a 2 = M.hfront h ∧ s1.size ≤ 100 ∧ s2.size ≤ 100 := by
  obtain ⟨h1, h2, h3⟩ := (M.hmay_iff h).1 hm
  refine ⟨_, _, rfl, rfl, M.hputs h hm, ?_, ?_⟩
  · rw [M.putS_yes ((M.fits6 _).2 h1), ByteArray.size_append, M.bytes_size, M.L_size]; decide
  · rw [M.putS_yes ((M.fits6 _).2 h1), M.putS_yes ((M.fits6 _).2 h2), ByteArray.size_append, ByteArray.size_append, M.bytes_size, M.bytes_size, M.L_size]; decide

end Go.Proofs.Ytoljggleekbbbaa
