/-
  Walks over scan.run, with the callback of told. A walk over scan.run, with the callback of told. Walks over scan.run, Each, End and told where the place is none of the log's; over End's callback.
-/
import Derived.Test.YtigmcnnplnfakaaGreatDoorMI
import Derived.Test.YtigmcnnplnfakaaGreatDoorMH
namespace Go.Proofs.YtigmcnnplnfakaaGreatDoor
open Go.RowKit

theorem new3_kept (w : World) (o : Obj) (u0 u1 u2 : Value) : Kept (fun _ => False) w ((((w.alloc o).setCell ⟨w.heap.size, 0, none⟩ u0).setCell ⟨w.heap.size, 1, none⟩ u1).setCell ⟨w.heap.size, 2, none⟩ u2) :=
  ((((Kept.refl (fun _ => False) w).alloc o).set (fun h => absurd h (Nat.lt_irrefl _)) 0 u0).set (fun h => absurd h (Nat.lt_irrefl _)) 1 u1).set (fun h => absurd h (Nat.lt_irrefl _)) 2 u2
def usedOf (sb : Nat) (w : World) : Nat := match w.cell? ⟨sb, 3, none⟩ with
  | some (.int _ v) => v.toNat
  | _ => 0
theorem usedOf_sc {sb rb p u : Nat} {q : Int} {fv : Value} {w : World} (h : Sc w sb rb p q u fv) : usedOf sb w = u := by
  unfold usedOf
  rw [h.cells.2.2.2.1]
  rfl

/-- The midst of run. -/
structure RunAt (w y : World) (sb rb a fr mn p0 : Nat) (q0 : Int) (fv : Value) (P Y : Nat → Prop) (I : World → List M.Rec → Prop) (d : M.D) (u : Nat) (l : List M.Rec) : Prop where
  disk : Disk y a P d
  reg : Reg y rb a fr mn
  sc : Sc y sb rb ((p0 + u) % mn) (q0 + (l.length : Nat)) u fv
  inv : I y l
  kept : Kept (fun k => P k ∨ k = sb ∨ Y k) w y
/-- What run is given. -/
structure RunOf (w : World) (sb rb a mn : Nat) (P Y : Nat → Prop) (I : World → List M.Rec → Prop) : Prop where
  rP : ¬ P rb
  sP : ¬ P sb
  rs : rb ≠ sb
  sl : sb < w.heap.size
  low : ∀ k, P k → k < w.heap.size
  Y : ∀ k, Y k → ¬ P k ∧ k ≠ sb ∧ k ≠ rb
  I : ∀ y z l, I y l → Kept (fun k => P k ∨ k = sb) y z → w.heap.size ≤ y.heap.size → I z l
section
variable {w y z : World} {sb rb a fr mn p0 : Nat} {q0 : Int} {fv : Value} {P Y : Nat → Prop} {I : World → List M.Rec → Prop} {d d' : M.D} {u : Nat} {l : List M.Rec}
theorem RunAt.none_ (h : RunAt w y sb rb a fr mn p0 q0 fv P Y I d u l) (o : RunOf w sb rb a mn P Y I) (hd : Disk z a P d') (hk : Kept P y z) : RunAt w z sb rb a fr mn p0 q0 fv P Y I d' u l :=
  ⟨hd, h.reg.kept hk o.rP, hk.box h.sc o.sP, o.I y z l h.inv (hk.mono (fun _ _ e => Or.inl e)) h.kept.size, h.kept.trans (hk.mono (fun _ _ e => Or.inl e))⟩
theorem RunAt.drew (h : RunAt w y sb rb a fr mn p0 q0 fv P Y I d u l) (o : RunOf w sb rb a mn P Y I) : RunAt w y.drew sb rb a fr mn p0 q0 fv P Y I d u l :=
  h.none_ o (h.disk.drewN 1) ((Kept.refl P y).drew)
theorem RunAt.alloc (h : RunAt w y sb rb a fr mn p0 q0 fv P Y I d u l) (o : RunOf w sb rb a mn P Y I) (ob : Obj) : RunAt w (y.alloc ob) sb rb a fr mn p0 q0 fv P Y I d u l :=
  h.none_ o (h.disk.kept ((Kept.refl (fun _ => False) y).alloc ob) (fun _ _ => id)) ((Kept.refl P y).alloc ob)
/-- The scan's cells are turned. -/
theorem RunAt.turn (h : RunAt w y sb rb a fr mn p0 q0 fv P Y I d u l) (o : RunOf w sb rb a mn P Y I) (hk : Kept (fun k => k = sb) y z) : Disk z a P d ∧ Reg z rb a fr mn ∧ Kept (fun k => P k ∨ k = sb ∨ Y k) w z :=
  ⟨h.disk.kept hk (fun _ e e' => o.sP (e' ▸ e)), h.reg.kept hk o.rs, h.kept.trans (hk.mono (fun _ _ e => Or.inr (Or.inl e)))⟩
theorem Sc.set1 {y : World} {sb rb p p' : Nat} {q : Int} {u : Nat} {fv : Value} (h : Sc y sb rb p q u fv) : Sc (y.setCell ⟨sb, 1, none⟩ (.int .i64 (p' : Nat))).drew sb rb p' q u fv := Box.set (show Box y sb _ _ from h) 1 _
theorem Sc.set23 {y : World} {sb rb p : Nat} {q q' : Int} {u u' : Nat} {fv : Value} (h : Sc y sb rb p q u fv) : Sc ((y.setCell ⟨sb, 2, none⟩ (.int .i64 q')).setCell ⟨sb, 3, none⟩ (.int .i64 (u' : Nat))) sb rb p q' u' fv := Box.set (Box.set (show Box y sb _ _ from h) 2 _) 3 _
theorem set1_kept (y : World) (sb : Nat) (v : Value) : Kept (fun k => k = sb) y (y.setCell ⟨sb, 1, none⟩ v).drew := ((Kept.refl (fun k => k = sb) y).set (fun _ => rfl) 1 v).drew
theorem set23_kept (y : World) (sb : Nat) (v v' : Value) : Kept (fun k => k = sb) y ((y.setCell ⟨sb, 2, none⟩ v).setCell ⟨sb, 3, none⟩ v') := ((Kept.refl (fun k => k = sb) y).set (fun _ => rfl) 2 v).set (fun _ => rfl) 3 v'
theorem RunAt.new3 (h : RunAt w y sb rb a fr mn p0 q0 fv P Y I d u l) (o : RunOf w sb rb a mn P Y I) (ob : Obj) (u0 u1 u2 : Value) : RunAt w ((((y.alloc ob).setCell ⟨y.heap.size, 0, none⟩ u0).setCell ⟨y.heap.size, 1, none⟩ u1).setCell ⟨y.heap.size, 2, none⟩ u2) sb rb a fr mn p0 q0 fv P Y I d u l :=
  h.none_ o (h.disk.kept (new3_kept y ob u0 u1 u2) (fun _ _ => id)) ((new3_kept y ob u0 u1 u2).mono (fun _ _ e => e.elim))
end
end Go.Proofs.YtigmcnnplnfakaaGreatDoor
namespace Go.Proofs.YtigmcnnplnfakaaGreatDoor
open Go.RowKit

end Go.Proofs.YtigmcnnplnfakaaGreatDoor
namespace Go.Proofs.YtigmcnnplnfakaaGreatDoor
open Go.RowKit

theorem run_no (p q : Int) (fv rv : Value) (w : World) (sb : Nat) (E : Int) (hE : E ≠ 0) (hsc : Box w sb 150 #[rv, .int .i64 p, .int .i64 q, .int .i64 0, fv])
    (hC : ∀ n, Calls Tryz.prog 143 #[rv, .int .i64 p] (w.drewN n) fun e w' => e = .returned (.tuple #[.int .i64 0, .int .i64 E]) ∧ w' = w.drewN n) :
    Calls Tryz.prog 111 #[.pointer (some ⟨sb, 0, none⟩)] w fun e w' => e = .returned (.int .i64 E) ∧ w' = w.drew := by
  have c0 : w.cell? ⟨sb, 0, none⟩ = some rv := by simpa using hsc.cell 0
  have c1 : w.cell? ⟨sb, 1, none⟩ = some (.int .i64 p) := by simpa using hsc.cell 1
  have HC := Lib.hid (hC 1)
  have hE1 : (E == 0) = false := by rw [beq_eq_false_iff_ne]; exact hE
  clear hsc hC
  go_enter Tryz.func111, Tryz.ntmps111
  go_wp2_with fail
  go_region_held3 (fun y => y.cell? ⟨sb, 0, none⟩ = some rv ∧ y.cell? ⟨sb, 1, none⟩ = some (.int .i64 p)) (first | exact ⟨c0, c1⟩) (first
    | (go_at_call 143
       refine HC.out.mono ?_
       rintro e w2 ⟨rfl, rfl⟩))
  go_wp2_with fail
  go_ret
  exact ⟨rfl, rfl⟩

theorem M.scan_most {σ : Type} {X : M.Rdr σ} {fr mn p0 : Nat} {q0 : Int} {m1 m2 : Nat} (h1 : mn < m1) (h2 : mn < m2) (k : Nat) (d : σ) (u : Nat) (l : List M.Rec) (hl : 2 * l.length ≤ u) (hu : u ≤ mn) : M.scan X fr mn p0 q0 m1 k d u l = M.scan X fr mn p0 q0 m2 k d u l := by
  induction k generalizing d u l with
  | zero => rfl
  | succ k ih =>
    have hn := M.next_n (X := X) (fr := fr) (mn := mn) (d := d) (p := (p0 + u) % mn) (q := q0 + (l.length : Nat)) (left := mn - u)
    rw [M.scan, M.scan]
    unfold M.scanE
    by_cases h : (M.next X fr mn d ((p0 + u) % mn) (q0 + (l.length : Nat)) (mn - u)).1 ≠ 0 ∨ (M.next X fr mn d ((p0 + u) % mn) (q0 + (l.length : Nat)) (mn - u)).2.1 = 0
    · rw [if_pos h, if_pos h]
    · obtain ⟨_, n2, n3, _⟩ := hn (fun e => h (Or.inr e))
      rw [if_neg h, if_neg h, if_pos (by omega), if_pos (by omega)]
      exact ih _ _ _ (by simp; omega) (by omega)
end Go.Proofs.YtigmcnnplnfakaaGreatDoor
