/-
  Walks over scan.run, with the callback of told.
-/
import Derived.Test.YtmgchfjfkdkaoaaGreatDoorMI
namespace Go.Proofs.YtmgchfjfkdkaoaaGreatDoor
open Go.RowKit

theorem new3_kept (w : World) (o : Obj) (u0 u1 u2 : Value) : Kept (fun _ => False) w ((((w.alloc o).setCell ⟨w.heap.size, 0, none⟩ u0).setCell ⟨w.heap.size, 1, none⟩ u1).setCell ⟨w.heap.size, 2, none⟩ u2) :=
  ((((Kept.refl (fun _ => False) w).alloc o).set (fun h => absurd h (Nat.lt_irrefl _)) 0 u0).set (fun h => absurd h (Nat.lt_irrefl _)) 1 u1).set (fun h => absurd h (Nat.lt_irrefl _)) 2 u2
def usedOf (sb : Nat) (w : World) : Nat := match w.cell? ⟨sb, 3, none⟩ with
  | some (.int _ v) => v.toNat
  | _ => 0
theorem usedOf_sc {sb rb p u : Nat} {q : Int} {fv : Value} {w : World} (h : Sc w sb rb p q u fv) : usedOf sb w = u := by
  unfold usedOf
  rw [h.cells.2.2.2.1]
  rfl

/-- The midst of run. -/
structure RunAt (w y : World) (sb rb a fr mn p0 : Nat) (q0 : Int) (fv : Value) (P Y : Nat → Prop) (I : World → List M.Rec → Prop) (d : M.D) (u : Nat) (l : List M.Rec) : Prop where
  disk : Disk y a P d
  reg : Reg y rb a fr mn
  sc : Sc y sb rb ((p0 + u) % mn) (q0 + (l.length : Nat)) u fv
  inv : I y l
  kept : Kept (fun k => P k ∨ k = sb ∨ Y k) w y
/-- What run is given. -/
structure RunOf (w : World) (sb rb a mn : Nat) (P Y : Nat → Prop) (I : World → List M.Rec → Prop) : Prop where
  rP : ¬ P rb
  sP : ¬ P sb
  rs : rb ≠ sb
  sl : sb < w.heap.size
  low : ∀ k, P k → k < w.heap.size
  Y : ∀ k, Y k → ¬ P k ∧ k ≠ sb ∧ k ≠ rb
  I : ∀ y z l, I y l → Kept (fun k => P k ∨ k = sb) y z → w.heap.size ≤ y.heap.size → I z l
section
variable {w y z : World} {sb rb a fr mn p0 : Nat} {q0 : Int} {fv : Value} {P Y : Nat → Prop} {I : World → List M.Rec → Prop} {d d' : M.D} {u : Nat} {l : List M.Rec}
theorem RunAt.none_ (h : RunAt w y sb rb a fr mn p0 q0 fv P Y I d u l) (o : RunOf w sb rb a mn P Y I) (hd : Disk z a P d') (hk : Kept P y z) : RunAt w z sb rb a fr mn p0 q0 fv P Y I d' u l :=
  ⟨hd, h.reg.kept hk o.rP, hk.box h.sc o.sP, o.I y z l h.inv (hk.mono (fun _ _ e => Or.inl e)) h.kept.size, h.kept.trans (hk.mono (fun _ _ e => Or.inl e))⟩
theorem RunAt.drew (h : RunAt w y sb rb a fr mn p0 q0 fv P Y I d u l) (o : RunOf w sb rb a mn P Y I) : RunAt w y.drew sb rb a fr mn p0 q0 fv P Y I d u l :=
  h.none_ o (h.disk.drewN 1) ((Kept.refl P y).drew)
theorem RunAt.alloc (h : RunAt w y sb rb a fr mn p0 q0 fv P Y I d u l) (o : RunOf w sb rb a mn P Y I) (ob : Obj) : RunAt w (y.alloc ob) sb rb a fr mn p0 q0 fv P Y I d u l :=
  h.none_ o (h.disk.kept ((Kept.refl (fun _ => False) y).alloc ob) (fun _ _ => id)) ((Kept.refl P y).alloc ob)
/-- The scan's cells are turned. -/
theorem RunAt.turn (h : RunAt w y sb rb a fr mn p0 q0 fv P Y I d u l) (o : RunOf w sb rb a mn P Y I) (hk : Kept (fun k => k = sb) y z) : Disk z a P d ∧ Reg z rb a fr mn ∧ Kept (fun k => P k ∨ k = sb ∨ Y k) w z :=
  ⟨h.disk.kept hk (fun _ e e' => o.sP (e' ▸ e)), h.reg.kept hk o.rs, h.kept.trans (hk.mono (fun _ _ e => Or.inr (Or.inl e)))⟩
theorem Sc.set1 {y : World} {sb rb p p' : Nat} {q : Int} {u : Nat} {fv : Value} (h : Sc y sb rb p q u fv) : Sc (y.setCell ⟨sb, 1, none⟩ (.int .i64 (p' : Nat))).drew sb rb p' q u fv := Box.set (show Box y sb _ _ from h) 1 _
theorem Sc.set23 {y : World} {sb rb p : Nat} {q q' : Int} {u u' : Nat} {fv : Value} (h : Sc y sb rb p q u fv) : Sc ((y.setCell ⟨sb, 2, none⟩ (.int .i64 q')).setCell ⟨sb, 3, none⟩ (.int .i64 (u' : Nat))) sb rb p q' u' fv := Box.set (Box.set (show Box y sb _ _ from h) 2 _) 3 _
theorem set1_kept (y : World) (sb : Nat) (v : Value) : Kept (fun k => k = sb) y (y.setCell ⟨sb, 1, none⟩ v).drew := ((Kept.refl (fun k => k = sb) y).set (fun _ => rfl) 1 v).drew
theorem set23_kept (y : World) (sb : Nat) (v v' : Value) : Kept (fun k => k = sb) y ((y.setCell ⟨sb, 2, none⟩ v).setCell ⟨sb, 3, none⟩ v') := ((Kept.refl (fun k => k = sb) y).set (fun _ => rfl) 2 v).set (fun _ => rfl) 3 v'
theorem RunAt.new3 (h : RunAt w y sb rb a fr mn p0 q0 fv P Y I d u l) (o : RunOf w sb rb a mn P Y I) (ob : Obj) (u0 u1 u2 : Value) : RunAt w ((((y.alloc ob).setCell ⟨y.heap.size, 0, none⟩ u0).setCell ⟨y.heap.size, 1, none⟩ u1).setCell ⟨y.heap.size, 2, none⟩ u2) sb rb a fr mn p0 q0 fv P Y I d u l :=
  h.none_ o (h.disk.kept (new3_kept y ob u0 u1 u2) (fun _ _ => id)) ((new3_kept y ob u0 u1 u2).mono (fun _ _ e => e.elim))
end
end Go.Proofs.YtmgchfjfkdkaoaaGreatDoor
