/-
  BRead
-/
import Derived.Test.YtmljgogdgmeceaaGreatDoorQPJ
import Derived.Test.YtmljgogdgmeceaaGreatDoorQME
import Derived.Test.YtmljgogdgmeceaaGreatDoorQNG
namespace Go.Proofs.YtmljgogdgmeceaaGreatDoor
open Go.RowKit
section
variable {w : World} {b fr mn : Nat} {P : Nat → Prop} {s : M.Wl}
theorem read14_disk (h:Wal w b P fr mn s) (i:Int) (hw:(Lit.int .i64 i).wf=true) (hg:M.get13 i s.l s.k=none) (ho:s.d.ops≤1000000000) :
    Calls Tryz.prog 50 #[.pointer (some ⟨b,0,none⟩),.int .i64 i] w fun e w'=>e=.returned (.tuple #[.string (M.readS s.d i),.int .i64 (M.readE s.d i)])∧Wal w' b (fun j=>P j∨w.heap.size≤j) fr mn { s with d:=M.beginD s.d }∧Kept P w w':=by
  obtain ⟨a,ra,rr,sb,PD,PS,h,h1,h2,h3,h4,h5⟩:=h
  have c10:=h.c10
  have c0:=h.c0
  have C1:=Lib.hid (Q.get13_any w h.sh i hw)
  rw [hg] at C1
  have C2:=Lib.hid (read_any i w h.disk (by omega))
  have HF:Hid (∀ y,Disk y a PD (M.beginD s.d)→Kept PD w y→Wal y b (fun j=>P j∨w.heap.size≤j) fr mn { s with d:=M.beginD s.d }∧Kept P w y):=by
    intro y hd hk
    exact ⟨(h.disk' (hd.mono (fun _ _ e=>Or.inl e)) hk).out h (fun j e=>e.1) (fun _ e=>Or.inl e) h1 h2 h3 h4 h5,hk.mono (fun j _ e=>h4 j e)⟩
  obtain ⟨rs,hrs⟩:∃ x,x=M.readS s.d i:=⟨_,rfl⟩
  obtain ⟨re,hre⟩:∃ x,x=M.readE s.d i:=⟨_,rfl⟩
  rw [←hrs,←hre] at C2 ⊢
  clear h hw hg ho h1 h2 h3 h4 h5 hrs hre
  go_enter Tryz.func50,Tryz.ntmps50
  go_wp2_with fail
  refine C1.out.mono ?_
  rintro e w1 ⟨rfl,rfl⟩
  go_wp2_with fail
  refine C2.out.mono ?_
  rintro e w2 ⟨rfl,hd,hk⟩
  have HR:=Lib.hid (HF.out w2 hd hk)
  clear hd hk HF C1
  go_wp2_with fail
  go_returns
  exact ⟨rfl,HR.out⟩
end
end Go.Proofs.YtmljgogdgmeceaaGreatDoor
