/-
  OLaw TSml ODoes
-/
import Derived.Test.YtmljgogdgmeceaaGreatDoorQOD
import Derived.Test.YtmljgogdgmeceaaGreatDoorQKA
import Derived.Test.YtmljgogdgmeceaaGreatDoorQIA
import Derived.Test.YtmljgogdgmeceaaGreatDoorQTB
import Derived.StillTailTactics
import Derived.Deep.RegionHeld3
import Derived.BigQuiet
namespace Go.Proofs.YtmljgogdgmeceaaGreatDoor
open Go.RowKit Go.Maps
section
variable {E S L : Nat} {h : M.lokB E S L = true} {N b d rb p lb n i : Nat} {w2 x z : World} {f g : Nat → Bool}
def LJ (E S L:Nat) (h:M.lokB E S L=true) (N:Nat) (w2:World) (d b rb:Nat) (f g:Nat→Bool) (lb n:Nat) (x:World):Prop :=
  ∃ (F:List Nat) (rg rc:Nat),rb∈F∧rg∈F∧QS (M.geo E S L h) (fun j=>N≤j) N w2 b d F (M.IJ E f) true lb n x∧K.RSet x rb rg rc E g
theorem LJ.below (H:LJ E S L h N w2 d b rb f g lb n x):Below N w2 x:=by
  obtain ⟨F,rg,rc,h1,h2,h3,h4⟩:=H
  exact h3.below
theorem LJ.beside (H:LJ E S L h N w2 d b rb f g lb n x) (hb:Below x.heap.size x z):LJ E S L h N w2 d b rb f g lb n z:=by
  obtain ⟨F,rg,rc,h1,h2,h3,h4⟩:=H
  exact ⟨F,rg,rc,h1,h2,h3.beside hb,h4.below hb⟩
theorem LJ.more {lb' n':Nat} (H:LJ E S L h N w2 d b rb f g lb n x) (hl:lb≤lb') (hn:n≤n'):LJ E S L h N w2 d b rb f g lb' n' x:=by
  obtain ⟨F,rg,rc,h1,h2,h3,h4⟩:=H
  exact ⟨F,rg,rc,h1,h2,h3.more hl hn,h4⟩
theorem LJ.start {F:List Nat} (H:QS (M.geo E S L h) (fun j=>N≤j) N w2 b d F (M.IJ E f) true lb n x) :
    Calls Tryz.prog 7 #[.int .i64 (E:Nat)] x fun e z=>∃ rb,e=.returned (.pointer (some ⟨rb,0,none⟩))∧LJ E S L h N w2 d b rb f (fun _=>false) lb n z:=by
  have hv:=(M.lok_iff E S L).1 h
  refine (K.refNew_any (E:Nat) x).mono ?_
  rintro e z ⟨e1,e2,e3,-⟩
  rw [K.M.most_nat (by omega)] at e2
  refine ⟨_,e1,(x.heap.size+1) :: x.heap.size :: F,x.heap.size,E,List.mem_cons_self ..,List.mem_cons_of_mem _ (List.mem_cons_self ..),H.own e3 (fun j e=>?_),e2⟩
  have:=e2.box.lt
  rcases List.mem_cons.1 e with e | e
  · exact Or.inr ⟨by omega,by omega⟩
  · rcases List.mem_cons.1 e with e | e
    · exact Or.inr ⟨by omega,by omega⟩
    · exact Or.inl e
theorem LJ.mark (H:LJ E S L h N w2 d b rb f g lb n x) (hn:n≤400000) (hlb:lb≤15) (hi:i < E) (v:Bool) :
    Calls Tryz.prog 21 #[.pointer (some ⟨b,0,none⟩),Cf E S L,.int .i64 (i:Nat),.bool v] x fun e z=>e=.returned (.int .i64 0)∧LJ E S L h N w2 d b rb (K.M.putI E f (i:Nat) v) g (lb+1) (n+1) z:=by
  obtain ⟨F,rg,rc,h1,h2,h3,h4⟩:=H
  refine (h3.marks hn hlb i hi v).mono ?_
  rintro e z ⟨e1,e2,e3⟩
  exact ⟨e1,F,rg,rc,h1,h2,e2,h4.kept e3 (fun e=>e.2 h1) (fun e=>e.2 h2)⟩
theorem LJ.refused (H:LJ E S L h N w2 d b rb f g lb n x) (i:Int) (hi:i < 0∨(E:Int)≤i) (v:Bool) :
    Calls Tryz.prog 21 #[.pointer (some ⟨b,0,none⟩),Cf E S L,.int .i64 i,.bool v] x fun e z=>e=.returned (.int .i64 3)∧LJ E S L h N w2 d b rb f g (lb+1) (n+1) z:=by
  refine (jmark_out _ E S L h i hi v x).mono ?_
  rintro e z ⟨e1,e2⟩
  exact ⟨e1,(H.beside e2).more (by omega) (by omega)⟩
theorem LJ.put (H:LJ E S L h N w2 d b rb f g lb n x) (i:Int) (v:Bool) :
    Calls Tryz.prog 9 #[.pointer (some ⟨rb,0,none⟩),.int .i64 i,.bool v] x fun e z=>∃ r,e=.returned (.bool r)∧LJ E S L h N w2 d b rb f (K.M.putI E g i v) lb n z:=by
  obtain ⟨F,rg,rc,h1,h2,h3,h4⟩:=H
  refine (K.refPut_any i v x h4).mono ?_
  rintro e z ⟨e1,⟨g',c',e2,e3⟩,e4⟩
  refine ⟨_,e1,g' :: F,g',c',List.mem_cons_of_mem _ h1,List.mem_cons_self ..,h3.turn (e4.mono (fun k _ e=>by rw [e];exact h1)) (fun j e=>?_),e2⟩
  rcases List.mem_cons.1 e with e | e
  · rcases e3 with e3 | e3
    · exact Or.inl (by rw [e,e3];exact h2)
    · exact Or.inr ⟨by omega,by rw [e];exact e2.glt⟩
  · exact Or.inl e
def LP (E S L:Nat) (h:M.lokB E S L=true) (N:Nat) (w2:World) (d b rb p:Nat) (f g:Nat→Bool) (lb n:Nat) (x:World):Prop:=LJ E S L h N w2 d b rb f g lb n x∧K.Set x p E f
theorem LP.beside (H:LP E S L h N w2 d b rb p f g lb n x) (hb:Below x.heap.size x z):LP E S L h N w2 d b rb p f g lb n z:=⟨H.1.beside hb,H.2.below hb H.2.box.lt⟩
theorem LJ.load (H:LJ E S L h N w2 d b rb f g lb n x) (hn:n≤400000) :
    Calls Tryz.prog 19 #[.pointer (some ⟨b,0,none⟩),Cf E S L] x fun e z=>∃ p,e=.returned (.tuple #[.pointer (some ⟨p,0,none⟩),.int .i64 0])∧LP E S L h N w2 d b rb p f g lb (n+1) z:=by
  obtain ⟨F,rg,rc,h1,h2,h3,h4⟩:=H
  refine (h3.loads hn).mono ?_
  rintro e z ⟨p,e1,e2,e3,e4⟩
  exact ⟨p,e1,⟨p :: F,rg,rc,List.mem_cons_of_mem _ h1,List.mem_cons_of_mem _ h2,e3,h4.kept e4 (fun e=>e.2 h1) (fun e=>e.2 h2)⟩,e2⟩
theorem set_bytes19 {m:Nat} (hs:K.Set x p m f):Calls Tryz.prog 14 #[.pointer (some ⟨p,0,none⟩)] x fun e z=>e=.returned (.string (M.jb m f))∧Below x.heap.size x z:=by
  refine (K.bytes_any x hs).mono ?_
  rintro e z ⟨q1,k,q2⟩
  exact ⟨q1,by rw [q2];exact below_drewN (Below.refl _ _) k⟩
theorem rset_bytes19 {m rg rc:Nat} (hs:K.RSet x rb rg rc m f):Calls Tryz.prog 15 #[.pointer (some ⟨rb,0,none⟩)] x fun e z=>e=.returned (.string (M.jb m f))∧Below x.heap.size x z:=K.refBytes_any x hs
theorem LP.bytes (H:LP E S L h N w2 d b rb p f g lb n x):Calls Tryz.prog 14 #[.pointer (some ⟨p,0,none⟩)] x fun e z=>e=.returned (.string (M.jb E f))∧LP E S L h N w2 d b rb p f g lb n z :=
  (set_bytes19 H.2).mono fun _ _ ⟨e1,e2⟩=>⟨e1,H.beside e2⟩
theorem LP.rbytes (H:LP E S L h N w2 d b rb p f g lb n x):Calls Tryz.prog 15 #[.pointer (some ⟨rb,0,none⟩)] x fun e z=>e=.returned (.string (M.jb E g))∧LP E S L h N w2 d b rb p f g lb n z:=by
  have H0:=H
  obtain ⟨⟨F,rg,rc,h1,h2,h3,h4⟩,h5⟩:=H
  exact (rset_bytes19 h4).mono fun _ _ ⟨e1,e2⟩=>⟨e1,H0.beside e2⟩
theorem LJ.next (H:LJ E S L h N w2 d b rb f g lb n x) (hn:n≤300000) (hlb:lb≤12) (hE:ErrT w2) (hN:1 < N) :
    Calls Tryz.prog 22 #[.pointer (some ⟨b,0,none⟩)] x fun e z=>e=.returned (.bool true)∧LJ E S L h N w2 d b rb f g 0 (n+1200) z:=by
  have hv:=(M.lok_iff E S L).1 h
  obtain ⟨F,rg,rc,h1,h2,h3,h4⟩:=H
  refine (h3.next hn (by show lb+3≤L;omega) hE hN).mono ?_
  rintro e z ⟨e1,e2,e3⟩
  exact ⟨e1,F,rg,rc,h1,h2,e2,h4.kept e3 (fun e=>e.2 h1) (fun e=>e.2 h2)⟩
def LD (E S L:Nat) (h:M.lokB E S L=true) (N:Nat) (w2:World) (d rb:Nat) (f:Nat→Bool) (n:Nat) (x:World):Prop :=
  ∃ (F:List Nat) (rg rc:Nat),rb∈F∧rg∈F∧QD (M.geo E S L h) N w2 d F (M.IJ E f) n x∧K.RSet x rb rg rc E f
theorem LJ.flush (H:LJ E S L h N w2 d b rb f f 0 n x) (hn:n≤300000):Calls Tryz.prog 23 #[.pointer (some ⟨b,0,none⟩)] x fun e z=>e=.returned (.int .i64 0)∧LD E S L h N w2 d rb f (n+3) z:=by
  obtain ⟨F,rg,rc,h1,h2,h3,h4⟩:=H
  refine (h3.flush hn).mono ?_
  rintro e z ⟨e1,e2,e3⟩
  exact ⟨e1,F,rg,rc,h1,h2,e2,h4.kept e3 (fun e=>e.2 h1) (fun e=>e.2 h2)⟩
theorem LD.below (H:LD E S L h N w2 d rb f n x):Below N w2 x:=by
  obtain ⟨F,rg,rc,h1,h2,h3,h4⟩:=H
  exact h3.below
theorem LD.beside (H:LD E S L h N w2 d rb f n x) (hb:Below x.heap.size x z):LD E S L h N w2 d rb f n z:=by
  obtain ⟨F,rg,rc,h1,h2,h3,h4⟩:=H
  exact ⟨F,rg,rc,h1,h2,h3.beside hb,h4.below hb⟩
theorem LD.restart (H:LD E S L h N w2 d rb f n x) (hn:n≤400000):Calls Tryz.prog 24 #[.pointer (some ⟨d,0,none⟩),.slice none 0 0] x fun e z=>e=.returned (.tuple #[])∧LD E S L h N w2 d rb f n z:=by
  obtain ⟨F,rg,rc,h1,h2,h3,h4⟩:=H
  refine (h3.restart hn).mono ?_
  rintro e z ⟨e1,e2,e3⟩
  exact ⟨e1,F,rg,rc,h1,h2,e2,h4.kept e3 (fun e=>e.2 h1) (fun e=>e.2 h2)⟩
def LN (E S L:Nat) (h:M.lokB E S L=true) (N:Nat) (w2:World) (d b rb:Nat) (f:Nat→Bool) (n:Nat) (x:World):Prop :=
  ∃ (R:Nat→Prop) (rg rc:Nat),¬ R rb∧¬ R rg∧QS (M.geo E S L h) R N w2 b d [] (M.IJ E f) false 0 n x∧K.RSet x rb rg rc E f
theorem LN.below (H:LN E S L h N w2 d b rb f n x):Below N w2 x:=by
  obtain ⟨R,rg,rc,h1,h2,h3,h4⟩:=H
  exact h3.below
theorem LD.opens (H:LD E S L h N w2 d rb f n x) (hn:n≤400000) (hE:Env10 w2) (hET:ErrT w2) (h1':0 < N) (h2':1 < N) :
    Calls Tryz.prog 25 #[.pointer (some ⟨d,0,none⟩),.int .i64 (M.ll E S:Nat),.int .i64 (L:Nat)] x fun e z=>∃ b2,e=.returned (.tuple #[.pointer (some ⟨b2,0,none⟩),.int .i64 0])∧LN E S L h N w2 d b2 rb f (n+5000) z:=by
  obtain ⟨F,rg,rc,h1,h2,h3,h4⟩:=H
  refine (h3.opens hn hE hET h1' h2').mono ?_
  rintro e z ⟨b2,e1,e2,e3⟩
  exact ⟨b2,e1,_,rg,rc,fun e=>e.2 h1,fun e=>e.2 h2,e2,h4.kept e3 (fun e=>e.2 h1) (fun e=>e.2 h2)⟩
def LE (E:Nat) (N:Nat) (w2:World) (rb p:Nat) (f:Nat→Bool) (x:World):Prop:=∃ (rg rc:Nat),Below N w2 x∧N≤x.heap.size∧K.Set x p E f∧K.RSet x rb rg rc E f
theorem LE.beside (H:LE E N w2 rb p f x) (hb:Below x.heap.size x z):LE E N w2 rb p f z:=by
  obtain ⟨rg,rc,h1,h2,h3,h4⟩:=H
  have:=hb.size
  exact ⟨rg,rc,h1.trans (hb.mono h2),by omega,h3.below hb h3.box.lt,h4.below hb⟩
theorem LE.below (H:LE E N w2 rb p f x):Below N w2 x:=by
  obtain ⟨rg,rc,h1,h2⟩:=H
  exact h1
theorem LE.bytes (H:LE E N w2 rb p f x):Calls Tryz.prog 14 #[.pointer (some ⟨p,0,none⟩)] x fun e z=>e=.returned (.string (M.jb E f))∧LE E N w2 rb p f z:=by
  have H0:=H
  obtain ⟨rg,rc,h1,h2,h3,h4⟩:=H
  exact (set_bytes19 h3).mono fun _ _ ⟨e1,e2⟩=>⟨e1,H0.beside e2⟩
theorem LE.rbytes (H:LE E N w2 rb p f x):Calls Tryz.prog 15 #[.pointer (some ⟨rb,0,none⟩)] x fun e z=>e=.returned (.string (M.jb E f))∧LE E N w2 rb p f z:=by
  have H0:=H
  obtain ⟨rg,rc,h1,h2,h3,h4⟩:=H
  exact (rset_bytes19 h4).mono fun _ _ ⟨e1,e2⟩=>⟨e1,H0.beside e2⟩
theorem QS.sizeN {a:M.Geo} {R:Nat→Prop} {F:List Nat} {I:(Nat→ByteArray)→Prop} {act:Bool} (H:QS a R N w2 b d F I act lb n x):N≤x.heap.size:=by
  obtain ⟨z0,s,T,h0,h1,h2,h3,-⟩:=H
  exact Nat.le_trans h2 h3.kept.size
theorem LN.load (H:LN E S L h N w2 d b rb f n x) (hn:n≤400000) :
    Calls Tryz.prog 19 #[.pointer (some ⟨b,0,none⟩),Cf E S L] x fun e z=>∃ p,e=.returned (.tuple #[.pointer (some ⟨p,0,none⟩),.int .i64 0])∧LE E N w2 rb p f z:=by
  obtain ⟨R,rg,rc,h1,h2,h3,h4⟩:=H
  refine (h3.loads hn).mono ?_
  rintro e z ⟨p,e1,e2,e3,e4⟩
  exact ⟨p,e1,rg,rc,e3.below,e3.sizeN,e2,h4.kept e4 (fun e=>h1 e.1) (fun e=>h2 e.1)⟩
end
end Go.Proofs.YtmljgogdgmeceaaGreatDoor
namespace Go.Proofs.YtmljgogdgmeceaaGreatDoor
open Go.RowKit
abbrev Cc (a b c:Int):Obj:=.cells #[.int .i64 a,.int .i64 b,.int .i64 c] 45
set_option maxHeartbeats 1000000 in
theorem small18_no (a b c:Int) (hl:M.lokB a b c=false) (w:World):Calls Tryz.prog 17 #[Cf a b c] w fun e z=>e=.returned (.bool true)∧Below w.heap.size w z:=by
  have C1:=Lib.hid (fun x=>check15_any a b c x)
  rw [M.lerr_no hl] at C1
  have HB:=Lib.hid (ib1 w (Cc a b c))
  clear hl
  go_enter Tryz.func17,Tryz.ntmps17
  go_wp2_with fail
  refine (C1.out _).mono ?_
  rintro e z1 ⟨rfl,hb⟩
  have HB1:=Lib.hid (HB.out.trans (hb.mono HB.out.size))
  clear hb
  go_wp2_with fail
  go_ret
  exact ⟨rfl,HB1.out⟩
set_option maxHeartbeats 1000000 in
theorem small18_ok (E S L:Nat) (h:M.lokB E S L=true) (w:World):Calls Tryz.prog 17 #[Cf E S L] w fun e z=>e=.returned (.bool (decide ((L:Int)≤60)))∧Below w.heap.size w z:=by
  have C1:=Lib.hid (fun x=>check15_any E S L x)
  rw [M.lerr_ok h] at C1
  have HB:=Lib.hid (ib1 w (Cc E S L))
  have HX:Hid (Box (w.alloc (Cc E S L)) w.heap.size 45 #[.int .i64 E,.int .i64 S,.int .i64 L]):=Box.new _ _ _
  clear h
  go_enter Tryz.func17,Tryz.ntmps17
  go_wp2_with fail
  refine (C1.out _).mono ?_
  rintro e z1 ⟨rfl,hb⟩
  have HB1:=Lib.hid (HB.out.trans (hb.mono HB.out.size))
  have HX1:=Lib.hid (HX.out.below hb HX.out.lt)
  clear hb
  have c2:=(HX1.out.cell 2).trans (rfl:_=some (Value.int .i64 L))
  go_wp2_with fail
  go_ret
  exact ⟨rfl,HB1.out⟩
end Go.Proofs.YtmljgogdgmeceaaGreatDoor
namespace Go.Proofs.YtmljgogdgmeceaaGreatDoor
open Go.RowKit Go.Maps
set_option maxRecDepth 100000 in
set_option maxHeartbeats 1000000 in
theorem journalMarks_far (a b c:Int) (A:Option Addr) (len cap:Nat) (w:World) (hE:Env10 w) (hET:ErrT w) (hlen:60 < len):Calls Tryz.prog 4 #[Cf a b c,.slice A len cap] w fun en z=>en=.returned (.bool true)∧Below w.heap.size w z:=by
  have HB:=ib1 w (Cj a b c)
  have C0:=Lib.hid (works19_any (w.alloc (Cj a b c)) (hE.below HB) (hET.low HB hET.lt))
  have HB0:=Lib.hid HB
  have hd:decide ((60:Int) < (len:Int))=true:=by simp;omega
  have hd':(60:Int) < (len:Int):=by omega
  clear hE hET hlen HB
  go_enter Tryz.func4,Tryz.ntmps4
  go_wp2_with fail
  refine C0.out.mono ?_
  rintro en w1 ⟨rfl,hb1⟩
  have HB1:=Lib.hid (HB0.out.trans (hb1.mono HB0.out.size))
  clear hb1
  go_wp2_with fail
  go_ret
  exact ⟨rfl,HB1.out⟩
set_option maxRecDepth 100000 in
set_option maxHeartbeats 1000000 in
theorem journalMarks_big (E S L:Nat) (h:M.lokB E S L=true) (hL:60 < L) (A:Option Addr) (len cap:Nat) (w:World) (hE:Env10 w) (hET:ErrT w) (hlen:len≤60):Calls Tryz.prog 4 #[Cf E S L,.slice A len cap] w fun en z=>en=.returned (.bool true)∧Below w.heap.size w z:=by
  have HB:=ib1 w (Cj E S L)
  have C0:=Lib.hid (works19_any (w.alloc (Cj E S L)) (hE.below HB) (hET.low HB hET.lt))
  have C1:=Lib.hid (fun x=>small18_ok E S L h x)
  have hb0:decide ((L:Int)≤60)=false:=by simp;omega
  rw [hb0] at C1
  have HX:Hid (BCf (w.alloc (Cj E S L)) w.heap.size E S L):=Box.new _ _ _
  have HB0:=Lib.hid HB
  have hd:decide ((60:Int) < (len:Int))=false:=by simp;omega
  have hd':¬ (60:Int) < (len:Int):=by omega
  clear hE hET hlen HB h hL hb0
  go_enter Tryz.func4,Tryz.ntmps4
  go_wp2_with fail
  refine C0.out.mono ?_
  rintro en w1 ⟨rfl,hb1⟩
  have HB1:=Lib.hid (HB0.out.trans (hb1.mono HB0.out.size))
  obtain ⟨c0,c1,c2⟩:=BCf.cells (Box.below HX.out hb1 (Box.lt HX.out))
  clear hb1
  go_wp2_with fail
  refine (C1.out _).mono ?_
  rintro en w2 ⟨rfl,hb2⟩
  have HB2:=Lib.hid (HB1.out.trans (hb2.mono HB1.out.size))
  clear hb2
  go_wp2_with fail
  go_ret
  exact ⟨rfl,HB2.out⟩
set_option maxRecDepth 100000 in
set_option maxHeartbeats 2000000 in
theorem journalMarks_no (a b c:Int) (hl:M.lokB a b c=false) (A:Option Addr) (len cap:Nat) (w:World) (hE:Env10 w) (hET:ErrT w) (hlen:len≤60):Calls Tryz.prog 4 #[Cf a b c,.slice A len cap] w fun en z=>en=.returned (.bool true)∧Below w.heap.size w z:=by
  have HB:=ib1 w (Cj a b c)
  have C0:=Lib.hid (works19_any (w.alloc (Cj a b c)) (hE.below HB) (hET.low HB hET.lt))
  have C1:=Lib.hid (fun x=>small18_no a b c hl x)
  have C2:=Lib.hid (fun x=>begun16_no a b c hl x)
  have C3:=Lib.hid (fun x=>jload_bad none a b c hl x)
  have CN:Hid (∀ x,Calls Tryz.prog 6 #[.int .i64 a] x fun e z=>∃ p,e=.returned (.pointer (some ⟨p,0,none⟩))∧Below x.heap.size x z):=fun x=>by
    refine (K.new_any a x).mono ?_
    rintro e z ⟨e1,e2⟩
    rw [e2]
    exact ⟨_,e1,ib1 x _⟩
  have C4:=Lib.hid (fun p x=>jsave_bad none (some ⟨p,0,none⟩) a b c hl x)
  have C5:=Lib.hid (fun x=>jmark_bad none a b c 0 true hl x)
  have HX:Hid (BCf (w.alloc (Cj a b c)) w.heap.size a b c):=Box.new _ _ _
  have HB0:=Lib.hid HB
  have FC:Hid (∀ x,Below (w.alloc (Cj a b c)).heap.size (w.alloc (Cj a b c)) x→x.cell? ⟨w.heap.size,0,none⟩=some (.int .i64 a)∧x.cell? ⟨w.heap.size,1,none⟩=some (.int .i64 b)∧x.cell? ⟨w.heap.size,2,none⟩=some (.int .i64 c)):=fun x hb=>BCf.cells (Box.below HX.out hb (Box.lt HX.out))
  have FZ:Hid (∀ x,Below (w.alloc (Cj a b c)).heap.size (w.alloc (Cj a b c)) x→Below w.heap.size w x):=fun x hb=>HB.trans (hb.mono HB.size)
  have FT:Hid (∀ x y,Below (w.alloc (Cj a b c)).heap.size (w.alloc (Cj a b c)) x→Below x.heap.size x y→Below (w.alloc (Cj a b c)).heap.size (w.alloc (Cj a b c)) y):=fun x y h1 h2=>h1.trans (h2.mono h1.size)
  have hd:decide ((60:Int) < (len:Int))=false:=by simp;omega
  have hd':¬ (60:Int) < (len:Int):=by omega
  clear hE hET hlen HB hl HX HB0
  go_enter Tryz.func4,Tryz.ntmps4
  go_wp2_with fail
  refine C0.out.mono ?_
  rintro en w1 ⟨rfl,hb1⟩
  have HB1:=Lib.hid hb1
  clear hb1 C0
  obtain ⟨c0,c1,c2⟩:=FC.out _ HB1.out
  go_wp2_with fail
  refine (C1.out _).mono ?_
  rintro en w2 ⟨rfl,hb2⟩
  have HB2:=Lib.hid (HB1.out.trans (hb2.mono HB1.out.size))
  clear hb2 C1 HB1 c0 c1 c2
  obtain ⟨c0,c1,c2⟩:=FC.out _ HB2.out
  go_wp2_with fail
  refine (C2.out _).mono ?_
  rintro en w3 ⟨rfl,hb3⟩
  have HB3:=Lib.hid (HB2.out.trans (hb3.mono HB2.out.size))
  clear hb3 C2 HB2 c0 c1 c2
  obtain ⟨c0,c1,c2⟩:=FC.out _ HB3.out
  go_wp2_with fail
  refine (C3.out _).mono ?_
  rintro en w4 ⟨rfl,hb4⟩
  have HB4:=Lib.hid (HB3.out.trans (hb4.mono HB3.out.size))
  clear hb4 C3 HB3 c0 c1 c2
  have hS0:=FC.out _ HB4.out
  have hS0':w4.drew.cell? ⟨w.heap.size,0,none⟩=some (.int .i64 a)∧w4.drew.cell? ⟨w.heap.size,1,none⟩=some (.int .i64 b)∧w4.drew.cell? ⟨w.heap.size,2,none⟩=some (.int .i64 c):=hS0
  go_wp2_with fail
  go_region_held3 (fun y=>y.cell? ⟨w.heap.size,0,none⟩=some (.int .i64 a)∧y.cell? ⟨w.heap.size,1,none⟩=some (.int .i64 b)∧y.cell? ⟨w.heap.size,2,none⟩=some (.int .i64 c)) (first | assumption | trivial)
    (first
      | (go_at_call 6;refine (CN.out _).mono ?_;rintro en w5 ⟨p,rfl,hb5⟩;have HB5:=Lib.hid (FT.out _ _ (by first | exact HB4.out | exact HB4.out.drew) hb5);have hS5:=FC.out w5 HB5.out;clear hb5)
      | (go_at_call 20;refine (C4.out _ _).mono ?_;rintro en w6 ⟨rfl,hb6⟩;have HB6:=Lib.hid (FT.out _ _ (by first | exact HB5.out | exact HB5.out.drew) hb6);have hS6:=FC.out w6 HB6.out;clear hb6)
      | (go_at_call 21;refine (C5.out _).mono ?_;rintro en w7 ⟨rfl,hb7⟩;have HB7:=Lib.hid (FT.out _ _ (by first | exact HB6.out | exact HB6.out.drew) hb7);have hS7:=FC.out w7 HB7.out;clear hb7))
  have HZ:=Lib.hid (FZ.out _ (show Below _ _ _ by first | exact HB7.out | exact HB7.out.drew))
  go_wp2_with fail
  go_ret
  exact ⟨rfl,by first | exact HZ.out | exact HZ.out.drew⟩
end Go.Proofs.YtmljgogdgmeceaaGreatDoor
