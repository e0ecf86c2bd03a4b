/-
  OMarks OMWalk
-/
import Derived.Test.YtmljgogdgmeceaaGreatDoorQOF
import Derived.Test.YtmljgogdgmeceaaGreatDoorQTB
namespace Go.Proofs.YtmljgogdgmeceaaGreatDoor
open Go.RowKit Go.Maps
def QO (E S L:Nat) (h:M.lokB E S L=true) (N:Nat) (w2:World) (d b:Nat) (I:(Nat→ByteArray)→Prop) (lb n:Nat) (x:World):Prop:=∃ F,QS (M.geo E S L h) (fun j=>N≤j) N w2 b d F I true lb n x
theorem QO.beside {E S L N d b lb n:Nat} {h:M.lokB E S L=true} {w2 x z:World} {I:(Nat→ByteArray)→Prop} (H:QO E S L h N w2 d b I lb n x) (hb:Below x.heap.size x z):QO E S L h N w2 d b I lb n z:=by
  obtain ⟨F,H⟩:=H
  exact ⟨F,H.beside hb⟩
set_option maxHeartbeats 1000000 in
theorem marks19_parts (E S L N d b:Nat) (h:M.lokB E S L=true) (w2:World):∃ (A0 A1 A3 A6:World→Prop) (A2 A5:World→Nat→Prop),
    (∀ x s,(OW (M.geo E S L h) N w2 x b s (fun _=>M.zeros 64) 6000∧s.act=true∧s.l=[]∧s.used=0∧s.dk=d)→Calls Tryz.prog 19 #[.pointer (some ⟨b,0,none⟩),Cf E S L] x fun e z=>e=.returned (.tuple #[.pointer none,.int .i64 32])∧A0 z) ∧
    (∀ x,A0 x→Calls Tryz.prog 21 #[.pointer (some ⟨b,0,none⟩),Cf E S L,.int .i64 0,.bool true] x fun e z=>e=.returned (.int .i64 32)∧A1 z) ∧
    (∀ x,A1 x→Calls Tryz.prog 6 #[.int .i64 (E+1:Nat)] x fun e z=>∃ p,e=.returned (.pointer (some ⟨p,0,none⟩))∧A2 z p) ∧
    (∀ x p,A2 x p→Calls Tryz.prog 20 #[.pointer (some ⟨b,0,none⟩),Cf E S L,.pointer (some ⟨p,0,none⟩)] x fun e z=>e=.returned (.int .i64 3)∧A3 z) ∧
    (∀ x,A3 x→Calls Tryz.prog 20 #[.pointer (some ⟨b,0,none⟩),Cf E S L,.pointer none] x fun e z=>e=.returned (.int .i64 3)∧A3 z) ∧
    (∀ x,A3 x→Calls Tryz.prog 6 #[.int .i64 (E:Nat)] x fun e z=>∃ p,e=.returned (.pointer (some ⟨p,0,none⟩))∧A5 z p) ∧
    (∀ x p,A5 x p→Calls Tryz.prog 20 #[.pointer (some ⟨b,0,none⟩),Cf E S L,.pointer (some ⟨p,0,none⟩)] x fun e z=>e=.returned (.int .i64 0)∧A6 z) ∧
    (∀ x,A6 x→Calls Tryz.prog 7 #[.int .i64 (E:Nat)] x fun e z=>∃ rb,e=.returned (.pointer (some ⟨rb,0,none⟩))∧LJ E S L h N w2 d b rb (fun _=>false) (fun _=>false) 1 6002 z) ∧
    ((∀ x,A0 x→A0 x.drew)∧(∀ x,A1 x→A1 x.drew)∧(∀ x p,A2 x p→A2 x.drew p)∧(∀ x,A3 x→A3 x.drew)∧(∀ x p,A5 x p→A5 x.drew p)∧(∀ x,A6 x→A6 x.drew)) ∧
    ((∀ x,A0 x→Below N w2 x)∧(∀ x,A1 x→Below N w2 x)∧(∀ x p,A2 x p→Below N w2 x)∧(∀ x,A3 x→Below N w2 x)∧(∀ x p,A5 x p→Below N w2 x)∧(∀ x,A6 x→Below N w2 x)):=by
  have hv:=(M.lok_iff E S L).1 h
  have m1:K.M.most (E+1:Nat)=E+1:=K.M.most_nat (by omega)
  have m0:K.M.most (E:Nat)=E:=K.M.most_nat (by omega)
  have hdr:∀ x:World,Below x.heap.size x x.drew:=fun x=>(Below.refl _ _).drew
  refine ⟨QO E S L h N w2 d b (M.I0 E) 0 6001,QO E S L h N w2 d b (M.I0 E) 0 6002,QO E S L h N w2 d b (M.I0 E) 0 6002,QO E S L h N w2 d b (M.IJ E (fun _=>false)) 1 6002,
    fun x p=>QO E S L h N w2 d b (M.I0 E) 0 6002 x∧K.Set x p (E+1) (fun _=>false),fun x p=>QO E S L h N w2 d b (M.I0 E) 0 6002 x∧K.Set x p E (fun _=>false),
    ?_,?_,?_,?_,?_,?_,?_,?_,⟨fun x q=>q.beside (hdr x),fun x q=>q.beside (hdr x),fun x p q=>⟨q.1.beside (hdr x),q.2.drew⟩,fun x q=>q.beside (hdr x),fun x p q=>⟨q.1.beside (hdr x),q.2.drew⟩,fun x q=>q.beside (hdr x)⟩,
    ⟨fun x q=>q.elim fun _ q=>q.below,fun x q=>q.elim fun _ q=>q.below,fun x p q=>q.1.elim fun _ q=>q.below,fun x q=>q.elim fun _ q=>q.below,fun x p q=>q.1.elim fun _ q=>q.below,fun x q=>q.elim fun _ q=>q.below⟩⟩
  · rintro x s ⟨h1,h2,h3,h4,h5⟩
    have q:=QS.start (I:=M.I0 E) (lb:=0) h1 (by rw [h3];simp) h5 (by rw [M.now_nil _ h3];exact M.I0_zero E)
    rw [h2] at q
    refine (q.load0 (by omega)).mono ?_
    rintro e z ⟨e1,e2,e3⟩
    exact ⟨e1,_,e2⟩
  · rintro x ⟨F,q⟩
    refine (q.mark0 (by omega) 0 (by omega) true).mono ?_
    rintro e z ⟨e1,e2,e3⟩
    exact ⟨e1,_,e2⟩
  · rintro x ⟨F,q⟩
    refine (q.fresh (E+1:Nat)).mono ?_
    rintro e z ⟨p,e1,e2,e3,e4⟩
    rw [m1] at e2
    exact ⟨p,e1,⟨_,e3⟩,e2⟩
  · rintro x p ⟨⟨F,q⟩,q2⟩
    refine (q.saveno (m:=E+1) (by omega) q2.n).mono ?_
    rintro e z ⟨e1,e2,e3⟩
    exact ⟨e1,_,e2⟩
  · rintro x ⟨F,q⟩
    refine (q.saveno (m:=0) (by omega) (K.SetN.nil x)).mono ?_
    rintro e z ⟨e1,e2,e3⟩
    exact ⟨e1,_,e2⟩
  · rintro x ⟨F,q⟩
    refine (q.fresh (E:Nat)).mono ?_
    rintro e z ⟨p,e1,e2,e3,e4⟩
    rw [m0] at e2
    exact ⟨p,e1,⟨_,e3⟩,e2⟩
  · rintro x p ⟨⟨F,q⟩,q2⟩
    refine (q.saves (by omega) q2).mono ?_
    rintro e z ⟨e1,e2,e3⟩
    exact ⟨e1,_,e2⟩
  · rintro x ⟨F,q⟩
    exact LJ.start q
set_option maxRecDepth 100000 in
set_option maxHeartbeats 8000000 in
theorem journalMarks_ok (E S L:Nat) (h:M.lokB E S L=true) (hL:L≤60) (A:Option Addr) (len cap:Nat) (w:World) (hE:Env10 w) (hET:ErrT w) (hlen:len≤60)
    (hO:∀ i,i < len→∃ (ad:Addr) (X:Int) (v:Bool),A=some ad∧ad.block < w.heap.size∧Op19 w (ad.add (i * 2)) X v) :
    Calls Tryz.prog 4 #[Cf E S L,.slice A len cap] w fun en z=>en=.returned (.bool true)∧Below w.heap.size w z:=by
  have HB:=ib1 w (Cj E S L)
  have C0:=Lib.hid (works19_any (w.alloc (Cj E S L)) (hE.below HB) (hET.low HB hET.lt))
  have C1:=Lib.hid (fun x=>small18_ok E S L h x)
  have hb0:decide ((L:Int)≤60)=true:=by simp;omega
  rw [hb0] at C1
  have HX:Hid (BCf (w.alloc (Cj E S L)) w.heap.size E S L):=Box.new _ _ _
  have HB0:=Lib.hid HB
  have hd:decide ((60:Int) < (len:Int))=false:=by simp;omega
  have hd':¬ (60:Int) < (len:Int):=by omega
  have hv:=(M.lok_iff E S L).1 h
  have hE9:E≤24:=by omega
  have hE1:1≤E:=by omega
  have HPA:Hid (∀ y,Below w.heap.size w y→Env10 y∧ErrT y∧0 < y.heap.size∧1 < y.heap.size):=fun y hb=>⟨hE.low hb hE.lt,hET.low hb hET.lt,Nat.lt_of_lt_of_le hE.lt hb.size,Nat.lt_of_lt_of_le hET.lt hb.size⟩
  have HO:=Lib.hid hO
  have HL:=Lib.hid h
  clear hE hET HB hL hb0 hv hO
  go_enter Tryz.func4,Tryz.ntmps4
  go_wp2_with fail
  refine C0.out.mono ?_
  rintro en w1 ⟨rfl,hb1⟩
  have HB1:=Lib.hid (HB0.out.trans (hb1.mono HB0.out.size))
  have HX1:=Lib.hid (Box.below HX.out hb1 (Box.lt HX.out))
  clear hb1 C0 HB0 HX
  obtain ⟨c0,c1,c2⟩:=BCf.cells HX1.out
  go_wp2_with fail
  refine (C1.out _).mono ?_
  rintro en w2 ⟨rfl,hb2⟩
  have HB2:=Lib.hid (HB1.out.trans (hb2.mono HB1.out.size))
  have HX2:=Lib.hid (Box.below HX1.out hb2 (Box.lt HX1.out))
  clear hb2 C1 HB1 HX1 c0 c1 c2
  obtain ⟨N,hN⟩:∃ N,N=w2.heap.size:=⟨_,rfl⟩
  have FC:Hid (∀ y,Below N w2 y→y.cell? ⟨w.heap.size,0,none⟩=some (.int .i64 E)∧y.cell? ⟨w.heap.size,1,none⟩=some (.int .i64 S)∧y.cell? ⟨w.heap.size,2,none⟩=some (.int .i64 L)):=fun y hb=>BCf.cells (Box.below HX2.out hb (by rw [hN];exact Box.lt HX2.out))
  have FO:Hid (∀ i,i < len→∃ (ad:Addr) (X:Int) (v:Bool),A=some ad∧∀ y,Below N w2 y→Op19 y (ad.add (i * 2)) X v):=fun i hi=>by
    obtain ⟨ad,X,v,e1,e2,e3⟩:=HO.out i hi
    refine ⟨ad,X,v,e1,fun y hb=>e3.below (HB2.out.trans (hb.mono (by rw [hN];exact HB2.out.size))) (by rw [add_block19];exact e2)⟩
  have FB:Hid (∀ y,Below N w2 y→Below w.heap.size w y):=fun y hb=>HB2.out.trans (hb.mono (by rw [hN];exact HB2.out.size))
  obtain ⟨q1,q2,q3,q4⟩:=HPA.out _ HB2.out
  rw [←hN] at q3 q4
  have HPB:Hid (Env10 w2∧ErrT w2∧0 < N∧1 < N):=⟨q1,q2,q3,q4⟩
  have C2:=Lib.hid (begun16_ok E S L HL.out w2 q1 q2)
  rw [←hN] at C2
  clear q1 q2 q3 q4 HPA HO HB2 HX2 hN
  obtain ⟨c0,c1,c2⟩:=FC.out w2 (Below.refl _ _)
  go_wp2_with fail
  refine C2.out.mono ?_
  rintro en w3 ⟨d,b,s,rfl,h3⟩
  have HB3:=Lib.hid h3.1.below
  obtain ⟨A0,A1,A3,A6,A2,A5,p0,p1,p2,p3,p4,p5,p6,p7,⟨d0,d1,d2,d3,d5,d6⟩,⟨b0,b1,b2,b3,b5,b6⟩⟩:=marks19_parts E S L N d b HL.out w2
  have K0:=Lib.hid (p0 _ _ h3)
  have K1:=Lib.hid p1
  have K2:=Lib.hid p2
  have K3:=Lib.hid p3
  have K4:=Lib.hid p4
  have K5:=Lib.hid p5
  have K6:=Lib.hid p6
  have K7:=Lib.hid p7
  have D0:=Lib.hid d0
  have D1:=Lib.hid d1
  have D2:=Lib.hid d2
  have D3:=Lib.hid d3
  have D5:=Lib.hid d5
  have T0:=Lib.hid b0
  have T1:=Lib.hid b1
  have T2:=Lib.hid b2
  have T3:=Lib.hid b3
  have T5:=Lib.hid b5
  have T6:=Lib.hid b6
  clear h3 C2 c0 c1 c2 p0 p1 p2 p3 p4 p5 p6 p7 d0 d1 d2 d3 d5 d6 b0 b1 b2 b3 b5 b6
  obtain ⟨c0,c1,c2⟩:=FC.out w3 HB3.out
  go_wp2_with fail
  refine K0.out.mono ?_
  rintro en w4 ⟨rfl,h4⟩
  have G4:=Lib.hid h4
  clear h4 K0 HB3 c0 c1 c2
  have r1:IntKind.i64.wrap ((E:Int)+1)=((E+1:Nat):Int):=by rw [IntKind.wrap_i64];omega
  obtain ⟨e1,he1⟩:∃ x,x=E+1:=⟨_,rfl⟩
  rw [←he1] at r1 K2
  have HE1:=Lib.hid hE1
  clear he1 hE1
  have hS0:=FC.out w4 (T0.out _ G4.out)
  have hS0':w4.drew.cell? ⟨w.heap.size,0,none⟩=some (.int .i64 E)∧w4.drew.cell? ⟨w.heap.size,1,none⟩=some (.int .i64 S)∧w4.drew.cell? ⟨w.heap.size,2,none⟩=some (.int .i64 L):=hS0
  go_wp2_with fail
  go_region_held3 (fun y=>y.cell? ⟨w.heap.size,0,none⟩=some (.int .i64 E)∧y.cell? ⟨w.heap.size,1,none⟩=some (.int .i64 S)∧y.cell? ⟨w.heap.size,2,none⟩=some (.int .i64 L)) (first | assumption | trivial)
    (first
      | (go_at_call 21;with_reducible refine (K1.out _ (by first | exact G4.out | exact D0.out _ G4.out)).mono ?_;rintro en w5 ⟨rfl,h5⟩;have G5:=Lib.hid h5;have hS5:=FC.out w5 (T1.out _ h5);clear h5)
      | (go_at_call 6;with_reducible refine (K2.out _ (by first | exact G5.out | exact D1.out _ G5.out)).mono ?_;rintro en w6 ⟨pa,rfl,h6⟩;have G6:=Lib.hid h6;have hS6:=FC.out w6 (T2.out _ _ h6);clear h6)
      | (go_at_call 20;with_reducible refine (K3.out _ _ (by first | exact G6.out | exact D2.out _ _ G6.out)).mono ?_;rintro en w7 ⟨rfl,h7⟩;have G7:=Lib.hid h7;have hS7:=FC.out w7 (T3.out _ h7);clear h7)
      | (go_at_call 20;with_reducible refine (K4.out _ (by first | exact G7.out | exact D3.out _ G7.out)).mono ?_;rintro en w8 ⟨rfl,h8⟩;have G8:=Lib.hid h8;have hS8:=FC.out w8 (T3.out _ h8);clear h8)
      | (go_at_call 6;with_reducible refine (K5.out _ (by first | exact G8.out | exact D3.out _ G8.out)).mono ?_;rintro en w9 ⟨pc,rfl,h9⟩;have G9:=Lib.hid h9;have hS9:=FC.out w9 (T5.out _ _ h9);clear h9)
      | (go_at_call 20;with_reducible refine (K6.out _ _ (by first | exact G9.out | exact D5.out _ _ G9.out)).mono ?_;rintro en w10 ⟨rfl,h10⟩;have G10:=Lib.hid h10;have hS10:=FC.out w10 (T6.out _ h10);clear h10))
  clear hS0 hS0' hS5 hS6 hS7 hS8 hS9 G4 G5 G6 G7 G8 G9 K1 K2 K3 K4 K5 K6 D0 D1 D2 D3 D5 T0 T1 T2 T3 T5 T6 r1
  obtain ⟨k0,-,-⟩:=hS10
  go_wp2_with fail
  refine (K7.out _ G10.out).mono ?_
  rintro en w11 ⟨rb,rfl,h11⟩
  have G11:=Lib.hid h11
  clear h11 K7 G10 k0
  go_wp2_with fail
  go_loopw [12] (fun i wr=>∃ (k:Nat) (f:Nat→Bool),k≤len∧i=.int .i64 (k:Nat)∧Hid (LJ E S L HL.out N w2 d b rb f f 1 (6002+1300 * k) wr)) (fun i _=>len - (intOf i).toNat)
  case atStart=>exact ⟨0,_,Nat.zero_le _,rfl,G11.out⟩
  case round =>
    clear G11
    obtain ⟨k,f,hk,rfl,HP⟩:=hrel
    by_cases hlt:k < len
    · have hlt':(k:Int) < (len:Int):=by omega
      have hk0:(0:Int)≤(k:Int):=by omega
      have hd9:decide (k < len)=true:=by simpa using hlt
      have hk9:k < 60:=by omega
      obtain ⟨ad,X,v,rfl,hop⟩:=FO.out k hlt
      have HC:=Lib.hid hop
      clear hop hlt
      have HEnd:Hid (∀ g x,LJ E S L HL.out N w2 d b rb g g 0 (6002+1300 * k+1+1+1200) x→LJ E S L HL.out N w2 d b rb g g 1 (6002+1300 * (k+1)) x):=fun g x q=>q.more (by omega) (by omega)
      have hcase:X < 0∨(¬ X < 0∧(E:Int)≤X)∨(∃ i:Nat,X=(i:Nat)∧i < E):=by
        by_cases h1:X < 0
        · exact Or.inl h1
        · by_cases h2:(E:Int)≤X
          · exact Or.inr (Or.inl ⟨h1,h2⟩)
          · exact Or.inr (Or.inr ⟨X.toNat,by omega,by omega⟩)
      rcases hcase with h1 | ⟨h1,h2⟩ | ⟨i,rfl,hi⟩
      · have C3:Hid (Calls Tryz.prog 21 #[.pointer (some ⟨b,0,none⟩),Cf E S L,.int .i64 X,.bool v] wr.drew fun e z=>e=.returned (.int .i64 3)∧LJ E S L HL.out N w2 d b rb (K.M.putI E f X v) f 2 (6002+1300 * k+1) z):=by
          rw [K.M.putI_out E f X v (Or.inl h1)]
          exact (HP.out.beside (Below.refl _ _).drew).refused X (Or.inl h1) v
        have x0:decide ((0:Int)≤X)=false:=by simp;omega
        have x2:¬ (0:Int)≤X:=by omega
        have C4:Hid (∀ x,LJ E S L HL.out N w2 d b rb (K.M.putI E f X v) f 2 (6002+1300 * k+1) x→Calls Tryz.prog 9 #[.pointer (some ⟨rb,0,none⟩),.int .i64 X,.bool v] x fun e z=>∃ r,e=.returned (.bool r)∧LJ E S L HL.out N w2 d b rb (K.M.putI E f X v) (K.M.putI E f X v) 2 (6002+1300 * k+1) z):=fun x q=>q.put X v
        obtain ⟨g,hg⟩:∃ g,g=K.M.putI E f X v:=⟨_,rfl⟩
        rw [←hg] at C3 C4
        obtain ⟨m0,hm0⟩:∃ x,x=6002+1300 * k+1:=⟨_,rfl⟩
        rw [←hm0] at C3 C4 HEnd
        have hm9:m0≤200000:=by omega
        have FQ:Hid (∀ y,Below N w2 y→y.cell? (ad.add (k * 2))=some (.int .i64 X)∧y.cell? ⟨w.heap.size,0,none⟩=some (.int .i64 E)):=fun y hb=>⟨(HC.out y hb).1,(FC.out y hb).1⟩
        have HBr:=Lib.hid HP.out.below
        clear HP hg hm0
        obtain ⟨c0,c1⟩:=HC.out wr HBr.out
        obtain ⟨k0,k1,k2⟩:=FC.out wr HBr.out
        go_wp2_with fail
        go_still_tail 12,(by kernel_rfl)
        change wpList _ _ _ _ _ wr.drew
        go_wp2_with fail
        refine C3.out.mono ?_
        rintro en w12 ⟨rfl,h12⟩
        have G12:=Lib.hid (h12.beside (Below.refl _ _).drew)
        have HB12:=Lib.hid h12.below
        clear h12 C3 c0 c1 k0 k1 k2 HBr
        obtain ⟨c0,c1⟩:=HC.out w12 HB12.out
        go_wp2_with fail
        go_still_tail 11,(by kernel_rfl)
        change wpList _ _ _ _ _ w12.drew
        go_wp2_with fail
        refine (C4.out _ G12.out).mono ?_
        rintro en w13 ⟨r,rfl,h13⟩
        have G13:=Lib.hid h13
        clear h13 C4 G12 HB12 c0 c1
        obtain ⟨k0,k1,k2⟩:=FC.out w13 G13.out.below
        go_wp2_with fail
        refine (G13.out.load (by omega)).mono ?_
        rintro en w14 ⟨p,rfl,h14⟩
        have G14:=Lib.hid h14
        clear h14 G13 k0 k1 k2
        have CB:Hid (∀ x,LP E S L HL.out N w2 d b rb p g g 2 (m0+1) x→Calls Tryz.prog 14 #[.pointer (some ⟨p,0,none⟩)] x fun e z=>e=.returned (.string (M.jb E g))∧LP E S L HL.out N w2 d b rb p g g 2 (m0+1) z):=fun x q=>q.bytes
        have CQ:Hid (∀ x,LP E S L HL.out N w2 d b rb p g g 2 (m0+1) x→Calls Tryz.prog 15 #[.pointer (some ⟨rb,0,none⟩)] x fun e z=>e=.returned (.string (M.jb E g))∧LP E S L HL.out N w2 d b rb p g g 2 (m0+1) z):=fun x q=>q.rbytes
        have CN:Hid (∀ x,LP E S L HL.out N w2 d b rb p g g 2 (m0+1) x→Calls Tryz.prog 22 #[.pointer (some ⟨b,0,none⟩)] x fun e z=>e=.returned (.bool true)∧LJ E S L HL.out N w2 d b rb g g 0 (m0+1+1200) z):=fun x q=>q.1.next (by omega) (by omega) HPB.out.2.1 HPB.out.2.2.2
        have CD:Hid (∀ x,LP E S L HL.out N w2 d b rb p g g 2 (m0+1) x→LP E S L HL.out N w2 d b rb p g g 2 (m0+1) x.drew):=fun x q=>q.beside (Below.refl _ _).drew
        obtain ⟨SB,hSB⟩:∃ x,x=M.jb E g:=⟨_,rfl⟩
        rw [←hSB] at CB CQ
        have zs:(SB.toList==SB.toList)=true:=by simp
        clear hSB
        have hS0:=FQ.out w14 G14.out.1.below
        go_wp2_with fail
        refine wp_region_held_drew (S:=(fun y=>y.cell? (ad.add (k * 2))=some (.int .i64 X)∧y.cell? ⟨w.heap.size,0,none⟩=some (.int .i64 E))) (by kernel_rfl) (by first | assumption | trivial) (fun hHeld=>?_)
        refine wpAnyH_take (i:=0) (oi:=?_) (v:=?_) ?_ (by kernel_rfl) (by kernel_rfl) (by kernel_rfl) ?_ ?_ (by assumption) ?_;rotate_left 2;(· simp only [List.getElem?_toArray,List.getElem?_cons_zero];rfl);rotate_left;(· refine Or.inl ⟨by rfl,?_⟩;intro w hSw;(try dsimp only at hSw);go_simp;try with_reducible rfl);rotate_right;(· exact fun _ _ _ h=>h);simp only [Act.put,List.setIfInBounds_toArray,List.set_cons_zero,List.set_cons_succ]
        refine wpAnyH_take (i:=1) (oi:=?_) (v:=?_) ?_ (by kernel_rfl) (by kernel_rfl) (by kernel_rfl) ?_ ?_ (by assumption) ?_;rotate_left 2;(· simp only [List.getElem?_toArray,List.getElem?_cons_zero,List.getElem?_cons_succ];rfl);rotate_left;(· refine Or.inl ⟨by rfl,?_⟩;intro w hSw;(try dsimp only at hSw);go_simp;try with_reducible rfl);rotate_right;(· exact fun _ _ _ h=>h);simp only [Act.put,List.setIfInBounds_toArray,List.set_cons_zero,List.set_cons_succ]
        refine wpAnyH_take (i:=2) (oi:=?_) (v:=?_) ?_ (by kernel_rfl) (by kernel_rfl) (by kernel_rfl) ?_ ?_ (by assumption) ?_;rotate_left 2;(· simp only [List.getElem?_toArray,List.getElem?_cons_zero,List.getElem?_cons_succ];rfl);rotate_left;(· refine Or.inl ⟨by rfl,?_⟩;intro w hSw;(try dsimp only at hSw);go_simp;try with_reducible rfl);rotate_right;(· exact fun _ _ _ h=>h);simp only [Act.put,List.setIfInBounds_toArray,List.set_cons_zero,List.set_cons_succ]
        refine wpAnyH_take (i:=3) (oi:=?_) (v:=?_) ?_ (by kernel_rfl) (by kernel_rfl) (by kernel_rfl) ?_ ?_ (by assumption) ?_;rotate_left 2;(· simp only [List.getElem?_toArray,List.getElem?_cons_zero,List.getElem?_cons_succ];rfl);rotate_left;(· refine Or.inl ⟨by rfl,?_⟩;intro w hSw;(try dsimp only at hSw);go_simp;try with_reducible rfl);rotate_right;(· exact fun _ _ _ h=>h);simp only [Act.put,List.setIfInBounds_toArray,List.set_cons_zero,List.set_cons_succ]
        refine wpAnyH_take (i:=4) (oi:=?_) (v:=?_) ?_ (by kernel_rfl) (by kernel_rfl) (by kernel_rfl) ?_ ?_ (by assumption) ?_;rotate_left 2;(· simp only [List.getElem?_toArray,List.getElem?_cons_zero,List.getElem?_cons_succ];rfl);rotate_left;(· refine Or.inl ⟨by rfl,?_⟩;intro w hSw;(try dsimp only at hSw);go_simp;try with_reducible rfl);rotate_right;(· exact fun _ _ _ h=>h);simp only [Act.put,List.setIfInBounds_toArray,List.set_cons_zero,List.set_cons_succ]
        refine wpAnyH_take (i:=5) (oi:=?_) (v:=?_) ?_ (by kernel_rfl) (by kernel_rfl) (by kernel_rfl) ?_ ?_ (by assumption) ?_;rotate_left 2;(· simp only [List.getElem?_toArray,List.getElem?_cons_zero,List.getElem?_cons_succ];rfl);rotate_left;(· refine Or.inl ⟨by rfl,?_⟩;intro w hSw;(try dsimp only at hSw);go_simp;try with_reducible rfl);rotate_right;(· exact fun _ _ _ h=>h);simp only [Act.put,List.setIfInBounds_toArray,List.set_cons_zero,List.set_cons_succ]
        refine wpAnyH_take (i:=6) (oi:=?_) (v:=?_) ?_ (by kernel_rfl) (by kernel_rfl) (by kernel_rfl) ?_ ?_ (by assumption) ?_;rotate_left 2;(· simp only [List.getElem?_toArray,List.getElem?_cons_zero,List.getElem?_cons_succ];rfl);rotate_left;(· refine Or.inl ⟨by rfl,?_⟩;intro w hSw;(try dsimp only at hSw);go_simp;try with_reducible rfl);rotate_right;(· exact fun _ _ _ h=>h);simp only [Act.put,List.setIfInBounds_toArray,List.set_cons_zero,List.set_cons_succ]
        refine wpAnyH_take (i:=7) (oi:=?_) (v:=?_) ?_ (by kernel_rfl) (by kernel_rfl) (by kernel_rfl) ?_ ?_ (by assumption) ?_;rotate_left 2;(· simp only [List.getElem?_toArray,List.getElem?_cons_zero,List.getElem?_cons_succ];rfl);rotate_left;(· refine Or.inl ⟨by rfl,?_⟩;intro w hSw;(try dsimp only at hSw);go_simp;try with_reducible rfl);rotate_right;(· exact fun _ _ _ h=>h);simp only [Act.put,List.setIfInBounds_toArray,List.set_cons_zero,List.set_cons_succ]
        refine wpAnyH_take (i:=8) (oi:=?_) (v:=?_) ?_ (by kernel_rfl) (by kernel_rfl) (by kernel_rfl) ?_ ?_ (by assumption) ?_;rotate_left 2;(· simp only [List.getElem?_toArray,List.getElem?_cons_zero,List.getElem?_cons_succ];rfl);rotate_left;(· refine Or.inl ⟨by rfl,?_⟩;intro w hSw;(try dsimp only at hSw);go_simp;try with_reducible rfl);rotate_right;(· exact fun _ _ _ h=>h);simp only [Act.put,List.setIfInBounds_toArray,List.set_cons_zero,List.set_cons_succ]
        refine wpAnyH_take (i:=9) (oi:=?_) (v:=undef) ?_ (by kernel_rfl) (by kernel_rfl) (by kernel_rfl) ?_ (Or.inr ⟨?_,rfl⟩) (by assumption) ?_;rotate_left;(· simp only [List.getElem?_toArray,List.getElem?_cons_zero,List.getElem?_cons_succ];rfl);(· exact fun _ _ _ h=>h);(· rfl);simp only [Act.put,List.setIfInBounds_toArray,List.set_cons_zero,List.set_cons_succ]
        refine wpAnyH_take (i:=10) (oi:=?_) (v:=undef) ?_ (by kernel_rfl) (by kernel_rfl) (by kernel_rfl) ?_ (Or.inr ⟨?_,rfl⟩) (by assumption) ?_;rotate_left;(· simp only [List.getElem?_toArray,List.getElem?_cons_zero,List.getElem?_cons_succ];rfl);(· exact fun _ _ _ h=>h);(· rfl);simp only [Act.put,List.setIfInBounds_toArray,List.set_cons_zero,List.set_cons_succ]
        refine wpAnyH_take (i:=11) (oi:=?_) (v:=undef) ?_ (by kernel_rfl) (by kernel_rfl) (by kernel_rfl) ?_ (Or.inr ⟨?_,rfl⟩) (by assumption) ?_;rotate_left;(· simp only [List.getElem?_toArray,List.getElem?_cons_zero,List.getElem?_cons_succ];rfl);(· exact fun _ _ _ h=>h);(· rfl);simp only [Act.put,List.setIfInBounds_toArray,List.set_cons_zero,List.set_cons_succ]
        refine wpAnyH_take (i:=12) (oi:=?_) (v:=undef) ?_ (by kernel_rfl) (by kernel_rfl) (by kernel_rfl) ?_ (Or.inr ⟨?_,rfl⟩) (by assumption) ?_;rotate_left;(· simp only [List.getElem?_toArray,List.getElem?_cons_zero,List.getElem?_cons_succ];rfl);(· exact fun _ _ _ h=>h);(· rfl);simp only [Act.put,List.setIfInBounds_toArray,List.set_cons_zero,List.set_cons_succ]
        refine wpAnyH_take (i:=13) (oi:=?_) (v:=undef) ?_ (by kernel_rfl) (by kernel_rfl) (by kernel_rfl) ?_ (Or.inr ⟨?_,rfl⟩) (by assumption) ?_;rotate_left;(· simp only [List.getElem?_toArray,List.getElem?_cons_zero,List.getElem?_cons_succ];rfl);(· exact fun _ _ _ h=>h);(· rfl);simp only [Act.put,List.setIfInBounds_toArray,List.set_cons_zero,List.set_cons_succ]
        refine wpAnyH_take (i:=14) (oi:=?_) (v:=undef) ?_ (by kernel_rfl) (by kernel_rfl) (by kernel_rfl) ?_ (Or.inr ⟨?_,rfl⟩) (by assumption) ?_;rotate_left;(· simp only [List.getElem?_toArray,List.getElem?_cons_zero,List.getElem?_cons_succ];rfl);(· exact fun _ _ _ h=>h);(· rfl);simp only [Act.put,List.setIfInBounds_toArray,List.set_cons_zero,List.set_cons_succ]
        refine wpAnyH_take (i:=15) (oi:=?_) (v:=undef) ?_ (by kernel_rfl) (by kernel_rfl) (by kernel_rfl) ?_ (Or.inr ⟨?_,rfl⟩) (by assumption) ?_;rotate_left;(· simp only [List.getElem?_toArray,List.getElem?_cons_zero,List.getElem?_cons_succ];rfl);(· exact fun _ _ _ h=>h);(· rfl);simp only [Act.put,List.setIfInBounds_toArray,List.set_cons_zero,List.set_cons_succ]
        refine wpAnyH_take (i:=16) (oi:=?_) (v:=undef) ?_ (by kernel_rfl) (by kernel_rfl) (by kernel_rfl) ?_ (Or.inr ⟨?_,rfl⟩) (by assumption) ?_;rotate_left;(· simp only [List.getElem?_toArray,List.getElem?_cons_zero,List.getElem?_cons_succ];rfl);(· exact fun _ _ _ h=>h);(· rfl);simp only [Act.put,List.setIfInBounds_toArray,List.set_cons_zero,List.set_cons_succ]
        refine wpAnyH_take (i:=17) (oi:=?_) (v:=?_) ?_ (by kernel_rfl) (by kernel_rfl) (by kernel_rfl) ?_ ?_ (by assumption) ?_;rotate_left 2;(· simp only [List.getElem?_toArray,List.getElem?_cons_zero,List.getElem?_cons_succ];rfl);rotate_left;(· refine Or.inl ⟨by rfl,?_⟩;intro w hSw;(try dsimp only at hSw);go_simp;try with_reducible rfl);rotate_right;(· exact fun _ _ _ h=>h);simp only [Act.put,List.setIfInBounds_toArray,List.set_cons_zero,List.set_cons_succ]
        refine wpAnyH_take (i:=18) (oi:=?_) (v:=?_) ?_ (by kernel_rfl) (by kernel_rfl) (by kernel_rfl) ?_ ?_ (by assumption) ?_;rotate_left 2;(· simp only [List.getElem?_toArray,List.getElem?_cons_zero,List.getElem?_cons_succ];rfl);rotate_left;(· refine Or.inl ⟨by rfl,?_⟩;intro w hSw;(try dsimp only at hSw);go_simp;try with_reducible rfl);rotate_right;(· exact fun _ _ _ h=>h);simp only [Act.put,List.setIfInBounds_toArray,List.set_cons_zero,List.set_cons_succ]
        refine wpAnyH_take (i:=19) (oi:=?_) (v:=?_) ?_ (by kernel_rfl) (by kernel_rfl) (by kernel_rfl) ?_ ?_ (by assumption) ?_;rotate_left 2;(· simp only [List.getElem?_toArray,List.getElem?_cons_zero,List.getElem?_cons_succ];rfl);rotate_left;(· refine Or.inl ⟨by rfl,?_⟩;intro w hSw;(try dsimp only at hSw);go_simp;try with_reducible rfl);rotate_right;(· exact fun _ _ _ h=>h);simp only [Act.put,List.setIfInBounds_toArray,List.set_cons_zero,List.set_cons_succ]
        refine wpAnyH_take (i:=20) (oi:=?_) (v:=?_) ?_ (by kernel_rfl) (by kernel_rfl) (by kernel_rfl) ?_ ?_ (by assumption) ?_;rotate_left 2;(· simp only [List.getElem?_toArray,List.getElem?_cons_zero,List.getElem?_cons_succ];rfl);rotate_left;(· refine Or.inl ⟨by rfl,?_⟩;intro w hSw;(try dsimp only at hSw);go_simp;try with_reducible rfl);rotate_right;(· exact fun _ _ _ h=>h);simp only [Act.put,List.setIfInBounds_toArray,List.set_cons_zero,List.set_cons_succ]
        refine wpAnyH_take (i:=21) (oi:=?_) (v:=?_) ?_ (by kernel_rfl) (by kernel_rfl) (by kernel_rfl) ?_ ?_ (by assumption) ?_;rotate_left 2;(· simp only [List.getElem?_toArray,List.getElem?_cons_zero,List.getElem?_cons_succ];rfl);rotate_left;(· refine Or.inl ⟨by rfl,?_⟩;intro w hSw;(try dsimp only at hSw);go_simp;try with_reducible rfl);rotate_right;(· exact fun _ _ _ h=>h);simp only [Act.put,List.setIfInBounds_toArray,List.set_cons_zero,List.set_cons_succ]
        refine wpAnyH_take (i:=22) (oi:=?_) (v:=?_) ?_ (by kernel_rfl) (by kernel_rfl) (by kernel_rfl) ?_ ?_ (by assumption) ?_;rotate_left 2;(· simp only [List.getElem?_toArray,List.getElem?_cons_zero,List.getElem?_cons_succ];rfl);rotate_left;(· refine Or.inl ⟨by rfl,?_⟩;intro w hSw;(try dsimp only at hSw);go_simp;try with_reducible rfl);rotate_right;(· exact fun _ _ _ h=>h);simp only [Act.put,List.setIfInBounds_toArray,List.set_cons_zero,List.set_cons_succ]
        refine wpAnyH_take (i:=23) (oi:=?_) (v:=?_) ?_ (by kernel_rfl) (by kernel_rfl) (by kernel_rfl) ?_ ?_ (by assumption) ?_;rotate_left 2;(· simp only [List.getElem?_toArray,List.getElem?_cons_zero,List.getElem?_cons_succ];rfl);rotate_left;(· refine Or.inl ⟨by rfl,?_⟩;intro w hSw;(try dsimp only at hSw);go_simp;try with_reducible rfl);rotate_right;(· exact fun _ _ _ h=>h);simp only [Act.put,List.setIfInBounds_toArray,List.set_cons_zero,List.set_cons_succ]
        refine wpAnyH_take (i:=24) (oi:=?_) (v:=?_) ?_ (by kernel_rfl) (by kernel_rfl) (by kernel_rfl) ?_ ?_ (by assumption) ?_;rotate_left 2;(· simp only [List.getElem?_toArray,List.getElem?_cons_zero,List.getElem?_cons_succ];rfl);rotate_left;(· refine Or.inl ⟨by rfl,?_⟩;intro w hSw;(try dsimp only at hSw);go_simp;try with_reducible rfl);rotate_right;(· exact fun _ _ _ h=>h);simp only [Act.put,List.setIfInBounds_toArray,List.set_cons_zero,List.set_cons_succ]
        refine wpAnyH_take (i:=25) (oi:=?_) (v:=?_) ?_ (by kernel_rfl) (by kernel_rfl) (by kernel_rfl) ?_ ?_ (by assumption) ?_;rotate_left 2;(· simp only [List.getElem?_toArray,List.getElem?_cons_zero,List.getElem?_cons_succ];rfl);rotate_left;(· refine Or.inl ⟨by rfl,?_⟩;intro w hSw;(try dsimp only at hSw);go_simp;try with_reducible rfl);rotate_right;(· exact fun _ _ _ h=>h);simp only [Act.put,List.setIfInBounds_toArray,List.set_cons_zero,List.set_cons_succ]
        refine wpAnyH_take (i:=26) (oi:=?_) (v:=?_) ?_ (by kernel_rfl) (by kernel_rfl) (by kernel_rfl) ?_ ?_ (by assumption) ?_;rotate_left 2;(· simp only [List.getElem?_toArray,List.getElem?_cons_zero,List.getElem?_cons_succ];rfl);rotate_left;(· refine Or.inl ⟨by rfl,?_⟩;intro w hSw;(try dsimp only at hSw);go_simp;try with_reducible rfl);rotate_right;(· exact fun _ _ _ h=>h);simp only [Act.put,List.setIfInBounds_toArray,List.set_cons_zero,List.set_cons_succ]
        refine wpAnyH_take (i:=27) (oi:=?_) (v:=?_) ?_ (by kernel_rfl) (by kernel_rfl) (by kernel_rfl) ?_ ?_ (by assumption) ?_;rotate_left 2;(· simp only [List.getElem?_toArray,List.getElem?_cons_zero,List.getElem?_cons_succ];rfl);rotate_left;(· refine Or.inl ⟨by rfl,?_⟩;intro w hSw;(try dsimp only at hSw);go_simp;try with_reducible rfl);rotate_right;(· exact fun _ _ _ h=>h);simp only [Act.put,List.setIfInBounds_toArray,List.set_cons_zero,List.set_cons_succ]
        refine wpAnyH_take (i:=28) (oi:=?_) (v:=?_) ?_ (by kernel_rfl) (by kernel_rfl) (by kernel_rfl) ?_ ?_ (by assumption) ?_;rotate_left 2;(· simp only [List.getElem?_toArray,List.getElem?_cons_zero,List.getElem?_cons_succ];rfl);rotate_left;(· refine Or.inl ⟨by rfl,?_⟩;intro w hSw;(try dsimp only at hSw);go_simp;try with_reducible rfl);rotate_right;(· exact fun _ _ _ h=>h);simp only [Act.put,List.setIfInBounds_toArray,List.set_cons_zero,List.set_cons_succ]
        refine wpAnyH_take (i:=29) (oi:=?_) (v:=?_) ?_ (by kernel_rfl) (by kernel_rfl) (by kernel_rfl) ?_ ?_ (by assumption) ?_;rotate_left 2;(· simp only [List.getElem?_toArray,List.getElem?_cons_zero,List.getElem?_cons_succ];rfl);rotate_left;(· refine Or.inl ⟨by rfl,?_⟩;intro w hSw;(try dsimp only at hSw);go_simp;try with_reducible rfl);rotate_right;(· exact fun _ _ _ h=>h);simp only [Act.put,List.setIfInBounds_toArray,List.set_cons_zero,List.set_cons_succ]
        refine wpAnyH_take (i:=30) (oi:=?_) (v:=?_) ?_ (by kernel_rfl) (by kernel_rfl) (by kernel_rfl) ?_ ?_ (by assumption) ?_;rotate_left 2;(· simp only [List.getElem?_toArray,List.getElem?_cons_zero,List.getElem?_cons_succ];rfl);rotate_left;(· refine Or.inl ⟨by rfl,?_⟩;intro w hSw;(try dsimp only at hSw);go_simp;try with_reducible rfl);rotate_right;(· exact fun _ _ _ h=>h);simp only [Act.put,List.setIfInBounds_toArray,List.set_cons_zero,List.set_cons_succ]
        refine wpAnyH_take (i:=31) (oi:=?_) (v:=?_) ?_ (by kernel_rfl) (by kernel_rfl) (by kernel_rfl) ?_ ?_ (by assumption) ?_;rotate_left 2;(· simp only [List.getElem?_toArray,List.getElem?_cons_zero,List.getElem?_cons_succ];rfl);rotate_left;(· refine Or.inl ⟨by rfl,?_⟩;intro w hSw;(try dsimp only at hSw);go_simp;try with_reducible rfl);rotate_right;(· exact fun _ _ _ h=>h);simp only [Act.put,List.setIfInBounds_toArray,List.set_cons_zero,List.set_cons_succ]
        refine wpAnyH_take (i:=32) (oi:=?_) (v:=?_) ?_ (by kernel_rfl) (by kernel_rfl) (by kernel_rfl) ?_ ?_ (by assumption) ?_;rotate_left 2;(· simp only [List.getElem?_toArray,List.getElem?_cons_zero,List.getElem?_cons_succ];rfl);rotate_left;(· refine Or.inl ⟨by rfl,?_⟩;intro w hSw;(try dsimp only at hSw);go_simp;try with_reducible rfl);rotate_right;(· exact fun _ _ _ h=>h);simp only [Act.put,List.setIfInBounds_toArray,List.set_cons_zero,List.set_cons_succ]
        refine wpAnyH_take (i:=34) (oi:=?_) (v:=?_) ?_ (by kernel_rfl) (by kernel_rfl) (by kernel_rfl) ?_ ?_ (by assumption) ?_;rotate_left 2;(· simp only [List.getElem?_toArray,List.getElem?_cons_zero,List.getElem?_cons_succ];rfl);rotate_left;(· refine Or.inl ⟨by rfl,?_⟩;intro w hSw;(try dsimp only at hSw);go_simp;try with_reducible rfl);rotate_right;(· exact fun _ _ _ h=>h);simp only [Act.put,List.setIfInBounds_toArray,List.set_cons_zero,List.set_cons_succ]
        refine wpAnyH_ready (rs:=[33]) (by kernel_rfl) (by simp) ?_;refine AllReadyH.cons (o:=?_) ?_ (fun K hK=>?_) AllReadyH.nil;rotate_left;(· simp only [List.getElem?_toArray,List.getElem?_cons_zero,List.getElem?_cons_succ];rfl);go_simp;go_at_call 14;refine (CB.out _ (by first | exact G14.out | exact CD.out _ G14.out)).mono ?_;rintro en w15 ⟨rfl,h15⟩;have G15:=Lib.hid h15;have hS15:=FQ.out w15 h15.1.below;clear h15;refine hK.out _ _ (by first | assumption | trivial) (fun hHeld=>?_);clear hK K
        refine wpAnyH_ready (rs:=[35]) (by kernel_rfl) (by simp) ?_;refine AllReadyH.cons (o:=?_) ?_ (fun K hK=>?_) AllReadyH.nil;rotate_left;(· simp only [List.getElem?_toArray,List.getElem?_cons_zero,List.getElem?_cons_succ];rfl);go_simp;go_at_call 15;refine (CQ.out _ (by first | exact G15.out | exact CD.out _ G15.out)).mono ?_;rintro en w16 ⟨rfl,h16⟩;have G16:=Lib.hid h16;have hS16:=FQ.out w16 h16.1.below;clear h16;refine hK.out _ _ (by first | assumption | trivial) (fun hHeld=>?_);clear hK K
        refine wpAnyH_take (i:=36) (oi:=?_) (v:=?_) ?_ (by kernel_rfl) (by kernel_rfl) (by kernel_rfl) ?_ ?_ (by assumption) ?_;rotate_left 2;(· simp only [List.getElem?_toArray,List.getElem?_cons_zero,List.getElem?_cons_succ];rfl);rotate_left;(· refine Or.inl ⟨by rfl,?_⟩;intro w hSw;(try dsimp only at hSw);go_simp;try with_reducible rfl);rotate_right;(· exact fun _ _ _ h=>h);simp only [Act.put,List.setIfInBounds_toArray,List.set_cons_zero,List.set_cons_succ]
        refine wpAnyH_take (i:=37) (oi:=?_) (v:=?_) ?_ (by kernel_rfl) (by kernel_rfl) (by kernel_rfl) ?_ ?_ (by assumption) ?_;rotate_left 2;(· simp only [List.getElem?_toArray,List.getElem?_cons_zero,List.getElem?_cons_succ];rfl);rotate_left;(· refine Or.inl ⟨by rfl,?_⟩;intro w hSw;(try dsimp only at hSw);go_simp;try with_reducible rfl);rotate_right;(· exact fun _ _ _ h=>h);simp only [Act.put,List.setIfInBounds_toArray,List.set_cons_zero,List.set_cons_succ]
        refine wpAnyH_take (i:=38) (oi:=?_) (v:=?_) ?_ (by kernel_rfl) (by kernel_rfl) (by kernel_rfl) ?_ ?_ (by assumption) ?_;rotate_left 2;(· simp only [List.getElem?_toArray,List.getElem?_cons_zero,List.getElem?_cons_succ];rfl);rotate_left;(· refine Or.inl ⟨by rfl,?_⟩;intro w hSw;(try dsimp only at hSw);go_simp;try with_reducible rfl);rotate_right;(· exact fun _ _ _ h=>h);simp only [Act.put,List.setIfInBounds_toArray,List.set_cons_zero,List.set_cons_succ]
        refine wpAnyH_take (i:=39) (oi:=?_) (v:=?_) ?_ (by kernel_rfl) (by kernel_rfl) (by kernel_rfl) ?_ ?_ (by assumption) ?_;rotate_left 2;(· simp only [List.getElem?_toArray,List.getElem?_cons_zero,List.getElem?_cons_succ];rfl);rotate_left;(· refine Or.inl ⟨by rfl,?_⟩;intro w hSw;(try dsimp only at hSw);go_simp;try with_reducible rfl);rotate_right;(· exact fun _ _ _ h=>h);simp only [Act.put,List.setIfInBounds_toArray,List.set_cons_zero,List.set_cons_succ]
        refine wpAnyH_ready (rs:=[40]) (by kernel_rfl) (by simp) ?_;refine AllReadyH.cons (o:=?_) ?_ (fun K hK=>?_) AllReadyH.nil;rotate_left;(· simp only [List.getElem?_toArray,List.getElem?_cons_zero,List.getElem?_cons_succ];rfl);go_simp;go_at_call 22;refine (CN.out _ (by first | exact G16.out | exact CD.out _ G16.out)).mono ?_;rintro en w17 ⟨rfl,h17⟩;have G17:=Lib.hid (HEnd.out _ _ h17);have hS17:=FQ.out w17 h17.below;clear h17;refine hK.out _ _ (by first | assumption | trivial) (fun hHeld=>?_);clear hK K
        refine wpAnyH_take (i:=41) (oi:=?_) (v:=?_) ?_ (by kernel_rfl) (by kernel_rfl) (by kernel_rfl) ?_ ?_ (by assumption) ?_;rotate_left 2;(· simp only [List.getElem?_toArray,List.getElem?_cons_zero,List.getElem?_cons_succ];rfl);rotate_left;(· refine Or.inl ⟨by rfl,?_⟩;intro w hSw;(try dsimp only at hSw);go_simp;try with_reducible rfl);rotate_right;(· exact fun _ _ _ h=>h);simp only [Act.put,List.setIfInBounds_toArray,List.set_cons_zero,List.set_cons_succ]
        refine wpAnyH_take (i:=42) (oi:=?_) (v:=?_) ?_ (by kernel_rfl) (by kernel_rfl) (by kernel_rfl) ?_ ?_ (by assumption) ?_;rotate_left 2;(· simp only [List.getElem?_toArray,List.getElem?_cons_zero,List.getElem?_cons_succ];rfl);rotate_left;(· refine Or.inl ⟨by rfl,?_⟩;intro w hSw;(try dsimp only at hSw);go_simp;try with_reducible rfl);rotate_right;(· exact fun _ _ _ h=>h);simp only [Act.put,List.setIfInBounds_toArray,List.set_cons_zero,List.set_cons_succ]
        refine wpAnyH_done (by kernel_rfl) ?_ _
        have G18:=Lib.hid (show LJ E S L HL.out N w2 d b rb g g 1 (6002+1300 * (k+1)) _ by first | exact G17.out | exact G17.out.beside (Below.refl _ _).drew)
        clear hS0 hS15 hS16 hS17 G14 G15 G16 G17 CB CQ CN CD zs HEnd
        go_wp2_with fail
        go_roundw
        case rel=>exact ⟨k+1,_,by omega,by go_num,G18⟩
        case measure=>simp [intOf];omega
      · have C3:Hid (Calls Tryz.prog 21 #[.pointer (some ⟨b,0,none⟩),Cf E S L,.int .i64 X,.bool v] wr.drew fun e z=>e=.returned (.int .i64 3)∧LJ E S L HL.out N w2 d b rb (K.M.putI E f X v) f 2 (6002+1300 * k+1) z):=by
          rw [K.M.putI_out E f X v (Or.inr h2)]
          exact (HP.out.beside (Below.refl _ _).drew).refused X (Or.inr h2) v
        have x0:decide ((0:Int)≤X)=true:=by simp;omega
        have x1:decide (X < (E:Int))=false:=by simp;omega
        have x2:(0:Int)≤X:=by omega
        have x3:¬ X < (E:Int):=by omega
        have C4:Hid (∀ x,LJ E S L HL.out N w2 d b rb (K.M.putI E f X v) f 2 (6002+1300 * k+1) x→Calls Tryz.prog 9 #[.pointer (some ⟨rb,0,none⟩),.int .i64 X,.bool v] x fun e z=>∃ r,e=.returned (.bool r)∧LJ E S L HL.out N w2 d b rb (K.M.putI E f X v) (K.M.putI E f X v) 2 (6002+1300 * k+1) z):=fun x q=>q.put X v
        obtain ⟨g,hg⟩:∃ g,g=K.M.putI E f X v:=⟨_,rfl⟩
        rw [←hg] at C3 C4
        obtain ⟨m0,hm0⟩:∃ x,x=6002+1300 * k+1:=⟨_,rfl⟩
        rw [←hm0] at C3 C4 HEnd
        have hm9:m0≤200000:=by omega
        have FQ:Hid (∀ y,Below N w2 y→y.cell? (ad.add (k * 2))=some (.int .i64 X)∧y.cell? ⟨w.heap.size,0,none⟩=some (.int .i64 E)):=fun y hb=>⟨(HC.out y hb).1,(FC.out y hb).1⟩
        have HBr:=Lib.hid HP.out.below
        clear HP hg hm0
        obtain ⟨c0,c1⟩:=HC.out wr HBr.out
        obtain ⟨k0,k1,k2⟩:=FC.out wr HBr.out
        go_wp2_with fail
        go_still_tail 12,(by kernel_rfl)
        change wpList _ _ _ _ _ wr.drew
        go_wp2_with fail
        refine C3.out.mono ?_
        rintro en w12 ⟨rfl,h12⟩
        have G12:=Lib.hid (h12.beside (Below.refl _ _).drew)
        have HB12:=Lib.hid h12.below
        clear h12 C3 c0 c1 k0 k1 k2 HBr
        obtain ⟨c0,c1⟩:=HC.out w12 HB12.out
        go_wp2_with fail
        go_still_tail 11,(by kernel_rfl)
        change wpList _ _ _ _ _ w12.drew
        go_wp2_with fail
        refine (C4.out _ G12.out).mono ?_
        rintro en w13 ⟨r,rfl,h13⟩
        have G13:=Lib.hid h13
        clear h13 C4 G12 HB12 c0 c1
        obtain ⟨k0,k1,k2⟩:=FC.out w13 G13.out.below
        go_wp2_with fail
        refine (G13.out.load (by omega)).mono ?_
        rintro en w14 ⟨p,rfl,h14⟩
        have G14:=Lib.hid h14
        clear h14 G13 k0 k1 k2
        have CB:Hid (∀ x,LP E S L HL.out N w2 d b rb p g g 2 (m0+1) x→Calls Tryz.prog 14 #[.pointer (some ⟨p,0,none⟩)] x fun e z=>e=.returned (.string (M.jb E g))∧LP E S L HL.out N w2 d b rb p g g 2 (m0+1) z):=fun x q=>q.bytes
        have CQ:Hid (∀ x,LP E S L HL.out N w2 d b rb p g g 2 (m0+1) x→Calls Tryz.prog 15 #[.pointer (some ⟨rb,0,none⟩)] x fun e z=>e=.returned (.string (M.jb E g))∧LP E S L HL.out N w2 d b rb p g g 2 (m0+1) z):=fun x q=>q.rbytes
        have CN:Hid (∀ x,LP E S L HL.out N w2 d b rb p g g 2 (m0+1) x→Calls Tryz.prog 22 #[.pointer (some ⟨b,0,none⟩)] x fun e z=>e=.returned (.bool true)∧LJ E S L HL.out N w2 d b rb g g 0 (m0+1+1200) z):=fun x q=>q.1.next (by omega) (by omega) HPB.out.2.1 HPB.out.2.2.2
        have CD:Hid (∀ x,LP E S L HL.out N w2 d b rb p g g 2 (m0+1) x→LP E S L HL.out N w2 d b rb p g g 2 (m0+1) x.drew):=fun x q=>q.beside (Below.refl _ _).drew
        obtain ⟨SB,hSB⟩:∃ x,x=M.jb E g:=⟨_,rfl⟩
        rw [←hSB] at CB CQ
        have zs:(SB.toList==SB.toList)=true:=by simp
        clear hSB
        have hS0:=FQ.out w14 G14.out.1.below
        go_wp2_with fail
        refine wp_region_held_drew (S:=(fun y=>y.cell? (ad.add (k * 2))=some (.int .i64 X)∧y.cell? ⟨w.heap.size,0,none⟩=some (.int .i64 E))) (by kernel_rfl) (by first | assumption | trivial) (fun hHeld=>?_)
        refine wpAnyH_take (i:=0) (oi:=?_) (v:=?_) ?_ (by kernel_rfl) (by kernel_rfl) (by kernel_rfl) ?_ ?_ (by assumption) ?_;rotate_left 2;(· simp only [List.getElem?_toArray,List.getElem?_cons_zero];rfl);rotate_left;(· refine Or.inl ⟨by rfl,?_⟩;intro w hSw;(try dsimp only at hSw);go_simp;try with_reducible rfl);rotate_right;(· exact fun _ _ _ h=>h);simp only [Act.put,List.setIfInBounds_toArray,List.set_cons_zero,List.set_cons_succ]
        refine wpAnyH_take (i:=1) (oi:=?_) (v:=?_) ?_ (by kernel_rfl) (by kernel_rfl) (by kernel_rfl) ?_ ?_ (by assumption) ?_;rotate_left 2;(· simp only [List.getElem?_toArray,List.getElem?_cons_zero,List.getElem?_cons_succ];rfl);rotate_left;(· refine Or.inl ⟨by rfl,?_⟩;intro w hSw;(try dsimp only at hSw);go_simp;try with_reducible rfl);rotate_right;(· exact fun _ _ _ h=>h);simp only [Act.put,List.setIfInBounds_toArray,List.set_cons_zero,List.set_cons_succ]
        refine wpAnyH_take (i:=2) (oi:=?_) (v:=?_) ?_ (by kernel_rfl) (by kernel_rfl) (by kernel_rfl) ?_ ?_ (by assumption) ?_;rotate_left 2;(· simp only [List.getElem?_toArray,List.getElem?_cons_zero,List.getElem?_cons_succ];rfl);rotate_left;(· refine Or.inl ⟨by rfl,?_⟩;intro w hSw;(try dsimp only at hSw);go_simp;try with_reducible rfl);rotate_right;(· exact fun _ _ _ h=>h);simp only [Act.put,List.setIfInBounds_toArray,List.set_cons_zero,List.set_cons_succ]
        refine wpAnyH_take (i:=3) (oi:=?_) (v:=?_) ?_ (by kernel_rfl) (by kernel_rfl) (by kernel_rfl) ?_ ?_ (by assumption) ?_;rotate_left 2;(· simp only [List.getElem?_toArray,List.getElem?_cons_zero,List.getElem?_cons_succ];rfl);rotate_left;(· refine Or.inl ⟨by rfl,?_⟩;intro w hSw;(try dsimp only at hSw);go_simp;try with_reducible rfl);rotate_right;(· exact fun _ _ _ h=>h);simp only [Act.put,List.setIfInBounds_toArray,List.set_cons_zero,List.set_cons_succ]
        refine wpAnyH_take (i:=4) (oi:=?_) (v:=?_) ?_ (by kernel_rfl) (by kernel_rfl) (by kernel_rfl) ?_ ?_ (by assumption) ?_;rotate_left 2;(· simp only [List.getElem?_toArray,List.getElem?_cons_zero,List.getElem?_cons_succ];rfl);rotate_left;(· refine Or.inl ⟨by rfl,?_⟩;intro w hSw;(try dsimp only at hSw);go_simp;try with_reducible rfl);rotate_right;(· exact fun _ _ _ h=>h);simp only [Act.put,List.setIfInBounds_toArray,List.set_cons_zero,List.set_cons_succ]
        refine wpAnyH_take (i:=5) (oi:=?_) (v:=?_) ?_ (by kernel_rfl) (by kernel_rfl) (by kernel_rfl) ?_ ?_ (by assumption) ?_;rotate_left 2;(· simp only [List.getElem?_toArray,List.getElem?_cons_zero,List.getElem?_cons_succ];rfl);rotate_left;(· refine Or.inl ⟨by rfl,?_⟩;intro w hSw;(try dsimp only at hSw);go_simp;try with_reducible rfl);rotate_right;(· exact fun _ _ _ h=>h);simp only [Act.put,List.setIfInBounds_toArray,List.set_cons_zero,List.set_cons_succ]
        refine wpAnyH_take (i:=6) (oi:=?_) (v:=?_) ?_ (by kernel_rfl) (by kernel_rfl) (by kernel_rfl) ?_ ?_ (by assumption) ?_;rotate_left 2;(· simp only [List.getElem?_toArray,List.getElem?_cons_zero,List.getElem?_cons_succ];rfl);rotate_left;(· refine Or.inl ⟨by rfl,?_⟩;intro w hSw;(try dsimp only at hSw);go_simp;try with_reducible rfl);rotate_right;(· exact fun _ _ _ h=>h);simp only [Act.put,List.setIfInBounds_toArray,List.set_cons_zero,List.set_cons_succ]
        refine wpAnyH_take (i:=7) (oi:=?_) (v:=?_) ?_ (by kernel_rfl) (by kernel_rfl) (by kernel_rfl) ?_ ?_ (by assumption) ?_;rotate_left 2;(· simp only [List.getElem?_toArray,List.getElem?_cons_zero,List.getElem?_cons_succ];rfl);rotate_left;(· refine Or.inl ⟨by rfl,?_⟩;intro w hSw;(try dsimp only at hSw);go_simp;try with_reducible rfl);rotate_right;(· exact fun _ _ _ h=>h);simp only [Act.put,List.setIfInBounds_toArray,List.set_cons_zero,List.set_cons_succ]
        refine wpAnyH_take (i:=8) (oi:=?_) (v:=?_) ?_ (by kernel_rfl) (by kernel_rfl) (by kernel_rfl) ?_ ?_ (by assumption) ?_;rotate_left 2;(· simp only [List.getElem?_toArray,List.getElem?_cons_zero,List.getElem?_cons_succ];rfl);rotate_left;(· refine Or.inl ⟨by rfl,?_⟩;intro w hSw;(try dsimp only at hSw);go_simp;try with_reducible rfl);rotate_right;(· exact fun _ _ _ h=>h);simp only [Act.put,List.setIfInBounds_toArray,List.set_cons_zero,List.set_cons_succ]
        refine wpAnyH_take (i:=9) (oi:=?_) (v:=?_) ?_ (by kernel_rfl) (by kernel_rfl) (by kernel_rfl) ?_ ?_ (by assumption) ?_;rotate_left 2;(· simp only [List.getElem?_toArray,List.getElem?_cons_zero,List.getElem?_cons_succ];rfl);rotate_left;(· refine Or.inl ⟨by rfl,?_⟩;intro w hSw;(try dsimp only at hSw);go_simp;try with_reducible rfl);rotate_right;(· exact fun _ _ _ h=>h);simp only [Act.put,List.setIfInBounds_toArray,List.set_cons_zero,List.set_cons_succ]
        refine wpAnyH_take (i:=10) (oi:=?_) (v:=?_) ?_ (by kernel_rfl) (by kernel_rfl) (by kernel_rfl) ?_ ?_ (by assumption) ?_;rotate_left 2;(· simp only [List.getElem?_toArray,List.getElem?_cons_zero,List.getElem?_cons_succ];rfl);rotate_left;(· refine Or.inl ⟨by rfl,?_⟩;intro w hSw;(try dsimp only at hSw);go_simp;try with_reducible rfl);rotate_right;(· exact fun _ _ _ h=>h);simp only [Act.put,List.setIfInBounds_toArray,List.set_cons_zero,List.set_cons_succ]
        refine wpAnyH_take (i:=11) (oi:=?_) (v:=?_) ?_ (by kernel_rfl) (by kernel_rfl) (by kernel_rfl) ?_ ?_ (by assumption) ?_;rotate_left 2;(· simp only [List.getElem?_toArray,List.getElem?_cons_zero,List.getElem?_cons_succ];rfl);rotate_left;(· refine Or.inl ⟨by rfl,?_⟩;intro w hSw;(try dsimp only at hSw);go_simp;try with_reducible rfl);rotate_right;(· exact fun _ _ _ h=>h);simp only [Act.put,List.setIfInBounds_toArray,List.set_cons_zero,List.set_cons_succ]
        refine wpAnyH_take (i:=12) (oi:=?_) (v:=?_) ?_ (by kernel_rfl) (by kernel_rfl) (by kernel_rfl) ?_ ?_ (by assumption) ?_;rotate_left 2;(· simp only [List.getElem?_toArray,List.getElem?_cons_zero,List.getElem?_cons_succ];rfl);rotate_left;(· refine Or.inl ⟨by rfl,?_⟩;intro w hSw;(try dsimp only at hSw);go_simp;try with_reducible rfl);rotate_right;(· exact fun _ _ _ h=>h);simp only [Act.put,List.setIfInBounds_toArray,List.set_cons_zero,List.set_cons_succ]
        refine wpAnyH_take (i:=13) (oi:=?_) (v:=?_) ?_ (by kernel_rfl) (by kernel_rfl) (by kernel_rfl) ?_ ?_ (by assumption) ?_;rotate_left 2;(· simp only [List.getElem?_toArray,List.getElem?_cons_zero,List.getElem?_cons_succ];rfl);rotate_left;(· refine Or.inl ⟨by rfl,?_⟩;intro w hSw;(try dsimp only at hSw);go_simp;try with_reducible rfl);rotate_right;(· exact fun _ _ _ h=>h);simp only [Act.put,List.setIfInBounds_toArray,List.set_cons_zero,List.set_cons_succ]
        refine wpAnyH_take (i:=14) (oi:=?_) (v:=?_) ?_ (by kernel_rfl) (by kernel_rfl) (by kernel_rfl) ?_ ?_ (by assumption) ?_;rotate_left 2;(· simp only [List.getElem?_toArray,List.getElem?_cons_zero,List.getElem?_cons_succ];rfl);rotate_left;(· refine Or.inl ⟨by rfl,?_⟩;intro w hSw;(try dsimp only at hSw);go_simp;try with_reducible rfl);rotate_right;(· exact fun _ _ _ h=>h);simp only [Act.put,List.setIfInBounds_toArray,List.set_cons_zero,List.set_cons_succ]
        refine wpAnyH_take (i:=15) (oi:=?_) (v:=?_) ?_ (by kernel_rfl) (by kernel_rfl) (by kernel_rfl) ?_ ?_ (by assumption) ?_;rotate_left 2;(· simp only [List.getElem?_toArray,List.getElem?_cons_zero,List.getElem?_cons_succ];rfl);rotate_left;(· refine Or.inl ⟨by rfl,?_⟩;intro w hSw;(try dsimp only at hSw);go_simp;try with_reducible rfl);rotate_right;(· exact fun _ _ _ h=>h);simp only [Act.put,List.setIfInBounds_toArray,List.set_cons_zero,List.set_cons_succ]
        refine wpAnyH_take (i:=16) (oi:=?_) (v:=?_) ?_ (by kernel_rfl) (by kernel_rfl) (by kernel_rfl) ?_ ?_ (by assumption) ?_;rotate_left 2;(· simp only [List.getElem?_toArray,List.getElem?_cons_zero,List.getElem?_cons_succ];rfl);rotate_left;(· refine Or.inl ⟨by rfl,?_⟩;intro w hSw;(try dsimp only at hSw);go_simp;try with_reducible rfl);rotate_right;(· exact fun _ _ _ h=>h);simp only [Act.put,List.setIfInBounds_toArray,List.set_cons_zero,List.set_cons_succ]
        refine wpAnyH_take (i:=17) (oi:=?_) (v:=?_) ?_ (by kernel_rfl) (by kernel_rfl) (by kernel_rfl) ?_ ?_ (by assumption) ?_;rotate_left 2;(· simp only [List.getElem?_toArray,List.getElem?_cons_zero,List.getElem?_cons_succ];rfl);rotate_left;(· refine Or.inl ⟨by rfl,?_⟩;intro w hSw;(try dsimp only at hSw);go_simp;try with_reducible rfl);rotate_right;(· exact fun _ _ _ h=>h);simp only [Act.put,List.setIfInBounds_toArray,List.set_cons_zero,List.set_cons_succ]
        refine wpAnyH_take (i:=18) (oi:=?_) (v:=?_) ?_ (by kernel_rfl) (by kernel_rfl) (by kernel_rfl) ?_ ?_ (by assumption) ?_;rotate_left 2;(· simp only [List.getElem?_toArray,List.getElem?_cons_zero,List.getElem?_cons_succ];rfl);rotate_left;(· refine Or.inl ⟨by rfl,?_⟩;intro w hSw;(try dsimp only at hSw);go_simp;try with_reducible rfl);rotate_right;(· exact fun _ _ _ h=>h);simp only [Act.put,List.setIfInBounds_toArray,List.set_cons_zero,List.set_cons_succ]
        refine wpAnyH_take (i:=19) (oi:=?_) (v:=?_) ?_ (by kernel_rfl) (by kernel_rfl) (by kernel_rfl) ?_ ?_ (by assumption) ?_;rotate_left 2;(· simp only [List.getElem?_toArray,List.getElem?_cons_zero,List.getElem?_cons_succ];rfl);rotate_left;(· refine Or.inl ⟨by rfl,?_⟩;intro w hSw;(try dsimp only at hSw);go_simp;try with_reducible rfl);rotate_right;(· exact fun _ _ _ h=>h);simp only [Act.put,List.setIfInBounds_toArray,List.set_cons_zero,List.set_cons_succ]
        refine wpAnyH_take (i:=20) (oi:=?_) (v:=?_) ?_ (by kernel_rfl) (by kernel_rfl) (by kernel_rfl) ?_ ?_ (by assumption) ?_;rotate_left 2;(· simp only [List.getElem?_toArray,List.getElem?_cons_zero,List.getElem?_cons_succ];rfl);rotate_left;(· refine Or.inl ⟨by rfl,?_⟩;intro w hSw;(try dsimp only at hSw);go_simp;try with_reducible rfl);rotate_right;(· exact fun _ _ _ h=>h);simp only [Act.put,List.setIfInBounds_toArray,List.set_cons_zero,List.set_cons_succ]
        refine wpAnyH_take (i:=21) (oi:=?_) (v:=?_) ?_ (by kernel_rfl) (by kernel_rfl) (by kernel_rfl) ?_ ?_ (by assumption) ?_;rotate_left 2;(· simp only [List.getElem?_toArray,List.getElem?_cons_zero,List.getElem?_cons_succ];rfl);rotate_left;(· refine Or.inl ⟨by rfl,?_⟩;intro w hSw;(try dsimp only at hSw);go_simp;try with_reducible rfl);rotate_right;(· exact fun _ _ _ h=>h);simp only [Act.put,List.setIfInBounds_toArray,List.set_cons_zero,List.set_cons_succ]
        refine wpAnyH_take (i:=22) (oi:=?_) (v:=?_) ?_ (by kernel_rfl) (by kernel_rfl) (by kernel_rfl) ?_ ?_ (by assumption) ?_;rotate_left 2;(· simp only [List.getElem?_toArray,List.getElem?_cons_zero,List.getElem?_cons_succ];rfl);rotate_left;(· refine Or.inl ⟨by rfl,?_⟩;intro w hSw;(try dsimp only at hSw);go_simp;try with_reducible rfl);rotate_right;(· exact fun _ _ _ h=>h);simp only [Act.put,List.setIfInBounds_toArray,List.set_cons_zero,List.set_cons_succ]
        refine wpAnyH_take (i:=23) (oi:=?_) (v:=?_) ?_ (by kernel_rfl) (by kernel_rfl) (by kernel_rfl) ?_ ?_ (by assumption) ?_;rotate_left 2;(· simp only [List.getElem?_toArray,List.getElem?_cons_zero,List.getElem?_cons_succ];rfl);rotate_left;(· refine Or.inl ⟨by rfl,?_⟩;intro w hSw;(try dsimp only at hSw);go_simp;try with_reducible rfl);rotate_right;(· exact fun _ _ _ h=>h);simp only [Act.put,List.setIfInBounds_toArray,List.set_cons_zero,List.set_cons_succ]
        refine wpAnyH_take (i:=24) (oi:=?_) (v:=?_) ?_ (by kernel_rfl) (by kernel_rfl) (by kernel_rfl) ?_ ?_ (by assumption) ?_;rotate_left 2;(· simp only [List.getElem?_toArray,List.getElem?_cons_zero,List.getElem?_cons_succ];rfl);rotate_left;(· refine Or.inl ⟨by rfl,?_⟩;intro w hSw;(try dsimp only at hSw);go_simp;try with_reducible rfl);rotate_right;(· exact fun _ _ _ h=>h);simp only [Act.put,List.setIfInBounds_toArray,List.set_cons_zero,List.set_cons_succ]
        refine wpAnyH_take (i:=25) (oi:=?_) (v:=?_) ?_ (by kernel_rfl) (by kernel_rfl) (by kernel_rfl) ?_ ?_ (by assumption) ?_;rotate_left 2;(· simp only [List.getElem?_toArray,List.getElem?_cons_zero,List.getElem?_cons_succ];rfl);rotate_left;(· refine Or.inl ⟨by rfl,?_⟩;intro w hSw;(try dsimp only at hSw);go_simp;try with_reducible rfl);rotate_right;(· exact fun _ _ _ h=>h);simp only [Act.put,List.setIfInBounds_toArray,List.set_cons_zero,List.set_cons_succ]
        refine wpAnyH_take (i:=26) (oi:=?_) (v:=?_) ?_ (by kernel_rfl) (by kernel_rfl) (by kernel_rfl) ?_ ?_ (by assumption) ?_;rotate_left 2;(· simp only [List.getElem?_toArray,List.getElem?_cons_zero,List.getElem?_cons_succ];rfl);rotate_left;(· refine Or.inl ⟨by rfl,?_⟩;intro w hSw;(try dsimp only at hSw);go_simp;try with_reducible rfl);rotate_right;(· exact fun _ _ _ h=>h);simp only [Act.put,List.setIfInBounds_toArray,List.set_cons_zero,List.set_cons_succ]
        refine wpAnyH_take (i:=27) (oi:=?_) (v:=?_) ?_ (by kernel_rfl) (by kernel_rfl) (by kernel_rfl) ?_ ?_ (by assumption) ?_;rotate_left 2;(· simp only [List.getElem?_toArray,List.getElem?_cons_zero,List.getElem?_cons_succ];rfl);rotate_left;(· refine Or.inl ⟨by rfl,?_⟩;intro w hSw;(try dsimp only at hSw);go_simp;try with_reducible rfl);rotate_right;(· exact fun _ _ _ h=>h);simp only [Act.put,List.setIfInBounds_toArray,List.set_cons_zero,List.set_cons_succ]
        refine wpAnyH_take (i:=28) (oi:=?_) (v:=?_) ?_ (by kernel_rfl) (by kernel_rfl) (by kernel_rfl) ?_ ?_ (by assumption) ?_;rotate_left 2;(· simp only [List.getElem?_toArray,List.getElem?_cons_zero,List.getElem?_cons_succ];rfl);rotate_left;(· refine Or.inl ⟨by rfl,?_⟩;intro w hSw;(try dsimp only at hSw);go_simp;try with_reducible rfl);rotate_right;(· exact fun _ _ _ h=>h);simp only [Act.put,List.setIfInBounds_toArray,List.set_cons_zero,List.set_cons_succ]
        refine wpAnyH_take (i:=29) (oi:=?_) (v:=?_) ?_ (by kernel_rfl) (by kernel_rfl) (by kernel_rfl) ?_ ?_ (by assumption) ?_;rotate_left 2;(· simp only [List.getElem?_toArray,List.getElem?_cons_zero,List.getElem?_cons_succ];rfl);rotate_left;(· refine Or.inl ⟨by rfl,?_⟩;intro w hSw;(try dsimp only at hSw);go_simp;try with_reducible rfl);rotate_right;(· exact fun _ _ _ h=>h);simp only [Act.put,List.setIfInBounds_toArray,List.set_cons_zero,List.set_cons_succ]
        refine wpAnyH_take (i:=30) (oi:=?_) (v:=?_) ?_ (by kernel_rfl) (by kernel_rfl) (by kernel_rfl) ?_ ?_ (by assumption) ?_;rotate_left 2;(· simp only [List.getElem?_toArray,List.getElem?_cons_zero,List.getElem?_cons_succ];rfl);rotate_left;(· refine Or.inl ⟨by rfl,?_⟩;intro w hSw;(try dsimp only at hSw);go_simp;try with_reducible rfl);rotate_right;(· exact fun _ _ _ h=>h);simp only [Act.put,List.setIfInBounds_toArray,List.set_cons_zero,List.set_cons_succ]
        refine wpAnyH_take (i:=31) (oi:=?_) (v:=?_) ?_ (by kernel_rfl) (by kernel_rfl) (by kernel_rfl) ?_ ?_ (by assumption) ?_;rotate_left 2;(· simp only [List.getElem?_toArray,List.getElem?_cons_zero,List.getElem?_cons_succ];rfl);rotate_left;(· refine Or.inl ⟨by rfl,?_⟩;intro w hSw;(try dsimp only at hSw);go_simp;try with_reducible rfl);rotate_right;(· exact fun _ _ _ h=>h);simp only [Act.put,List.setIfInBounds_toArray,List.set_cons_zero,List.set_cons_succ]
        refine wpAnyH_take (i:=32) (oi:=?_) (v:=?_) ?_ (by kernel_rfl) (by kernel_rfl) (by kernel_rfl) ?_ ?_ (by assumption) ?_;rotate_left 2;(· simp only [List.getElem?_toArray,List.getElem?_cons_zero,List.getElem?_cons_succ];rfl);rotate_left;(· refine Or.inl ⟨by rfl,?_⟩;intro w hSw;(try dsimp only at hSw);go_simp;try with_reducible rfl);rotate_right;(· exact fun _ _ _ h=>h);simp only [Act.put,List.setIfInBounds_toArray,List.set_cons_zero,List.set_cons_succ]
        refine wpAnyH_take (i:=34) (oi:=?_) (v:=?_) ?_ (by kernel_rfl) (by kernel_rfl) (by kernel_rfl) ?_ ?_ (by assumption) ?_;rotate_left 2;(· simp only [List.getElem?_toArray,List.getElem?_cons_zero,List.getElem?_cons_succ];rfl);rotate_left;(· refine Or.inl ⟨by rfl,?_⟩;intro w hSw;(try dsimp only at hSw);go_simp;try with_reducible rfl);rotate_right;(· exact fun _ _ _ h=>h);simp only [Act.put,List.setIfInBounds_toArray,List.set_cons_zero,List.set_cons_succ]
        refine wpAnyH_ready (rs:=[33]) (by kernel_rfl) (by simp) ?_;refine AllReadyH.cons (o:=?_) ?_ (fun K hK=>?_) AllReadyH.nil;rotate_left;(· simp only [List.getElem?_toArray,List.getElem?_cons_zero,List.getElem?_cons_succ];rfl);go_simp;go_at_call 14;refine (CB.out _ (by first | exact G14.out | exact CD.out _ G14.out)).mono ?_;rintro en w15 ⟨rfl,h15⟩;have G15:=Lib.hid h15;have hS15:=FQ.out w15 h15.1.below;clear h15;refine hK.out _ _ (by first | assumption | trivial) (fun hHeld=>?_);clear hK K
        refine wpAnyH_ready (rs:=[35]) (by kernel_rfl) (by simp) ?_;refine AllReadyH.cons (o:=?_) ?_ (fun K hK=>?_) AllReadyH.nil;rotate_left;(· simp only [List.getElem?_toArray,List.getElem?_cons_zero,List.getElem?_cons_succ];rfl);go_simp;go_at_call 15;refine (CQ.out _ (by first | exact G15.out | exact CD.out _ G15.out)).mono ?_;rintro en w16 ⟨rfl,h16⟩;have G16:=Lib.hid h16;have hS16:=FQ.out w16 h16.1.below;clear h16;refine hK.out _ _ (by first | assumption | trivial) (fun hHeld=>?_);clear hK K
        refine wpAnyH_take (i:=36) (oi:=?_) (v:=?_) ?_ (by kernel_rfl) (by kernel_rfl) (by kernel_rfl) ?_ ?_ (by assumption) ?_;rotate_left 2;(· simp only [List.getElem?_toArray,List.getElem?_cons_zero,List.getElem?_cons_succ];rfl);rotate_left;(· refine Or.inl ⟨by rfl,?_⟩;intro w hSw;(try dsimp only at hSw);go_simp;try with_reducible rfl);rotate_right;(· exact fun _ _ _ h=>h);simp only [Act.put,List.setIfInBounds_toArray,List.set_cons_zero,List.set_cons_succ]
        refine wpAnyH_take (i:=37) (oi:=?_) (v:=?_) ?_ (by kernel_rfl) (by kernel_rfl) (by kernel_rfl) ?_ ?_ (by assumption) ?_;rotate_left 2;(· simp only [List.getElem?_toArray,List.getElem?_cons_zero,List.getElem?_cons_succ];rfl);rotate_left;(· refine Or.inl ⟨by rfl,?_⟩;intro w hSw;(try dsimp only at hSw);go_simp;try with_reducible rfl);rotate_right;(· exact fun _ _ _ h=>h);simp only [Act.put,List.setIfInBounds_toArray,List.set_cons_zero,List.set_cons_succ]
        refine wpAnyH_take (i:=38) (oi:=?_) (v:=?_) ?_ (by kernel_rfl) (by kernel_rfl) (by kernel_rfl) ?_ ?_ (by assumption) ?_;rotate_left 2;(· simp only [List.getElem?_toArray,List.getElem?_cons_zero,List.getElem?_cons_succ];rfl);rotate_left;(· refine Or.inl ⟨by rfl,?_⟩;intro w hSw;(try dsimp only at hSw);go_simp;try with_reducible rfl);rotate_right;(· exact fun _ _ _ h=>h);simp only [Act.put,List.setIfInBounds_toArray,List.set_cons_zero,List.set_cons_succ]
        refine wpAnyH_take (i:=39) (oi:=?_) (v:=?_) ?_ (by kernel_rfl) (by kernel_rfl) (by kernel_rfl) ?_ ?_ (by assumption) ?_;rotate_left 2;(· simp only [List.getElem?_toArray,List.getElem?_cons_zero,List.getElem?_cons_succ];rfl);rotate_left;(· refine Or.inl ⟨by rfl,?_⟩;intro w hSw;(try dsimp only at hSw);go_simp;try with_reducible rfl);rotate_right;(· exact fun _ _ _ h=>h);simp only [Act.put,List.setIfInBounds_toArray,List.set_cons_zero,List.set_cons_succ]
        refine wpAnyH_ready (rs:=[40]) (by kernel_rfl) (by simp) ?_;refine AllReadyH.cons (o:=?_) ?_ (fun K hK=>?_) AllReadyH.nil;rotate_left;(· simp only [List.getElem?_toArray,List.getElem?_cons_zero,List.getElem?_cons_succ];rfl);go_simp;go_at_call 22;refine (CN.out _ (by first | exact G16.out | exact CD.out _ G16.out)).mono ?_;rintro en w17 ⟨rfl,h17⟩;have G17:=Lib.hid (HEnd.out _ _ h17);have hS17:=FQ.out w17 h17.below;clear h17;refine hK.out _ _ (by first | assumption | trivial) (fun hHeld=>?_);clear hK K
        refine wpAnyH_take (i:=41) (oi:=?_) (v:=?_) ?_ (by kernel_rfl) (by kernel_rfl) (by kernel_rfl) ?_ ?_ (by assumption) ?_;rotate_left 2;(· simp only [List.getElem?_toArray,List.getElem?_cons_zero,List.getElem?_cons_succ];rfl);rotate_left;(· refine Or.inl ⟨by rfl,?_⟩;intro w hSw;(try dsimp only at hSw);go_simp;try with_reducible rfl);rotate_right;(· exact fun _ _ _ h=>h);simp only [Act.put,List.setIfInBounds_toArray,List.set_cons_zero,List.set_cons_succ]
        refine wpAnyH_take (i:=42) (oi:=?_) (v:=?_) ?_ (by kernel_rfl) (by kernel_rfl) (by kernel_rfl) ?_ ?_ (by assumption) ?_;rotate_left 2;(· simp only [List.getElem?_toArray,List.getElem?_cons_zero,List.getElem?_cons_succ];rfl);rotate_left;(· refine Or.inl ⟨by rfl,?_⟩;intro w hSw;(try dsimp only at hSw);go_simp;try with_reducible rfl);rotate_right;(· exact fun _ _ _ h=>h);simp only [Act.put,List.setIfInBounds_toArray,List.set_cons_zero,List.set_cons_succ]
        refine wpAnyH_done (by kernel_rfl) ?_ _
        have G18:=Lib.hid (show LJ E S L HL.out N w2 d b rb g g 1 (6002+1300 * (k+1)) _ by first | exact G17.out | exact G17.out.beside (Below.refl _ _).drew)
        clear hS0 hS15 hS16 hS17 G14 G15 G16 G17 CB CQ CN CD zs HEnd
        go_wp2_with fail
        go_roundw
        case rel=>exact ⟨k+1,_,by omega,by go_num,G18⟩
        case measure=>simp [intOf];omega
      · have C3:Hid (Calls Tryz.prog 21 #[.pointer (some ⟨b,0,none⟩),Cf E S L,.int .i64 (i:Nat),.bool v] wr.drew fun e z=>e=.returned (.int .i64 0)∧LJ E S L HL.out N w2 d b rb (K.M.putI E f (i:Nat) v) f 2 (6002+1300 * k+1) z):=(HP.out.beside (Below.refl _ _).drew).mark (by omega) (by omega) hi v
        obtain ⟨X,hX⟩:∃ X:Int,X=(i:Nat):=⟨_,rfl⟩
        rw [←hX] at C3 HC
        have x0:decide ((0:Int)≤X)=true:=by simp;omega
        have x1:decide (X < (E:Int))=true:=by simp;omega
        have x2:(0:Int)≤X:=by omega
        have x3:X < (E:Int):=by omega
        clear hX hi
        have C4:Hid (∀ x,LJ E S L HL.out N w2 d b rb (K.M.putI E f X v) f 2 (6002+1300 * k+1) x→Calls Tryz.prog 9 #[.pointer (some ⟨rb,0,none⟩),.int .i64 X,.bool v] x fun e z=>∃ r,e=.returned (.bool r)∧LJ E S L HL.out N w2 d b rb (K.M.putI E f X v) (K.M.putI E f X v) 2 (6002+1300 * k+1) z):=fun x q=>q.put X v
        obtain ⟨g,hg⟩:∃ g,g=K.M.putI E f X v:=⟨_,rfl⟩
        rw [←hg] at C3 C4
        obtain ⟨m0,hm0⟩:∃ x,x=6002+1300 * k+1:=⟨_,rfl⟩
        rw [←hm0] at C3 C4 HEnd
        have hm9:m0≤200000:=by omega
        have FQ:Hid (∀ y,Below N w2 y→y.cell? (ad.add (k * 2))=some (.int .i64 X)∧y.cell? ⟨w.heap.size,0,none⟩=some (.int .i64 E)):=fun y hb=>⟨(HC.out y hb).1,(FC.out y hb).1⟩
        have HBr:=Lib.hid HP.out.below
        clear HP hg hm0
        obtain ⟨c0,c1⟩:=HC.out wr HBr.out
        obtain ⟨k0,k1,k2⟩:=FC.out wr HBr.out
        go_wp2_with fail
        go_still_tail 12,(by kernel_rfl)
        change wpList _ _ _ _ _ wr.drew
        go_wp2_with fail
        refine C3.out.mono ?_
        rintro en w12 ⟨rfl,h12⟩
        have G12:=Lib.hid (h12.beside (Below.refl _ _).drew)
        have HB12:=Lib.hid h12.below
        clear h12 C3 c0 c1 k0 k1 k2 HBr
        obtain ⟨c0,c1⟩:=HC.out w12 HB12.out
        go_wp2_with fail
        go_still_tail 11,(by kernel_rfl)
        change wpList _ _ _ _ _ w12.drew
        go_wp2_with fail
        refine (C4.out _ G12.out).mono ?_
        rintro en w13 ⟨r,rfl,h13⟩
        have G13:=Lib.hid h13
        clear h13 C4 G12 HB12 c0 c1
        obtain ⟨k0,k1,k2⟩:=FC.out w13 G13.out.below
        go_wp2_with fail
        refine (G13.out.load (by omega)).mono ?_
        rintro en w14 ⟨p,rfl,h14⟩
        have G14:=Lib.hid h14
        clear h14 G13 k0 k1 k2
        have CB:Hid (∀ x,LP E S L HL.out N w2 d b rb p g g 2 (m0+1) x→Calls Tryz.prog 14 #[.pointer (some ⟨p,0,none⟩)] x fun e z=>e=.returned (.string (M.jb E g))∧LP E S L HL.out N w2 d b rb p g g 2 (m0+1) z):=fun x q=>q.bytes
        have CQ:Hid (∀ x,LP E S L HL.out N w2 d b rb p g g 2 (m0+1) x→Calls Tryz.prog 15 #[.pointer (some ⟨rb,0,none⟩)] x fun e z=>e=.returned (.string (M.jb E g))∧LP E S L HL.out N w2 d b rb p g g 2 (m0+1) z):=fun x q=>q.rbytes
        have CN:Hid (∀ x,LP E S L HL.out N w2 d b rb p g g 2 (m0+1) x→Calls Tryz.prog 22 #[.pointer (some ⟨b,0,none⟩)] x fun e z=>e=.returned (.bool true)∧LJ E S L HL.out N w2 d b rb g g 0 (m0+1+1200) z):=fun x q=>q.1.next (by omega) (by omega) HPB.out.2.1 HPB.out.2.2.2
        have CD:Hid (∀ x,LP E S L HL.out N w2 d b rb p g g 2 (m0+1) x→LP E S L HL.out N w2 d b rb p g g 2 (m0+1) x.drew):=fun x q=>q.beside (Below.refl _ _).drew
        obtain ⟨SB,hSB⟩:∃ x,x=M.jb E g:=⟨_,rfl⟩
        rw [←hSB] at CB CQ
        have zs:(SB.toList==SB.toList)=true:=by simp
        clear hSB
        have hS0:=FQ.out w14 G14.out.1.below
        go_wp2_with fail
        refine wp_region_held_drew (S:=(fun y=>y.cell? (ad.add (k * 2))=some (.int .i64 X)∧y.cell? ⟨w.heap.size,0,none⟩=some (.int .i64 E))) (by kernel_rfl) (by first | assumption | trivial) (fun hHeld=>?_)
        refine wpAnyH_take (i:=0) (oi:=?_) (v:=?_) ?_ (by kernel_rfl) (by kernel_rfl) (by kernel_rfl) ?_ ?_ (by assumption) ?_;rotate_left 2;(· simp only [List.getElem?_toArray,List.getElem?_cons_zero];rfl);rotate_left;(· refine Or.inl ⟨by rfl,?_⟩;intro w hSw;(try dsimp only at hSw);go_simp;try with_reducible rfl);rotate_right;(· exact fun _ _ _ h=>h);simp only [Act.put,List.setIfInBounds_toArray,List.set_cons_zero,List.set_cons_succ]
        refine wpAnyH_take (i:=1) (oi:=?_) (v:=?_) ?_ (by kernel_rfl) (by kernel_rfl) (by kernel_rfl) ?_ ?_ (by assumption) ?_;rotate_left 2;(· simp only [List.getElem?_toArray,List.getElem?_cons_zero,List.getElem?_cons_succ];rfl);rotate_left;(· refine Or.inl ⟨by rfl,?_⟩;intro w hSw;(try dsimp only at hSw);go_simp;try with_reducible rfl);rotate_right;(· exact fun _ _ _ h=>h);simp only [Act.put,List.setIfInBounds_toArray,List.set_cons_zero,List.set_cons_succ]
        refine wpAnyH_take (i:=2) (oi:=?_) (v:=?_) ?_ (by kernel_rfl) (by kernel_rfl) (by kernel_rfl) ?_ ?_ (by assumption) ?_;rotate_left 2;(· simp only [List.getElem?_toArray,List.getElem?_cons_zero,List.getElem?_cons_succ];rfl);rotate_left;(· refine Or.inl ⟨by rfl,?_⟩;intro w hSw;(try dsimp only at hSw);go_simp;try with_reducible rfl);rotate_right;(· exact fun _ _ _ h=>h);simp only [Act.put,List.setIfInBounds_toArray,List.set_cons_zero,List.set_cons_succ]
        refine wpAnyH_take (i:=3) (oi:=?_) (v:=?_) ?_ (by kernel_rfl) (by kernel_rfl) (by kernel_rfl) ?_ ?_ (by assumption) ?_;rotate_left 2;(· simp only [List.getElem?_toArray,List.getElem?_cons_zero,List.getElem?_cons_succ];rfl);rotate_left;(· refine Or.inl ⟨by rfl,?_⟩;intro w hSw;(try dsimp only at hSw);go_simp;try with_reducible rfl);rotate_right;(· exact fun _ _ _ h=>h);simp only [Act.put,List.setIfInBounds_toArray,List.set_cons_zero,List.set_cons_succ]
        refine wpAnyH_take (i:=4) (oi:=?_) (v:=?_) ?_ (by kernel_rfl) (by kernel_rfl) (by kernel_rfl) ?_ ?_ (by assumption) ?_;rotate_left 2;(· simp only [List.getElem?_toArray,List.getElem?_cons_zero,List.getElem?_cons_succ];rfl);rotate_left;(· refine Or.inl ⟨by rfl,?_⟩;intro w hSw;(try dsimp only at hSw);go_simp;try with_reducible rfl);rotate_right;(· exact fun _ _ _ h=>h);simp only [Act.put,List.setIfInBounds_toArray,List.set_cons_zero,List.set_cons_succ]
        refine wpAnyH_take (i:=5) (oi:=?_) (v:=?_) ?_ (by kernel_rfl) (by kernel_rfl) (by kernel_rfl) ?_ ?_ (by assumption) ?_;rotate_left 2;(· simp only [List.getElem?_toArray,List.getElem?_cons_zero,List.getElem?_cons_succ];rfl);rotate_left;(· refine Or.inl ⟨by rfl,?_⟩;intro w hSw;(try dsimp only at hSw);go_simp;try with_reducible rfl);rotate_right;(· exact fun _ _ _ h=>h);simp only [Act.put,List.setIfInBounds_toArray,List.set_cons_zero,List.set_cons_succ]
        refine wpAnyH_take (i:=6) (oi:=?_) (v:=?_) ?_ (by kernel_rfl) (by kernel_rfl) (by kernel_rfl) ?_ ?_ (by assumption) ?_;rotate_left 2;(· simp only [List.getElem?_toArray,List.getElem?_cons_zero,List.getElem?_cons_succ];rfl);rotate_left;(· refine Or.inl ⟨by rfl,?_⟩;intro w hSw;(try dsimp only at hSw);go_simp;try with_reducible rfl);rotate_right;(· exact fun _ _ _ h=>h);simp only [Act.put,List.setIfInBounds_toArray,List.set_cons_zero,List.set_cons_succ]
        refine wpAnyH_take (i:=7) (oi:=?_) (v:=?_) ?_ (by kernel_rfl) (by kernel_rfl) (by kernel_rfl) ?_ ?_ (by assumption) ?_;rotate_left 2;(· simp only [List.getElem?_toArray,List.getElem?_cons_zero,List.getElem?_cons_succ];rfl);rotate_left;(· refine Or.inl ⟨by rfl,?_⟩;intro w hSw;(try dsimp only at hSw);go_simp;try with_reducible rfl);rotate_right;(· exact fun _ _ _ h=>h);simp only [Act.put,List.setIfInBounds_toArray,List.set_cons_zero,List.set_cons_succ]
        refine wpAnyH_take (i:=8) (oi:=?_) (v:=?_) ?_ (by kernel_rfl) (by kernel_rfl) (by kernel_rfl) ?_ ?_ (by assumption) ?_;rotate_left 2;(· simp only [List.getElem?_toArray,List.getElem?_cons_zero,List.getElem?_cons_succ];rfl);rotate_left;(· refine Or.inl ⟨by rfl,?_⟩;intro w hSw;(try dsimp only at hSw);go_simp;try with_reducible rfl);rotate_right;(· exact fun _ _ _ h=>h);simp only [Act.put,List.setIfInBounds_toArray,List.set_cons_zero,List.set_cons_succ]
        refine wpAnyH_take (i:=9) (oi:=?_) (v:=?_) ?_ (by kernel_rfl) (by kernel_rfl) (by kernel_rfl) ?_ ?_ (by assumption) ?_;rotate_left 2;(· simp only [List.getElem?_toArray,List.getElem?_cons_zero,List.getElem?_cons_succ];rfl);rotate_left;(· refine Or.inl ⟨by rfl,?_⟩;intro w hSw;(try dsimp only at hSw);go_simp;try with_reducible rfl);rotate_right;(· exact fun _ _ _ h=>h);simp only [Act.put,List.setIfInBounds_toArray,List.set_cons_zero,List.set_cons_succ]
        refine wpAnyH_take (i:=10) (oi:=?_) (v:=?_) ?_ (by kernel_rfl) (by kernel_rfl) (by kernel_rfl) ?_ ?_ (by assumption) ?_;rotate_left 2;(· simp only [List.getElem?_toArray,List.getElem?_cons_zero,List.getElem?_cons_succ];rfl);rotate_left;(· refine Or.inl ⟨by rfl,?_⟩;intro w hSw;(try dsimp only at hSw);go_simp;try with_reducible rfl);rotate_right;(· exact fun _ _ _ h=>h);simp only [Act.put,List.setIfInBounds_toArray,List.set_cons_zero,List.set_cons_succ]
        refine wpAnyH_take (i:=11) (oi:=?_) (v:=?_) ?_ (by kernel_rfl) (by kernel_rfl) (by kernel_rfl) ?_ ?_ (by assumption) ?_;rotate_left 2;(· simp only [List.getElem?_toArray,List.getElem?_cons_zero,List.getElem?_cons_succ];rfl);rotate_left;(· refine Or.inl ⟨by rfl,?_⟩;intro w hSw;(try dsimp only at hSw);go_simp;try with_reducible rfl);rotate_right;(· exact fun _ _ _ h=>h);simp only [Act.put,List.setIfInBounds_toArray,List.set_cons_zero,List.set_cons_succ]
        refine wpAnyH_take (i:=12) (oi:=?_) (v:=?_) ?_ (by kernel_rfl) (by kernel_rfl) (by kernel_rfl) ?_ ?_ (by assumption) ?_;rotate_left 2;(· simp only [List.getElem?_toArray,List.getElem?_cons_zero,List.getElem?_cons_succ];rfl);rotate_left;(· refine Or.inl ⟨by rfl,?_⟩;intro w hSw;(try dsimp only at hSw);go_simp;try with_reducible rfl);rotate_right;(· exact fun _ _ _ h=>h);simp only [Act.put,List.setIfInBounds_toArray,List.set_cons_zero,List.set_cons_succ]
        refine wpAnyH_take (i:=13) (oi:=?_) (v:=?_) ?_ (by kernel_rfl) (by kernel_rfl) (by kernel_rfl) ?_ ?_ (by assumption) ?_;rotate_left 2;(· simp only [List.getElem?_toArray,List.getElem?_cons_zero,List.getElem?_cons_succ];rfl);rotate_left;(· refine Or.inl ⟨by rfl,?_⟩;intro w hSw;(try dsimp only at hSw);go_simp;try with_reducible rfl);rotate_right;(· exact fun _ _ _ h=>h);simp only [Act.put,List.setIfInBounds_toArray,List.set_cons_zero,List.set_cons_succ]
        refine wpAnyH_take (i:=14) (oi:=?_) (v:=?_) ?_ (by kernel_rfl) (by kernel_rfl) (by kernel_rfl) ?_ ?_ (by assumption) ?_;rotate_left 2;(· simp only [List.getElem?_toArray,List.getElem?_cons_zero,List.getElem?_cons_succ];rfl);rotate_left;(· refine Or.inl ⟨by rfl,?_⟩;intro w hSw;(try dsimp only at hSw);go_simp;try with_reducible rfl);rotate_right;(· exact fun _ _ _ h=>h);simp only [Act.put,List.setIfInBounds_toArray,List.set_cons_zero,List.set_cons_succ]
        refine wpAnyH_take (i:=15) (oi:=?_) (v:=?_) ?_ (by kernel_rfl) (by kernel_rfl) (by kernel_rfl) ?_ ?_ (by assumption) ?_;rotate_left 2;(· simp only [List.getElem?_toArray,List.getElem?_cons_zero,List.getElem?_cons_succ];rfl);rotate_left;(· refine Or.inl ⟨by rfl,?_⟩;intro w hSw;(try dsimp only at hSw);go_simp;try with_reducible rfl);rotate_right;(· exact fun _ _ _ h=>h);simp only [Act.put,List.setIfInBounds_toArray,List.set_cons_zero,List.set_cons_succ]
        refine wpAnyH_take (i:=16) (oi:=?_) (v:=?_) ?_ (by kernel_rfl) (by kernel_rfl) (by kernel_rfl) ?_ ?_ (by assumption) ?_;rotate_left 2;(· simp only [List.getElem?_toArray,List.getElem?_cons_zero,List.getElem?_cons_succ];rfl);rotate_left;(· refine Or.inl ⟨by rfl,?_⟩;intro w hSw;(try dsimp only at hSw);go_simp;try with_reducible rfl);rotate_right;(· exact fun _ _ _ h=>h);simp only [Act.put,List.setIfInBounds_toArray,List.set_cons_zero,List.set_cons_succ]
        refine wpAnyH_take (i:=17) (oi:=?_) (v:=?_) ?_ (by kernel_rfl) (by kernel_rfl) (by kernel_rfl) ?_ ?_ (by assumption) ?_;rotate_left 2;(· simp only [List.getElem?_toArray,List.getElem?_cons_zero,List.getElem?_cons_succ];rfl);rotate_left;(· refine Or.inl ⟨by rfl,?_⟩;intro w hSw;(try dsimp only at hSw);go_simp;try with_reducible rfl);rotate_right;(· exact fun _ _ _ h=>h);simp only [Act.put,List.setIfInBounds_toArray,List.set_cons_zero,List.set_cons_succ]
        refine wpAnyH_take (i:=18) (oi:=?_) (v:=?_) ?_ (by kernel_rfl) (by kernel_rfl) (by kernel_rfl) ?_ ?_ (by assumption) ?_;rotate_left 2;(· simp only [List.getElem?_toArray,List.getElem?_cons_zero,List.getElem?_cons_succ];rfl);rotate_left;(· refine Or.inl ⟨by rfl,?_⟩;intro w hSw;(try dsimp only at hSw);go_simp;try with_reducible rfl);rotate_right;(· exact fun _ _ _ h=>h);simp only [Act.put,List.setIfInBounds_toArray,List.set_cons_zero,List.set_cons_succ]
        refine wpAnyH_take (i:=19) (oi:=?_) (v:=?_) ?_ (by kernel_rfl) (by kernel_rfl) (by kernel_rfl) ?_ ?_ (by assumption) ?_;rotate_left 2;(· simp only [List.getElem?_toArray,List.getElem?_cons_zero,List.getElem?_cons_succ];rfl);rotate_left;(· refine Or.inl ⟨by rfl,?_⟩;intro w hSw;(try dsimp only at hSw);go_simp;try with_reducible rfl);rotate_right;(· exact fun _ _ _ h=>h);simp only [Act.put,List.setIfInBounds_toArray,List.set_cons_zero,List.set_cons_succ]
        refine wpAnyH_take (i:=20) (oi:=?_) (v:=?_) ?_ (by kernel_rfl) (by kernel_rfl) (by kernel_rfl) ?_ ?_ (by assumption) ?_;rotate_left 2;(· simp only [List.getElem?_toArray,List.getElem?_cons_zero,List.getElem?_cons_succ];rfl);rotate_left;(· refine Or.inl ⟨by rfl,?_⟩;intro w hSw;(try dsimp only at hSw);go_simp;try with_reducible rfl);rotate_right;(· exact fun _ _ _ h=>h);simp only [Act.put,List.setIfInBounds_toArray,List.set_cons_zero,List.set_cons_succ]
        refine wpAnyH_take (i:=21) (oi:=?_) (v:=?_) ?_ (by kernel_rfl) (by kernel_rfl) (by kernel_rfl) ?_ ?_ (by assumption) ?_;rotate_left 2;(· simp only [List.getElem?_toArray,List.getElem?_cons_zero,List.getElem?_cons_succ];rfl);rotate_left;(· refine Or.inl ⟨by rfl,?_⟩;intro w hSw;(try dsimp only at hSw);go_simp;try with_reducible rfl);rotate_right;(· exact fun _ _ _ h=>h);simp only [Act.put,List.setIfInBounds_toArray,List.set_cons_zero,List.set_cons_succ]
        refine wpAnyH_take (i:=22) (oi:=?_) (v:=?_) ?_ (by kernel_rfl) (by kernel_rfl) (by kernel_rfl) ?_ ?_ (by assumption) ?_;rotate_left 2;(· simp only [List.getElem?_toArray,List.getElem?_cons_zero,List.getElem?_cons_succ];rfl);rotate_left;(· refine Or.inl ⟨by rfl,?_⟩;intro w hSw;(try dsimp only at hSw);go_simp;try with_reducible rfl);rotate_right;(· exact fun _ _ _ h=>h);simp only [Act.put,List.setIfInBounds_toArray,List.set_cons_zero,List.set_cons_succ]
        refine wpAnyH_take (i:=23) (oi:=?_) (v:=undef) ?_ (by kernel_rfl) (by kernel_rfl) (by kernel_rfl) ?_ (Or.inr ⟨?_,rfl⟩) (by assumption) ?_;rotate_left;(· simp only [List.getElem?_toArray,List.getElem?_cons_zero,List.getElem?_cons_succ];rfl);(· exact fun _ _ _ h=>h);(· rfl);simp only [Act.put,List.setIfInBounds_toArray,List.set_cons_zero,List.set_cons_succ]
        refine wpAnyH_take (i:=24) (oi:=?_) (v:=undef) ?_ (by kernel_rfl) (by kernel_rfl) (by kernel_rfl) ?_ (Or.inr ⟨?_,rfl⟩) (by assumption) ?_;rotate_left;(· simp only [List.getElem?_toArray,List.getElem?_cons_zero,List.getElem?_cons_succ];rfl);(· exact fun _ _ _ h=>h);(· rfl);simp only [Act.put,List.setIfInBounds_toArray,List.set_cons_zero,List.set_cons_succ]
        refine wpAnyH_take (i:=25) (oi:=?_) (v:=?_) ?_ (by kernel_rfl) (by kernel_rfl) (by kernel_rfl) ?_ ?_ (by assumption) ?_;rotate_left 2;(· simp only [List.getElem?_toArray,List.getElem?_cons_zero,List.getElem?_cons_succ];rfl);rotate_left;(· refine Or.inl ⟨by rfl,?_⟩;intro w hSw;(try dsimp only at hSw);go_simp;try with_reducible rfl);rotate_right;(· exact fun _ _ _ h=>h);simp only [Act.put,List.setIfInBounds_toArray,List.set_cons_zero,List.set_cons_succ]
        refine wpAnyH_take (i:=26) (oi:=?_) (v:=?_) ?_ (by kernel_rfl) (by kernel_rfl) (by kernel_rfl) ?_ ?_ (by assumption) ?_;rotate_left 2;(· simp only [List.getElem?_toArray,List.getElem?_cons_zero,List.getElem?_cons_succ];rfl);rotate_left;(· refine Or.inl ⟨by rfl,?_⟩;intro w hSw;(try dsimp only at hSw);go_simp;try with_reducible rfl);rotate_right;(· exact fun _ _ _ h=>h);simp only [Act.put,List.setIfInBounds_toArray,List.set_cons_zero,List.set_cons_succ]
        refine wpAnyH_take (i:=27) (oi:=?_) (v:=?_) ?_ (by kernel_rfl) (by kernel_rfl) (by kernel_rfl) ?_ ?_ (by assumption) ?_;rotate_left 2;(· simp only [List.getElem?_toArray,List.getElem?_cons_zero,List.getElem?_cons_succ];rfl);rotate_left;(· refine Or.inl ⟨by rfl,?_⟩;intro w hSw;(try dsimp only at hSw);go_simp;try with_reducible rfl);rotate_right;(· exact fun _ _ _ h=>h);simp only [Act.put,List.setIfInBounds_toArray,List.set_cons_zero,List.set_cons_succ]
        refine wpAnyH_take (i:=28) (oi:=?_) (v:=?_) ?_ (by kernel_rfl) (by kernel_rfl) (by kernel_rfl) ?_ ?_ (by assumption) ?_;rotate_left 2;(· simp only [List.getElem?_toArray,List.getElem?_cons_zero,List.getElem?_cons_succ];rfl);rotate_left;(· refine Or.inl ⟨by rfl,?_⟩;intro w hSw;(try dsimp only at hSw);go_simp;try with_reducible rfl);rotate_right;(· exact fun _ _ _ h=>h);simp only [Act.put,List.setIfInBounds_toArray,List.set_cons_zero,List.set_cons_succ]
        refine wpAnyH_take (i:=29) (oi:=?_) (v:=?_) ?_ (by kernel_rfl) (by kernel_rfl) (by kernel_rfl) ?_ ?_ (by assumption) ?_;rotate_left 2;(· simp only [List.getElem?_toArray,List.getElem?_cons_zero,List.getElem?_cons_succ];rfl);rotate_left;(· refine Or.inl ⟨by rfl,?_⟩;intro w hSw;(try dsimp only at hSw);go_simp;try with_reducible rfl);rotate_right;(· exact fun _ _ _ h=>h);simp only [Act.put,List.setIfInBounds_toArray,List.set_cons_zero,List.set_cons_succ]
        refine wpAnyH_take (i:=30) (oi:=?_) (v:=?_) ?_ (by kernel_rfl) (by kernel_rfl) (by kernel_rfl) ?_ ?_ (by assumption) ?_;rotate_left 2;(· simp only [List.getElem?_toArray,List.getElem?_cons_zero,List.getElem?_cons_succ];rfl);rotate_left;(· refine Or.inl ⟨by rfl,?_⟩;intro w hSw;(try dsimp only at hSw);go_simp;try with_reducible rfl);rotate_right;(· exact fun _ _ _ h=>h);simp only [Act.put,List.setIfInBounds_toArray,List.set_cons_zero,List.set_cons_succ]
        refine wpAnyH_take (i:=31) (oi:=?_) (v:=?_) ?_ (by kernel_rfl) (by kernel_rfl) (by kernel_rfl) ?_ ?_ (by assumption) ?_;rotate_left 2;(· simp only [List.getElem?_toArray,List.getElem?_cons_zero,List.getElem?_cons_succ];rfl);rotate_left;(· refine Or.inl ⟨by rfl,?_⟩;intro w hSw;(try dsimp only at hSw);go_simp;try with_reducible rfl);rotate_right;(· exact fun _ _ _ h=>h);simp only [Act.put,List.setIfInBounds_toArray,List.set_cons_zero,List.set_cons_succ]
        refine wpAnyH_take (i:=32) (oi:=?_) (v:=?_) ?_ (by kernel_rfl) (by kernel_rfl) (by kernel_rfl) ?_ ?_ (by assumption) ?_;rotate_left 2;(· simp only [List.getElem?_toArray,List.getElem?_cons_zero,List.getElem?_cons_succ];rfl);rotate_left;(· refine Or.inl ⟨by rfl,?_⟩;intro w hSw;(try dsimp only at hSw);go_simp;try with_reducible rfl);rotate_right;(· exact fun _ _ _ h=>h);simp only [Act.put,List.setIfInBounds_toArray,List.set_cons_zero,List.set_cons_succ]
        refine wpAnyH_take (i:=34) (oi:=?_) (v:=?_) ?_ (by kernel_rfl) (by kernel_rfl) (by kernel_rfl) ?_ ?_ (by assumption) ?_;rotate_left 2;(· simp only [List.getElem?_toArray,List.getElem?_cons_zero,List.getElem?_cons_succ];rfl);rotate_left;(· refine Or.inl ⟨by rfl,?_⟩;intro w hSw;(try dsimp only at hSw);go_simp;try with_reducible rfl);rotate_right;(· exact fun _ _ _ h=>h);simp only [Act.put,List.setIfInBounds_toArray,List.set_cons_zero,List.set_cons_succ]
        refine wpAnyH_ready (rs:=[33]) (by kernel_rfl) (by simp) ?_;refine AllReadyH.cons (o:=?_) ?_ (fun K hK=>?_) AllReadyH.nil;rotate_left;(· simp only [List.getElem?_toArray,List.getElem?_cons_zero,List.getElem?_cons_succ];rfl);go_simp;go_at_call 14;refine (CB.out _ (by first | exact G14.out | exact CD.out _ G14.out)).mono ?_;rintro en w15 ⟨rfl,h15⟩;have G15:=Lib.hid h15;have hS15:=FQ.out w15 h15.1.below;clear h15;refine hK.out _ _ (by first | assumption | trivial) (fun hHeld=>?_);clear hK K
        refine wpAnyH_ready (rs:=[35]) (by kernel_rfl) (by simp) ?_;refine AllReadyH.cons (o:=?_) ?_ (fun K hK=>?_) AllReadyH.nil;rotate_left;(· simp only [List.getElem?_toArray,List.getElem?_cons_zero,List.getElem?_cons_succ];rfl);go_simp;go_at_call 15;refine (CQ.out _ (by first | exact G15.out | exact CD.out _ G15.out)).mono ?_;rintro en w16 ⟨rfl,h16⟩;have G16:=Lib.hid h16;have hS16:=FQ.out w16 h16.1.below;clear h16;refine hK.out _ _ (by first | assumption | trivial) (fun hHeld=>?_);clear hK K
        refine wpAnyH_take (i:=36) (oi:=?_) (v:=?_) ?_ (by kernel_rfl) (by kernel_rfl) (by kernel_rfl) ?_ ?_ (by assumption) ?_;rotate_left 2;(· simp only [List.getElem?_toArray,List.getElem?_cons_zero,List.getElem?_cons_succ];rfl);rotate_left;(· refine Or.inl ⟨by rfl,?_⟩;intro w hSw;(try dsimp only at hSw);go_simp;try with_reducible rfl);rotate_right;(· exact fun _ _ _ h=>h);simp only [Act.put,List.setIfInBounds_toArray,List.set_cons_zero,List.set_cons_succ]
        refine wpAnyH_take (i:=37) (oi:=?_) (v:=?_) ?_ (by kernel_rfl) (by kernel_rfl) (by kernel_rfl) ?_ ?_ (by assumption) ?_;rotate_left 2;(· simp only [List.getElem?_toArray,List.getElem?_cons_zero,List.getElem?_cons_succ];rfl);rotate_left;(· refine Or.inl ⟨by rfl,?_⟩;intro w hSw;(try dsimp only at hSw);go_simp;try with_reducible rfl);rotate_right;(· exact fun _ _ _ h=>h);simp only [Act.put,List.setIfInBounds_toArray,List.set_cons_zero,List.set_cons_succ]
        refine wpAnyH_take (i:=38) (oi:=?_) (v:=?_) ?_ (by kernel_rfl) (by kernel_rfl) (by kernel_rfl) ?_ ?_ (by assumption) ?_;rotate_left 2;(· simp only [List.getElem?_toArray,List.getElem?_cons_zero,List.getElem?_cons_succ];rfl);rotate_left;(· refine Or.inl ⟨by rfl,?_⟩;intro w hSw;(try dsimp only at hSw);go_simp;try with_reducible rfl);rotate_right;(· exact fun _ _ _ h=>h);simp only [Act.put,List.setIfInBounds_toArray,List.set_cons_zero,List.set_cons_succ]
        refine wpAnyH_take (i:=39) (oi:=?_) (v:=?_) ?_ (by kernel_rfl) (by kernel_rfl) (by kernel_rfl) ?_ ?_ (by assumption) ?_;rotate_left 2;(· simp only [List.getElem?_toArray,List.getElem?_cons_zero,List.getElem?_cons_succ];rfl);rotate_left;(· refine Or.inl ⟨by rfl,?_⟩;intro w hSw;(try dsimp only at hSw);go_simp;try with_reducible rfl);rotate_right;(· exact fun _ _ _ h=>h);simp only [Act.put,List.setIfInBounds_toArray,List.set_cons_zero,List.set_cons_succ]
        refine wpAnyH_ready (rs:=[40]) (by kernel_rfl) (by simp) ?_;refine AllReadyH.cons (o:=?_) ?_ (fun K hK=>?_) AllReadyH.nil;rotate_left;(· simp only [List.getElem?_toArray,List.getElem?_cons_zero,List.getElem?_cons_succ];rfl);go_simp;go_at_call 22;refine (CN.out _ (by first | exact G16.out | exact CD.out _ G16.out)).mono ?_;rintro en w17 ⟨rfl,h17⟩;have G17:=Lib.hid (HEnd.out _ _ h17);have hS17:=FQ.out w17 h17.below;clear h17;refine hK.out _ _ (by first | assumption | trivial) (fun hHeld=>?_);clear hK K
        refine wpAnyH_take (i:=41) (oi:=?_) (v:=?_) ?_ (by kernel_rfl) (by kernel_rfl) (by kernel_rfl) ?_ ?_ (by assumption) ?_;rotate_left 2;(· simp only [List.getElem?_toArray,List.getElem?_cons_zero,List.getElem?_cons_succ];rfl);rotate_left;(· refine Or.inl ⟨by rfl,?_⟩;intro w hSw;(try dsimp only at hSw);go_simp;try with_reducible rfl);rotate_right;(· exact fun _ _ _ h=>h);simp only [Act.put,List.setIfInBounds_toArray,List.set_cons_zero,List.set_cons_succ]
        refine wpAnyH_take (i:=42) (oi:=?_) (v:=?_) ?_ (by kernel_rfl) (by kernel_rfl) (by kernel_rfl) ?_ ?_ (by assumption) ?_;rotate_left 2;(· simp only [List.getElem?_toArray,List.getElem?_cons_zero,List.getElem?_cons_succ];rfl);rotate_left;(· refine Or.inl ⟨by rfl,?_⟩;intro w hSw;(try dsimp only at hSw);go_simp;try with_reducible rfl);rotate_right;(· exact fun _ _ _ h=>h);simp only [Act.put,List.setIfInBounds_toArray,List.set_cons_zero,List.set_cons_succ]
        refine wpAnyH_done (by kernel_rfl) ?_ _
        have G18:=Lib.hid (show LJ E S L HL.out N w2 d b rb g g 1 (6002+1300 * (k+1)) _ by first | exact G17.out | exact G17.out.beside (Below.refl _ _).drew)
        clear hS0 hS15 hS16 hS17 G14 G15 G16 G17 CB CQ CN CD zs HEnd
        go_wp2_with fail
        go_roundw
        case rel=>exact ⟨k+1,_,by omega,by go_num,G18⟩
        case measure=>simp [intOf];omega
    · have e:len=k:=by omega
      subst e
      have hd9:decide (len < len)=false:=by simp
      have CL:=Lib.hid (fun x=>log15_ok E S L HL.out x)
      have C7:Hid (∀ m x,m≤300000→LD E S L HL.out N w2 d rb f m x→Calls Tryz.prog 25 #[.pointer (some ⟨d,0,none⟩),.int .i64 (M.ll E S:Nat),.int .i64 (L:Nat)] x fun e z=>∃ b2,e=.returned (.tuple #[.pointer (some ⟨b2,0,none⟩),.int .i64 0])∧LN E S L HL.out N w2 d b2 rb f (m+5000) z):=fun m x hm q=>q.opens (by omega) HPB.out.1 HPB.out.2.1 HPB.out.2.2.1 HPB.out.2.2.2
      obtain ⟨l0,hl0⟩:∃ x,x=M.ll E S:=⟨_,rfl⟩
      rw [←hl0] at CL C7
      have C5:=Lib.hid (HP.out.next (by omega) (by omega) HPB.out.2.1 HPB.out.2.2.2)
      obtain ⟨m0,hm0⟩:∃ x,x=6002+1300 * len+1200:=⟨_,rfl⟩
      rw [←hm0] at C5
      have hm9:m0≤200000:=by omega
      clear hlt hk hl0 hm0 HP FO
      go_wp2_with fail
      refine C5.out.mono ?_
      rintro en w9 ⟨rfl,h9⟩
      have G9:=Lib.hid h9
      clear h9 C5
      go_wp2_with fail
      refine (G9.out.flush (by omega)).mono ?_
      rintro en w10 ⟨rfl,h10⟩
      have G10:=Lib.hid h10
      clear h10 G9
      go_wp2_with fail
      refine (G10.out.restart (by omega)).mono ?_
      rintro en w11 ⟨rfl,h11⟩
      have G11:=Lib.hid h11
      clear h11 G10
      have hS0:=FC.out w11 G11.out.below
      have hS0':w11.drew.cell? ⟨w.heap.size,0,none⟩=some (.int .i64 E)∧w11.drew.cell? ⟨w.heap.size,1,none⟩=some (.int .i64 S)∧w11.drew.cell? ⟨w.heap.size,2,none⟩=some (.int .i64 L):=hS0
      have HLF:Hid (∀ x z,LD E S L HL.out N w2 d rb f (m0+3) x→Below x.heap.size x z→LD E S L HL.out N w2 d rb f (m0+3) z):=fun x z q hb=>q.beside hb
      go_wp2_with fail
      go_region_held3 (fun y=>y.cell? ⟨w.heap.size,0,none⟩=some (.int .i64 E)∧y.cell? ⟨w.heap.size,1,none⟩=some (.int .i64 S)∧y.cell? ⟨w.heap.size,2,none⟩=some (.int .i64 L)) (first | assumption | trivial)
        (first
          | (go_at_call 26;refine (CL.out _).mono ?_;rintro en w12 ⟨rfl,hb12⟩;have G12:=Lib.hid (HLF.out _ w12 (by first | exact G11.out | exact HLF.out _ _ G11.out (Below.refl _ _).drew) hb12);have hS12:=FC.out w12 G12.out.below;clear hb12)
          | (go_at_call 25;refine (C7.out (m0+3) _ (by omega) (by first | exact G12.out | exact HLF.out _ _ G12.out (Below.refl _ _).drew)).mono ?_;rintro en w13 ⟨b2,rfl,h13⟩;have G13:=Lib.hid h13;have hS13:=FC.out w13 G13.out.below;clear h13))
      clear hS0 hS0' hS12 G11 G12 CL C7 HLF
      obtain ⟨k0,k1,k2⟩:=hS13
      go_wp2_with fail
      refine (G13.out.load (by omega)).mono ?_
      rintro en w14 ⟨p,rfl,h14⟩
      have G14:=Lib.hid h14
      clear h14 G13 k0 k1 k2
      have CB:Hid (∀ x,LE E N w2 rb p f x→Calls Tryz.prog 14 #[.pointer (some ⟨p,0,none⟩)] x fun e z=>e=.returned (.string (M.jb E f))∧LE E N w2 rb p f z):=fun x q=>q.bytes
      have CQ:Hid (∀ x,LE E N w2 rb p f x→Calls Tryz.prog 15 #[.pointer (some ⟨rb,0,none⟩)] x fun e z=>e=.returned (.string (M.jb E f))∧LE E N w2 rb p f z):=fun x q=>q.rbytes
      obtain ⟨SB,hSB⟩:∃ x,x=M.jb E f:=⟨_,rfl⟩
      rw [←hSB] at CB CQ
      have zs:(SB.toList==SB.toList)=true:=by simp
      clear hSB
      go_wp2_with fail
      refine (CB.out _ G14.out).mono ?_
      rintro en w15 ⟨rfl,h15⟩
      have G15:=Lib.hid h15
      clear h15 G14
      go_wp2_with fail
      refine (CQ.out _ G15.out).mono ?_
      rintro en w16 ⟨rfl,h16⟩
      have G16:=Lib.hid (FB.out _ h16.below)
      clear h16 G15
      go_wp2_with fail
      go_ret
      exact ⟨rfl,G16.out⟩
end Go.Proofs.YtmljgogdgmeceaaGreatDoor
namespace Go.Proofs.YtmljgogdgmeceaaGreatDoor
open Go.RowKit Go.Maps
theorem journalMarks_walk (a b c:Int) (v:Value) (W:World) (hE:Env10 W∧ErrT W) (hv:OpsAt19 W v) :
    Calls Tryz.prog 4 #[.agg #[.int .i64 a,.int .i64 b,.int .i64 c],v] W fun en y=>en=.returned (.bool true)∧Below W.heap.size W y:=by
  obtain ⟨A,len,cap,rfl,hO⟩:=hv
  by_cases hlen:60 < len
  · exact journalMarks_far a b c A len cap W hE.1 hE.2 hlen
  · cases hl:M.lokB a b c
    · exact journalMarks_no a b c hl A len cap W hE.1 hE.2 (by omega)
    · have h':=(M.lok_iff a b c).1 hl
      obtain ⟨E,rfl⟩:∃ E:Nat,a=E:=⟨a.toNat,by omega⟩
      obtain ⟨S,rfl⟩:∃ E:Nat,b=E:=⟨b.toNat,by omega⟩
      obtain ⟨L,rfl⟩:∃ E:Nat,c=E:=⟨c.toNat,by omega⟩
      by_cases hL:L≤60
      · exact journalMarks_ok E S L hl hL A len cap W hE.1 hE.2 (by omega) hO
      · exact journalMarks_big E S L hl (by omega) A len cap W hE.1 hE.2 (by omega)
end Go.Proofs.YtmljgogdgmeceaaGreatDoor
