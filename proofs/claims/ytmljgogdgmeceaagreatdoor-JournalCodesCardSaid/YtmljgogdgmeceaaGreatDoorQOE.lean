/-
  OCodes
-/
import Derived.Test.YtmljgogdgmeceaaGreatDoorQOA
import Derived.Test.YtmljgogdgmeceaaGreatDoorQKA
import Derived.Deep.RegionHeld3
namespace Go.Proofs.YtmljgogdgmeceaaGreatDoor
open Go.RowKit
theorem hadd_block19 (a:Addr) (n:Nat):(a.add n).block=a.block:=by unfold Addr.add;split <;> rfl
def PJ19 (many:Int) (t:ByteArray) (w:World) (e:Ending) (w':World):Prop :=
  ∃ p,e=.returned (.tuple #[.pointer p,.int .i64 (M.jgetE many t)])∧(M.jgetE many t≠0→p=none)∧(M.jgetE many t=0→∃ (m b:Nat),many=(m:Int)∧m≤24∧p=some ⟨b,0,none⟩∧K.Set w' b m (M.jset m t))∧Below w.heap.size w w'
def PutC19:Prop:=(∀ x a m f,K.Set x a m f→Calls Tryz.prog 10 #[.pointer (some ⟨a,0,none⟩)] x fun e y=>e=.returned (M.jput m f)∧Below x.heap.size x y)∧(∀ x,Calls Tryz.prog 10 #[.pointer none] x fun e y=>e=.returned (.tuple #[.string ⟨#[]⟩,.int .i64 3])∧Below x.heap.size x y)
def GetC19:Prop:=∀ many t x,Calls Tryz.prog 12 #[.int .i64 many,.string t] x fun e y=>PJ19 many t x e y
structure JY19 (W:World) (a b g c m:Nat) (f:Nat→Bool) (x:World):Prop where
  low:Below W.heap.size W x
  sa:K.Set x a m f
  sb:K.RSet x b g c m f
theorem JY19.below {W x z:World} {a b g c m:Nat} {f:Nat→Bool} (h:JY19 W a b g c m f x) (hb:Below x.heap.size x z):JY19 W a b g c m f z:=⟨h.low.trans (hb.mono h.low.size),h.sa.below hb h.sa.box.lt,h.sb.below hb⟩
set_option maxHeartbeats 8000000 in
set_option maxRecDepth 100000 in
theorem journalCodes_few (HP:PutC19) (HG:GetC19) (many:Int) (A:Option Addr) (len cap:Nat) (s:ByteArray) (w:World) (hl:len≤100) (hs:s.size≤3000)
    (hW:Calls Tryz.prog 5 #[] w fun e z=>e=.returned (.bool true)∧Below w.heap.size w z)
    (hO:∀ i,i < len→∃ (ad:Addr) (v:Int),A=some ad∧ad.block < w.heap.size∧w.cell? (ad.add i)=some (.int .i64 v)) :
    Calls Tryz.prog 3 #[.int .i64 many,.slice A len cap,.string s] w fun e w'=>e=.returned (.bool true)∧Below w.heap.size w w':=by
  have hd:decide ((100:Int) < (len:Int))=false:=by simp;omega
  have hd':¬ (100:Int) < (len:Int):=by omega
  have hd2:¬ (3000:Int) < (s.size:Int):=by omega
  have HO:=Lib.hid hO
  have HW:=Lib.hid hW
  have P1:=Lib.hid HP.1
  have P2:=Lib.hid HP.2
  have G1:Hid GetC19:=HG
  clear hO hW HP HG
  go_enter Tryz.func3,Tryz.ntmps3
  go_wp2_with fail
  refine HW.out.mono ?_
  rintro e w1 ⟨rfl,hb1⟩
  have HB1:=Lib.hid hb1
  clear hb1 HW
  go_wp2_with fail
  refine (K.new_any many w1).mono ?_
  rintro e w2 ⟨rfl,hw2⟩
  have HS2:Hid (K.Set w2 w1.heap.size (K.M.most many) (fun _=>false)):=by rw [hw2];exact K.Set.new w1 many
  have HB2:Hid (Below w.heap.size w w2):=by rw [hw2];exact HB1.out.alloc HB1.out.size _
  have hz2:Hid (w2.heap.size=w1.heap.size+1):=by rw [hw2];simp [Hid]
  have hz1:Hid (w.heap.size≤w1.heap.size):=HB1.out.size
  obtain ⟨a,ha⟩:∃ a,a=w1.heap.size:=⟨_,rfl⟩
  rw [←ha] at HS2 hz2 hz1
  rw [←ha]
  clear hw2 ha HB1
  go_wp2_with fail
  refine (K.refNew_any many w2).mono ?_
  rintro e w3 ⟨rfl,hR3,hb3,_⟩
  have HX0:Hid (K.Both w a (w2.heap.size+1) (K.M.most many) (fun _=>false) (fun _=>false) w3):=by
    have z1:=hz1.out
    have z2:=hz2.out
    exact ⟨_,_,HS2.out.below hb3 HS2.out.box.lt,hR3,HB2.out.trans (hb3.mono HB2.out.size),by omega,by omega,by omega,by omega,by omega⟩
  obtain ⟨b,hb⟩:∃ b,b=w2.heap.size+1:=⟨_,rfl⟩
  rw [←hb] at HX0
  rw [←hb]
  obtain ⟨m,hm⟩:∃ m,m=K.M.most many:=⟨_,rfl⟩
  rw [←hm] at HX0
  clear hR3 hb3 hb hm HS2 HB2 hz1 hz2
  go_wp2_with fail
  go_loopw [9] (fun i wr=>∃ (k:Nat) (f:Nat→Bool),k≤len∧i=.int .i64 (k:Nat)∧Hid (K.Both w a b m f f wr)) (fun i _=>len - (intOf i).toNat)
  case atStart=>exact ⟨0,_,Nat.zero_le _,rfl,HX0⟩
  case round =>
    clear HX0
    obtain ⟨k,f,hk,rfl,HX⟩:=hrel
    by_cases hlt:k < len
    · obtain ⟨ad,v,rfl,hbl,hc0⟩:=HO.out k hlt
      have hk0:(0:Int)≤(k:Int):=by omega
      have hlt':(k:Int) < (len:Int):=by omega
      have HC:Hid (∀ y,Below w.heap.size w y→y.cell? (ad.add k)=some (.int .i64 v)):=fun y hb=>(hb.cell (by rw [hadd_block19];exact hbl)).trans hc0
      have c0:=HC.out _ HX.out.low
      have D1:=Lib.hid (K.aAdd v HX.out)
      clear hbl hc0 hlt HX
      go_wp2_with fail
      refine D1.out.mono ?_
      rintro e w4 ⟨rfl,h4⟩
      have X4:=Lib.hid h4
      have D2:=Lib.hid (K.bPut v true h4)
      clear h4 D1 c0
      have c0:=HC.out _ X4.out.low
      go_wp2_with fail
      refine D2.out.mono ?_
      rintro e w5 ⟨rfl,h5⟩
      have X5:=Lib.hid h5
      clear h5 D2 X4 c0
      go_wp2_with fail
      go_roundw
      case rel=>exact ⟨k+1,_,by omega,by go_num,X5⟩
      case measure=>simp [intOf];omega
    · have e:len=k:=by omega
      subst e
      obtain ⟨g,c,hs1,hs2,hs3,-⟩:=HX.out
      have J0:Hid (JY19 w a b g c m f _):=⟨hs3,hs1,hs2⟩
      have HBL:Hid (K.M.Below m f):=hs1.low
      clear HX hs1 hs2 hs3 hlt hk HO
      obtain ⟨F,hF⟩:∃ F:Nat→Bool,F=M.jset many.toNat s:=⟨_,rfl⟩
      obtain ⟨E1,hE1⟩:∃ x,x=M.jgetE many s:=⟨_,rfl⟩
      have GX:Hid (∀ x,Calls Tryz.prog 12 #[.int .i64 many,.string s] x fun e y=>PJ19 many s x e y):=fun x=>G1.out many s x
      have GY:=Lib.hid (fun x=>rjget_any many s x)
      have HE1:=Lib.hid hE1
      have HFF:=Lib.hid hF
      clear hE1 hF
      by_cases h24:m≤24
      · have D1:=Lib.hid (fun x (h:JY19 w a b g c m f x)=>P1.out x a m f h.sa)
        have D2:=Lib.hid (fun x (h:JY19 w a b g c m f x)=>rjput_any x h.sb)
        rw [M.jput_ok h24] at D1 D2
        have e3:=M.jget_whole m f h24 HBL.out
        have s3:=(M.jset_whole m f h24 HBL.out).2
        obtain ⟨PT,hPT⟩:∃ x,x=M.jwhole m f:=⟨_,rfl⟩
        rw [←hPT] at D1 D2 e3 s3
        have D3:Hid (∀ x,Calls Tryz.prog 12 #[.int .i64 (m:Nat),.string PT] x fun e y=>∃ b3,e=.returned (.tuple #[.pointer (some ⟨b3,0,none⟩),.int .i64 0])∧K.Set y b3 m f∧Below x.heap.size x y):=fun x=>by
          refine (G1.out (m:Nat) PT x).mono ?_
          rintro e y ⟨p,q1,q2,q3,q4⟩
          obtain ⟨m',b3,q5,q6,q7,q8⟩:=q3 e3
          obtain rfl:m=m':=by omega
          rw [s3] at q8
          rw [e3,q7] at q1
          exact ⟨b3,q1,q8,q4⟩
        clear hPT e3 s3 P1 h24
        by_cases hy:E1=0
        · subst hy
          have GX':Hid (∀ x,Calls Tryz.prog 12 #[.int .i64 many,.string s] x fun e y=>∃ (mm b1:Nat),many=(mm:Int)∧e=.returned (.tuple #[.pointer (some ⟨b1,0,none⟩),.int .i64 0])∧K.Set y b1 mm F∧Below x.heap.size x y):=fun x=>by
            refine (GX.out x).mono ?_
            rintro e y ⟨p,q1,q2,q3,q4⟩
            obtain ⟨mm,b1,q5,q6,q7,q8⟩:=q3 HE1.out.symm
            have hFM:M.jset mm s=F:=by rw [HFF.out,q5];rfl
            rw [hFM] at q8
            rw [←HE1.out,q7] at q1
            exact ⟨mm,b1,q5,q1,q8,q4⟩
          have GY':Hid (∀ x,Calls Tryz.prog 13 #[.int .i64 many,.string s] x fun e y=>∃ (mm b2 g2 c2:Nat),many=(mm:Int)∧e=.returned (.tuple #[.pointer (some ⟨b2,0,none⟩),.int .i64 0])∧K.RSet y b2 g2 c2 mm F∧Below x.heap.size x y):=fun x=>by
            refine (GY.out x).mono ?_
            rintro e y ⟨p,q1,q2,q3,q4⟩
            obtain ⟨mm,b2,g2,c2,q5,q6,q7,q8⟩:=q3 HE1.out.symm
            have hFM:M.jset mm s=F:=by rw [HFF.out,q5];rfl
            rw [hFM] at q8
            rw [←HE1.out,q7] at q1
            exact ⟨mm,b2,g2,c2,q5,q1,q8,q4⟩
          clear GX GY HE1 HFF G1
          go_wp2_with fail
          refine (D1.out _ J0.out).mono ?_
          rintro e w4 ⟨rfl,hb⟩
          have J1:=Lib.hid (J0.out.below hb)
          clear hb J0 D1
          go_wp2_with fail
          refine (D2.out _ J1.out).mono ?_
          rintro e w5 ⟨rfl,hb⟩
          have J2:=Lib.hid (J1.out.below hb)
          clear hb J1 D2
          go_wp2_with fail
          refine (P2.out _).mono ?_
          rintro e w6 ⟨rfl,hb⟩
          have J3:=Lib.hid (J2.out.below hb)
          clear hb J2 P2
          go_wp2_with fail
          refine (GX'.out _).mono ?_
          rintro e w7 ⟨mm,b1,hM,rfl,h1,hb⟩
          have HM:=Lib.hid hM
          have J4:=Lib.hid (J3.out.below hb)
          have X1:=Lib.hid h1
          clear hb J3 h1 GX' hM
          go_wp2_with fail
          refine (GY'.out _).mono ?_
          rintro e w8 ⟨m2,b2,g2,c2,hM',rfl,h2,hb⟩
          obtain rfl:mm=m2:=by have:=HM.out;omega
          have J5:=Lib.hid (J4.out.below hb)
          have X2:=Lib.hid (X1.out.below hb X1.out.box.lt)
          have Y2:=Lib.hid h2
          clear hb J4 X1 h2 GY' hM'
          have k0:=J5.out.sb.c0
          go_wp2_with fail
          refine (D3.out _).mono ?_
          rintro e u ⟨b3,rfl,h3,hb⟩
          have J6:=Lib.hid (J5.out.below hb)
          have Z6:=Lib.hid h3
          clear h3
          have X6:=Lib.hid (X2.out.below hb X2.out.box.lt)
          have Y6:=Lib.hid (Y2.out.below hb)
          clear X2 Y2
          clear hb J5 k0 D3
          obtain ⟨SB,hSB⟩:∃ x:ByteArray,x=⟨(K.M.bytes mm F).toArray⟩:=⟨_,rfl⟩
          have C15:Hid (∀ x,Below u.heap.size u x→Calls Tryz.prog 14 #[.pointer (some ⟨b1,0,none⟩)] x fun e y=>e=.returned (.string SB)∧Below x.heap.size x y):=fun x hx=>by
            refine (K.bytes_any x (X6.out.below hx X6.out.box.lt)).mono ?_
            rintro e y ⟨q1,n,q2⟩
            rw [hSB]
            exact ⟨q1,by rw [q2];exact below_drewN (Below.refl _ _) n⟩
          have C17:Hid (∀ x,Below u.heap.size u x→Calls Tryz.prog 15 #[.pointer (some ⟨b2,0,none⟩)] x fun e y=>e=.returned (.string SB)∧Below x.heap.size x y):=fun x hx=>by
            rw [hSB]
            exact K.refBytes_any x (Y6.out.below hx)
          have C21:Hid (∀ x,Below u.heap.size u x→Calls Tryz.prog 16 #[.pointer (some ⟨b1,0,none⟩)] x fun e y=>e=.returned (.int .i64 (mm:Nat))∧Below x.heap.size x y):=fun x hx=>by
            refine (K.many_any x (X6.out.below hx X6.out.box.lt)).mono ?_
            rintro e y ⟨q1,rfl⟩
            exact ⟨q1,Below.refl _ _⟩
          have HS:Hid (∀ y,Below u.heap.size u y→y.cell? ⟨b2,0,none⟩=some (.slice (some ⟨g2,0,none⟩) mm c2)):=fun y hb=>(Y6.out.below hb).c0
          have zs:(SB.toList==SB.toList)=true:=by simp
          have zm:((mm:Int)==(mm:Int))=true:=by simp
          clear hSB
          obtain ⟨ZB,hZB⟩:∃ x:ByteArray,x=⟨(K.M.bytes m f).toArray⟩:=⟨_,rfl⟩
          have C39:Hid (∀ x,Below u.heap.size u x→Calls Tryz.prog 14 #[.pointer (some ⟨b3,0,none⟩)] x fun e y=>e=.returned (.string ZB)∧Below x.heap.size x y):=fun x hx=>by
            refine (K.bytes_any x (Z6.out.below hx Z6.out.box.lt)).mono ?_
            rintro e y ⟨q1,n,q2⟩
            rw [hZB]
            exact ⟨q1,by rw [q2];exact below_drewN (Below.refl _ _) n⟩
          have C41:Hid (∀ x,Below u.heap.size u x→Calls Tryz.prog 15 #[.pointer (some ⟨b,0,none⟩)] x fun e y=>e=.returned (.string ZB)∧Below x.heap.size x y):=fun x hx=>by
            rw [hZB]
            exact K.refBytes_any x (J6.out.sb.below hx)
          have zz:(ZB.toList==ZB.toList)=true:=by simp
          clear hZB
          have HZ:Hid (∀ y,Below u.heap.size u y→Below w.heap.size w y):=fun y hb=>J6.out.low.trans (hb.mono J6.out.low.size)
          have hb0:Below u.heap.size u u:=Below.refl _ _
          have hS0:=HS.out u hb0
          go_wp2_with fail
          refine wp_region_held_drew (S:=(fun y=>y.cell? ⟨b2,0,none⟩=some (.slice (some ⟨g2,0,none⟩) mm c2))) (by kernel_rfl) (by first | assumption | trivial) (fun hHeld=>?_)
          refine wpAnyH_take (i:=0) (oi:=?_) (v:=?_) ?_ (by kernel_rfl) (by kernel_rfl) (by kernel_rfl) ?_ ?_ (by assumption) ?_;rotate_left 2;(· simp only [List.getElem?_toArray,List.getElem?_cons_zero];rfl);rotate_left;(· refine Or.inl ⟨by rfl,?_⟩;intro w hSw;(try dsimp only at hSw);go_simp;try with_reducible rfl);rotate_right;(· exact fun _ _ _ h=>h);simp only [Act.put,List.setIfInBounds_toArray,List.set_cons_zero,List.set_cons_succ]
          refine wpAnyH_take (i:=1) (oi:=?_) (v:=?_) ?_ (by kernel_rfl) (by kernel_rfl) (by kernel_rfl) ?_ ?_ (by assumption) ?_;rotate_left 2;(· simp only [List.getElem?_toArray,List.getElem?_cons_zero,List.getElem?_cons_succ];rfl);rotate_left;(· refine Or.inl ⟨by rfl,?_⟩;intro w hSw;(try dsimp only at hSw);go_simp;try with_reducible rfl);rotate_right;(· exact fun _ _ _ h=>h);simp only [Act.put,List.setIfInBounds_toArray,List.set_cons_zero,List.set_cons_succ]
          refine wpAnyH_take (i:=2) (oi:=?_) (v:=?_) ?_ (by kernel_rfl) (by kernel_rfl) (by kernel_rfl) ?_ ?_ (by assumption) ?_;rotate_left 2;(· simp only [List.getElem?_toArray,List.getElem?_cons_zero,List.getElem?_cons_succ];rfl);rotate_left;(· refine Or.inl ⟨by rfl,?_⟩;intro w hSw;(try dsimp only at hSw);go_simp;try with_reducible rfl);rotate_right;(· exact fun _ _ _ h=>h);simp only [Act.put,List.setIfInBounds_toArray,List.set_cons_zero,List.set_cons_succ]
          refine wpAnyH_take (i:=3) (oi:=?_) (v:=?_) ?_ (by kernel_rfl) (by kernel_rfl) (by kernel_rfl) ?_ ?_ (by assumption) ?_;rotate_left 2;(· simp only [List.getElem?_toArray,List.getElem?_cons_zero,List.getElem?_cons_succ];rfl);rotate_left;(· refine Or.inl ⟨by rfl,?_⟩;intro w hSw;(try dsimp only at hSw);go_simp;try with_reducible rfl);rotate_right;(· exact fun _ _ _ h=>h);simp only [Act.put,List.setIfInBounds_toArray,List.set_cons_zero,List.set_cons_succ]
          refine wpAnyH_take (i:=4) (oi:=?_) (v:=?_) ?_ (by kernel_rfl) (by kernel_rfl) (by kernel_rfl) ?_ ?_ (by assumption) ?_;rotate_left 2;(· simp only [List.getElem?_toArray,List.getElem?_cons_zero,List.getElem?_cons_succ];rfl);rotate_left;(· refine Or.inl ⟨by rfl,?_⟩;intro w hSw;(try dsimp only at hSw);go_simp;try with_reducible rfl);rotate_right;(· exact fun _ _ _ h=>h);simp only [Act.put,List.setIfInBounds_toArray,List.set_cons_zero,List.set_cons_succ]
          refine wpAnyH_take (i:=5) (oi:=?_) (v:=?_) ?_ (by kernel_rfl) (by kernel_rfl) (by kernel_rfl) ?_ ?_ (by assumption) ?_;rotate_left 2;(· simp only [List.getElem?_toArray,List.getElem?_cons_zero,List.getElem?_cons_succ];rfl);rotate_left;(· refine Or.inl ⟨by rfl,?_⟩;intro w hSw;(try dsimp only at hSw);go_simp;try with_reducible rfl);rotate_right;(· exact fun _ _ _ h=>h);simp only [Act.put,List.setIfInBounds_toArray,List.set_cons_zero,List.set_cons_succ]
          refine wpAnyH_take (i:=6) (oi:=?_) (v:=?_) ?_ (by kernel_rfl) (by kernel_rfl) (by kernel_rfl) ?_ ?_ (by assumption) ?_;rotate_left 2;(· simp only [List.getElem?_toArray,List.getElem?_cons_zero,List.getElem?_cons_succ];rfl);rotate_left;(· refine Or.inl ⟨by rfl,?_⟩;intro w hSw;(try dsimp only at hSw);go_simp;try with_reducible rfl);rotate_right;(· exact fun _ _ _ h=>h);simp only [Act.put,List.setIfInBounds_toArray,List.set_cons_zero,List.set_cons_succ]
          refine wpAnyH_take (i:=7) (oi:=?_) (v:=?_) ?_ (by kernel_rfl) (by kernel_rfl) (by kernel_rfl) ?_ ?_ (by assumption) ?_;rotate_left 2;(· simp only [List.getElem?_toArray,List.getElem?_cons_zero,List.getElem?_cons_succ];rfl);rotate_left;(· refine Or.inl ⟨by rfl,?_⟩;intro w hSw;(try dsimp only at hSw);go_simp;try with_reducible rfl);rotate_right;(· exact fun _ _ _ h=>h);simp only [Act.put,List.setIfInBounds_toArray,List.set_cons_zero,List.set_cons_succ]
          refine wpAnyH_take (i:=8) (oi:=?_) (v:=?_) ?_ (by kernel_rfl) (by kernel_rfl) (by kernel_rfl) ?_ ?_ (by assumption) ?_;rotate_left 2;(· simp only [List.getElem?_toArray,List.getElem?_cons_zero,List.getElem?_cons_succ];rfl);rotate_left;(· refine Or.inl ⟨by rfl,?_⟩;intro w hSw;(try dsimp only at hSw);go_simp;try with_reducible rfl);rotate_right;(· exact fun _ _ _ h=>h);simp only [Act.put,List.setIfInBounds_toArray,List.set_cons_zero,List.set_cons_succ]
          refine wpAnyH_take (i:=9) (oi:=?_) (v:=?_) ?_ (by kernel_rfl) (by kernel_rfl) (by kernel_rfl) ?_ ?_ (by assumption) ?_;rotate_left 2;(· simp only [List.getElem?_toArray,List.getElem?_cons_zero,List.getElem?_cons_succ];rfl);rotate_left;(· refine Or.inl ⟨by rfl,?_⟩;intro w hSw;(try dsimp only at hSw);go_simp;try with_reducible rfl);rotate_right;(· exact fun _ _ _ h=>h);simp only [Act.put,List.setIfInBounds_toArray,List.set_cons_zero,List.set_cons_succ]
          refine wpAnyH_take (i:=10) (oi:=?_) (v:=?_) ?_ (by kernel_rfl) (by kernel_rfl) (by kernel_rfl) ?_ ?_ (by assumption) ?_;rotate_left 2;(· simp only [List.getElem?_toArray,List.getElem?_cons_zero,List.getElem?_cons_succ];rfl);rotate_left;(· refine Or.inl ⟨by rfl,?_⟩;intro w hSw;(try dsimp only at hSw);go_simp;try with_reducible rfl);rotate_right;(· exact fun _ _ _ h=>h);simp only [Act.put,List.setIfInBounds_toArray,List.set_cons_zero,List.set_cons_succ]
          refine wpAnyH_take (i:=11) (oi:=?_) (v:=?_) ?_ (by kernel_rfl) (by kernel_rfl) (by kernel_rfl) ?_ ?_ (by assumption) ?_;rotate_left 2;(· simp only [List.getElem?_toArray,List.getElem?_cons_zero,List.getElem?_cons_succ];rfl);rotate_left;(· refine Or.inl ⟨by rfl,?_⟩;intro w hSw;(try dsimp only at hSw);go_simp;try with_reducible rfl);rotate_right;(· exact fun _ _ _ h=>h);simp only [Act.put,List.setIfInBounds_toArray,List.set_cons_zero,List.set_cons_succ]
          refine wpAnyH_take (i:=12) (oi:=?_) (v:=?_) ?_ (by kernel_rfl) (by kernel_rfl) (by kernel_rfl) ?_ ?_ (by assumption) ?_;rotate_left 2;(· simp only [List.getElem?_toArray,List.getElem?_cons_zero,List.getElem?_cons_succ];rfl);rotate_left;(· refine Or.inl ⟨by rfl,?_⟩;intro w hSw;(try dsimp only at hSw);go_simp;try with_reducible rfl);rotate_right;(· exact fun _ _ _ h=>h);simp only [Act.put,List.setIfInBounds_toArray,List.set_cons_zero,List.set_cons_succ]
          refine wpAnyH_take (i:=13) (oi:=?_) (v:=?_) ?_ (by kernel_rfl) (by kernel_rfl) (by kernel_rfl) ?_ ?_ (by assumption) ?_;rotate_left 2;(· simp only [List.getElem?_toArray,List.getElem?_cons_zero,List.getElem?_cons_succ];rfl);rotate_left;(· refine Or.inl ⟨by rfl,?_⟩;intro w hSw;(try dsimp only at hSw);go_simp;try with_reducible rfl);rotate_right;(· exact fun _ _ _ h=>h);simp only [Act.put,List.setIfInBounds_toArray,List.set_cons_zero,List.set_cons_succ]
          refine wpAnyH_take (i:=14) (oi:=?_) (v:=?_) ?_ (by kernel_rfl) (by kernel_rfl) (by kernel_rfl) ?_ ?_ (by assumption) ?_;rotate_left 2;(· simp only [List.getElem?_toArray,List.getElem?_cons_zero,List.getElem?_cons_succ];rfl);rotate_left;(· refine Or.inl ⟨by rfl,?_⟩;intro w hSw;(try dsimp only at hSw);go_simp;try with_reducible rfl);rotate_right;(· exact fun _ _ _ h=>h);simp only [Act.put,List.setIfInBounds_toArray,List.set_cons_zero,List.set_cons_succ]
          refine wpAnyH_take (i:=16) (oi:=?_) (v:=?_) ?_ (by kernel_rfl) (by kernel_rfl) (by kernel_rfl) ?_ ?_ (by assumption) ?_;rotate_left 2;(· simp only [List.getElem?_toArray,List.getElem?_cons_zero,List.getElem?_cons_succ];rfl);rotate_left;(· refine Or.inl ⟨by rfl,?_⟩;intro w hSw;(try dsimp only at hSw);go_simp;try with_reducible rfl);rotate_right;(· exact fun _ _ _ h=>h);simp only [Act.put,List.setIfInBounds_toArray,List.set_cons_zero,List.set_cons_succ]
          refine wpAnyH_ready (rs:=[15]) (by kernel_rfl) (by simp) ?_;refine AllReadyH.cons (o:=?_) ?_ (fun K hK=>?_) AllReadyH.nil;rotate_left;(· simp only [List.getElem?_toArray,List.getElem?_cons_zero,List.getElem?_cons_succ];rfl);go_simp;go_at_call 14;refine (Held.call HS (by first | assumption | exact Below.drew (by assumption)) (C15.out _ (by first | assumption | exact Below.drew (by assumption)))).mono ?_;rintro e u15 ⟨rfl,hbu15,hSu15⟩;refine hK.out _ _ (by first | assumption | trivial) (fun hHeld=>?_);clear hK K
          refine wpAnyH_ready (rs:=[17]) (by kernel_rfl) (by simp) ?_;refine AllReadyH.cons (o:=?_) ?_ (fun K hK=>?_) AllReadyH.nil;rotate_left;(· simp only [List.getElem?_toArray,List.getElem?_cons_zero,List.getElem?_cons_succ];rfl);go_simp;go_at_call 15;refine (Held.call HS (by first | assumption | exact Below.drew (by assumption)) (C17.out _ (by first | assumption | exact Below.drew (by assumption)))).mono ?_;rintro e u17 ⟨rfl,hbu17,hSu17⟩;refine hK.out _ _ (by first | assumption | trivial) (fun hHeld=>?_);clear hK K
          refine wpAnyH_take (i:=18) (oi:=?_) (v:=?_) ?_ (by kernel_rfl) (by kernel_rfl) (by kernel_rfl) ?_ ?_ (by assumption) ?_;rotate_left 2;(· simp only [List.getElem?_toArray,List.getElem?_cons_zero,List.getElem?_cons_succ];rfl);rotate_left;(· refine Or.inl ⟨by rfl,?_⟩;intro w hSw;(try dsimp only at hSw);go_simp;try with_reducible rfl);rotate_right;(· exact fun _ _ _ h=>h);simp only [Act.put,List.setIfInBounds_toArray,List.set_cons_zero,List.set_cons_succ]
          refine wpAnyH_take (i:=19) (oi:=?_) (v:=?_) ?_ (by kernel_rfl) (by kernel_rfl) (by kernel_rfl) ?_ ?_ (by assumption) ?_;rotate_left 2;(· simp only [List.getElem?_toArray,List.getElem?_cons_zero,List.getElem?_cons_succ];rfl);rotate_left;(· refine Or.inl ⟨by rfl,?_⟩;intro w hSw;(try dsimp only at hSw);go_simp;try with_reducible rfl);rotate_right;(· exact fun _ _ _ h=>h);simp only [Act.put,List.setIfInBounds_toArray,List.set_cons_zero,List.set_cons_succ]
          refine wpAnyH_take (i:=20) (oi:=?_) (v:=?_) ?_ (by kernel_rfl) (by kernel_rfl) (by kernel_rfl) ?_ ?_ (by assumption) ?_;rotate_left 2;(· simp only [List.getElem?_toArray,List.getElem?_cons_zero,List.getElem?_cons_succ];rfl);rotate_left;(· refine Or.inl ⟨by rfl,?_⟩;intro w hSw;(try dsimp only at hSw);go_simp;try with_reducible rfl);rotate_right;(· exact fun _ _ _ h=>h);simp only [Act.put,List.setIfInBounds_toArray,List.set_cons_zero,List.set_cons_succ]
          refine wpAnyH_take (i:=22) (oi:=?_) (v:=?_) ?_ (by kernel_rfl) (by kernel_rfl) (by kernel_rfl) ?_ ?_ (by assumption) ?_;rotate_left 2;(· simp only [List.getElem?_toArray,List.getElem?_cons_zero,List.getElem?_cons_succ];rfl);rotate_left;(· refine Or.inl ⟨by rfl,?_⟩;intro w hSw;(try dsimp only at hSw);go_simp;try with_reducible rfl);rotate_right;(· exact fun _ _ _ h=>h);simp only [Act.put,List.setIfInBounds_toArray,List.set_cons_zero,List.set_cons_succ]
          refine wpAnyH_take (i:=23) (oi:=?_) (v:=?_) ?_ (by kernel_rfl) (by kernel_rfl) (by kernel_rfl) ?_ ?_ (by assumption) ?_;rotate_left 2;(· simp only [List.getElem?_toArray,List.getElem?_cons_zero,List.getElem?_cons_succ];rfl);rotate_left;(· refine Or.inl ⟨by rfl,?_⟩;intro w hSw;(try dsimp only at hSw);go_simp;try with_reducible rfl);rotate_right;(· exact fun _ _ _ h=>h);simp only [Act.put,List.setIfInBounds_toArray,List.set_cons_zero,List.set_cons_succ]
          refine wpAnyH_take (i:=24) (oi:=?_) (v:=?_) ?_ (by kernel_rfl) (by kernel_rfl) (by kernel_rfl) ?_ ?_ (by assumption) ?_;rotate_left 2;(· simp only [List.getElem?_toArray,List.getElem?_cons_zero,List.getElem?_cons_succ];rfl);rotate_left;(· refine Or.inl ⟨by rfl,?_⟩;intro w hSw;(try dsimp only at hSw);go_simp;try with_reducible rfl);rotate_right;(· exact fun _ _ _ h=>h);simp only [Act.put,List.setIfInBounds_toArray,List.set_cons_zero,List.set_cons_succ]
          refine wpAnyH_take (i:=25) (oi:=?_) (v:=?_) ?_ (by kernel_rfl) (by kernel_rfl) (by kernel_rfl) ?_ ?_ (by assumption) ?_;rotate_left 2;(· simp only [List.getElem?_toArray,List.getElem?_cons_zero,List.getElem?_cons_succ];rfl);rotate_left;(· refine Or.inl ⟨by rfl,?_⟩;intro w hSw;(try dsimp only at hSw);go_simp;try with_reducible rfl);rotate_right;(· exact fun _ _ _ h=>h);simp only [Act.put,List.setIfInBounds_toArray,List.set_cons_zero,List.set_cons_succ]
          refine wpAnyH_take (i:=26) (oi:=?_) (v:=?_) ?_ (by kernel_rfl) (by kernel_rfl) (by kernel_rfl) ?_ ?_ (by assumption) ?_;rotate_left 2;(· simp only [List.getElem?_toArray,List.getElem?_cons_zero,List.getElem?_cons_succ];rfl);rotate_left;(· refine Or.inl ⟨by rfl,?_⟩;intro w hSw;(try dsimp only at hSw);go_simp;try with_reducible rfl);rotate_right;(· exact fun _ _ _ h=>h);simp only [Act.put,List.setIfInBounds_toArray,List.set_cons_zero,List.set_cons_succ]
          refine wpAnyH_ready (rs:=[21]) (by kernel_rfl) (by simp) ?_;refine AllReadyH.cons (o:=?_) ?_ (fun K hK=>?_) AllReadyH.nil;rotate_left;(· simp only [List.getElem?_toArray,List.getElem?_cons_zero,List.getElem?_cons_succ];rfl);go_simp;go_at_call 16;refine (Held.call HS (by first | assumption | exact Below.drew (by assumption)) (C21.out _ (by first | assumption | exact Below.drew (by assumption)))).mono ?_;rintro e u21 ⟨rfl,hbu21,hSu21⟩;refine hK.out _ _ (by first | assumption | trivial) (fun hHeld=>?_);clear hK K
          refine wpAnyH_take (i:=27) (oi:=?_) (v:=?_) ?_ (by kernel_rfl) (by kernel_rfl) (by kernel_rfl) ?_ ?_ (by assumption) ?_;rotate_left 2;(· simp only [List.getElem?_toArray,List.getElem?_cons_zero,List.getElem?_cons_succ];rfl);rotate_left;(· refine Or.inl ⟨by rfl,?_⟩;intro w hSw;(try dsimp only at hSw);go_simp;try with_reducible rfl);rotate_right;(· exact fun _ _ _ h=>h);simp only [Act.put,List.setIfInBounds_toArray,List.set_cons_zero,List.set_cons_succ]
          refine wpAnyH_take (i:=28) (oi:=?_) (v:=?_) ?_ (by kernel_rfl) (by kernel_rfl) (by kernel_rfl) ?_ ?_ (by assumption) ?_;rotate_left 2;(· simp only [List.getElem?_toArray,List.getElem?_cons_zero,List.getElem?_cons_succ];rfl);rotate_left;(· refine Or.inl ⟨by rfl,?_⟩;intro w hSw;(try dsimp only at hSw);go_simp;try with_reducible rfl);rotate_right;(· exact fun _ _ _ h=>h);simp only [Act.put,List.setIfInBounds_toArray,List.set_cons_zero,List.set_cons_succ]
          refine wpAnyH_take (i:=29) (oi:=?_) (v:=?_) ?_ (by kernel_rfl) (by kernel_rfl) (by kernel_rfl) ?_ ?_ (by assumption) ?_;rotate_left 2;(· simp only [List.getElem?_toArray,List.getElem?_cons_zero,List.getElem?_cons_succ];rfl);rotate_left;(· refine Or.inl ⟨by rfl,?_⟩;intro w hSw;(try dsimp only at hSw);go_simp;try with_reducible rfl);rotate_right;(· exact fun _ _ _ h=>h);simp only [Act.put,List.setIfInBounds_toArray,List.set_cons_zero,List.set_cons_succ]
          refine wpAnyH_take (i:=30) (oi:=?_) (v:=?_) ?_ (by kernel_rfl) (by kernel_rfl) (by kernel_rfl) ?_ ?_ (by assumption) ?_;rotate_left 2;(· simp only [List.getElem?_toArray,List.getElem?_cons_zero,List.getElem?_cons_succ];rfl);rotate_left;(· refine Or.inl ⟨by rfl,?_⟩;intro w hSw;(try dsimp only at hSw);go_simp;try with_reducible rfl);rotate_right;(· exact fun _ _ _ h=>h);simp only [Act.put,List.setIfInBounds_toArray,List.set_cons_zero,List.set_cons_succ]
          refine wpAnyH_take (i:=31) (oi:=?_) (v:=?_) ?_ (by kernel_rfl) (by kernel_rfl) (by kernel_rfl) ?_ ?_ (by assumption) ?_;rotate_left 2;(· simp only [List.getElem?_toArray,List.getElem?_cons_zero,List.getElem?_cons_succ];rfl);rotate_left;(· refine Or.inl ⟨by rfl,?_⟩;intro w hSw;(try dsimp only at hSw);go_simp;try with_reducible rfl);rotate_right;(· exact fun _ _ _ h=>h);simp only [Act.put,List.setIfInBounds_toArray,List.set_cons_zero,List.set_cons_succ]
          refine wpAnyH_take (i:=32) (oi:=?_) (v:=?_) ?_ (by kernel_rfl) (by kernel_rfl) (by kernel_rfl) ?_ ?_ (by assumption) ?_;rotate_left 2;(· simp only [List.getElem?_toArray,List.getElem?_cons_zero,List.getElem?_cons_succ];rfl);rotate_left;(· refine Or.inl ⟨by rfl,?_⟩;intro w hSw;(try dsimp only at hSw);go_simp;try with_reducible rfl);rotate_right;(· exact fun _ _ _ h=>h);simp only [Act.put,List.setIfInBounds_toArray,List.set_cons_zero,List.set_cons_succ]
          refine wpAnyH_take (i:=33) (oi:=?_) (v:=?_) ?_ (by kernel_rfl) (by kernel_rfl) (by kernel_rfl) ?_ ?_ (by assumption) ?_;rotate_left 2;(· simp only [List.getElem?_toArray,List.getElem?_cons_zero,List.getElem?_cons_succ];rfl);rotate_left;(· refine Or.inl ⟨by rfl,?_⟩;intro w hSw;(try dsimp only at hSw);go_simp;try with_reducible rfl);rotate_right;(· exact fun _ _ _ h=>h);simp only [Act.put,List.setIfInBounds_toArray,List.set_cons_zero,List.set_cons_succ]
          refine wpAnyH_take (i:=34) (oi:=?_) (v:=?_) ?_ (by kernel_rfl) (by kernel_rfl) (by kernel_rfl) ?_ ?_ (by assumption) ?_;rotate_left 2;(· simp only [List.getElem?_toArray,List.getElem?_cons_zero,List.getElem?_cons_succ];rfl);rotate_left;(· refine Or.inl ⟨by rfl,?_⟩;intro w hSw;(try dsimp only at hSw);go_simp;try with_reducible rfl);rotate_right;(· exact fun _ _ _ h=>h);simp only [Act.put,List.setIfInBounds_toArray,List.set_cons_zero,List.set_cons_succ]
          refine wpAnyH_take (i:=35) (oi:=?_) (v:=?_) ?_ (by kernel_rfl) (by kernel_rfl) (by kernel_rfl) ?_ ?_ (by assumption) ?_;rotate_left 2;(· simp only [List.getElem?_toArray,List.getElem?_cons_zero,List.getElem?_cons_succ];rfl);rotate_left;(· refine Or.inl ⟨by rfl,?_⟩;intro w hSw;(try dsimp only at hSw);go_simp;try with_reducible rfl);rotate_right;(· exact fun _ _ _ h=>h);simp only [Act.put,List.setIfInBounds_toArray,List.set_cons_zero,List.set_cons_succ]
          refine wpAnyH_take (i:=36) (oi:=?_) (v:=?_) ?_ (by kernel_rfl) (by kernel_rfl) (by kernel_rfl) ?_ ?_ (by assumption) ?_;rotate_left 2;(· simp only [List.getElem?_toArray,List.getElem?_cons_zero,List.getElem?_cons_succ];rfl);rotate_left;(· refine Or.inl ⟨by rfl,?_⟩;intro w hSw;(try dsimp only at hSw);go_simp;try with_reducible rfl);rotate_right;(· exact fun _ _ _ h=>h);simp only [Act.put,List.setIfInBounds_toArray,List.set_cons_zero,List.set_cons_succ]
          refine wpAnyH_take (i:=37) (oi:=?_) (v:=?_) ?_ (by kernel_rfl) (by kernel_rfl) (by kernel_rfl) ?_ ?_ (by assumption) ?_;rotate_left 2;(· simp only [List.getElem?_toArray,List.getElem?_cons_zero,List.getElem?_cons_succ];rfl);rotate_left;(· refine Or.inl ⟨by rfl,?_⟩;intro w hSw;(try dsimp only at hSw);go_simp;try with_reducible rfl);rotate_right;(· exact fun _ _ _ h=>h);simp only [Act.put,List.setIfInBounds_toArray,List.set_cons_zero,List.set_cons_succ]
          refine wpAnyH_take (i:=38) (oi:=?_) (v:=?_) ?_ (by kernel_rfl) (by kernel_rfl) (by kernel_rfl) ?_ ?_ (by assumption) ?_;rotate_left 2;(· simp only [List.getElem?_toArray,List.getElem?_cons_zero,List.getElem?_cons_succ];rfl);rotate_left;(· refine Or.inl ⟨by rfl,?_⟩;intro w hSw;(try dsimp only at hSw);go_simp;try with_reducible rfl);rotate_right;(· exact fun _ _ _ h=>h);simp only [Act.put,List.setIfInBounds_toArray,List.set_cons_zero,List.set_cons_succ]
          refine wpAnyH_take (i:=40) (oi:=?_) (v:=?_) ?_ (by kernel_rfl) (by kernel_rfl) (by kernel_rfl) ?_ ?_ (by assumption) ?_;rotate_left 2;(· simp only [List.getElem?_toArray,List.getElem?_cons_zero,List.getElem?_cons_succ];rfl);rotate_left;(· refine Or.inl ⟨by rfl,?_⟩;intro w hSw;(try dsimp only at hSw);go_simp;try with_reducible rfl);rotate_right;(· exact fun _ _ _ h=>h);simp only [Act.put,List.setIfInBounds_toArray,List.set_cons_zero,List.set_cons_succ]
          refine wpAnyH_ready (rs:=[39]) (by kernel_rfl) (by simp) ?_;refine AllReadyH.cons (o:=?_) ?_ (fun K hK=>?_) AllReadyH.nil;rotate_left;(· simp only [List.getElem?_toArray,List.getElem?_cons_zero,List.getElem?_cons_succ];rfl);go_simp;go_at_call 14;refine (Held.call HS (by first | assumption | exact Below.drew (by assumption)) (C39.out _ (by first | assumption | exact Below.drew (by assumption)))).mono ?_;rintro e u39 ⟨rfl,hbu39,hSu39⟩;refine hK.out _ _ (by first | assumption | trivial) (fun hHeld=>?_);clear hK K
          refine wpAnyH_ready (rs:=[41]) (by kernel_rfl) (by simp) ?_;refine AllReadyH.cons (o:=?_) ?_ (fun K hK=>?_) AllReadyH.nil;rotate_left;(· simp only [List.getElem?_toArray,List.getElem?_cons_zero,List.getElem?_cons_succ];rfl);go_simp;go_at_call 15;refine (Held.call HS (by first | assumption | exact Below.drew (by assumption)) (C41.out _ (by first | assumption | exact Below.drew (by assumption)))).mono ?_;rintro e u41 ⟨rfl,hbu41,hSu41⟩;refine hK.out _ _ (by first | assumption | trivial) (fun hHeld=>?_);clear hK K
          refine wpAnyH_take (i:=42) (oi:=?_) (v:=?_) ?_ (by kernel_rfl) (by kernel_rfl) (by kernel_rfl) ?_ ?_ (by assumption) ?_;rotate_left 2;(· simp only [List.getElem?_toArray,List.getElem?_cons_zero,List.getElem?_cons_succ];rfl);rotate_left;(· refine Or.inl ⟨by rfl,?_⟩;intro w hSw;(try dsimp only at hSw);go_simp;try with_reducible rfl);rotate_right;(· exact fun _ _ _ h=>h);simp only [Act.put,List.setIfInBounds_toArray,List.set_cons_zero,List.set_cons_succ]
          refine wpAnyH_take (i:=43) (oi:=?_) (v:=?_) ?_ (by kernel_rfl) (by kernel_rfl) (by kernel_rfl) ?_ ?_ (by assumption) ?_;rotate_left 2;(· simp only [List.getElem?_toArray,List.getElem?_cons_zero,List.getElem?_cons_succ];rfl);rotate_left;(· refine Or.inl ⟨by rfl,?_⟩;intro w hSw;(try dsimp only at hSw);go_simp;try with_reducible rfl);rotate_right;(· exact fun _ _ _ h=>h);simp only [Act.put,List.setIfInBounds_toArray,List.set_cons_zero,List.set_cons_succ]
          refine wpAnyH_take (i:=44) (oi:=?_) (v:=?_) ?_ (by kernel_rfl) (by kernel_rfl) (by kernel_rfl) ?_ ?_ (by assumption) ?_;rotate_left 2;(· simp only [List.getElem?_toArray,List.getElem?_cons_zero,List.getElem?_cons_succ];rfl);rotate_left;(· refine Or.inl ⟨by rfl,?_⟩;intro w hSw;(try dsimp only at hSw);go_simp;try with_reducible rfl);rotate_right;(· exact fun _ _ _ h=>h);simp only [Act.put,List.setIfInBounds_toArray,List.set_cons_zero,List.set_cons_succ]
          refine wpAnyH_take (i:=45) (oi:=?_) (v:=?_) ?_ (by kernel_rfl) (by kernel_rfl) (by kernel_rfl) ?_ ?_ (by assumption) ?_;rotate_left 2;(· simp only [List.getElem?_toArray,List.getElem?_cons_zero,List.getElem?_cons_succ];rfl);rotate_left;(· refine Or.inl ⟨by rfl,?_⟩;intro w hSw;(try dsimp only at hSw);go_simp;try with_reducible rfl);rotate_right;(· exact fun _ _ _ h=>h);simp only [Act.put,List.setIfInBounds_toArray,List.set_cons_zero,List.set_cons_succ]
          refine wpAnyH_take (i:=46) (oi:=?_) (v:=?_) ?_ (by kernel_rfl) (by kernel_rfl) (by kernel_rfl) ?_ ?_ (by assumption) ?_;rotate_left 2;(· simp only [List.getElem?_toArray,List.getElem?_cons_zero,List.getElem?_cons_succ];rfl);rotate_left;(· refine Or.inl ⟨by rfl,?_⟩;intro w hSw;(try dsimp only at hSw);go_simp;try with_reducible rfl);rotate_right;(· exact fun _ _ _ h=>h);simp only [Act.put,List.setIfInBounds_toArray,List.set_cons_zero,List.set_cons_succ]
          refine wpAnyH_done (by kernel_rfl) ?_ _
          have HEND:=Lib.hid (HZ.out _ (by first | exact hbu41 | exact hbu41.drew))
          go_wp2_with fail
          go_ret
          exact ⟨rfl,by first | exact HEND.out | exact HEND.out.drew⟩
        · have GX':Hid (∀ x,Calls Tryz.prog 12 #[.int .i64 many,.string s] x fun e y=>e=.returned (.tuple #[.pointer none,.int .i64 E1])∧Below x.heap.size x y):=fun x=>by
            refine (GX.out x).mono ?_
            rintro e y ⟨p,q1,q2,q3,q4⟩
            rw [←HE1.out,q2 (by rw [←HE1.out];exact hy)] at q1
            exact ⟨q1,q4⟩
          have GY':Hid (∀ x,Calls Tryz.prog 13 #[.int .i64 many,.string s] x fun e y=>e=.returned (.tuple #[.pointer none,.int .i64 E1])∧Below x.heap.size x y):=fun x=>by
            refine (GY.out x).mono ?_
            rintro e y ⟨p,q1,q2,q3,q4⟩
            rw [←HE1.out,q2 (by rw [←HE1.out];exact hy)] at q1
            exact ⟨q1,q4⟩
          clear GX GY HE1 HFF G1 hy
          go_wp2_with fail
          refine (D1.out _ J0.out).mono ?_
          rintro e w4 ⟨rfl,hb⟩
          have J1:=Lib.hid (J0.out.below hb)
          clear hb J0 D1
          go_wp2_with fail
          refine (D2.out _ J1.out).mono ?_
          rintro e w5 ⟨rfl,hb⟩
          have J2:=Lib.hid (J1.out.below hb)
          clear hb J1 D2
          go_wp2_with fail
          refine (P2.out _).mono ?_
          rintro e w6 ⟨rfl,hb⟩
          have J3:=Lib.hid (J2.out.below hb)
          clear hb J2 P2
          go_wp2_with fail
          refine (GX'.out _).mono ?_
          rintro e w7 ⟨rfl,hb⟩
          have J4:=Lib.hid (J3.out.below hb)
          clear hb J3 GX'
          go_wp2_with fail
          refine (GY'.out _).mono ?_
          rintro e w8 ⟨rfl,hb⟩
          have J5:=Lib.hid (J4.out.below hb)
          clear hb J4 GY'
          have k0:=J5.out.sb.c0
          go_wp2_with fail
          refine (D3.out _).mono ?_
          rintro e u ⟨b3,rfl,h3,hb⟩
          have J6:=Lib.hid (J5.out.below hb)
          have Z6:=Lib.hid h3
          clear h3
          clear hb J5 k0 D3
          have HS:Hid (∀ y,Below u.heap.size u y→True):=fun _ _=>trivial
          have ze:(E1==E1)=true:=by simp
          obtain ⟨ZB,hZB⟩:∃ x:ByteArray,x=⟨(K.M.bytes m f).toArray⟩:=⟨_,rfl⟩
          have C39:Hid (∀ x,Below u.heap.size u x→Calls Tryz.prog 14 #[.pointer (some ⟨b3,0,none⟩)] x fun e y=>e=.returned (.string ZB)∧Below x.heap.size x y):=fun x hx=>by
            refine (K.bytes_any x (Z6.out.below hx Z6.out.box.lt)).mono ?_
            rintro e y ⟨q1,n,q2⟩
            rw [hZB]
            exact ⟨q1,by rw [q2];exact below_drewN (Below.refl _ _) n⟩
          have C41:Hid (∀ x,Below u.heap.size u x→Calls Tryz.prog 15 #[.pointer (some ⟨b,0,none⟩)] x fun e y=>e=.returned (.string ZB)∧Below x.heap.size x y):=fun x hx=>by
            rw [hZB]
            exact K.refBytes_any x (J6.out.sb.below hx)
          have zz:(ZB.toList==ZB.toList)=true:=by simp
          clear hZB
          have HZ:Hid (∀ y,Below u.heap.size u y→Below w.heap.size w y):=fun y hb=>J6.out.low.trans (hb.mono J6.out.low.size)
          have hb0:Below u.heap.size u u:=Below.refl _ _
          have hS0:=HS.out u hb0
          go_wp2_with fail
          refine wp_region_held_drew (S:=(fun _=>True)) (by kernel_rfl) (by first | assumption | trivial) (fun hHeld=>?_)
          refine wpAnyH_take (i:=0) (oi:=?_) (v:=?_) ?_ (by kernel_rfl) (by kernel_rfl) (by kernel_rfl) ?_ ?_ (by assumption) ?_;rotate_left 2;(· simp only [List.getElem?_toArray,List.getElem?_cons_zero];rfl);rotate_left;(· refine Or.inl ⟨by rfl,?_⟩;intro w hSw;(try dsimp only at hSw);go_simp;try with_reducible rfl);rotate_right;(· exact fun _ _ _ h=>h);simp only [Act.put,List.setIfInBounds_toArray,List.set_cons_zero,List.set_cons_succ]
          refine wpAnyH_take (i:=1) (oi:=?_) (v:=?_) ?_ (by kernel_rfl) (by kernel_rfl) (by kernel_rfl) ?_ ?_ (by assumption) ?_;rotate_left 2;(· simp only [List.getElem?_toArray,List.getElem?_cons_zero,List.getElem?_cons_succ];rfl);rotate_left;(· refine Or.inl ⟨by rfl,?_⟩;intro w hSw;(try dsimp only at hSw);go_simp;try with_reducible rfl);rotate_right;(· exact fun _ _ _ h=>h);simp only [Act.put,List.setIfInBounds_toArray,List.set_cons_zero,List.set_cons_succ]
          refine wpAnyH_take (i:=2) (oi:=?_) (v:=?_) ?_ (by kernel_rfl) (by kernel_rfl) (by kernel_rfl) ?_ ?_ (by assumption) ?_;rotate_left 2;(· simp only [List.getElem?_toArray,List.getElem?_cons_zero,List.getElem?_cons_succ];rfl);rotate_left;(· refine Or.inl ⟨by rfl,?_⟩;intro w hSw;(try dsimp only at hSw);go_simp;try with_reducible rfl);rotate_right;(· exact fun _ _ _ h=>h);simp only [Act.put,List.setIfInBounds_toArray,List.set_cons_zero,List.set_cons_succ]
          refine wpAnyH_take (i:=3) (oi:=?_) (v:=?_) ?_ (by kernel_rfl) (by kernel_rfl) (by kernel_rfl) ?_ ?_ (by assumption) ?_;rotate_left 2;(· simp only [List.getElem?_toArray,List.getElem?_cons_zero,List.getElem?_cons_succ];rfl);rotate_left;(· refine Or.inl ⟨by rfl,?_⟩;intro w hSw;(try dsimp only at hSw);go_simp;try with_reducible rfl);rotate_right;(· exact fun _ _ _ h=>h);simp only [Act.put,List.setIfInBounds_toArray,List.set_cons_zero,List.set_cons_succ]
          refine wpAnyH_take (i:=4) (oi:=?_) (v:=?_) ?_ (by kernel_rfl) (by kernel_rfl) (by kernel_rfl) ?_ ?_ (by assumption) ?_;rotate_left 2;(· simp only [List.getElem?_toArray,List.getElem?_cons_zero,List.getElem?_cons_succ];rfl);rotate_left;(· refine Or.inl ⟨by rfl,?_⟩;intro w hSw;(try dsimp only at hSw);go_simp;try with_reducible rfl);rotate_right;(· exact fun _ _ _ h=>h);simp only [Act.put,List.setIfInBounds_toArray,List.set_cons_zero,List.set_cons_succ]
          refine wpAnyH_take (i:=5) (oi:=?_) (v:=?_) ?_ (by kernel_rfl) (by kernel_rfl) (by kernel_rfl) ?_ ?_ (by assumption) ?_;rotate_left 2;(· simp only [List.getElem?_toArray,List.getElem?_cons_zero,List.getElem?_cons_succ];rfl);rotate_left;(· refine Or.inl ⟨by rfl,?_⟩;intro w hSw;(try dsimp only at hSw);go_simp;try with_reducible rfl);rotate_right;(· exact fun _ _ _ h=>h);simp only [Act.put,List.setIfInBounds_toArray,List.set_cons_zero,List.set_cons_succ]
          refine wpAnyH_take (i:=6) (oi:=?_) (v:=?_) ?_ (by kernel_rfl) (by kernel_rfl) (by kernel_rfl) ?_ ?_ (by assumption) ?_;rotate_left 2;(· simp only [List.getElem?_toArray,List.getElem?_cons_zero,List.getElem?_cons_succ];rfl);rotate_left;(· refine Or.inl ⟨by rfl,?_⟩;intro w hSw;(try dsimp only at hSw);go_simp;try with_reducible rfl);rotate_right;(· exact fun _ _ _ h=>h);simp only [Act.put,List.setIfInBounds_toArray,List.set_cons_zero,List.set_cons_succ]
          refine wpAnyH_take (i:=7) (oi:=?_) (v:=?_) ?_ (by kernel_rfl) (by kernel_rfl) (by kernel_rfl) ?_ ?_ (by assumption) ?_;rotate_left 2;(· simp only [List.getElem?_toArray,List.getElem?_cons_zero,List.getElem?_cons_succ];rfl);rotate_left;(· refine Or.inl ⟨by rfl,?_⟩;intro w hSw;(try dsimp only at hSw);go_simp;try with_reducible rfl);rotate_right;(· exact fun _ _ _ h=>h);simp only [Act.put,List.setIfInBounds_toArray,List.set_cons_zero,List.set_cons_succ]
          refine wpAnyH_take (i:=8) (oi:=?_) (v:=?_) ?_ (by kernel_rfl) (by kernel_rfl) (by kernel_rfl) ?_ ?_ (by assumption) ?_;rotate_left 2;(· simp only [List.getElem?_toArray,List.getElem?_cons_zero,List.getElem?_cons_succ];rfl);rotate_left;(· refine Or.inl ⟨by rfl,?_⟩;intro w hSw;(try dsimp only at hSw);go_simp;try with_reducible rfl);rotate_right;(· exact fun _ _ _ h=>h);simp only [Act.put,List.setIfInBounds_toArray,List.set_cons_zero,List.set_cons_succ]
          refine wpAnyH_take (i:=9) (oi:=?_) (v:=?_) ?_ (by kernel_rfl) (by kernel_rfl) (by kernel_rfl) ?_ ?_ (by assumption) ?_;rotate_left 2;(· simp only [List.getElem?_toArray,List.getElem?_cons_zero,List.getElem?_cons_succ];rfl);rotate_left;(· refine Or.inl ⟨by rfl,?_⟩;intro w hSw;(try dsimp only at hSw);go_simp;try with_reducible rfl);rotate_right;(· exact fun _ _ _ h=>h);simp only [Act.put,List.setIfInBounds_toArray,List.set_cons_zero,List.set_cons_succ]
          refine wpAnyH_take (i:=10) (oi:=?_) (v:=?_) ?_ (by kernel_rfl) (by kernel_rfl) (by kernel_rfl) ?_ ?_ (by assumption) ?_;rotate_left 2;(· simp only [List.getElem?_toArray,List.getElem?_cons_zero,List.getElem?_cons_succ];rfl);rotate_left;(· refine Or.inl ⟨by rfl,?_⟩;intro w hSw;(try dsimp only at hSw);go_simp;try with_reducible rfl);rotate_right;(· exact fun _ _ _ h=>h);simp only [Act.put,List.setIfInBounds_toArray,List.set_cons_zero,List.set_cons_succ]
          refine wpAnyH_take (i:=11) (oi:=?_) (v:=?_) ?_ (by kernel_rfl) (by kernel_rfl) (by kernel_rfl) ?_ ?_ (by assumption) ?_;rotate_left 2;(· simp only [List.getElem?_toArray,List.getElem?_cons_zero,List.getElem?_cons_succ];rfl);rotate_left;(· refine Or.inl ⟨by rfl,?_⟩;intro w hSw;(try dsimp only at hSw);go_simp;try with_reducible rfl);rotate_right;(· exact fun _ _ _ h=>h);simp only [Act.put,List.setIfInBounds_toArray,List.set_cons_zero,List.set_cons_succ]
          refine wpAnyH_take (i:=12) (oi:=?_) (v:=?_) ?_ (by kernel_rfl) (by kernel_rfl) (by kernel_rfl) ?_ ?_ (by assumption) ?_;rotate_left 2;(· simp only [List.getElem?_toArray,List.getElem?_cons_zero,List.getElem?_cons_succ];rfl);rotate_left;(· refine Or.inl ⟨by rfl,?_⟩;intro w hSw;(try dsimp only at hSw);go_simp;try with_reducible rfl);rotate_right;(· exact fun _ _ _ h=>h);simp only [Act.put,List.setIfInBounds_toArray,List.set_cons_zero,List.set_cons_succ]
          refine wpAnyH_take (i:=13) (oi:=?_) (v:=?_) ?_ (by kernel_rfl) (by kernel_rfl) (by kernel_rfl) ?_ ?_ (by assumption) ?_;rotate_left 2;(· simp only [List.getElem?_toArray,List.getElem?_cons_zero,List.getElem?_cons_succ];rfl);rotate_left;(· refine Or.inl ⟨by rfl,?_⟩;intro w hSw;(try dsimp only at hSw);go_simp;try with_reducible rfl);rotate_right;(· exact fun _ _ _ h=>h);simp only [Act.put,List.setIfInBounds_toArray,List.set_cons_zero,List.set_cons_succ]
          refine wpAnyH_take (i:=14) (oi:=?_) (v:=undef) ?_ (by kernel_rfl) (by kernel_rfl) (by kernel_rfl) ?_ (Or.inr ⟨?_,rfl⟩) (by assumption) ?_;rotate_left;(· simp only [List.getElem?_toArray,List.getElem?_cons_zero,List.getElem?_cons_succ];rfl);(· exact fun _ _ _ h=>h);(· rfl);simp only [Act.put,List.setIfInBounds_toArray,List.set_cons_zero,List.set_cons_succ]
          refine wpAnyH_take (i:=15) (oi:=?_) (v:=undef) ?_ (by kernel_rfl) (by kernel_rfl) (by kernel_rfl) ?_ (Or.inr ⟨?_,rfl⟩) (by assumption) ?_;rotate_left;(· simp only [List.getElem?_toArray,List.getElem?_cons_zero,List.getElem?_cons_succ];rfl);(· exact fun _ _ _ h=>h);(· rfl);simp only [Act.put,List.setIfInBounds_toArray,List.set_cons_zero,List.set_cons_succ]
          refine wpAnyH_take (i:=16) (oi:=?_) (v:=undef) ?_ (by kernel_rfl) (by kernel_rfl) (by kernel_rfl) ?_ (Or.inr ⟨?_,rfl⟩) (by assumption) ?_;rotate_left;(· simp only [List.getElem?_toArray,List.getElem?_cons_zero,List.getElem?_cons_succ];rfl);(· exact fun _ _ _ h=>h);(· rfl);simp only [Act.put,List.setIfInBounds_toArray,List.set_cons_zero,List.set_cons_succ]
          refine wpAnyH_take (i:=17) (oi:=?_) (v:=undef) ?_ (by kernel_rfl) (by kernel_rfl) (by kernel_rfl) ?_ (Or.inr ⟨?_,rfl⟩) (by assumption) ?_;rotate_left;(· simp only [List.getElem?_toArray,List.getElem?_cons_zero,List.getElem?_cons_succ];rfl);(· exact fun _ _ _ h=>h);(· rfl);simp only [Act.put,List.setIfInBounds_toArray,List.set_cons_zero,List.set_cons_succ]
          refine wpAnyH_take (i:=18) (oi:=?_) (v:=undef) ?_ (by kernel_rfl) (by kernel_rfl) (by kernel_rfl) ?_ (Or.inr ⟨?_,rfl⟩) (by assumption) ?_;rotate_left;(· simp only [List.getElem?_toArray,List.getElem?_cons_zero,List.getElem?_cons_succ];rfl);(· exact fun _ _ _ h=>h);(· rfl);simp only [Act.put,List.setIfInBounds_toArray,List.set_cons_zero,List.set_cons_succ]
          refine wpAnyH_take (i:=19) (oi:=?_) (v:=undef) ?_ (by kernel_rfl) (by kernel_rfl) (by kernel_rfl) ?_ (Or.inr ⟨?_,rfl⟩) (by assumption) ?_;rotate_left;(· simp only [List.getElem?_toArray,List.getElem?_cons_zero,List.getElem?_cons_succ];rfl);(· exact fun _ _ _ h=>h);(· rfl);simp only [Act.put,List.setIfInBounds_toArray,List.set_cons_zero,List.set_cons_succ]
          refine wpAnyH_take (i:=20) (oi:=?_) (v:=undef) ?_ (by kernel_rfl) (by kernel_rfl) (by kernel_rfl) ?_ (Or.inr ⟨?_,rfl⟩) (by assumption) ?_;rotate_left;(· simp only [List.getElem?_toArray,List.getElem?_cons_zero,List.getElem?_cons_succ];rfl);(· exact fun _ _ _ h=>h);(· rfl);simp only [Act.put,List.setIfInBounds_toArray,List.set_cons_zero,List.set_cons_succ]
          refine wpAnyH_take (i:=21) (oi:=?_) (v:=undef) ?_ (by kernel_rfl) (by kernel_rfl) (by kernel_rfl) ?_ (Or.inr ⟨?_,rfl⟩) (by assumption) ?_;rotate_left;(· simp only [List.getElem?_toArray,List.getElem?_cons_zero,List.getElem?_cons_succ];rfl);(· exact fun _ _ _ h=>h);(· rfl);simp only [Act.put,List.setIfInBounds_toArray,List.set_cons_zero,List.set_cons_succ]
          refine wpAnyH_take (i:=22) (oi:=?_) (v:=undef) ?_ (by kernel_rfl) (by kernel_rfl) (by kernel_rfl) ?_ (Or.inr ⟨?_,rfl⟩) (by assumption) ?_;rotate_left;(· simp only [List.getElem?_toArray,List.getElem?_cons_zero,List.getElem?_cons_succ];rfl);(· exact fun _ _ _ h=>h);(· rfl);simp only [Act.put,List.setIfInBounds_toArray,List.set_cons_zero,List.set_cons_succ]
          refine wpAnyH_take (i:=23) (oi:=?_) (v:=undef) ?_ (by kernel_rfl) (by kernel_rfl) (by kernel_rfl) ?_ (Or.inr ⟨?_,rfl⟩) (by assumption) ?_;rotate_left;(· simp only [List.getElem?_toArray,List.getElem?_cons_zero,List.getElem?_cons_succ];rfl);(· exact fun _ _ _ h=>h);(· rfl);simp only [Act.put,List.setIfInBounds_toArray,List.set_cons_zero,List.set_cons_succ]
          refine wpAnyH_take (i:=24) (oi:=?_) (v:=undef) ?_ (by kernel_rfl) (by kernel_rfl) (by kernel_rfl) ?_ (Or.inr ⟨?_,rfl⟩) (by assumption) ?_;rotate_left;(· simp only [List.getElem?_toArray,List.getElem?_cons_zero,List.getElem?_cons_succ];rfl);(· exact fun _ _ _ h=>h);(· rfl);simp only [Act.put,List.setIfInBounds_toArray,List.set_cons_zero,List.set_cons_succ]
          refine wpAnyH_take (i:=25) (oi:=?_) (v:=undef) ?_ (by kernel_rfl) (by kernel_rfl) (by kernel_rfl) ?_ (Or.inr ⟨?_,rfl⟩) (by assumption) ?_;rotate_left;(· simp only [List.getElem?_toArray,List.getElem?_cons_zero,List.getElem?_cons_succ];rfl);(· exact fun _ _ _ h=>h);(· rfl);simp only [Act.put,List.setIfInBounds_toArray,List.set_cons_zero,List.set_cons_succ]
          refine wpAnyH_take (i:=26) (oi:=?_) (v:=undef) ?_ (by kernel_rfl) (by kernel_rfl) (by kernel_rfl) ?_ (Or.inr ⟨?_,rfl⟩) (by assumption) ?_;rotate_left;(· simp only [List.getElem?_toArray,List.getElem?_cons_zero,List.getElem?_cons_succ];rfl);(· exact fun _ _ _ h=>h);(· rfl);simp only [Act.put,List.setIfInBounds_toArray,List.set_cons_zero,List.set_cons_succ]
          refine wpAnyH_take (i:=27) (oi:=?_) (v:=undef) ?_ (by kernel_rfl) (by kernel_rfl) (by kernel_rfl) ?_ (Or.inr ⟨?_,rfl⟩) (by assumption) ?_;rotate_left;(· simp only [List.getElem?_toArray,List.getElem?_cons_zero,List.getElem?_cons_succ];rfl);(· exact fun _ _ _ h=>h);(· rfl);simp only [Act.put,List.setIfInBounds_toArray,List.set_cons_zero,List.set_cons_succ]
          refine wpAnyH_take (i:=28) (oi:=?_) (v:=undef) ?_ (by kernel_rfl) (by kernel_rfl) (by kernel_rfl) ?_ (Or.inr ⟨?_,rfl⟩) (by assumption) ?_;rotate_left;(· simp only [List.getElem?_toArray,List.getElem?_cons_zero,List.getElem?_cons_succ];rfl);(· exact fun _ _ _ h=>h);(· rfl);simp only [Act.put,List.setIfInBounds_toArray,List.set_cons_zero,List.set_cons_succ]
          refine wpAnyH_take (i:=29) (oi:=?_) (v:=?_) ?_ (by kernel_rfl) (by kernel_rfl) (by kernel_rfl) ?_ ?_ (by assumption) ?_;rotate_left 2;(· simp only [List.getElem?_toArray,List.getElem?_cons_zero,List.getElem?_cons_succ];rfl);rotate_left;(· refine Or.inl ⟨by rfl,?_⟩;intro w hSw;(try dsimp only at hSw);go_simp;try with_reducible rfl);rotate_right;(· exact fun _ _ _ h=>h);simp only [Act.put,List.setIfInBounds_toArray,List.set_cons_zero,List.set_cons_succ]
          refine wpAnyH_take (i:=30) (oi:=?_) (v:=?_) ?_ (by kernel_rfl) (by kernel_rfl) (by kernel_rfl) ?_ ?_ (by assumption) ?_;rotate_left 2;(· simp only [List.getElem?_toArray,List.getElem?_cons_zero,List.getElem?_cons_succ];rfl);rotate_left;(· refine Or.inl ⟨by rfl,?_⟩;intro w hSw;(try dsimp only at hSw);go_simp;try with_reducible rfl);rotate_right;(· exact fun _ _ _ h=>h);simp only [Act.put,List.setIfInBounds_toArray,List.set_cons_zero,List.set_cons_succ]
          refine wpAnyH_take (i:=31) (oi:=?_) (v:=?_) ?_ (by kernel_rfl) (by kernel_rfl) (by kernel_rfl) ?_ ?_ (by assumption) ?_;rotate_left 2;(· simp only [List.getElem?_toArray,List.getElem?_cons_zero,List.getElem?_cons_succ];rfl);rotate_left;(· refine Or.inl ⟨by rfl,?_⟩;intro w hSw;(try dsimp only at hSw);go_simp;try with_reducible rfl);rotate_right;(· exact fun _ _ _ h=>h);simp only [Act.put,List.setIfInBounds_toArray,List.set_cons_zero,List.set_cons_succ]
          refine wpAnyH_take (i:=32) (oi:=?_) (v:=?_) ?_ (by kernel_rfl) (by kernel_rfl) (by kernel_rfl) ?_ ?_ (by assumption) ?_;rotate_left 2;(· simp only [List.getElem?_toArray,List.getElem?_cons_zero,List.getElem?_cons_succ];rfl);rotate_left;(· refine Or.inl ⟨by rfl,?_⟩;intro w hSw;(try dsimp only at hSw);go_simp;try with_reducible rfl);rotate_right;(· exact fun _ _ _ h=>h);simp only [Act.put,List.setIfInBounds_toArray,List.set_cons_zero,List.set_cons_succ]
          refine wpAnyH_take (i:=33) (oi:=?_) (v:=?_) ?_ (by kernel_rfl) (by kernel_rfl) (by kernel_rfl) ?_ ?_ (by assumption) ?_;rotate_left 2;(· simp only [List.getElem?_toArray,List.getElem?_cons_zero,List.getElem?_cons_succ];rfl);rotate_left;(· refine Or.inl ⟨by rfl,?_⟩;intro w hSw;(try dsimp only at hSw);go_simp;try with_reducible rfl);rotate_right;(· exact fun _ _ _ h=>h);simp only [Act.put,List.setIfInBounds_toArray,List.set_cons_zero,List.set_cons_succ]
          refine wpAnyH_take (i:=34) (oi:=?_) (v:=?_) ?_ (by kernel_rfl) (by kernel_rfl) (by kernel_rfl) ?_ ?_ (by assumption) ?_;rotate_left 2;(· simp only [List.getElem?_toArray,List.getElem?_cons_zero,List.getElem?_cons_succ];rfl);rotate_left;(· refine Or.inl ⟨by rfl,?_⟩;intro w hSw;(try dsimp only at hSw);go_simp;try with_reducible rfl);rotate_right;(· exact fun _ _ _ h=>h);simp only [Act.put,List.setIfInBounds_toArray,List.set_cons_zero,List.set_cons_succ]
          refine wpAnyH_take (i:=35) (oi:=?_) (v:=?_) ?_ (by kernel_rfl) (by kernel_rfl) (by kernel_rfl) ?_ ?_ (by assumption) ?_;rotate_left 2;(· simp only [List.getElem?_toArray,List.getElem?_cons_zero,List.getElem?_cons_succ];rfl);rotate_left;(· refine Or.inl ⟨by rfl,?_⟩;intro w hSw;(try dsimp only at hSw);go_simp;try with_reducible rfl);rotate_right;(· exact fun _ _ _ h=>h);simp only [Act.put,List.setIfInBounds_toArray,List.set_cons_zero,List.set_cons_succ]
          refine wpAnyH_take (i:=36) (oi:=?_) (v:=?_) ?_ (by kernel_rfl) (by kernel_rfl) (by kernel_rfl) ?_ ?_ (by assumption) ?_;rotate_left 2;(· simp only [List.getElem?_toArray,List.getElem?_cons_zero,List.getElem?_cons_succ];rfl);rotate_left;(· refine Or.inl ⟨by rfl,?_⟩;intro w hSw;(try dsimp only at hSw);go_simp;try with_reducible rfl);rotate_right;(· exact fun _ _ _ h=>h);simp only [Act.put,List.setIfInBounds_toArray,List.set_cons_zero,List.set_cons_succ]
          refine wpAnyH_take (i:=37) (oi:=?_) (v:=?_) ?_ (by kernel_rfl) (by kernel_rfl) (by kernel_rfl) ?_ ?_ (by assumption) ?_;rotate_left 2;(· simp only [List.getElem?_toArray,List.getElem?_cons_zero,List.getElem?_cons_succ];rfl);rotate_left;(· refine Or.inl ⟨by rfl,?_⟩;intro w hSw;(try dsimp only at hSw);go_simp;try with_reducible rfl);rotate_right;(· exact fun _ _ _ h=>h);simp only [Act.put,List.setIfInBounds_toArray,List.set_cons_zero,List.set_cons_succ]
          refine wpAnyH_take (i:=38) (oi:=?_) (v:=?_) ?_ (by kernel_rfl) (by kernel_rfl) (by kernel_rfl) ?_ ?_ (by assumption) ?_;rotate_left 2;(· simp only [List.getElem?_toArray,List.getElem?_cons_zero,List.getElem?_cons_succ];rfl);rotate_left;(· refine Or.inl ⟨by rfl,?_⟩;intro w hSw;(try dsimp only at hSw);go_simp;try with_reducible rfl);rotate_right;(· exact fun _ _ _ h=>h);simp only [Act.put,List.setIfInBounds_toArray,List.set_cons_zero,List.set_cons_succ]
          refine wpAnyH_take (i:=40) (oi:=?_) (v:=?_) ?_ (by kernel_rfl) (by kernel_rfl) (by kernel_rfl) ?_ ?_ (by assumption) ?_;rotate_left 2;(· simp only [List.getElem?_toArray,List.getElem?_cons_zero,List.getElem?_cons_succ];rfl);rotate_left;(· refine Or.inl ⟨by rfl,?_⟩;intro w hSw;(try dsimp only at hSw);go_simp;try with_reducible rfl);rotate_right;(· exact fun _ _ _ h=>h);simp only [Act.put,List.setIfInBounds_toArray,List.set_cons_zero,List.set_cons_succ]
          refine wpAnyH_ready (rs:=[39]) (by kernel_rfl) (by simp) ?_;refine AllReadyH.cons (o:=?_) ?_ (fun K hK=>?_) AllReadyH.nil;rotate_left;(· simp only [List.getElem?_toArray,List.getElem?_cons_zero,List.getElem?_cons_succ];rfl);go_simp;go_at_call 14;refine (Held.call HS (by first | assumption | exact Below.drew (by assumption)) (C39.out _ (by first | assumption | exact Below.drew (by assumption)))).mono ?_;rintro e u39 ⟨rfl,hbu39,hSu39⟩;refine hK.out _ _ (by first | assumption | trivial) (fun hHeld=>?_);clear hK K
          refine wpAnyH_ready (rs:=[41]) (by kernel_rfl) (by simp) ?_;refine AllReadyH.cons (o:=?_) ?_ (fun K hK=>?_) AllReadyH.nil;rotate_left;(· simp only [List.getElem?_toArray,List.getElem?_cons_zero,List.getElem?_cons_succ];rfl);go_simp;go_at_call 15;refine (Held.call HS (by first | assumption | exact Below.drew (by assumption)) (C41.out _ (by first | assumption | exact Below.drew (by assumption)))).mono ?_;rintro e u41 ⟨rfl,hbu41,hSu41⟩;refine hK.out _ _ (by first | assumption | trivial) (fun hHeld=>?_);clear hK K
          refine wpAnyH_take (i:=42) (oi:=?_) (v:=?_) ?_ (by kernel_rfl) (by kernel_rfl) (by kernel_rfl) ?_ ?_ (by assumption) ?_;rotate_left 2;(· simp only [List.getElem?_toArray,List.getElem?_cons_zero,List.getElem?_cons_succ];rfl);rotate_left;(· refine Or.inl ⟨by rfl,?_⟩;intro w hSw;(try dsimp only at hSw);go_simp;try with_reducible rfl);rotate_right;(· exact fun _ _ _ h=>h);simp only [Act.put,List.setIfInBounds_toArray,List.set_cons_zero,List.set_cons_succ]
          refine wpAnyH_take (i:=43) (oi:=?_) (v:=?_) ?_ (by kernel_rfl) (by kernel_rfl) (by kernel_rfl) ?_ ?_ (by assumption) ?_;rotate_left 2;(· simp only [List.getElem?_toArray,List.getElem?_cons_zero,List.getElem?_cons_succ];rfl);rotate_left;(· refine Or.inl ⟨by rfl,?_⟩;intro w hSw;(try dsimp only at hSw);go_simp;try with_reducible rfl);rotate_right;(· exact fun _ _ _ h=>h);simp only [Act.put,List.setIfInBounds_toArray,List.set_cons_zero,List.set_cons_succ]
          refine wpAnyH_take (i:=44) (oi:=?_) (v:=?_) ?_ (by kernel_rfl) (by kernel_rfl) (by kernel_rfl) ?_ ?_ (by assumption) ?_;rotate_left 2;(· simp only [List.getElem?_toArray,List.getElem?_cons_zero,List.getElem?_cons_succ];rfl);rotate_left;(· refine Or.inl ⟨by rfl,?_⟩;intro w hSw;(try dsimp only at hSw);go_simp;try with_reducible rfl);rotate_right;(· exact fun _ _ _ h=>h);simp only [Act.put,List.setIfInBounds_toArray,List.set_cons_zero,List.set_cons_succ]
          refine wpAnyH_take (i:=45) (oi:=?_) (v:=?_) ?_ (by kernel_rfl) (by kernel_rfl) (by kernel_rfl) ?_ ?_ (by assumption) ?_;rotate_left 2;(· simp only [List.getElem?_toArray,List.getElem?_cons_zero,List.getElem?_cons_succ];rfl);rotate_left;(· refine Or.inl ⟨by rfl,?_⟩;intro w hSw;(try dsimp only at hSw);go_simp;try with_reducible rfl);rotate_right;(· exact fun _ _ _ h=>h);simp only [Act.put,List.setIfInBounds_toArray,List.set_cons_zero,List.set_cons_succ]
          refine wpAnyH_take (i:=46) (oi:=?_) (v:=?_) ?_ (by kernel_rfl) (by kernel_rfl) (by kernel_rfl) ?_ ?_ (by assumption) ?_;rotate_left 2;(· simp only [List.getElem?_toArray,List.getElem?_cons_zero,List.getElem?_cons_succ];rfl);rotate_left;(· refine Or.inl ⟨by rfl,?_⟩;intro w hSw;(try dsimp only at hSw);go_simp;try with_reducible rfl);rotate_right;(· exact fun _ _ _ h=>h);simp only [Act.put,List.setIfInBounds_toArray,List.set_cons_zero,List.set_cons_succ]
          refine wpAnyH_done (by kernel_rfl) ?_ _
          have HEND:=Lib.hid (HZ.out _ (by first | exact hbu41 | exact hbu41.drew))
          go_wp2_with fail
          go_ret
          exact ⟨rfl,by first | exact HEND.out | exact HEND.out.drew⟩
      · have D1:=Lib.hid (fun x (h:JY19 w a b g c m f x)=>P1.out x a m f h.sa)
        have D2:=Lib.hid (fun x (h:JY19 w a b g c m f x)=>rjput_any x h.sb)
        rw [M.jput_no h24] at D1 D2
        have e3:M.jgetE (m:Nat) ⟨#[]⟩=12:=by unfold M.jgetE;rw [if_pos (by decide)]
        have D3:Hid (∀ x,Calls Tryz.prog 12 #[.int .i64 (m:Nat),.string ⟨#[]⟩] x fun e y=>e=.returned (.tuple #[.pointer none,.int .i64 12])∧Below x.heap.size x y):=fun x=>by
          refine (G1.out (m:Nat) ⟨#[]⟩ x).mono ?_
          rintro e y ⟨p,q1,q2,q3,q4⟩
          rw [e3,q2 (by rw [e3];decide)] at q1
          exact ⟨q1,q4⟩
        clear e3 P1 h24
        by_cases hy:E1=0
        · subst hy
          have GX':Hid (∀ x,Calls Tryz.prog 12 #[.int .i64 many,.string s] x fun e y=>∃ (mm b1:Nat),many=(mm:Int)∧e=.returned (.tuple #[.pointer (some ⟨b1,0,none⟩),.int .i64 0])∧K.Set y b1 mm F∧Below x.heap.size x y):=fun x=>by
            refine (GX.out x).mono ?_
            rintro e y ⟨p,q1,q2,q3,q4⟩
            obtain ⟨mm,b1,q5,q6,q7,q8⟩:=q3 HE1.out.symm
            have hFM:M.jset mm s=F:=by rw [HFF.out,q5];rfl
            rw [hFM] at q8
            rw [←HE1.out,q7] at q1
            exact ⟨mm,b1,q5,q1,q8,q4⟩
          have GY':Hid (∀ x,Calls Tryz.prog 13 #[.int .i64 many,.string s] x fun e y=>∃ (mm b2 g2 c2:Nat),many=(mm:Int)∧e=.returned (.tuple #[.pointer (some ⟨b2,0,none⟩),.int .i64 0])∧K.RSet y b2 g2 c2 mm F∧Below x.heap.size x y):=fun x=>by
            refine (GY.out x).mono ?_
            rintro e y ⟨p,q1,q2,q3,q4⟩
            obtain ⟨mm,b2,g2,c2,q5,q6,q7,q8⟩:=q3 HE1.out.symm
            have hFM:M.jset mm s=F:=by rw [HFF.out,q5];rfl
            rw [hFM] at q8
            rw [←HE1.out,q7] at q1
            exact ⟨mm,b2,g2,c2,q5,q1,q8,q4⟩
          clear GX GY HE1 HFF G1
          go_wp2_with fail
          refine (D1.out _ J0.out).mono ?_
          rintro e w4 ⟨rfl,hb⟩
          have J1:=Lib.hid (J0.out.below hb)
          clear hb J0 D1
          go_wp2_with fail
          refine (D2.out _ J1.out).mono ?_
          rintro e w5 ⟨rfl,hb⟩
          have J2:=Lib.hid (J1.out.below hb)
          clear hb J1 D2
          go_wp2_with fail
          refine (P2.out _).mono ?_
          rintro e w6 ⟨rfl,hb⟩
          have J3:=Lib.hid (J2.out.below hb)
          clear hb J2 P2
          go_wp2_with fail
          refine (GX'.out _).mono ?_
          rintro e w7 ⟨mm,b1,hM,rfl,h1,hb⟩
          have HM:=Lib.hid hM
          have J4:=Lib.hid (J3.out.below hb)
          have X1:=Lib.hid h1
          clear hb J3 h1 GX' hM
          go_wp2_with fail
          refine (GY'.out _).mono ?_
          rintro e w8 ⟨m2,b2,g2,c2,hM',rfl,h2,hb⟩
          obtain rfl:mm=m2:=by have:=HM.out;omega
          have J5:=Lib.hid (J4.out.below hb)
          have X2:=Lib.hid (X1.out.below hb X1.out.box.lt)
          have Y2:=Lib.hid h2
          clear hb J4 X1 h2 GY' hM'
          have k0:=J5.out.sb.c0
          go_wp2_with fail
          refine (D3.out _).mono ?_
          rintro e u ⟨rfl,hb⟩
          have J6:=Lib.hid (J5.out.below hb)
          have X6:=Lib.hid (X2.out.below hb X2.out.box.lt)
          have Y6:=Lib.hid (Y2.out.below hb)
          clear X2 Y2
          clear hb J5 k0 D3
          obtain ⟨SB,hSB⟩:∃ x:ByteArray,x=⟨(K.M.bytes mm F).toArray⟩:=⟨_,rfl⟩
          have C15:Hid (∀ x,Below u.heap.size u x→Calls Tryz.prog 14 #[.pointer (some ⟨b1,0,none⟩)] x fun e y=>e=.returned (.string SB)∧Below x.heap.size x y):=fun x hx=>by
            refine (K.bytes_any x (X6.out.below hx X6.out.box.lt)).mono ?_
            rintro e y ⟨q1,n,q2⟩
            rw [hSB]
            exact ⟨q1,by rw [q2];exact below_drewN (Below.refl _ _) n⟩
          have C17:Hid (∀ x,Below u.heap.size u x→Calls Tryz.prog 15 #[.pointer (some ⟨b2,0,none⟩)] x fun e y=>e=.returned (.string SB)∧Below x.heap.size x y):=fun x hx=>by
            rw [hSB]
            exact K.refBytes_any x (Y6.out.below hx)
          have C21:Hid (∀ x,Below u.heap.size u x→Calls Tryz.prog 16 #[.pointer (some ⟨b1,0,none⟩)] x fun e y=>e=.returned (.int .i64 (mm:Nat))∧Below x.heap.size x y):=fun x hx=>by
            refine (K.many_any x (X6.out.below hx X6.out.box.lt)).mono ?_
            rintro e y ⟨q1,rfl⟩
            exact ⟨q1,Below.refl _ _⟩
          have HS:Hid (∀ y,Below u.heap.size u y→y.cell? ⟨b2,0,none⟩=some (.slice (some ⟨g2,0,none⟩) mm c2)):=fun y hb=>(Y6.out.below hb).c0
          have zs:(SB.toList==SB.toList)=true:=by simp
          have zm:((mm:Int)==(mm:Int))=true:=by simp
          clear hSB
          have HZ:Hid (∀ y,Below u.heap.size u y→Below w.heap.size w y):=fun y hb=>J6.out.low.trans (hb.mono J6.out.low.size)
          have hb0:Below u.heap.size u u:=Below.refl _ _
          have hS0:=HS.out u hb0
          go_wp2_with fail
          refine wp_region_held_drew (S:=(fun y=>y.cell? ⟨b2,0,none⟩=some (.slice (some ⟨g2,0,none⟩) mm c2))) (by kernel_rfl) (by first | assumption | trivial) (fun hHeld=>?_)
          refine wpAnyH_take (i:=0) (oi:=?_) (v:=?_) ?_ (by kernel_rfl) (by kernel_rfl) (by kernel_rfl) ?_ ?_ (by assumption) ?_;rotate_left 2;(· simp only [List.getElem?_toArray,List.getElem?_cons_zero];rfl);rotate_left;(· refine Or.inl ⟨by rfl,?_⟩;intro w hSw;(try dsimp only at hSw);go_simp;try with_reducible rfl);rotate_right;(· exact fun _ _ _ h=>h);simp only [Act.put,List.setIfInBounds_toArray,List.set_cons_zero,List.set_cons_succ]
          refine wpAnyH_take (i:=1) (oi:=?_) (v:=?_) ?_ (by kernel_rfl) (by kernel_rfl) (by kernel_rfl) ?_ ?_ (by assumption) ?_;rotate_left 2;(· simp only [List.getElem?_toArray,List.getElem?_cons_zero,List.getElem?_cons_succ];rfl);rotate_left;(· refine Or.inl ⟨by rfl,?_⟩;intro w hSw;(try dsimp only at hSw);go_simp;try with_reducible rfl);rotate_right;(· exact fun _ _ _ h=>h);simp only [Act.put,List.setIfInBounds_toArray,List.set_cons_zero,List.set_cons_succ]
          refine wpAnyH_take (i:=2) (oi:=?_) (v:=?_) ?_ (by kernel_rfl) (by kernel_rfl) (by kernel_rfl) ?_ ?_ (by assumption) ?_;rotate_left 2;(· simp only [List.getElem?_toArray,List.getElem?_cons_zero,List.getElem?_cons_succ];rfl);rotate_left;(· refine Or.inl ⟨by rfl,?_⟩;intro w hSw;(try dsimp only at hSw);go_simp;try with_reducible rfl);rotate_right;(· exact fun _ _ _ h=>h);simp only [Act.put,List.setIfInBounds_toArray,List.set_cons_zero,List.set_cons_succ]
          refine wpAnyH_take (i:=3) (oi:=?_) (v:=?_) ?_ (by kernel_rfl) (by kernel_rfl) (by kernel_rfl) ?_ ?_ (by assumption) ?_;rotate_left 2;(· simp only [List.getElem?_toArray,List.getElem?_cons_zero,List.getElem?_cons_succ];rfl);rotate_left;(· refine Or.inl ⟨by rfl,?_⟩;intro w hSw;(try dsimp only at hSw);go_simp;try with_reducible rfl);rotate_right;(· exact fun _ _ _ h=>h);simp only [Act.put,List.setIfInBounds_toArray,List.set_cons_zero,List.set_cons_succ]
          refine wpAnyH_take (i:=4) (oi:=?_) (v:=?_) ?_ (by kernel_rfl) (by kernel_rfl) (by kernel_rfl) ?_ ?_ (by assumption) ?_;rotate_left 2;(· simp only [List.getElem?_toArray,List.getElem?_cons_zero,List.getElem?_cons_succ];rfl);rotate_left;(· refine Or.inl ⟨by rfl,?_⟩;intro w hSw;(try dsimp only at hSw);go_simp;try with_reducible rfl);rotate_right;(· exact fun _ _ _ h=>h);simp only [Act.put,List.setIfInBounds_toArray,List.set_cons_zero,List.set_cons_succ]
          refine wpAnyH_take (i:=5) (oi:=?_) (v:=?_) ?_ (by kernel_rfl) (by kernel_rfl) (by kernel_rfl) ?_ ?_ (by assumption) ?_;rotate_left 2;(· simp only [List.getElem?_toArray,List.getElem?_cons_zero,List.getElem?_cons_succ];rfl);rotate_left;(· refine Or.inl ⟨by rfl,?_⟩;intro w hSw;(try dsimp only at hSw);go_simp;try with_reducible rfl);rotate_right;(· exact fun _ _ _ h=>h);simp only [Act.put,List.setIfInBounds_toArray,List.set_cons_zero,List.set_cons_succ]
          refine wpAnyH_take (i:=6) (oi:=?_) (v:=?_) ?_ (by kernel_rfl) (by kernel_rfl) (by kernel_rfl) ?_ ?_ (by assumption) ?_;rotate_left 2;(· simp only [List.getElem?_toArray,List.getElem?_cons_zero,List.getElem?_cons_succ];rfl);rotate_left;(· refine Or.inl ⟨by rfl,?_⟩;intro w hSw;(try dsimp only at hSw);go_simp;try with_reducible rfl);rotate_right;(· exact fun _ _ _ h=>h);simp only [Act.put,List.setIfInBounds_toArray,List.set_cons_zero,List.set_cons_succ]
          refine wpAnyH_take (i:=7) (oi:=?_) (v:=?_) ?_ (by kernel_rfl) (by kernel_rfl) (by kernel_rfl) ?_ ?_ (by assumption) ?_;rotate_left 2;(· simp only [List.getElem?_toArray,List.getElem?_cons_zero,List.getElem?_cons_succ];rfl);rotate_left;(· refine Or.inl ⟨by rfl,?_⟩;intro w hSw;(try dsimp only at hSw);go_simp;try with_reducible rfl);rotate_right;(· exact fun _ _ _ h=>h);simp only [Act.put,List.setIfInBounds_toArray,List.set_cons_zero,List.set_cons_succ]
          refine wpAnyH_take (i:=8) (oi:=?_) (v:=?_) ?_ (by kernel_rfl) (by kernel_rfl) (by kernel_rfl) ?_ ?_ (by assumption) ?_;rotate_left 2;(· simp only [List.getElem?_toArray,List.getElem?_cons_zero,List.getElem?_cons_succ];rfl);rotate_left;(· refine Or.inl ⟨by rfl,?_⟩;intro w hSw;(try dsimp only at hSw);go_simp;try with_reducible rfl);rotate_right;(· exact fun _ _ _ h=>h);simp only [Act.put,List.setIfInBounds_toArray,List.set_cons_zero,List.set_cons_succ]
          refine wpAnyH_take (i:=9) (oi:=?_) (v:=?_) ?_ (by kernel_rfl) (by kernel_rfl) (by kernel_rfl) ?_ ?_ (by assumption) ?_;rotate_left 2;(· simp only [List.getElem?_toArray,List.getElem?_cons_zero,List.getElem?_cons_succ];rfl);rotate_left;(· refine Or.inl ⟨by rfl,?_⟩;intro w hSw;(try dsimp only at hSw);go_simp;try with_reducible rfl);rotate_right;(· exact fun _ _ _ h=>h);simp only [Act.put,List.setIfInBounds_toArray,List.set_cons_zero,List.set_cons_succ]
          refine wpAnyH_take (i:=10) (oi:=?_) (v:=?_) ?_ (by kernel_rfl) (by kernel_rfl) (by kernel_rfl) ?_ ?_ (by assumption) ?_;rotate_left 2;(· simp only [List.getElem?_toArray,List.getElem?_cons_zero,List.getElem?_cons_succ];rfl);rotate_left;(· refine Or.inl ⟨by rfl,?_⟩;intro w hSw;(try dsimp only at hSw);go_simp;try with_reducible rfl);rotate_right;(· exact fun _ _ _ h=>h);simp only [Act.put,List.setIfInBounds_toArray,List.set_cons_zero,List.set_cons_succ]
          refine wpAnyH_take (i:=11) (oi:=?_) (v:=?_) ?_ (by kernel_rfl) (by kernel_rfl) (by kernel_rfl) ?_ ?_ (by assumption) ?_;rotate_left 2;(· simp only [List.getElem?_toArray,List.getElem?_cons_zero,List.getElem?_cons_succ];rfl);rotate_left;(· refine Or.inl ⟨by rfl,?_⟩;intro w hSw;(try dsimp only at hSw);go_simp;try with_reducible rfl);rotate_right;(· exact fun _ _ _ h=>h);simp only [Act.put,List.setIfInBounds_toArray,List.set_cons_zero,List.set_cons_succ]
          refine wpAnyH_take (i:=12) (oi:=?_) (v:=?_) ?_ (by kernel_rfl) (by kernel_rfl) (by kernel_rfl) ?_ ?_ (by assumption) ?_;rotate_left 2;(· simp only [List.getElem?_toArray,List.getElem?_cons_zero,List.getElem?_cons_succ];rfl);rotate_left;(· refine Or.inl ⟨by rfl,?_⟩;intro w hSw;(try dsimp only at hSw);go_simp;try with_reducible rfl);rotate_right;(· exact fun _ _ _ h=>h);simp only [Act.put,List.setIfInBounds_toArray,List.set_cons_zero,List.set_cons_succ]
          refine wpAnyH_take (i:=13) (oi:=?_) (v:=?_) ?_ (by kernel_rfl) (by kernel_rfl) (by kernel_rfl) ?_ ?_ (by assumption) ?_;rotate_left 2;(· simp only [List.getElem?_toArray,List.getElem?_cons_zero,List.getElem?_cons_succ];rfl);rotate_left;(· refine Or.inl ⟨by rfl,?_⟩;intro w hSw;(try dsimp only at hSw);go_simp;try with_reducible rfl);rotate_right;(· exact fun _ _ _ h=>h);simp only [Act.put,List.setIfInBounds_toArray,List.set_cons_zero,List.set_cons_succ]
          refine wpAnyH_take (i:=14) (oi:=?_) (v:=?_) ?_ (by kernel_rfl) (by kernel_rfl) (by kernel_rfl) ?_ ?_ (by assumption) ?_;rotate_left 2;(· simp only [List.getElem?_toArray,List.getElem?_cons_zero,List.getElem?_cons_succ];rfl);rotate_left;(· refine Or.inl ⟨by rfl,?_⟩;intro w hSw;(try dsimp only at hSw);go_simp;try with_reducible rfl);rotate_right;(· exact fun _ _ _ h=>h);simp only [Act.put,List.setIfInBounds_toArray,List.set_cons_zero,List.set_cons_succ]
          refine wpAnyH_take (i:=16) (oi:=?_) (v:=?_) ?_ (by kernel_rfl) (by kernel_rfl) (by kernel_rfl) ?_ ?_ (by assumption) ?_;rotate_left 2;(· simp only [List.getElem?_toArray,List.getElem?_cons_zero,List.getElem?_cons_succ];rfl);rotate_left;(· refine Or.inl ⟨by rfl,?_⟩;intro w hSw;(try dsimp only at hSw);go_simp;try with_reducible rfl);rotate_right;(· exact fun _ _ _ h=>h);simp only [Act.put,List.setIfInBounds_toArray,List.set_cons_zero,List.set_cons_succ]
          refine wpAnyH_ready (rs:=[15]) (by kernel_rfl) (by simp) ?_;refine AllReadyH.cons (o:=?_) ?_ (fun K hK=>?_) AllReadyH.nil;rotate_left;(· simp only [List.getElem?_toArray,List.getElem?_cons_zero,List.getElem?_cons_succ];rfl);go_simp;go_at_call 14;refine (Held.call HS (by first | assumption | exact Below.drew (by assumption)) (C15.out _ (by first | assumption | exact Below.drew (by assumption)))).mono ?_;rintro e u15 ⟨rfl,hbu15,hSu15⟩;refine hK.out _ _ (by first | assumption | trivial) (fun hHeld=>?_);clear hK K
          refine wpAnyH_ready (rs:=[17]) (by kernel_rfl) (by simp) ?_;refine AllReadyH.cons (o:=?_) ?_ (fun K hK=>?_) AllReadyH.nil;rotate_left;(· simp only [List.getElem?_toArray,List.getElem?_cons_zero,List.getElem?_cons_succ];rfl);go_simp;go_at_call 15;refine (Held.call HS (by first | assumption | exact Below.drew (by assumption)) (C17.out _ (by first | assumption | exact Below.drew (by assumption)))).mono ?_;rintro e u17 ⟨rfl,hbu17,hSu17⟩;refine hK.out _ _ (by first | assumption | trivial) (fun hHeld=>?_);clear hK K
          refine wpAnyH_take (i:=18) (oi:=?_) (v:=?_) ?_ (by kernel_rfl) (by kernel_rfl) (by kernel_rfl) ?_ ?_ (by assumption) ?_;rotate_left 2;(· simp only [List.getElem?_toArray,List.getElem?_cons_zero,List.getElem?_cons_succ];rfl);rotate_left;(· refine Or.inl ⟨by rfl,?_⟩;intro w hSw;(try dsimp only at hSw);go_simp;try with_reducible rfl);rotate_right;(· exact fun _ _ _ h=>h);simp only [Act.put,List.setIfInBounds_toArray,List.set_cons_zero,List.set_cons_succ]
          refine wpAnyH_take (i:=19) (oi:=?_) (v:=?_) ?_ (by kernel_rfl) (by kernel_rfl) (by kernel_rfl) ?_ ?_ (by assumption) ?_;rotate_left 2;(· simp only [List.getElem?_toArray,List.getElem?_cons_zero,List.getElem?_cons_succ];rfl);rotate_left;(· refine Or.inl ⟨by rfl,?_⟩;intro w hSw;(try dsimp only at hSw);go_simp;try with_reducible rfl);rotate_right;(· exact fun _ _ _ h=>h);simp only [Act.put,List.setIfInBounds_toArray,List.set_cons_zero,List.set_cons_succ]
          refine wpAnyH_take (i:=20) (oi:=?_) (v:=?_) ?_ (by kernel_rfl) (by kernel_rfl) (by kernel_rfl) ?_ ?_ (by assumption) ?_;rotate_left 2;(· simp only [List.getElem?_toArray,List.getElem?_cons_zero,List.getElem?_cons_succ];rfl);rotate_left;(· refine Or.inl ⟨by rfl,?_⟩;intro w hSw;(try dsimp only at hSw);go_simp;try with_reducible rfl);rotate_right;(· exact fun _ _ _ h=>h);simp only [Act.put,List.setIfInBounds_toArray,List.set_cons_zero,List.set_cons_succ]
          refine wpAnyH_take (i:=22) (oi:=?_) (v:=?_) ?_ (by kernel_rfl) (by kernel_rfl) (by kernel_rfl) ?_ ?_ (by assumption) ?_;rotate_left 2;(· simp only [List.getElem?_toArray,List.getElem?_cons_zero,List.getElem?_cons_succ];rfl);rotate_left;(· refine Or.inl ⟨by rfl,?_⟩;intro w hSw;(try dsimp only at hSw);go_simp;try with_reducible rfl);rotate_right;(· exact fun _ _ _ h=>h);simp only [Act.put,List.setIfInBounds_toArray,List.set_cons_zero,List.set_cons_succ]
          refine wpAnyH_take (i:=23) (oi:=?_) (v:=?_) ?_ (by kernel_rfl) (by kernel_rfl) (by kernel_rfl) ?_ ?_ (by assumption) ?_;rotate_left 2;(· simp only [List.getElem?_toArray,List.getElem?_cons_zero,List.getElem?_cons_succ];rfl);rotate_left;(· refine Or.inl ⟨by rfl,?_⟩;intro w hSw;(try dsimp only at hSw);go_simp;try with_reducible rfl);rotate_right;(· exact fun _ _ _ h=>h);simp only [Act.put,List.setIfInBounds_toArray,List.set_cons_zero,List.set_cons_succ]
          refine wpAnyH_take (i:=24) (oi:=?_) (v:=?_) ?_ (by kernel_rfl) (by kernel_rfl) (by kernel_rfl) ?_ ?_ (by assumption) ?_;rotate_left 2;(· simp only [List.getElem?_toArray,List.getElem?_cons_zero,List.getElem?_cons_succ];rfl);rotate_left;(· refine Or.inl ⟨by rfl,?_⟩;intro w hSw;(try dsimp only at hSw);go_simp;try with_reducible rfl);rotate_right;(· exact fun _ _ _ h=>h);simp only [Act.put,List.setIfInBounds_toArray,List.set_cons_zero,List.set_cons_succ]
          refine wpAnyH_take (i:=25) (oi:=?_) (v:=?_) ?_ (by kernel_rfl) (by kernel_rfl) (by kernel_rfl) ?_ ?_ (by assumption) ?_;rotate_left 2;(· simp only [List.getElem?_toArray,List.getElem?_cons_zero,List.getElem?_cons_succ];rfl);rotate_left;(· refine Or.inl ⟨by rfl,?_⟩;intro w hSw;(try dsimp only at hSw);go_simp;try with_reducible rfl);rotate_right;(· exact fun _ _ _ h=>h);simp only [Act.put,List.setIfInBounds_toArray,List.set_cons_zero,List.set_cons_succ]
          refine wpAnyH_take (i:=26) (oi:=?_) (v:=?_) ?_ (by kernel_rfl) (by kernel_rfl) (by kernel_rfl) ?_ ?_ (by assumption) ?_;rotate_left 2;(· simp only [List.getElem?_toArray,List.getElem?_cons_zero,List.getElem?_cons_succ];rfl);rotate_left;(· refine Or.inl ⟨by rfl,?_⟩;intro w hSw;(try dsimp only at hSw);go_simp;try with_reducible rfl);rotate_right;(· exact fun _ _ _ h=>h);simp only [Act.put,List.setIfInBounds_toArray,List.set_cons_zero,List.set_cons_succ]
          refine wpAnyH_ready (rs:=[21]) (by kernel_rfl) (by simp) ?_;refine AllReadyH.cons (o:=?_) ?_ (fun K hK=>?_) AllReadyH.nil;rotate_left;(· simp only [List.getElem?_toArray,List.getElem?_cons_zero,List.getElem?_cons_succ];rfl);go_simp;go_at_call 16;refine (Held.call HS (by first | assumption | exact Below.drew (by assumption)) (C21.out _ (by first | assumption | exact Below.drew (by assumption)))).mono ?_;rintro e u21 ⟨rfl,hbu21,hSu21⟩;refine hK.out _ _ (by first | assumption | trivial) (fun hHeld=>?_);clear hK K
          refine wpAnyH_take (i:=27) (oi:=?_) (v:=?_) ?_ (by kernel_rfl) (by kernel_rfl) (by kernel_rfl) ?_ ?_ (by assumption) ?_;rotate_left 2;(· simp only [List.getElem?_toArray,List.getElem?_cons_zero,List.getElem?_cons_succ];rfl);rotate_left;(· refine Or.inl ⟨by rfl,?_⟩;intro w hSw;(try dsimp only at hSw);go_simp;try with_reducible rfl);rotate_right;(· exact fun _ _ _ h=>h);simp only [Act.put,List.setIfInBounds_toArray,List.set_cons_zero,List.set_cons_succ]
          refine wpAnyH_take (i:=28) (oi:=?_) (v:=?_) ?_ (by kernel_rfl) (by kernel_rfl) (by kernel_rfl) ?_ ?_ (by assumption) ?_;rotate_left 2;(· simp only [List.getElem?_toArray,List.getElem?_cons_zero,List.getElem?_cons_succ];rfl);rotate_left;(· refine Or.inl ⟨by rfl,?_⟩;intro w hSw;(try dsimp only at hSw);go_simp;try with_reducible rfl);rotate_right;(· exact fun _ _ _ h=>h);simp only [Act.put,List.setIfInBounds_toArray,List.set_cons_zero,List.set_cons_succ]
          refine wpAnyH_take (i:=29) (oi:=?_) (v:=?_) ?_ (by kernel_rfl) (by kernel_rfl) (by kernel_rfl) ?_ ?_ (by assumption) ?_;rotate_left 2;(· simp only [List.getElem?_toArray,List.getElem?_cons_zero,List.getElem?_cons_succ];rfl);rotate_left;(· refine Or.inl ⟨by rfl,?_⟩;intro w hSw;(try dsimp only at hSw);go_simp;try with_reducible rfl);rotate_right;(· exact fun _ _ _ h=>h);simp only [Act.put,List.setIfInBounds_toArray,List.set_cons_zero,List.set_cons_succ]
          refine wpAnyH_take (i:=30) (oi:=?_) (v:=?_) ?_ (by kernel_rfl) (by kernel_rfl) (by kernel_rfl) ?_ ?_ (by assumption) ?_;rotate_left 2;(· simp only [List.getElem?_toArray,List.getElem?_cons_zero,List.getElem?_cons_succ];rfl);rotate_left;(· refine Or.inl ⟨by rfl,?_⟩;intro w hSw;(try dsimp only at hSw);go_simp;try with_reducible rfl);rotate_right;(· exact fun _ _ _ h=>h);simp only [Act.put,List.setIfInBounds_toArray,List.set_cons_zero,List.set_cons_succ]
          refine wpAnyH_take (i:=31) (oi:=?_) (v:=?_) ?_ (by kernel_rfl) (by kernel_rfl) (by kernel_rfl) ?_ ?_ (by assumption) ?_;rotate_left 2;(· simp only [List.getElem?_toArray,List.getElem?_cons_zero,List.getElem?_cons_succ];rfl);rotate_left;(· refine Or.inl ⟨by rfl,?_⟩;intro w hSw;(try dsimp only at hSw);go_simp;try with_reducible rfl);rotate_right;(· exact fun _ _ _ h=>h);simp only [Act.put,List.setIfInBounds_toArray,List.set_cons_zero,List.set_cons_succ]
          refine wpAnyH_take (i:=32) (oi:=?_) (v:=?_) ?_ (by kernel_rfl) (by kernel_rfl) (by kernel_rfl) ?_ ?_ (by assumption) ?_;rotate_left 2;(· simp only [List.getElem?_toArray,List.getElem?_cons_zero,List.getElem?_cons_succ];rfl);rotate_left;(· refine Or.inl ⟨by rfl,?_⟩;intro w hSw;(try dsimp only at hSw);go_simp;try with_reducible rfl);rotate_right;(· exact fun _ _ _ h=>h);simp only [Act.put,List.setIfInBounds_toArray,List.set_cons_zero,List.set_cons_succ]
          refine wpAnyH_take (i:=33) (oi:=?_) (v:=?_) ?_ (by kernel_rfl) (by kernel_rfl) (by kernel_rfl) ?_ ?_ (by assumption) ?_;rotate_left 2;(· simp only [List.getElem?_toArray,List.getElem?_cons_zero,List.getElem?_cons_succ];rfl);rotate_left;(· refine Or.inl ⟨by rfl,?_⟩;intro w hSw;(try dsimp only at hSw);go_simp;try with_reducible rfl);rotate_right;(· exact fun _ _ _ h=>h);simp only [Act.put,List.setIfInBounds_toArray,List.set_cons_zero,List.set_cons_succ]
          refine wpAnyH_take (i:=34) (oi:=?_) (v:=?_) ?_ (by kernel_rfl) (by kernel_rfl) (by kernel_rfl) ?_ ?_ (by assumption) ?_;rotate_left 2;(· simp only [List.getElem?_toArray,List.getElem?_cons_zero,List.getElem?_cons_succ];rfl);rotate_left;(· refine Or.inl ⟨by rfl,?_⟩;intro w hSw;(try dsimp only at hSw);go_simp;try with_reducible rfl);rotate_right;(· exact fun _ _ _ h=>h);simp only [Act.put,List.setIfInBounds_toArray,List.set_cons_zero,List.set_cons_succ]
          refine wpAnyH_take (i:=35) (oi:=?_) (v:=undef) ?_ (by kernel_rfl) (by kernel_rfl) (by kernel_rfl) ?_ (Or.inr ⟨?_,rfl⟩) (by assumption) ?_;rotate_left;(· simp only [List.getElem?_toArray,List.getElem?_cons_zero,List.getElem?_cons_succ];rfl);(· exact fun _ _ _ h=>h);(· rfl);simp only [Act.put,List.setIfInBounds_toArray,List.set_cons_zero,List.set_cons_succ]
          refine wpAnyH_take (i:=36) (oi:=?_) (v:=undef) ?_ (by kernel_rfl) (by kernel_rfl) (by kernel_rfl) ?_ (Or.inr ⟨?_,rfl⟩) (by assumption) ?_;rotate_left;(· simp only [List.getElem?_toArray,List.getElem?_cons_zero,List.getElem?_cons_succ];rfl);(· exact fun _ _ _ h=>h);(· rfl);simp only [Act.put,List.setIfInBounds_toArray,List.set_cons_zero,List.set_cons_succ]
          refine wpAnyH_take (i:=37) (oi:=?_) (v:=undef) ?_ (by kernel_rfl) (by kernel_rfl) (by kernel_rfl) ?_ (Or.inr ⟨?_,rfl⟩) (by assumption) ?_;rotate_left;(· simp only [List.getElem?_toArray,List.getElem?_cons_zero,List.getElem?_cons_succ];rfl);(· exact fun _ _ _ h=>h);(· rfl);simp only [Act.put,List.setIfInBounds_toArray,List.set_cons_zero,List.set_cons_succ]
          refine wpAnyH_take (i:=38) (oi:=?_) (v:=undef) ?_ (by kernel_rfl) (by kernel_rfl) (by kernel_rfl) ?_ (Or.inr ⟨?_,rfl⟩) (by assumption) ?_;rotate_left;(· simp only [List.getElem?_toArray,List.getElem?_cons_zero,List.getElem?_cons_succ];rfl);(· exact fun _ _ _ h=>h);(· rfl);simp only [Act.put,List.setIfInBounds_toArray,List.set_cons_zero,List.set_cons_succ]
          refine wpAnyH_take (i:=39) (oi:=?_) (v:=undef) ?_ (by kernel_rfl) (by kernel_rfl) (by kernel_rfl) ?_ (Or.inr ⟨?_,rfl⟩) (by assumption) ?_;rotate_left;(· simp only [List.getElem?_toArray,List.getElem?_cons_zero,List.getElem?_cons_succ];rfl);(· exact fun _ _ _ h=>h);(· rfl);simp only [Act.put,List.setIfInBounds_toArray,List.set_cons_zero,List.set_cons_succ]
          refine wpAnyH_take (i:=40) (oi:=?_) (v:=undef) ?_ (by kernel_rfl) (by kernel_rfl) (by kernel_rfl) ?_ (Or.inr ⟨?_,rfl⟩) (by assumption) ?_;rotate_left;(· simp only [List.getElem?_toArray,List.getElem?_cons_zero,List.getElem?_cons_succ];rfl);(· exact fun _ _ _ h=>h);(· rfl);simp only [Act.put,List.setIfInBounds_toArray,List.set_cons_zero,List.set_cons_succ]
          refine wpAnyH_take (i:=41) (oi:=?_) (v:=undef) ?_ (by kernel_rfl) (by kernel_rfl) (by kernel_rfl) ?_ (Or.inr ⟨?_,rfl⟩) (by assumption) ?_;rotate_left;(· simp only [List.getElem?_toArray,List.getElem?_cons_zero,List.getElem?_cons_succ];rfl);(· exact fun _ _ _ h=>h);(· rfl);simp only [Act.put,List.setIfInBounds_toArray,List.set_cons_zero,List.set_cons_succ]
          refine wpAnyH_take (i:=42) (oi:=?_) (v:=undef) ?_ (by kernel_rfl) (by kernel_rfl) (by kernel_rfl) ?_ (Or.inr ⟨?_,rfl⟩) (by assumption) ?_;rotate_left;(· simp only [List.getElem?_toArray,List.getElem?_cons_zero,List.getElem?_cons_succ];rfl);(· exact fun _ _ _ h=>h);(· rfl);simp only [Act.put,List.setIfInBounds_toArray,List.set_cons_zero,List.set_cons_succ]
          refine wpAnyH_take (i:=43) (oi:=?_) (v:=undef) ?_ (by kernel_rfl) (by kernel_rfl) (by kernel_rfl) ?_ (Or.inr ⟨?_,rfl⟩) (by assumption) ?_;rotate_left;(· simp only [List.getElem?_toArray,List.getElem?_cons_zero,List.getElem?_cons_succ];rfl);(· exact fun _ _ _ h=>h);(· rfl);simp only [Act.put,List.setIfInBounds_toArray,List.set_cons_zero,List.set_cons_succ]
          refine wpAnyH_take (i:=44) (oi:=?_) (v:=?_) ?_ (by kernel_rfl) (by kernel_rfl) (by kernel_rfl) ?_ ?_ (by assumption) ?_;rotate_left 2;(· simp only [List.getElem?_toArray,List.getElem?_cons_zero,List.getElem?_cons_succ];rfl);rotate_left;(· refine Or.inl ⟨by rfl,?_⟩;intro w hSw;(try dsimp only at hSw);go_simp;try with_reducible rfl);rotate_right;(· exact fun _ _ _ h=>h);simp only [Act.put,List.setIfInBounds_toArray,List.set_cons_zero,List.set_cons_succ]
          refine wpAnyH_take (i:=45) (oi:=?_) (v:=?_) ?_ (by kernel_rfl) (by kernel_rfl) (by kernel_rfl) ?_ ?_ (by assumption) ?_;rotate_left 2;(· simp only [List.getElem?_toArray,List.getElem?_cons_zero,List.getElem?_cons_succ];rfl);rotate_left;(· refine Or.inl ⟨by rfl,?_⟩;intro w hSw;(try dsimp only at hSw);go_simp;try with_reducible rfl);rotate_right;(· exact fun _ _ _ h=>h);simp only [Act.put,List.setIfInBounds_toArray,List.set_cons_zero,List.set_cons_succ]
          refine wpAnyH_take (i:=46) (oi:=?_) (v:=?_) ?_ (by kernel_rfl) (by kernel_rfl) (by kernel_rfl) ?_ ?_ (by assumption) ?_;rotate_left 2;(· simp only [List.getElem?_toArray,List.getElem?_cons_zero,List.getElem?_cons_succ];rfl);rotate_left;(· refine Or.inl ⟨by rfl,?_⟩;intro w hSw;(try dsimp only at hSw);go_simp;try with_reducible rfl);rotate_right;(· exact fun _ _ _ h=>h);simp only [Act.put,List.setIfInBounds_toArray,List.set_cons_zero,List.set_cons_succ]
          refine wpAnyH_done (by kernel_rfl) ?_ _
          have HEND:=Lib.hid (HZ.out _ (by first | exact hbu21 | exact hbu21.drew))
          go_wp2_with fail
          go_ret
          exact ⟨rfl,by first | exact HEND.out | exact HEND.out.drew⟩
        · have GX':Hid (∀ x,Calls Tryz.prog 12 #[.int .i64 many,.string s] x fun e y=>e=.returned (.tuple #[.pointer none,.int .i64 E1])∧Below x.heap.size x y):=fun x=>by
            refine (GX.out x).mono ?_
            rintro e y ⟨p,q1,q2,q3,q4⟩
            rw [←HE1.out,q2 (by rw [←HE1.out];exact hy)] at q1
            exact ⟨q1,q4⟩
          have GY':Hid (∀ x,Calls Tryz.prog 13 #[.int .i64 many,.string s] x fun e y=>e=.returned (.tuple #[.pointer none,.int .i64 E1])∧Below x.heap.size x y):=fun x=>by
            refine (GY.out x).mono ?_
            rintro e y ⟨p,q1,q2,q3,q4⟩
            rw [←HE1.out,q2 (by rw [←HE1.out];exact hy)] at q1
            exact ⟨q1,q4⟩
          clear GX GY HE1 HFF G1 hy
          go_wp2_with fail
          refine (D1.out _ J0.out).mono ?_
          rintro e w4 ⟨rfl,hb⟩
          have J1:=Lib.hid (J0.out.below hb)
          clear hb J0 D1
          go_wp2_with fail
          refine (D2.out _ J1.out).mono ?_
          rintro e w5 ⟨rfl,hb⟩
          have J2:=Lib.hid (J1.out.below hb)
          clear hb J1 D2
          go_wp2_with fail
          refine (P2.out _).mono ?_
          rintro e w6 ⟨rfl,hb⟩
          have J3:=Lib.hid (J2.out.below hb)
          clear hb J2 P2
          go_wp2_with fail
          refine (GX'.out _).mono ?_
          rintro e w7 ⟨rfl,hb⟩
          have J4:=Lib.hid (J3.out.below hb)
          clear hb J3 GX'
          go_wp2_with fail
          refine (GY'.out _).mono ?_
          rintro e w8 ⟨rfl,hb⟩
          have J5:=Lib.hid (J4.out.below hb)
          clear hb J4 GY'
          have k0:=J5.out.sb.c0
          go_wp2_with fail
          refine (D3.out _).mono ?_
          rintro e u ⟨rfl,hb⟩
          have J6:=Lib.hid (J5.out.below hb)
          clear hb J5 k0 D3
          have HS:Hid (∀ y,Below u.heap.size u y→True):=fun _ _=>trivial
          have ze:(E1==E1)=true:=by simp
          have HZ:Hid (∀ y,Below u.heap.size u y→Below w.heap.size w y):=fun y hb=>J6.out.low.trans (hb.mono J6.out.low.size)
          have hb0:Below u.heap.size u u:=Below.refl _ _
          have hS0:=HS.out u hb0
          go_wp2_with fail
          refine wp_region_held_drew (S:=(fun _=>True)) (by kernel_rfl) (by first | assumption | trivial) (fun hHeld=>?_)
          refine wpAnyH_take (i:=0) (oi:=?_) (v:=?_) ?_ (by kernel_rfl) (by kernel_rfl) (by kernel_rfl) ?_ ?_ (by assumption) ?_;rotate_left 2;(· simp only [List.getElem?_toArray,List.getElem?_cons_zero];rfl);rotate_left;(· refine Or.inl ⟨by rfl,?_⟩;intro w hSw;(try dsimp only at hSw);go_simp;try with_reducible rfl);rotate_right;(· exact fun _ _ _ h=>h);simp only [Act.put,List.setIfInBounds_toArray,List.set_cons_zero,List.set_cons_succ]
          refine wpAnyH_take (i:=1) (oi:=?_) (v:=?_) ?_ (by kernel_rfl) (by kernel_rfl) (by kernel_rfl) ?_ ?_ (by assumption) ?_;rotate_left 2;(· simp only [List.getElem?_toArray,List.getElem?_cons_zero,List.getElem?_cons_succ];rfl);rotate_left;(· refine Or.inl ⟨by rfl,?_⟩;intro w hSw;(try dsimp only at hSw);go_simp;try with_reducible rfl);rotate_right;(· exact fun _ _ _ h=>h);simp only [Act.put,List.setIfInBounds_toArray,List.set_cons_zero,List.set_cons_succ]
          refine wpAnyH_take (i:=2) (oi:=?_) (v:=?_) ?_ (by kernel_rfl) (by kernel_rfl) (by kernel_rfl) ?_ ?_ (by assumption) ?_;rotate_left 2;(· simp only [List.getElem?_toArray,List.getElem?_cons_zero,List.getElem?_cons_succ];rfl);rotate_left;(· refine Or.inl ⟨by rfl,?_⟩;intro w hSw;(try dsimp only at hSw);go_simp;try with_reducible rfl);rotate_right;(· exact fun _ _ _ h=>h);simp only [Act.put,List.setIfInBounds_toArray,List.set_cons_zero,List.set_cons_succ]
          refine wpAnyH_take (i:=3) (oi:=?_) (v:=?_) ?_ (by kernel_rfl) (by kernel_rfl) (by kernel_rfl) ?_ ?_ (by assumption) ?_;rotate_left 2;(· simp only [List.getElem?_toArray,List.getElem?_cons_zero,List.getElem?_cons_succ];rfl);rotate_left;(· refine Or.inl ⟨by rfl,?_⟩;intro w hSw;(try dsimp only at hSw);go_simp;try with_reducible rfl);rotate_right;(· exact fun _ _ _ h=>h);simp only [Act.put,List.setIfInBounds_toArray,List.set_cons_zero,List.set_cons_succ]
          refine wpAnyH_take (i:=4) (oi:=?_) (v:=?_) ?_ (by kernel_rfl) (by kernel_rfl) (by kernel_rfl) ?_ ?_ (by assumption) ?_;rotate_left 2;(· simp only [List.getElem?_toArray,List.getElem?_cons_zero,List.getElem?_cons_succ];rfl);rotate_left;(· refine Or.inl ⟨by rfl,?_⟩;intro w hSw;(try dsimp only at hSw);go_simp;try with_reducible rfl);rotate_right;(· exact fun _ _ _ h=>h);simp only [Act.put,List.setIfInBounds_toArray,List.set_cons_zero,List.set_cons_succ]
          refine wpAnyH_take (i:=5) (oi:=?_) (v:=?_) ?_ (by kernel_rfl) (by kernel_rfl) (by kernel_rfl) ?_ ?_ (by assumption) ?_;rotate_left 2;(· simp only [List.getElem?_toArray,List.getElem?_cons_zero,List.getElem?_cons_succ];rfl);rotate_left;(· refine Or.inl ⟨by rfl,?_⟩;intro w hSw;(try dsimp only at hSw);go_simp;try with_reducible rfl);rotate_right;(· exact fun _ _ _ h=>h);simp only [Act.put,List.setIfInBounds_toArray,List.set_cons_zero,List.set_cons_succ]
          refine wpAnyH_take (i:=6) (oi:=?_) (v:=?_) ?_ (by kernel_rfl) (by kernel_rfl) (by kernel_rfl) ?_ ?_ (by assumption) ?_;rotate_left 2;(· simp only [List.getElem?_toArray,List.getElem?_cons_zero,List.getElem?_cons_succ];rfl);rotate_left;(· refine Or.inl ⟨by rfl,?_⟩;intro w hSw;(try dsimp only at hSw);go_simp;try with_reducible rfl);rotate_right;(· exact fun _ _ _ h=>h);simp only [Act.put,List.setIfInBounds_toArray,List.set_cons_zero,List.set_cons_succ]
          refine wpAnyH_take (i:=7) (oi:=?_) (v:=?_) ?_ (by kernel_rfl) (by kernel_rfl) (by kernel_rfl) ?_ ?_ (by assumption) ?_;rotate_left 2;(· simp only [List.getElem?_toArray,List.getElem?_cons_zero,List.getElem?_cons_succ];rfl);rotate_left;(· refine Or.inl ⟨by rfl,?_⟩;intro w hSw;(try dsimp only at hSw);go_simp;try with_reducible rfl);rotate_right;(· exact fun _ _ _ h=>h);simp only [Act.put,List.setIfInBounds_toArray,List.set_cons_zero,List.set_cons_succ]
          refine wpAnyH_take (i:=8) (oi:=?_) (v:=?_) ?_ (by kernel_rfl) (by kernel_rfl) (by kernel_rfl) ?_ ?_ (by assumption) ?_;rotate_left 2;(· simp only [List.getElem?_toArray,List.getElem?_cons_zero,List.getElem?_cons_succ];rfl);rotate_left;(· refine Or.inl ⟨by rfl,?_⟩;intro w hSw;(try dsimp only at hSw);go_simp;try with_reducible rfl);rotate_right;(· exact fun _ _ _ h=>h);simp only [Act.put,List.setIfInBounds_toArray,List.set_cons_zero,List.set_cons_succ]
          refine wpAnyH_take (i:=9) (oi:=?_) (v:=?_) ?_ (by kernel_rfl) (by kernel_rfl) (by kernel_rfl) ?_ ?_ (by assumption) ?_;rotate_left 2;(· simp only [List.getElem?_toArray,List.getElem?_cons_zero,List.getElem?_cons_succ];rfl);rotate_left;(· refine Or.inl ⟨by rfl,?_⟩;intro w hSw;(try dsimp only at hSw);go_simp;try with_reducible rfl);rotate_right;(· exact fun _ _ _ h=>h);simp only [Act.put,List.setIfInBounds_toArray,List.set_cons_zero,List.set_cons_succ]
          refine wpAnyH_take (i:=10) (oi:=?_) (v:=?_) ?_ (by kernel_rfl) (by kernel_rfl) (by kernel_rfl) ?_ ?_ (by assumption) ?_;rotate_left 2;(· simp only [List.getElem?_toArray,List.getElem?_cons_zero,List.getElem?_cons_succ];rfl);rotate_left;(· refine Or.inl ⟨by rfl,?_⟩;intro w hSw;(try dsimp only at hSw);go_simp;try with_reducible rfl);rotate_right;(· exact fun _ _ _ h=>h);simp only [Act.put,List.setIfInBounds_toArray,List.set_cons_zero,List.set_cons_succ]
          refine wpAnyH_take (i:=11) (oi:=?_) (v:=?_) ?_ (by kernel_rfl) (by kernel_rfl) (by kernel_rfl) ?_ ?_ (by assumption) ?_;rotate_left 2;(· simp only [List.getElem?_toArray,List.getElem?_cons_zero,List.getElem?_cons_succ];rfl);rotate_left;(· refine Or.inl ⟨by rfl,?_⟩;intro w hSw;(try dsimp only at hSw);go_simp;try with_reducible rfl);rotate_right;(· exact fun _ _ _ h=>h);simp only [Act.put,List.setIfInBounds_toArray,List.set_cons_zero,List.set_cons_succ]
          refine wpAnyH_take (i:=12) (oi:=?_) (v:=?_) ?_ (by kernel_rfl) (by kernel_rfl) (by kernel_rfl) ?_ ?_ (by assumption) ?_;rotate_left 2;(· simp only [List.getElem?_toArray,List.getElem?_cons_zero,List.getElem?_cons_succ];rfl);rotate_left;(· refine Or.inl ⟨by rfl,?_⟩;intro w hSw;(try dsimp only at hSw);go_simp;try with_reducible rfl);rotate_right;(· exact fun _ _ _ h=>h);simp only [Act.put,List.setIfInBounds_toArray,List.set_cons_zero,List.set_cons_succ]
          refine wpAnyH_take (i:=13) (oi:=?_) (v:=?_) ?_ (by kernel_rfl) (by kernel_rfl) (by kernel_rfl) ?_ ?_ (by assumption) ?_;rotate_left 2;(· simp only [List.getElem?_toArray,List.getElem?_cons_zero,List.getElem?_cons_succ];rfl);rotate_left;(· refine Or.inl ⟨by rfl,?_⟩;intro w hSw;(try dsimp only at hSw);go_simp;try with_reducible rfl);rotate_right;(· exact fun _ _ _ h=>h);simp only [Act.put,List.setIfInBounds_toArray,List.set_cons_zero,List.set_cons_succ]
          refine wpAnyH_take (i:=14) (oi:=?_) (v:=undef) ?_ (by kernel_rfl) (by kernel_rfl) (by kernel_rfl) ?_ (Or.inr ⟨?_,rfl⟩) (by assumption) ?_;rotate_left;(· simp only [List.getElem?_toArray,List.getElem?_cons_zero,List.getElem?_cons_succ];rfl);(· exact fun _ _ _ h=>h);(· rfl);simp only [Act.put,List.setIfInBounds_toArray,List.set_cons_zero,List.set_cons_succ]
          refine wpAnyH_take (i:=15) (oi:=?_) (v:=undef) ?_ (by kernel_rfl) (by kernel_rfl) (by kernel_rfl) ?_ (Or.inr ⟨?_,rfl⟩) (by assumption) ?_;rotate_left;(· simp only [List.getElem?_toArray,List.getElem?_cons_zero,List.getElem?_cons_succ];rfl);(· exact fun _ _ _ h=>h);(· rfl);simp only [Act.put,List.setIfInBounds_toArray,List.set_cons_zero,List.set_cons_succ]
          refine wpAnyH_take (i:=16) (oi:=?_) (v:=undef) ?_ (by kernel_rfl) (by kernel_rfl) (by kernel_rfl) ?_ (Or.inr ⟨?_,rfl⟩) (by assumption) ?_;rotate_left;(· simp only [List.getElem?_toArray,List.getElem?_cons_zero,List.getElem?_cons_succ];rfl);(· exact fun _ _ _ h=>h);(· rfl);simp only [Act.put,List.setIfInBounds_toArray,List.set_cons_zero,List.set_cons_succ]
          refine wpAnyH_take (i:=17) (oi:=?_) (v:=undef) ?_ (by kernel_rfl) (by kernel_rfl) (by kernel_rfl) ?_ (Or.inr ⟨?_,rfl⟩) (by assumption) ?_;rotate_left;(· simp only [List.getElem?_toArray,List.getElem?_cons_zero,List.getElem?_cons_succ];rfl);(· exact fun _ _ _ h=>h);(· rfl);simp only [Act.put,List.setIfInBounds_toArray,List.set_cons_zero,List.set_cons_succ]
          refine wpAnyH_take (i:=18) (oi:=?_) (v:=undef) ?_ (by kernel_rfl) (by kernel_rfl) (by kernel_rfl) ?_ (Or.inr ⟨?_,rfl⟩) (by assumption) ?_;rotate_left;(· simp only [List.getElem?_toArray,List.getElem?_cons_zero,List.getElem?_cons_succ];rfl);(· exact fun _ _ _ h=>h);(· rfl);simp only [Act.put,List.setIfInBounds_toArray,List.set_cons_zero,List.set_cons_succ]
          refine wpAnyH_take (i:=19) (oi:=?_) (v:=undef) ?_ (by kernel_rfl) (by kernel_rfl) (by kernel_rfl) ?_ (Or.inr ⟨?_,rfl⟩) (by assumption) ?_;rotate_left;(· simp only [List.getElem?_toArray,List.getElem?_cons_zero,List.getElem?_cons_succ];rfl);(· exact fun _ _ _ h=>h);(· rfl);simp only [Act.put,List.setIfInBounds_toArray,List.set_cons_zero,List.set_cons_succ]
          refine wpAnyH_take (i:=20) (oi:=?_) (v:=undef) ?_ (by kernel_rfl) (by kernel_rfl) (by kernel_rfl) ?_ (Or.inr ⟨?_,rfl⟩) (by assumption) ?_;rotate_left;(· simp only [List.getElem?_toArray,List.getElem?_cons_zero,List.getElem?_cons_succ];rfl);(· exact fun _ _ _ h=>h);(· rfl);simp only [Act.put,List.setIfInBounds_toArray,List.set_cons_zero,List.set_cons_succ]
          refine wpAnyH_take (i:=21) (oi:=?_) (v:=undef) ?_ (by kernel_rfl) (by kernel_rfl) (by kernel_rfl) ?_ (Or.inr ⟨?_,rfl⟩) (by assumption) ?_;rotate_left;(· simp only [List.getElem?_toArray,List.getElem?_cons_zero,List.getElem?_cons_succ];rfl);(· exact fun _ _ _ h=>h);(· rfl);simp only [Act.put,List.setIfInBounds_toArray,List.set_cons_zero,List.set_cons_succ]
          refine wpAnyH_take (i:=22) (oi:=?_) (v:=undef) ?_ (by kernel_rfl) (by kernel_rfl) (by kernel_rfl) ?_ (Or.inr ⟨?_,rfl⟩) (by assumption) ?_;rotate_left;(· simp only [List.getElem?_toArray,List.getElem?_cons_zero,List.getElem?_cons_succ];rfl);(· exact fun _ _ _ h=>h);(· rfl);simp only [Act.put,List.setIfInBounds_toArray,List.set_cons_zero,List.set_cons_succ]
          refine wpAnyH_take (i:=23) (oi:=?_) (v:=undef) ?_ (by kernel_rfl) (by kernel_rfl) (by kernel_rfl) ?_ (Or.inr ⟨?_,rfl⟩) (by assumption) ?_;rotate_left;(· simp only [List.getElem?_toArray,List.getElem?_cons_zero,List.getElem?_cons_succ];rfl);(· exact fun _ _ _ h=>h);(· rfl);simp only [Act.put,List.setIfInBounds_toArray,List.set_cons_zero,List.set_cons_succ]
          refine wpAnyH_take (i:=24) (oi:=?_) (v:=undef) ?_ (by kernel_rfl) (by kernel_rfl) (by kernel_rfl) ?_ (Or.inr ⟨?_,rfl⟩) (by assumption) ?_;rotate_left;(· simp only [List.getElem?_toArray,List.getElem?_cons_zero,List.getElem?_cons_succ];rfl);(· exact fun _ _ _ h=>h);(· rfl);simp only [Act.put,List.setIfInBounds_toArray,List.set_cons_zero,List.set_cons_succ]
          refine wpAnyH_take (i:=25) (oi:=?_) (v:=undef) ?_ (by kernel_rfl) (by kernel_rfl) (by kernel_rfl) ?_ (Or.inr ⟨?_,rfl⟩) (by assumption) ?_;rotate_left;(· simp only [List.getElem?_toArray,List.getElem?_cons_zero,List.getElem?_cons_succ];rfl);(· exact fun _ _ _ h=>h);(· rfl);simp only [Act.put,List.setIfInBounds_toArray,List.set_cons_zero,List.set_cons_succ]
          refine wpAnyH_take (i:=26) (oi:=?_) (v:=undef) ?_ (by kernel_rfl) (by kernel_rfl) (by kernel_rfl) ?_ (Or.inr ⟨?_,rfl⟩) (by assumption) ?_;rotate_left;(· simp only [List.getElem?_toArray,List.getElem?_cons_zero,List.getElem?_cons_succ];rfl);(· exact fun _ _ _ h=>h);(· rfl);simp only [Act.put,List.setIfInBounds_toArray,List.set_cons_zero,List.set_cons_succ]
          refine wpAnyH_take (i:=27) (oi:=?_) (v:=undef) ?_ (by kernel_rfl) (by kernel_rfl) (by kernel_rfl) ?_ (Or.inr ⟨?_,rfl⟩) (by assumption) ?_;rotate_left;(· simp only [List.getElem?_toArray,List.getElem?_cons_zero,List.getElem?_cons_succ];rfl);(· exact fun _ _ _ h=>h);(· rfl);simp only [Act.put,List.setIfInBounds_toArray,List.set_cons_zero,List.set_cons_succ]
          refine wpAnyH_take (i:=28) (oi:=?_) (v:=undef) ?_ (by kernel_rfl) (by kernel_rfl) (by kernel_rfl) ?_ (Or.inr ⟨?_,rfl⟩) (by assumption) ?_;rotate_left;(· simp only [List.getElem?_toArray,List.getElem?_cons_zero,List.getElem?_cons_succ];rfl);(· exact fun _ _ _ h=>h);(· rfl);simp only [Act.put,List.setIfInBounds_toArray,List.set_cons_zero,List.set_cons_succ]
          refine wpAnyH_take (i:=29) (oi:=?_) (v:=?_) ?_ (by kernel_rfl) (by kernel_rfl) (by kernel_rfl) ?_ ?_ (by assumption) ?_;rotate_left 2;(· simp only [List.getElem?_toArray,List.getElem?_cons_zero,List.getElem?_cons_succ];rfl);rotate_left;(· refine Or.inl ⟨by rfl,?_⟩;intro w hSw;(try dsimp only at hSw);go_simp;try with_reducible rfl);rotate_right;(· exact fun _ _ _ h=>h);simp only [Act.put,List.setIfInBounds_toArray,List.set_cons_zero,List.set_cons_succ]
          refine wpAnyH_take (i:=30) (oi:=?_) (v:=?_) ?_ (by kernel_rfl) (by kernel_rfl) (by kernel_rfl) ?_ ?_ (by assumption) ?_;rotate_left 2;(· simp only [List.getElem?_toArray,List.getElem?_cons_zero,List.getElem?_cons_succ];rfl);rotate_left;(· refine Or.inl ⟨by rfl,?_⟩;intro w hSw;(try dsimp only at hSw);go_simp;try with_reducible rfl);rotate_right;(· exact fun _ _ _ h=>h);simp only [Act.put,List.setIfInBounds_toArray,List.set_cons_zero,List.set_cons_succ]
          refine wpAnyH_take (i:=31) (oi:=?_) (v:=?_) ?_ (by kernel_rfl) (by kernel_rfl) (by kernel_rfl) ?_ ?_ (by assumption) ?_;rotate_left 2;(· simp only [List.getElem?_toArray,List.getElem?_cons_zero,List.getElem?_cons_succ];rfl);rotate_left;(· refine Or.inl ⟨by rfl,?_⟩;intro w hSw;(try dsimp only at hSw);go_simp;try with_reducible rfl);rotate_right;(· exact fun _ _ _ h=>h);simp only [Act.put,List.setIfInBounds_toArray,List.set_cons_zero,List.set_cons_succ]
          refine wpAnyH_take (i:=32) (oi:=?_) (v:=?_) ?_ (by kernel_rfl) (by kernel_rfl) (by kernel_rfl) ?_ ?_ (by assumption) ?_;rotate_left 2;(· simp only [List.getElem?_toArray,List.getElem?_cons_zero,List.getElem?_cons_succ];rfl);rotate_left;(· refine Or.inl ⟨by rfl,?_⟩;intro w hSw;(try dsimp only at hSw);go_simp;try with_reducible rfl);rotate_right;(· exact fun _ _ _ h=>h);simp only [Act.put,List.setIfInBounds_toArray,List.set_cons_zero,List.set_cons_succ]
          refine wpAnyH_take (i:=33) (oi:=?_) (v:=?_) ?_ (by kernel_rfl) (by kernel_rfl) (by kernel_rfl) ?_ ?_ (by assumption) ?_;rotate_left 2;(· simp only [List.getElem?_toArray,List.getElem?_cons_zero,List.getElem?_cons_succ];rfl);rotate_left;(· refine Or.inl ⟨by rfl,?_⟩;intro w hSw;(try dsimp only at hSw);go_simp;try with_reducible rfl);rotate_right;(· exact fun _ _ _ h=>h);simp only [Act.put,List.setIfInBounds_toArray,List.set_cons_zero,List.set_cons_succ]
          refine wpAnyH_take (i:=34) (oi:=?_) (v:=?_) ?_ (by kernel_rfl) (by kernel_rfl) (by kernel_rfl) ?_ ?_ (by assumption) ?_;rotate_left 2;(· simp only [List.getElem?_toArray,List.getElem?_cons_zero,List.getElem?_cons_succ];rfl);rotate_left;(· refine Or.inl ⟨by rfl,?_⟩;intro w hSw;(try dsimp only at hSw);go_simp;try with_reducible rfl);rotate_right;(· exact fun _ _ _ h=>h);simp only [Act.put,List.setIfInBounds_toArray,List.set_cons_zero,List.set_cons_succ]
          refine wpAnyH_take (i:=35) (oi:=?_) (v:=undef) ?_ (by kernel_rfl) (by kernel_rfl) (by kernel_rfl) ?_ (Or.inr ⟨?_,rfl⟩) (by assumption) ?_;rotate_left;(· simp only [List.getElem?_toArray,List.getElem?_cons_zero,List.getElem?_cons_succ];rfl);(· exact fun _ _ _ h=>h);(· rfl);simp only [Act.put,List.setIfInBounds_toArray,List.set_cons_zero,List.set_cons_succ]
          refine wpAnyH_take (i:=36) (oi:=?_) (v:=undef) ?_ (by kernel_rfl) (by kernel_rfl) (by kernel_rfl) ?_ (Or.inr ⟨?_,rfl⟩) (by assumption) ?_;rotate_left;(· simp only [List.getElem?_toArray,List.getElem?_cons_zero,List.getElem?_cons_succ];rfl);(· exact fun _ _ _ h=>h);(· rfl);simp only [Act.put,List.setIfInBounds_toArray,List.set_cons_zero,List.set_cons_succ]
          refine wpAnyH_take (i:=37) (oi:=?_) (v:=undef) ?_ (by kernel_rfl) (by kernel_rfl) (by kernel_rfl) ?_ (Or.inr ⟨?_,rfl⟩) (by assumption) ?_;rotate_left;(· simp only [List.getElem?_toArray,List.getElem?_cons_zero,List.getElem?_cons_succ];rfl);(· exact fun _ _ _ h=>h);(· rfl);simp only [Act.put,List.setIfInBounds_toArray,List.set_cons_zero,List.set_cons_succ]
          refine wpAnyH_take (i:=38) (oi:=?_) (v:=undef) ?_ (by kernel_rfl) (by kernel_rfl) (by kernel_rfl) ?_ (Or.inr ⟨?_,rfl⟩) (by assumption) ?_;rotate_left;(· simp only [List.getElem?_toArray,List.getElem?_cons_zero,List.getElem?_cons_succ];rfl);(· exact fun _ _ _ h=>h);(· rfl);simp only [Act.put,List.setIfInBounds_toArray,List.set_cons_zero,List.set_cons_succ]
          refine wpAnyH_take (i:=39) (oi:=?_) (v:=undef) ?_ (by kernel_rfl) (by kernel_rfl) (by kernel_rfl) ?_ (Or.inr ⟨?_,rfl⟩) (by assumption) ?_;rotate_left;(· simp only [List.getElem?_toArray,List.getElem?_cons_zero,List.getElem?_cons_succ];rfl);(· exact fun _ _ _ h=>h);(· rfl);simp only [Act.put,List.setIfInBounds_toArray,List.set_cons_zero,List.set_cons_succ]
          refine wpAnyH_take (i:=40) (oi:=?_) (v:=undef) ?_ (by kernel_rfl) (by kernel_rfl) (by kernel_rfl) ?_ (Or.inr ⟨?_,rfl⟩) (by assumption) ?_;rotate_left;(· simp only [List.getElem?_toArray,List.getElem?_cons_zero,List.getElem?_cons_succ];rfl);(· exact fun _ _ _ h=>h);(· rfl);simp only [Act.put,List.setIfInBounds_toArray,List.set_cons_zero,List.set_cons_succ]
          refine wpAnyH_take (i:=41) (oi:=?_) (v:=undef) ?_ (by kernel_rfl) (by kernel_rfl) (by kernel_rfl) ?_ (Or.inr ⟨?_,rfl⟩) (by assumption) ?_;rotate_left;(· simp only [List.getElem?_toArray,List.getElem?_cons_zero,List.getElem?_cons_succ];rfl);(· exact fun _ _ _ h=>h);(· rfl);simp only [Act.put,List.setIfInBounds_toArray,List.set_cons_zero,List.set_cons_succ]
          refine wpAnyH_take (i:=42) (oi:=?_) (v:=undef) ?_ (by kernel_rfl) (by kernel_rfl) (by kernel_rfl) ?_ (Or.inr ⟨?_,rfl⟩) (by assumption) ?_;rotate_left;(· simp only [List.getElem?_toArray,List.getElem?_cons_zero,List.getElem?_cons_succ];rfl);(· exact fun _ _ _ h=>h);(· rfl);simp only [Act.put,List.setIfInBounds_toArray,List.set_cons_zero,List.set_cons_succ]
          refine wpAnyH_take (i:=43) (oi:=?_) (v:=undef) ?_ (by kernel_rfl) (by kernel_rfl) (by kernel_rfl) ?_ (Or.inr ⟨?_,rfl⟩) (by assumption) ?_;rotate_left;(· simp only [List.getElem?_toArray,List.getElem?_cons_zero,List.getElem?_cons_succ];rfl);(· exact fun _ _ _ h=>h);(· rfl);simp only [Act.put,List.setIfInBounds_toArray,List.set_cons_zero,List.set_cons_succ]
          refine wpAnyH_take (i:=44) (oi:=?_) (v:=?_) ?_ (by kernel_rfl) (by kernel_rfl) (by kernel_rfl) ?_ ?_ (by assumption) ?_;rotate_left 2;(· simp only [List.getElem?_toArray,List.getElem?_cons_zero,List.getElem?_cons_succ];rfl);rotate_left;(· refine Or.inl ⟨by rfl,?_⟩;intro w hSw;(try dsimp only at hSw);go_simp;try with_reducible rfl);rotate_right;(· exact fun _ _ _ h=>h);simp only [Act.put,List.setIfInBounds_toArray,List.set_cons_zero,List.set_cons_succ]
          refine wpAnyH_take (i:=45) (oi:=?_) (v:=?_) ?_ (by kernel_rfl) (by kernel_rfl) (by kernel_rfl) ?_ ?_ (by assumption) ?_;rotate_left 2;(· simp only [List.getElem?_toArray,List.getElem?_cons_zero,List.getElem?_cons_succ];rfl);rotate_left;(· refine Or.inl ⟨by rfl,?_⟩;intro w hSw;(try dsimp only at hSw);go_simp;try with_reducible rfl);rotate_right;(· exact fun _ _ _ h=>h);simp only [Act.put,List.setIfInBounds_toArray,List.set_cons_zero,List.set_cons_succ]
          refine wpAnyH_take (i:=46) (oi:=?_) (v:=?_) ?_ (by kernel_rfl) (by kernel_rfl) (by kernel_rfl) ?_ ?_ (by assumption) ?_;rotate_left 2;(· simp only [List.getElem?_toArray,List.getElem?_cons_zero,List.getElem?_cons_succ];rfl);rotate_left;(· refine Or.inl ⟨by rfl,?_⟩;intro w hSw;(try dsimp only at hSw);go_simp;try with_reducible rfl);rotate_right;(· exact fun _ _ _ h=>h);simp only [Act.put,List.setIfInBounds_toArray,List.set_cons_zero,List.set_cons_succ]
          refine wpAnyH_done (by kernel_rfl) ?_ _
          have HEND:=Lib.hid (HZ.out _ (by first | exact hb0 | exact hb0.drew))
          go_wp2_with fail
          go_ret
          exact ⟨rfl,by first | exact HEND.out | exact HEND.out.drew⟩
end Go.Proofs.YtmljgogdgmeceaaGreatDoor
