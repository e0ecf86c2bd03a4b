/-
  OSt OWorks
-/
import Derived.Test.YtmljgogdgmeceaaGreatDoorQOC
import Derived.Test.YtmljgogdgmeceaaGreatDoorQKA
import Derived.Test.YtmljgogdgmeceaaGreatDoorQTA
namespace Go.Proofs.YtmljgogdgmeceaaGreatDoor
open Go.RowKit Go.Maps
def M.IJ (E:Nat) (f:Nat→Bool) (V:Nat→ByteArray):Prop:=V 1=M.jwhole E f∧K.M.Below E f
def M.I0 (E:Nat) (V:Nat→ByteArray):Prop:=M.jgetE (E:Nat) (V 1)≠0
theorem M.I0_zero (E:Nat):M.I0 E (fun _=>M.zeros 64):=by
  have h1:(M.zeros 64).extract 0 1≠M.jf0:=by decide
  have h0:(M.zeros 64).size=64:=by decide
  show M.jgetE (E:Nat) (M.zeros 64)≠0
  unfold M.jgetE
  rw [if_neg (by rw [h0];simp),if_pos (Or.inr (Or.inr (Or.inl h1)))]
  decide
section
variable {E S L : Nat} {h : M.lokB E S L = true} {R : Nat → Prop} {N b d n lb p : Nat} {w2 x : World} {F : List Nat} {I : (Nat → ByteArray) → Prop} {act : Bool} {f : Nat → Bool}
theorem QS.saves (H:QS (M.geo E S L h) R N w2 b d F I true lb n x) (hlb:lb≤15) (hs:K.Set x p E f) :
    Calls Tryz.prog 20 #[.pointer (some ⟨b,0,none⟩),Cf E S L,.pointer (some ⟨p,0,none⟩)] x fun e z=>e=.returned (.int .i64 0)∧QS (M.geo E S L h) R N w2 b d F (M.IJ E f) true (lb+1) n z∧Kept (fun j=>R j∧j ∉ F) x z :=
  H.call (P:=fun e=>e=.returned (.int .i64 0)) (fun Q s T q h4 h5 _=>by
    refine (jsave_ok q h4 (by omega) hs).mono ?_
    rintro e z ⟨e1,e2,e3⟩
    exact ⟨e1,_,T,e2,h4,Nat.le_trans (M.ins_le _ _ _) (by omega),rfl,⟨M.now_one s T _,hs.low⟩,e3⟩)
theorem QS.loads (H:QS (M.geo E S L h) R N w2 b d F (M.IJ E f) act lb n x) (hn:n≤400000) :
    Calls Tryz.prog 19 #[.pointer (some ⟨b,0,none⟩),Cf E S L] x fun e z=>∃ p,e=.returned (.tuple #[.pointer (some ⟨p,0,none⟩),.int .i64 0])∧K.Set z p E f∧QS (M.geo E S L h) R N w2 b d (p :: F) (M.IJ E f) act lb (n+1) z∧Kept (fun j=>R j∧j ∉ F) x z:=by
  have hv:=(M.lok_iff E S L).1 h
  obtain ⟨z0,s,T,h0,h1,h2,h3,h4,h5,h6,h7,h8⟩:=H
  refine (jload_step h3.qa hn).mono ?_
  rintro e z ⟨-,e1⟩
  rw [h7] at e1
  obtain ⟨p,e2,e3,d',e4⟩:=e1 (M.jget_whole E f (by omega) h8)
  rw [(M.jset_whole E f (by omega) h8).2] at e3
  exact ⟨p,e2,e3,⟨z0,_,T,h0,h1,h2,h3.callF e4,h4,h5,h6,h7,h8⟩,e4.kept⟩
theorem QS.load0 (H:QS (M.geo E S L h) R N w2 b d F (M.I0 E) act lb n x) (hn:n≤400000) :
    Calls Tryz.prog 19 #[.pointer (some ⟨b,0,none⟩),Cf E S L] x fun e z=>e=.returned (.tuple #[.pointer none,.int .i64 32])∧QS (M.geo E S L h) R N w2 b d F (M.I0 E) act lb (n+1) z∧Kept (fun j=>R j∧j ∉ F) x z :=
  H.call (P:=fun e=>e=.returned (.tuple #[.pointer none,.int .i64 32])) (fun Q s T q h4 h5 h6=>by
    refine (jload_step q hn).mono ?_
    rintro e z ⟨e1,-⟩
    obtain ⟨e2,d',e3,e4⟩:=e1 h6
    exact ⟨e2,_,T,e3,h4,h5,rfl,h6,e4⟩)
theorem QS.mark0 (H:QS (M.geo E S L h) R N w2 b d F (M.I0 E) act lb n x) (hn:n≤400000) (i:Nat) (hi:i < E) (v:Bool) :
    Calls Tryz.prog 21 #[.pointer (some ⟨b,0,none⟩),Cf E S L,.int .i64 (i:Nat),.bool v] x fun e z=>e=.returned (.int .i64 32)∧QS (M.geo E S L h) R N w2 b d F (M.I0 E) act lb (n+1) z∧Kept (fun j=>R j∧j ∉ F) x z :=
  H.call (P:=fun e=>e=.returned (.int .i64 32)) (fun Q s T q h4 h5 h6=>by
    refine (jmark_no q hn i hi v h6).mono ?_
    rintro e z ⟨e2,d',e3,e4⟩
    exact ⟨e2,_,T,e3,h4,h5,rfl,h6,e4⟩)
theorem QS.marks (H:QS (M.geo E S L h) R N w2 b d F (M.IJ E f) true lb n x) (hn:n≤400000) (hlb:lb≤15) (i:Nat) (hi:i < E) (v:Bool) :
    Calls Tryz.prog 21 #[.pointer (some ⟨b,0,none⟩),Cf E S L,.int .i64 (i:Nat),.bool v] x fun e z=>e=.returned (.int .i64 0)∧QS (M.geo E S L h) R N w2 b d F (M.IJ E (K.M.putI E f (i:Nat) v)) true (lb+1) (n+1) z∧Kept (fun j=>R j∧j ∉ F) x z :=
  H.call (P:=fun e=>e=.returned (.int .i64 0)) (fun Q s T q h4 h5 h6=>by
    refine (jmark_ok q hn h4 (by omega) i hi v h6.1 h6.2).mono ?_
    rintro e z ⟨e2,s',e3,e4,e5,e6,e7,e8⟩
    refine ⟨e2,s',T,e3,e4,by omega,e6,⟨e7,?_⟩,e8⟩
    rw [K.M.putI_in E f i v hi]
    exact h6.2.put hi v)
theorem QS.saveno (H:QS (M.geo E S L h) R N w2 b d F I act lb n x) {sp:Option Addr} {m:Nat} (hm:m≠E) (hs:K.SetN x sp m f) :
    Calls Tryz.prog 20 #[.pointer (some ⟨b,0,none⟩),Cf E S L,.pointer sp] x fun e z=>e=.returned (.int .i64 3)∧QS (M.geo E S L h) R N w2 b d F I act lb n z∧Kept (fun j=>R j∧j ∉ F) x z:=by
  refine (jsave_not _ sp E S L m f h hm x hs).mono ?_
  rintro e z ⟨e1,e2⟩
  exact ⟨e1,H.beside e2,Kept.of_below e2 _⟩
theorem QS.fresh (H:QS (M.geo E S L h) R N w2 b d F I act lb n x) (k:Int) :
    Calls Tryz.prog 6 #[.int .i64 k] x fun e z=>∃ p,e=.returned (.pointer (some ⟨p,0,none⟩))∧K.Set z p (K.M.most k) (fun _=>false)∧QS (M.geo E S L h) R N w2 b d (p :: F) I act lb n z∧Below x.heap.size x z:=by
  refine (K.new_any k x).mono ?_
  rintro e z ⟨e1,e2⟩
  have h1:=K.Set.new x k
  have hb:Below x.heap.size x z:=by rw [e2];exact (Below.refl _ _).alloc (Nat.le_refl _) _
  rw [←e2] at h1
  exact ⟨_,e1,h1,H.own hb (fun j e=>(List.mem_cons.1 e).elim (fun e=>Or.inr ⟨by omega,by rw [e];exact h1.box.lt⟩) Or.inl),hb⟩
end
end Go.Proofs.YtmljgogdgmeceaaGreatDoor
namespace Go.Proofs.YtmljgogdgmeceaaGreatDoor
open Go.RowKit Go.Maps
theorem M.lok19:M.lokB (3:Nat) (1:Nat) (24:Nat)=true:=by decide
def M.two19:Nat→Bool:=K.M.putI 3 (fun _=>false) (2:Nat) true
theorem M.two19_at:M.two19 2=true:=by decide
theorem M.two19_len:(K.M.nums 3 M.two19).length=1:=by decide
set_option maxHeartbeats 1000000 in
theorem works19_parts (w1:World) (hE:Env10 w1) (hET:ErrT w1):∃ (W0 W2 W3:World→Nat→Prop) (W1:World→Nat→Nat→Prop) (W4:World→Nat→Prop),
    (Calls Tryz.prog 18 #[Cf 3 1 24] w1 fun e z=>∃ d b,e=.returned (.tuple #[.pointer (some ⟨d,0,none⟩),.pointer (some ⟨b,0,none⟩)])∧W0 z b) ∧
    (∀ x b,W0 x b→Calls Tryz.prog 6 #[.int .i64 3] x fun e z=>∃ p,e=.returned (.pointer (some ⟨p,0,none⟩))∧W1 z b p) ∧
    (∀ x b p,W1 x b p→Calls Tryz.prog 20 #[.pointer (some ⟨b,0,none⟩),Cf 3 1 24,.pointer (some ⟨p,0,none⟩)] x fun e z=>e=.returned (.int .i64 0)∧W2 z b) ∧
    (∀ x b,W2 x b→Calls Tryz.prog 21 #[.pointer (some ⟨b,0,none⟩),Cf 3 1 24,.int .i64 2,.bool true] x fun e z=>e=.returned (.int .i64 0)∧W3 z b) ∧
    (∀ x b,W3 x b→Calls Tryz.prog 19 #[.pointer (some ⟨b,0,none⟩),Cf 3 1 24] x fun e z=>∃ p,e=.returned (.tuple #[.pointer (some ⟨p,0,none⟩),.int .i64 0])∧W4 z p) ∧
    (∀ x p,W4 x p→Calls Tryz.prog 27 #[.pointer (some ⟨p,0,none⟩),.int .i64 2] x fun e z=>e=.returned (.bool true)∧W4 z p) ∧
    (∀ x p,W4 x p→Calls Tryz.prog 28 #[.pointer (some ⟨p,0,none⟩)] x fun e z=>e=.returned (.int .i64 1)∧W4 z p) ∧
    (∀ x b,W0 x b→Below w1.heap.size w1 x)∧(∀ x b p,W1 x b p→Below w1.heap.size w1 x)∧(∀ x b,W2 x b→Below w1.heap.size w1 x)∧(∀ x b,W3 x b→Below w1.heap.size w1 x)∧(∀ x p,W4 x p→Below w1.heap.size w1 x) ∧
    (∀ x b,W0 x b→W0 x.drew b)∧(∀ x b p,W1 x b p→W1 x.drew b p)∧(∀ x b,W2 x b→W2 x.drew b):=by
  have h:=M.lok19
  refine ⟨fun x b=>∃ d,QS (M.geo 3 1 24 h) (fun j=>w1.heap.size≤j) w1.heap.size w1 b d [] (fun _=>True) true 0 6000 x,
    fun x b=>∃ d F,QS (M.geo 3 1 24 h) (fun j=>w1.heap.size≤j) w1.heap.size w1 b d F (M.IJ 3 (fun _=>false)) true 1 6000 x,
    fun x b=>∃ d F,QS (M.geo 3 1 24 h) (fun j=>w1.heap.size≤j) w1.heap.size w1 b d F (M.IJ 3 M.two19) true 2 6001 x,
    fun x b p=>∃ d F,QS (M.geo 3 1 24 h) (fun j=>w1.heap.size≤j) w1.heap.size w1 b d F (fun _=>True) true 0 6000 x∧K.Set x p 3 (fun _=>false),
    fun x p=>Below w1.heap.size w1 x∧K.Set x p 3 M.two19,?_,?_,?_,?_,?_,?_,?_,?_,?_,?_,?_,?_,?_,?_,?_⟩
  · refine (begun16_ok 3 1 24 h w1 hE hET).mono ?_
    rintro e z ⟨d,b,s,e1,e2,e3,e4,e5,e6⟩
    have q:=QS.start (I:=fun _=>True) (lb:=0) e2 (by rw [e4];simp) e6 trivial
    rw [e3] at q
    exact ⟨d,b,e1,d,q⟩
  · rintro x b ⟨d,h1⟩
    refine (h1.fresh 3).mono ?_
    rintro e z ⟨p,e1,e2,e3,e4⟩
    exact ⟨p,e1,d,_,e3,e2⟩
  · rintro x b p ⟨d,F,h1,h2⟩
    refine (h1.saves (by omega) h2).mono ?_
    rintro e z ⟨e1,e2,e3⟩
    exact ⟨e1,d,F,e2⟩
  · rintro x b ⟨d,F,h1⟩
    refine (h1.marks (by omega) (by omega) 2 (by omega) true).mono ?_
    rintro e z ⟨e1,e2,e3⟩
    exact ⟨e1,d,F,e2⟩
  · rintro x b ⟨d,F,h1⟩
    refine (h1.loads (by omega)).mono ?_
    rintro e z ⟨p,e1,e2,e3,e4⟩
    exact ⟨p,e1,e3.below,e2⟩
  · rintro x p ⟨h1,h2⟩
    refine (K.has_in 2 x h2 (by omega)).mono ?_
    rintro e z ⟨e1,n,e2⟩
    rw [M.two19_at] at e1
    rw [e2]
    exact ⟨e1,below_drewN h1 n,h2.drewN n⟩
  · rintro x p ⟨h1,h2⟩
    refine (K.len_n x h2.n).mono ?_
    rintro e z ⟨e1,e2⟩
    rw [M.two19_len] at e1
    exact ⟨e1,h1.trans (e2.mono h1.size),h2.below e2 h2.box.lt⟩
  · rintro x b ⟨d,h1⟩
    exact h1.below
  · rintro x b p ⟨d,F,h1,h2⟩
    exact h1.below
  · rintro x b ⟨d,F,h1⟩
    exact h1.below
  · rintro x b ⟨d,F,h1⟩
    exact h1.below
  · rintro x p ⟨h1,h2⟩
    exact h1
  · rintro x b ⟨d,h1⟩
    exact ⟨d,h1.beside (Below.refl _ _).drew⟩
  · rintro x b p ⟨d,F,h1,h2⟩
    exact ⟨d,F,h1.beside (Below.refl _ _).drew,h2.drew⟩
  · rintro x b ⟨d,F,h1⟩
    exact ⟨d,F,h1.beside (Below.refl _ _).drew⟩
set_option maxHeartbeats 4000000 in
theorem works19_any (w:World) (hE:Env10 w) (hET:ErrT w):Calls Tryz.prog 5 #[] w fun e z=>e=.returned (.bool true)∧Below w.heap.size w z:=by
  have HB0:=ib1 w (Cj 3 1 24)
  obtain ⟨W0,W2,W3,W1,W4,p1,p2,p3,p4,p5,p6,p7,q0,q1,q2,q3,q4,d0,d1,d2⟩:=works19_parts (w.alloc (Cj 3 1 24)) (hE.below HB0) (hET.low HB0 hET.lt)
  have P1:=Lib.hid p1
  have P2:=Lib.hid p2
  have P3:=Lib.hid p3
  have P4:=Lib.hid p4
  have P5:=Lib.hid p5
  have P6:=Lib.hid p6
  have P7:=Lib.hid p7
  have HC:Hid (∀ x,Below (w.alloc (Cj 3 1 24)).heap.size (w.alloc (Cj 3 1 24)) x→BCf x w.heap.size 3 1 24):=fun x hb=>Box.below (Box.new _ _ _) hb (by rw [World.size_alloc];omega)
  have D0:=Lib.hid d0
  have D1:=Lib.hid d1
  have D2:=Lib.hid d2
  have C0:Hid (∀ x b,W0 x b→BCf x w.heap.size 3 1 24):=fun x b hw=>HC.out x (q0 x b hw)
  have C1:Hid (∀ x b p,W1 x b p→BCf x w.heap.size 3 1 24):=fun x b p hw=>HC.out x (q1 x b p hw)
  have C2:Hid (∀ x b,W2 x b→BCf x w.heap.size 3 1 24):=fun x b hw=>HC.out x (q2 x b hw)
  have C3:Hid (∀ x b,W3 x b→BCf x w.heap.size 3 1 24):=fun x b hw=>HC.out x (q3 x b hw)
  have HZ:Hid (∀ x p,W4 x p→Below w.heap.size w x):=fun x p hw=>HB0.trans ((q4 x p hw).mono HB0.size)
  clear p1 p2 p3 p4 p5 p6 p7 q0 q1 q2 q3 q4 d0 d1 d2 hE hET HB0
  go_enter Tryz.func5,Tryz.ntmps5
  go_wp2_with fail
  refine P1.out.mono ?_
  rintro e w1 ⟨d,b,rfl,h1⟩
  have G1:=Lib.hid h1
  clear h1 P1
  have hS0:=BCf.cells (C0.out _ _ G1.out)
  have hS0':w1.drew.cell? ⟨w.heap.size,0,none⟩=some (.int .i64 3)∧w1.drew.cell? ⟨w.heap.size,1,none⟩=some (.int .i64 1)∧w1.drew.cell? ⟨w.heap.size,2,none⟩=some (.int .i64 24):=hS0
  go_wp2_with fail
  go_region_held3 (fun y=>y.cell? ⟨w.heap.size,0,none⟩=some (.int .i64 3)∧y.cell? ⟨w.heap.size,1,none⟩=some (.int .i64 1)∧y.cell? ⟨w.heap.size,2,none⟩=some (.int .i64 24)) (first | assumption | trivial)
    (first
      | (go_at_call 6;refine (P2.out _ b (by first | exact G1.out | exact D0.out _ _ G1.out)).mono ?_;rintro e w2 ⟨p,rfl,h2⟩;have G2:=Lib.hid h2;have hS2:=BCf.cells (C1.out _ _ _ h2);clear h2)
      | (go_at_call 20;refine (P3.out _ _ _ (by first | exact G2.out | exact D1.out _ _ _ G2.out)).mono ?_;rintro e w3 ⟨rfl,h3⟩;have G3:=Lib.hid h3;have hS3:=BCf.cells (C2.out _ _ h3);clear h3)
      | (go_at_call 21;refine (P4.out _ _ (by first | exact G3.out | exact D2.out _ _ G3.out)).mono ?_;rintro e w4 ⟨rfl,h4⟩;have G4:=Lib.hid h4;have hS4:=BCf.cells (C3.out _ _ h4);clear h4))
  clear hS0 hS0' hS2 hS3 hS4 G1 G2 G3 P2 P3 P4 D0 D1 D2 C0 C1 C2
  obtain ⟨c0,c1,c2⟩:=BCf.cells (C3.out _ _ G4.out)
  go_wp2_with fail
  refine (P5.out _ _ G4.out).mono ?_
  rintro e w5 ⟨q,rfl,h5⟩
  have G5:=Lib.hid h5
  clear h5 P5 G4 c0 c1 c2
  go_wp2_with fail
  refine (P6.out _ _ G5.out).mono ?_
  rintro e w6 ⟨rfl,h6⟩
  have G6:=Lib.hid h6
  clear h6 P6 G5
  go_wp2_with fail
  refine (P7.out _ _ G6.out).mono ?_
  rintro e w7 ⟨rfl,h7⟩
  have G7:=Lib.hid (HZ.out _ _ h7)
  clear h7 P7 G6
  go_wp2_with fail
  go_ret
  exact ⟨rfl,G7.out⟩
end Go.Proofs.YtmljgogdgmeceaaGreatDoor
