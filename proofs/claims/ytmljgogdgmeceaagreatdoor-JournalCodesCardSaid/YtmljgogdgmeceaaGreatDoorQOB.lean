/-
  OGet
-/
import Derived.Test.YtmljgogdgmeceaaGreatDoorQOA
import Derived.Test.YtmljgogdgmeceaaGreatDoorQMC
namespace Go.Proofs.YtmljgogdgmeceaaGreatDoor
open Go.RowKit
def QJ19 (many:Int) (t:ByteArray) (w:World) (e:Ending) (w':World):Prop :=
  ∃ p,e=.returned (.tuple #[.pointer p,.int .i64 (M.jgetE many t)])∧(M.jgetE many t≠0→p=none)∧(M.jgetE many t=0→∃ (m b:Nat),many=(m:Int)∧m≤24∧p=some ⟨b,0,none⟩∧w.heap.size≤b∧K.Set w' b m (M.jset m t))∧Below w.heap.size w w'
theorem QJ19.no {many:Int} {t:ByteArray} {w w':World} {k:Int} (h:M.jgetE many t=k) (hk:k≠0) (hb:Below w.heap.size w w'):QJ19 many t w (.returned (.tuple #[.pointer none,.int .i64 k])) w' :=
  ⟨none,by rw [h],fun _=>rfl,fun e=>absurd (h.symm.trans e) hk,hb⟩
theorem QJ19.yes {m b:Nat} {t:ByteArray} {w w':World} (h:M.jgetE (m:Nat) t=0) (hm:m≤24) (hl:w.heap.size≤b) (hs:K.Set w' b m (M.jset m t)) (hb:Below w.heap.size w w'):QJ19 (m:Nat) t w (.returned (.tuple #[.pointer (some ⟨b,0,none⟩),.int .i64 0])) w' :=
  ⟨_,by rw [h],fun e=>absurd h e,fun _=>⟨m,b,rfl,hm,rfl,hl,hs⟩,hb⟩
theorem J_toList:(⟨#[74]⟩:ByteArray).toList=[74]:=by rw [ByteArray.toList_eq]
set_option maxRecDepth 100000 in
set_option maxHeartbeats 4000000 in
theorem jget_any (many:Int) (t:ByteArray) (w:World) :
    Calls Tryz.prog 12 #[.int .i64 many,.string t] w fun e w'=>QJ19 many t w e w':=by
  by_cases h:t.size=64
  case neg =>
    have HN:Hid (QJ19 many t w (.returned (.tuple #[.pointer none,.int .i64 12])) w):=QJ19.no (by unfold M.jgetE;rw [if_pos h]) (by decide) (Below.refl _ _)
    have hd:((t.size:Int)==64)=false:=by rw [beq_eq_false_iff_ne];omega
    have hd':((t.size:Int) != 64)=true:=by rw [bne,hd];rfl
    clear h
    go_enter Tryz.func12,Tryz.ntmps12
    go_wp2_with fail
    go_ret2
    exact HN.out
  have hd':((t.size:Int) != 64)=false:=by rw [bne,beq_iff_eq.2 (by omega:(t.size:Int)=64)];rfl
  have hd:((t.size:Int)==64)=true:=by rw [beq_iff_eq];omega
  have HNB:Hid (∀ y,Below w.heap.size w y→Calls Tryz.prog 38 #[.string t] y fun e z=>∃ b,e=.returned (.pointer (some ⟨b,0,none⟩))∧RdB w z b t 0):=fun y hb=>newB t w y hb
  by_cases hm:many < 0∨24 < many
  · have HN:Hid (∀ z,Below w.heap.size w z→QJ19 many t w (.returned (.tuple #[.pointer none,.int .i64 4])) z):=fun z hb=>QJ19.no (by unfold M.jgetE;rw [if_neg (fun e=>e h),if_pos (hm.elim Or.inl (fun e=>Or.inr (Or.inl e)))]) (by decide) hb
    have CY:=Lib.hid (fun x=>jmay_no hm x)
    clear h hm
    go_enter Tryz.func12,Tryz.ntmps12
    go_wp2_with fail
    refine (HNB.out _ (Below.refl _ _)).mono ?_
    rintro e w1 ⟨b,rfl,h1⟩
    have H1:=Lib.hid h1
    clear h1 HNB
    go_wp2_with fail
    refine (CY.out _).mono ?_
    rintro e w2 ⟨rfl,rfl⟩
    go_wp2_with fail
    go_ret2
    exact HN.out _ H1.out.below
  obtain ⟨m,rfl⟩:∃ m:Nat,many=m:=⟨many.toNat,by omega⟩
  have h24:m≤24:=by omega
  have hw3:=M.wide24 h24
  have CY:=Lib.hid (fun x=>jmay_yes h24 x)
  obtain ⟨wd,hwd⟩:∃ x,x=K.M.wide m:=⟨_,rfl⟩
  obtain ⟨n,hn⟩:∃ x,x=2+wd:=⟨_,rfl⟩
  obtain ⟨n4,hn4⟩:∃ x,x=6+wd:=⟨_,rfl⟩
  obtain ⟨xo,hxo⟩:∃ x,x=t.extract 0 1:=⟨_,rfl⟩
  obtain ⟨nk,hnk⟩:∃ x,x=M.hnum t 1 2:=⟨_,rfl⟩
  obtain ⟨nu,hnu⟩:∃ x,x=t.extract 2 n:=⟨_,rfl⟩
  obtain ⟨sd,hsd⟩:∃ x,x=t.extract 0 n:=⟨_,rfl⟩
  obtain ⟨tt,htt⟩:∃ x,x=t.extract n n4:=⟨_,rfl⟩
  obtain ⟨tl,htl⟩:∃ x,x=M.tail sd:=⟨_,rfl⟩
  have hj1:(xo.toList==[74])=true→xo=M.jf0:=fun e=>by
    rw [←J_toList] at e
    exact eq_of_list19 e
  have hj0:(xo.toList==[74])=false→xo≠M.jf0:=fun e q=>by
    rw [q] at e
    rw [←J_toList] at e
    exact ne_of_list19 e rfl
  have N1:Hid ((xo.toList==[74])=false→M.jgetE (m:Nat) t=4):=fun e=>by
    unfold M.jgetE
    rw [if_neg (fun e=>e h),if_pos (Or.inr (Or.inr (Or.inl (by rw [←hxo];exact hj0 e))))]
  have N2:Hid ((nk==(m:Int))=false→M.jgetE (m:Nat) t=4):=fun e=>by
    unfold M.jgetE
    rw [if_neg (fun e=>e h),if_pos (Or.inr (Or.inr (Or.inr (fun q=>by rw [←hnk] at q;rw [q] at e;simp at e))))]
  have K0:(xo.toList==[74])=true→(nk==(m:Int))=true→¬ ((m:Int) < 0∨24 < (m:Int)∨t.extract 0 1≠M.jf0∨M.hnum t 1 2≠(m:Int)):=fun e e2 q=>by
    rcases q with q | q | q | q
    · omega
    · omega
    · exact q (by rw [←hxo];exact hj1 e)
    · exact q (by rw [←hnk];exact beq_iff_eq.1 e2)
  have E0:(xo.toList==[74])=true→(nk==(m:Int))=true→M.jgetE (m:Nat) t=if tt≠tl then 5 else if K.M.bad m nu.data.toList=true then 4 else if M.jwhole m (M.jset m t)≠t then 4 else 0:=fun e e2=>by
    unfold M.jgetE
    rw [if_neg (fun e=>e h),if_neg (K0 e e2),Int.toNat_natCast,←hwd,←hn,←hn4,←htt,←hsd,←htl,←hnu]
  have hset:M.jset m t=K.M.bitAt nu.data.toList:=by unfold M.jset;rw [←hwd,←hn,←hnu]
  have hlen:nu.data.toList.length=wd:=by rw [Array.length_toList];show nu.size=wd;rw [hnu,ByteArray.size_extract];omega
  have hrE:K.M.readE m nu.data.toList=if K.M.bad m nu.data.toList=true then 4 else 0:=by
    unfold K.M.readE
    rw [hlen,←hwd,if_neg (by omega),if_neg (by omega)]
  have R1:Hid (∀ b y,RdB w y b t 0→Calls Tryz.prog 39 #[.pointer (some ⟨b,0,none⟩),.int .i64 1] y fun e z=>e=.returned (.string xo)∧RdB w z b t 1):=fun b y hR=>by
    refine (hR.bytes 1 (by omega)).mono ?_
    rintro e z ⟨e1,e2,-⟩
    exact ⟨by rw [e1,hxo],e2⟩
  have R2:Hid (∀ b y,RdB w y b t 1→Calls Tryz.prog 40 #[.pointer (some ⟨b,0,none⟩),.int .i64 1] y fun e z=>e=.returned (.int .i64 nk)∧RdB w z b t 2):=fun b y hR=>by
    refine (hR.num 1 (by omega) (by omega) (by omega)).mono ?_
    rintro e z ⟨e1,e2,-⟩
    exact ⟨by rw [e1,hnk],e2⟩
  have RM:Hid (∀ y,Calls Tryz.prog 6 #[.int .i64 (m:Nat)] y fun e z=>∃ b,e=.returned (.pointer (some ⟨b,0,none⟩))∧K.Set z b m (fun _=>false)∧Below y.heap.size y z):=fun y=>by
    refine (K.new_any (m:Nat) y).mono ?_
    rintro e z ⟨e1,e2⟩
    have:=K.Set.new y (m:Nat)
    rw [K.M.most_nat (by omega)] at this e2
    rw [e2]
    exact ⟨_,e1,this,(Below.refl _ _).alloc (Nat.le_refl _) _⟩
  have RB:Hid (∀ b y,K.Set y b m (fun _=>false)→Calls Tryz.prog 14 #[.pointer (some ⟨b,0,none⟩)] y fun e z=>e=.returned (.string (M.jb m (fun _=>false)))∧Below y.heap.size y z):=fun b y hs=>by
    refine (K.bytes_any y hs).mono ?_
    rintro e z ⟨q1,k,q2⟩
    exact ⟨q1,by rw [q2];exact below_drewN (Below.refl _ _) k⟩
  have hzs:((M.jb m (fun _=>false)).size:Int)=(wd:Int):=by rw [M.jb_size,←hwd]
  have R3:Hid (∀ b y,RdB w y b t 2→Calls Tryz.prog 39 #[.pointer (some ⟨b,0,none⟩),.int .i64 (wd:Nat)] y fun e z=>e=.returned (.string nu)∧RdB w z b t n):=fun b y hR=>by
    refine (hR.bytes wd (by omega)).mono ?_
    rintro e z ⟨e1,e2,-⟩
    rw [←hn] at e1 e2
    exact ⟨by rw [e1,hnu],e2⟩
  obtain ⟨lf,hlf⟩:∃ x,x=t.size - n:=⟨_,rfl⟩
  have R4:Hid (∀ b y,RdB w y b t n→Calls Tryz.prog 41 #[.pointer (some ⟨b,0,none⟩)] y fun e z=>e=.returned (.int .i64 (lf:Nat))∧y=z):=fun b y hR=>by
    rw [hlf]
    exact hR.left (by omega)
  have R5:Hid (∀ b y,RdB w y b t n→Calls Tryz.prog 39 #[.pointer (some ⟨b,0,none⟩),.int .i64 4] y fun e z=>e=.returned (.string tt)∧RdB w z b t n4):=fun b y hR=>by
    refine (hR.bytes 4 (by omega)).mono ?_
    rintro e z ⟨e1,e2,-⟩
    have q:n+4=n4:=by omega
    rw [q] at e1 e2
    exact ⟨by rw [e1,htt],e2⟩
  have CT:Hid (∀ x,Calls Tryz.prog 34 #[.string sd] x fun e w'=>e=.returned (.string tl)∧Below x.heap.size x w'):=fun x=>by
    rw [htl]
    exact tail_any sd x (by rw [hsd,ByteArray.size_extract];omega)
  have CR:Hid (∀ x,Calls Tryz.prog 42 #[.int .i64 (m:Nat),.string nu] x fun e w'=>K.ReadPost m nu.data.toList x e w'):=fun x=>by
    have:=K.read_any (m:Nat) nu x
    rw [K.M.most_nat (by omega)] at this
    exact this
  have CP:Hid (∀ x b,K.Set x b m (M.jset m t)→Calls Tryz.prog 10 #[.pointer (some ⟨b,0,none⟩)] x fun e w'=>e=.returned (.tuple #[.string (M.jwhole m (M.jset m t)),.int .i64 0])∧Below x.heap.size x w'):=fun x b hs=>by
    have:=jput_any x hs
    rw [M.jput_ok h24] at this
    exact this
  have HN5:Hid ((xo.toList==[74])=true→(nk==(m:Int))=true→(tt.toList==tl.toList)=false→M.jgetE (m:Nat) t=5):=fun e e2 e3=>by rw [E0 e e2,if_pos (ne_of_list19 e3)]
  have HN6:Hid ((xo.toList==[74])=true→(nk==(m:Int))=true→(tt.toList==tl.toList)=true→K.M.bad m nu.data.toList=true→M.jgetE (m:Nat) t=4):=fun e e2 e3 e4=>by rw [E0 e e2,if_neg (fun q=>q (eq_of_list19 e3)),if_pos e4]
  have HN7:Hid ((xo.toList==[74])=true→(nk==(m:Int))=true→(tt.toList==tl.toList)=true→K.M.bad m nu.data.toList=false→((M.jwhole m (M.jset m t)).toList==t.toList)=false→M.jgetE (m:Nat) t=4):=fun e e2 e3 e4 e5=>by rw [E0 e e2,if_neg (fun q=>q (eq_of_list19 e3)),if_neg (by rw [e4];decide),if_pos (ne_of_list19 e5)]
  have HN8:Hid ((xo.toList==[74])=true→(nk==(m:Int))=true→(tt.toList==tl.toList)=true→K.M.bad m nu.data.toList=false→((M.jwhole m (M.jset m t)).toList==t.toList)=true→M.jgetE (m:Nat) t=0):=fun e e2 e3 e4 e5=>by rw [E0 e e2,if_neg (fun q=>q (eq_of_list19 e3)),if_neg (by rw [e4];decide),if_neg (fun q=>q (eq_of_list19 e5))]
  have HM:=Lib.hid h24
  have HRE:=Lib.hid hrE
  have HSET:Hid (K.M.bitAt nu.data.toList=M.jset m t):=hset.symm
  obtain ⟨bz,hbz⟩:∃ x,x=M.jb m (fun _=>false):=⟨_,rfl⟩
  rw [←hbz] at RB hzs
  have r1:IntKind.i64.wrap ((t.size:Int) - (lf:Int))=(n:Int):=by rw [IntKind.wrap_i64];omega
  have b3:(0:Int)≤(n:Int):=by omega
  have b5:(n:Int)≤(t.size:Int):=by omega
  have hsd':t.extract 0 n=sd:=hsd.symm
  clear h hm h24 hw3 hwd hn hn4 hxo hnk hnu htt htl hj1 hj0 K0 E0 hset hlen hrE hlf hbz hsd
  go_enter Tryz.func12,Tryz.ntmps12
  go_wp2_with fail
  refine (HNB.out _ (Below.refl _ _)).mono ?_
  rintro e w1 ⟨b,rfl,h1⟩
  have H1:=Lib.hid h1
  clear h1 HNB
  go_wp2_with fail
  refine (CY.out _).mono ?_
  rintro e w2 ⟨rfl,rfl⟩
  go_wp2_with fail
  refine (R1.out _ _ H1.out).mono ?_
  rintro e w3 ⟨rfl,h3⟩
  have H3:=Lib.hid h3
  clear h3 H1 CY R1
  cases k1:(xo.toList==[74])
  · have HZ:=Lib.hid (QJ19.no (N1.out k1) (by decide) H3.out.below)
    go_wp2_with fail
    go_ret2
    exact HZ.out
  go_wp2_with fail
  refine (R2.out _ _ H3.out).mono ?_
  rintro e w4 ⟨rfl,h4⟩
  have H4:=Lib.hid h4
  clear h4 H3 R2
  cases k2:(nk==(m:Int))
  · have k2':(nk != (m:Int))=true:=by rw [bne,k2];rfl
    have HZ:=Lib.hid (QJ19.no (N2.out k2) (by decide) H4.out.below)
    go_wp2_with fail
    go_ret2
    exact HZ.out
  have k2':(nk != (m:Int))=false:=by rw [bne,k2];rfl
  have K12:Hid ((xo.toList==[74])=true∧(nk==(m:Int))=true):=⟨k1,k2⟩
  go_wp2_with fail
  refine (RM.out _).mono ?_
  rintro e w5 ⟨q,rfl,hs5,hb5⟩
  have S5:=Lib.hid hs5
  have H5:=Lib.hid (H4.out.keep hb5)
  clear hs5 hb5 H4 RM N1 N2
  go_wp2_with fail
  refine (RB.out _ _ S5.out).mono ?_
  rintro e w6 ⟨rfl,hb6⟩
  have H6:=Lib.hid (H5.out.keep hb6)
  clear hb6 H5 S5 RB
  go_wp2_with fail
  refine (R3.out _ _ H6.out).mono ?_
  rintro e w7 ⟨rfl,h7⟩
  have H7:=Lib.hid h7
  clear h7 H6 R3
  go_wp2_with fail
  refine (R4.out _ _ H7.out).mono ?_
  rintro e w8 ⟨rfl,rfl⟩
  go_wp2_with fail
  refine (R5.out _ _ H7.out).mono ?_
  rintro e w9 ⟨rfl,h9⟩
  have H9:=Lib.hid h9
  clear h9 H7 R5 R4
  go_wp2_with fail
  refine (CT.out _).mono ?_
  rintro e w10 ⟨rfl,hb10⟩
  have H10:=Lib.hid (H9.out.keep hb10).below
  clear hb10 H9 CT
  cases k3:(tt.toList==tl.toList)
  · have HZ:=Lib.hid (QJ19.no (HN5.out K12.out.1 K12.out.2 k3) (by decide) H10.out)
    go_wp2_with fail
    go_ret2
    exact HZ.out
  go_wp2_with fail
  refine (CR.out _).mono ?_
  rintro e w11 ⟨p,rfl,hp1,hp2,hb11⟩
  have HL:Hid (w.heap.size≤w10.heap.size):=H10.out.size
  have H11:=Lib.hid (H10.out.trans (hb11.mono H10.out.size))
  clear hb11 H10 CR
  cases k4:K.M.bad m nu.data.toList
  · have e0:K.M.readE m nu.data.toList=0:=by rw [HRE.out,if_neg (by rw [k4];decide)]
    obtain ⟨b2,rfl,hl2,hs⟩:=hp2 e0
    rw [HSET.out] at hs
    rw [e0]
    have G3:=Lib.hid hs
    have HL2:Hid (w.heap.size≤b2):=Nat.le_trans HL.out hl2
    have C5:=Lib.hid (CP.out w11 b2 hs)
    clear hs hp1 hp2 e0 hl2 HL CP
    obtain ⟨W,hW⟩:∃ W,W=M.jwhole m (M.jset m t):=⟨_,rfl⟩
    rw [←hW] at C5 HN7 HN8
    clear hW
    go_wp2_with fail
    refine C5.out.mono ?_
    rintro e w12 ⟨rfl,hb12⟩
    have G4:=Lib.hid (G3.out.below hb12 G3.out.box.lt)
    have H12:=Lib.hid (H11.out.trans (hb12.mono H11.out.size))
    clear hb12 C5 G3 H11
    cases k5:(W.toList==t.toList)
    · have HZ:=Lib.hid (QJ19.no (HN7.out K12.out.1 K12.out.2 k3 k4 k5) (by decide) H12.out)
      go_wp2_with fail
      go_ret2
      exact HZ.out
    · have HZ:=Lib.hid (QJ19.yes (HN8.out K12.out.1 K12.out.2 k3 k4 k5) HM.out HL2.out G4.out H12.out)
      go_wp2_with fail
      go_ret2
      exact HZ.out
  · have e0:K.M.readE m nu.data.toList=4:=by rw [HRE.out,if_pos k4]
    obtain rfl:=hp1 (by rw [e0];decide)
    rw [e0]
    have HZ:=Lib.hid (QJ19.no (HN6.out K12.out.1 K12.out.2 k3 k4) (by decide) H11.out)
    clear hp1 hp2 e0
    go_wp2_with fail
    go_ret2
    exact HZ.out
end Go.Proofs.YtmljgogdgmeceaaGreatDoor
