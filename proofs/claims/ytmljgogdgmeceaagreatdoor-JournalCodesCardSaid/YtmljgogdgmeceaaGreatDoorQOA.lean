/-
  OMath ORPut ORGet OPut
-/
import Derived.Test.YtmljgogdgmeceaaGreatDoorQMP
import Derived.Test.YtmljgogdgmeceaaGreatDoorQKA
import Derived.Test.YtmljgogdgmeceaaGreatDoorQMA
import Derived.Test.YtmljgogdgmeceaaGreatDoorQMC
import Derived.Deep.RegionHeld3
namespace Go.Proofs.YtmljgogdgmeceaaGreatDoor.M
def jb (m:Nat) (f:Nat→Bool):ByteArray:=⟨(K.M.bytes m f).toArray⟩
theorem jb_size (m:Nat) (f:Nat→Bool):(jb m f).size=K.M.wide m:=by
  show (K.M.bytes m f).toArray.size=_
  simp [K.M.bytes_len]
theorem wide24 {m:Nat} (h:m≤24):K.M.wide m≤3:=by unfold K.M.wide;omega
def jf0:ByteArray:=⟨#[74]⟩
theorem jf0_size:jf0.size=1:=rfl
def jf1 (m:Nat):ByteArray:=jf0++bytes m 1
theorem jf1_size (m:Nat):(jf1 m).size=2:=by rw [jf1,ByteArray.size_append,bytes_size,jf0_size]
def jfront (m:Nat) (f:Nat→Bool):ByteArray:=jf1 m++jb m f
theorem jfront_size (m:Nat) (f:Nat→Bool):(jfront m f).size=2+K.M.wide m:=by rw [jfront,ByteArray.size_append,jf1_size,jb_size]
def jwhole (m:Nat) (f:Nat→Bool):ByteArray:=pad (jfront m f++tail (jfront m f))
theorem jsum_size (m:Nat) (f:Nat→Bool):(jfront m f++tail (jfront m f)).size=6+K.M.wide m:=by rw [ByteArray.size_append,jfront_size,tail_size];omega
theorem jwhole_eq (m:Nat) (f:Nat→Bool) (h:m≤24):jwhole m f=(jfront m f++tail (jfront m f))++zeros (58 - K.M.wide m):=by
  have hw:=wide24 h
  have e:lack (jfront m f++tail (jfront m f)).size=58 - K.M.wide m:=by
    rw [jsum_size]
    unfold lack
    omega
  rw [jwhole,pad,e]
theorem jwhole_size (m:Nat) (f:Nat→Bool) (h:m≤24):(jwhole m f).size=64:=by
  have hw:=wide24 h
  rw [jwhole_eq m f h,ByteArray.size_append,jsum_size,zeros_size]
  omega
def jset (many:Nat) (t:ByteArray):Nat→Bool:=K.M.bitAt (t.extract 2 (2+K.M.wide many)).data.toList
def jgetE (many:Int) (t:ByteArray):Int :=
  if t.size≠64 then 12 else if many < 0∨24 < many∨t.extract 0 1≠jf0∨hnum t 1 2≠many then 4
  else if t.extract (2+K.M.wide many.toNat) (6+K.M.wide many.toNat)≠tail (t.extract 0 (2+K.M.wide many.toNat)) then 5
  else if K.M.bad many.toNat (t.extract 2 (2+K.M.wide many.toNat)).data.toList=true then 4
  else if jwhole many.toNat (jset many.toNat t)≠t then 4 else 0
theorem jparts (m:Nat) (f:Nat→Bool) (h:m≤24):∃ r1 r2:ByteArray,jwhole m f=jf0++bytes m 1++r1∧jwhole m f=jf1 m++jb m f++r2:=by
  have E:=jwhole_eq m f h
  have h2:jwhole m f=jf1 m++jb m f++(tail (jfront m f)++zeros (58 - K.M.wide m)):=by rw [E,jfront];simp only [ByteArray.append_assoc]
  exact ⟨_,_,by rw [h2,jf1];simp only [ByteArray.append_assoc];rfl,h2⟩
theorem jset_whole (m:Nat) (f:Nat→Bool) (h:m≤24) (hf:K.M.Below m f):(jwhole m f).extract 2 (2+K.M.wide m)=jb m f∧jset m (jwhole m f)=f:=by
  obtain ⟨r1,r2,e1,e2⟩:=jparts m f h
  have x:(jwhole m f).extract 2 (2+K.M.wide m)=jb m f:=ex_mid _ (jf1 m) (jb m f) r2 2 _ e2 (by rw [jf1_size]) (by rw [jf1_size,jb_size])
  refine ⟨x,?_⟩
  unfold jset
  rw [x]
  funext i
  show K.M.bitAt (K.M.bytes m f).toArray.toList i=f i
  rw [List.toList_toArray]
  exact K.M.bytes_bit m f hf i
theorem bad_bytes (m:Nat) (f:Nat→Bool) (hf:K.M.Below m f):K.M.bad m (K.M.bytes m f)=false :=
  K.M.good (fun i hi hb=>by
    rw [K.M.bytes_bit m f hf] at hb
    exact Classical.byContradiction fun e=>by rw [hf i (by omega)] at hb;cases hb)
theorem jget_whole (m:Nat) (f:Nat→Bool) (h:m≤24) (hf:K.M.Below m f):jgetE (m:Nat) (jwhole m f)=0:=by
  obtain ⟨r1,r2,e1,e2⟩:=jparts m f h
  have E:=jwhole_eq m f h
  obtain ⟨s1,s2⟩:=jset_whole m f h hf
  have x1:(jwhole m f).extract 0 1=jf0:=ex_mid (jwhole m f) ⟨#[]⟩ jf0 (bytes m 1++r1) 0 1 (by rw [nil_app,e1,ByteArray.append_assoc]) rfl rfl
  have x2:=hnum_be _ _ _ _ 1 2 m 1 e1 (by rw [jf0_size]) (by rw [bytes_size,jf0_size]) rfl (by omega)
  have x3:(jwhole m f).extract (2+K.M.wide m) (6+K.M.wide m)=tail (jfront m f):=ex_mid (jwhole m f) (jfront m f) (tail (jfront m f)) (zeros (58 - K.M.wide m)) _ _ E (by rw [jfront_size]) (by rw [jfront_size,tail_size];omega)
  have x4:(jwhole m f).extract 0 (2+K.M.wide m)=jfront m f:=ex_mid (jwhole m f) ⟨#[]⟩ (jfront m f) (tail (jfront m f)++zeros (58 - K.M.wide m)) 0 _ (by rw [E,nil_app,ByteArray.append_assoc]) rfl (by rw [jfront_size];show _=0+_;omega)
  have x5:K.M.bad m (jb m f).data.toList=false:=by
    show K.M.bad m (K.M.bytes m f).toArray.toList=false
    rw [List.toList_toArray]
    exact bad_bytes m f hf
  unfold jgetE
  rw [Int.toNat_natCast,if_neg (by rw [jwhole_size m f h];simp),if_neg (by rw [x1,x2];simp;omega),if_neg (by rw [x3,x4];simp),if_neg (by rw [s1,x5];simp),if_neg (by rw [s2];simp)]
end Go.Proofs.YtmljgogdgmeceaaGreatDoor.M
namespace Go.Proofs.YtmljgogdgmeceaaGreatDoor
open Go.RowKit
def M.jput (m:Nat) (f:Nat→Bool):Value:=if m≤24 then .tuple #[.string (M.jwhole m f),.int .i64 0] else .tuple #[.string ⟨#[]⟩,.int .i64 3]
theorem M.jput_ok {m:Nat} {f:Nat→Bool} (h:m≤24):M.jput m f=.tuple #[.string (M.jwhole m f),.int .i64 0]:=if_pos h
theorem M.jput_no {m:Nat} {f:Nat→Bool} (h:¬ m≤24):M.jput m f=.tuple #[.string ⟨#[]⟩,.int .i64 3]:=if_neg h
set_option maxRecDepth 100000 in
set_option maxHeartbeats 2000000 in
theorem rjput_any {b g c m:Nat} {f:Nat→Bool} (w:World) (h:K.RSet w b g c m f) :
    Calls Tryz.prog 11 #[.pointer (some ⟨b,0,none⟩)] w fun e w'=>e=.returned (M.jput m f)∧Below w.heap.size w w':=by
  by_cases h24:m≤24
  · rw [M.jput_ok h24]
    have hw:=M.wide24 h24
    have C1:=Lib.hid (fun x=>rput_any M.jf0 (m:Nat) 1 x (by rw [M.jf0_size];omega) (by omega))
    have hfit:M.fitsB (m:Nat) 1=true:=by
      unfold M.fitsB
      simp only [decide_eq_true_eq]
      have e:(256:Int) ^ (1:Int).toNat=256:=by decide
      rw [e]
      omega
    rw [M.putS_yes hfit] at C1
    have e1:M.jf0++M.bytes ((m:Nat):Int).toNat (1:Int).toNat=M.jf1 m:=rfl
    rw [e1] at C1
    have C2:Hid (∀ x,Below w.heap.size w x→Calls Tryz.prog 15 #[.pointer (some ⟨b,0,none⟩)] x fun e w'=>e=.returned (.string (M.jb m f))∧Below x.heap.size x w'):=fun x hb=>K.refBytes_any x (h.below hb)
    have C3:Hid (∀ x,Calls Tryz.prog 37 #[.string (M.jfront m f)] x fun e w'=>e=.returned (.string (M.tail (M.jfront m f)))∧Below x.heap.size x w'):=fun x=>rtail_any (M.jfront m f) x (by rw [M.jfront_size];omega)
    have C4:=Lib.hid (fun x=>rpad_any (M.jfront m f++M.tail (M.jfront m f)) (by rw [M.jsum_size];omega) x)
    have e2:M.pad (M.jfront m f++M.tail (M.jfront m f))=M.jwhole m f:=rfl
    rw [e2] at C4
    have hs:(M.jfront m f).size≤100∧(M.jfront m f++M.tail (M.jfront m f)).size≤100:=⟨by rw [M.jfront_size];omega,by rw [M.jsum_size];omega⟩
    obtain ⟨hs1,hs2⟩:=hs
    have hs3:(M.jf1 m).size≤100:=by rw [M.jf1_size];decide
    have hs4:(M.jb m f).size≤100:=by rw [M.jb_size];omega
    have hs5:(M.tail (M.jfront m f)).size≤100:=by rw [M.tail_size];decide
    have h0:=h.c0
    have hj0:(⟨#[74]⟩:ByteArray)=M.jf0:=rfl
    have HF:Hid (M.jf1 m++M.jb m f=M.jfront m f):=rfl
    obtain ⟨W,hW⟩:∃ W,W=M.jwhole m f:=⟨_,rfl⟩
    rw [←hW] at C4 ⊢
    obtain ⟨f0,hf0⟩:∃ x,x=M.jf0:=⟨_,rfl⟩
    rw [←hf0] at C1 hj0
    obtain ⟨f1,hf1⟩:∃ x,x=M.jf1 m:=⟨_,rfl⟩
    rw [←hf1] at C1 HF hs3
    obtain ⟨fb,hfb⟩:∃ x,x=M.jb m f:=⟨_,rfl⟩
    rw [←hfb] at C2 HF hs4
    obtain ⟨tl,htl⟩:∃ x,x=M.tail (M.jfront m f):=⟨_,rfl⟩
    rw [←htl] at C3 C4 hs2 hs5
    obtain ⟨fr,hfr⟩:∃ x,x=M.jfront m f:=⟨_,rfl⟩
    rw [←hfr] at C3 C4 HF hs1 hs2
    have hff:=HF.out
    have hd:decide ((24:Int) < (m:Int))=false:=by simp;omega
    have hd':¬ (24:Int) < (m:Int):=by omega
    clear h hfit hW hf0 hf1 hfb htl hfr e1 e2 hw h24 HF
    go_enter Tryz.func11,Tryz.ntmps11
    go_wp2_with fail
    refine (C1.out _).mono ?_
    rintro e w1 ⟨rfl,hb1⟩
    have HB1:=Lib.hid hb1
    clear hb1 C1
    go_wp2_with fail
    refine (C2.out _ HB1.out).mono ?_
    rintro e w2 ⟨rfl,hb2⟩
    have HB2:=Lib.hid (HB1.out.trans (hb2.mono HB1.out.size))
    clear hb2 C2 HB1
    go_wp2_with fail
    refine (C3.out _).mono ?_
    rintro e w3 ⟨rfl,hb3⟩
    have HB3:=Lib.hid (HB2.out.trans (hb3.mono HB2.out.size))
    clear hb3 C3 HB2
    go_wp2_with fail
    refine (C4.out _).mono ?_
    rintro e w4 ⟨rfl,rfl⟩
    go_wp2_with fail
    go_ret2
    exact ⟨rfl,HB3.out⟩
  · rw [M.jput_no h24]
    have h0:=h.c0
    have hd:decide ((24:Int) < (m:Int))=true:=by simp;omega
    have hd':(24:Int) < (m:Int):=by omega
    clear h h24
    go_enter Tryz.func11,Tryz.ntmps11
    go_wp2_with fail
    go_ret2
    exact ⟨rfl,Below.refl _ _⟩
end Go.Proofs.YtmljgogdgmeceaaGreatDoor
namespace Go.Proofs.YtmljgogdgmeceaaGreatDoor
open Go.RowKit
theorem M.ex_one19 (s:ByteArray) (h:0 < s.size) (c:UInt8):s.extract 0 1=⟨#[c]⟩↔s[0]'h=c:=by
  have:=M.ex_at s 0 h
  rw [Nat.zero_add] at this
  rw [this]
  constructor
  · intro e
    injection e with e
    simpa using e
  · intro e
    rw [e]
theorem u8_eq19 (c:UInt8) (n:Nat) (h:n < 256):((c.toNat:Int)==(n:Int))=decide (c=UInt8.ofNat n):=by
  rw [Bool.eq_iff_iff,beq_iff_eq,decide_eq_true_eq]
  constructor
  · intro e
    apply UInt8.toNat_inj.1
    rw [UInt8.toNat_ofNat']
    omega
  · intro e
    rw [e,UInt8.toNat_ofNat']
    omega
theorem eq_of_list19 {a b:ByteArray} (h:(a.toList==b.toList)=true):a=b:=by
  have h:=beq_iff_eq.1 h
  rw [ByteArray.toList_eq,ByteArray.toList_eq] at h
  exact M.ba_ext h
theorem ne_of_list19 {a b:ByteArray} (h:(a.toList==b.toList)=false):a≠b:=fun e=>by rw [e,str_eq_self] at h;cases h
theorem K.M.most_nat {m:Nat} (h:m≤1000):K.M.most (m:Int)=m:=by
  unfold K.M.most
  rw [if_neg (by omega),if_neg (by omega)]
  rfl
def RJ19 (many:Int) (t:ByteArray) (w:World) (e:Ending) (w':World):Prop :=
  ∃ p,e=.returned (.tuple #[.pointer p,.int .i64 (M.jgetE many t)])∧(M.jgetE many t≠0→p=none)∧(M.jgetE many t=0→∃ (m b g c:Nat),many=(m:Int)∧m≤24∧p=some ⟨b,0,none⟩∧K.RSet w' b g c m (M.jset m t))∧Below w.heap.size w w'
theorem RJ19.no {many:Int} {t:ByteArray} {w w':World} {k:Int} (h:M.jgetE many t=k) (hk:k≠0) (hb:Below w.heap.size w w'):RJ19 many t w (.returned (.tuple #[.pointer none,.int .i64 k])) w' :=
  ⟨none,by rw [h],fun _=>rfl,fun e=>absurd (h.symm.trans e) hk,hb⟩
theorem RJ19.yes {m b g c:Nat} {t:ByteArray} {w w':World} (h:M.jgetE (m:Nat) t=0) (hm:m≤24) (hs:K.RSet w' b g c m (M.jset m t)) (hb:Below w.heap.size w w'):RJ19 (m:Nat) t w (.returned (.tuple #[.pointer (some ⟨b,0,none⟩),.int .i64 0])) w' :=
  ⟨_,by rw [h],fun e=>absurd h e,fun _=>⟨m,b,g,c,rfl,hm,rfl,hs⟩,hb⟩
set_option maxRecDepth 100000 in
set_option maxHeartbeats 4000000 in
theorem rjget_any (many:Int) (t:ByteArray) (w:World) :
    Calls Tryz.prog 13 #[.int .i64 many,.string t] w fun e w'=>RJ19 many t w e w':=by
  by_cases h:t.size=64
  case neg =>
    have HN:Hid (RJ19 many t w (.returned (.tuple #[.pointer none,.int .i64 12])) w):=RJ19.no (by unfold M.jgetE;rw [if_pos h]) (by decide) (Below.refl _ _)
    have hd:((t.size:Int)==64)=false:=by rw [beq_eq_false_iff_ne];omega
    have hd':((t.size:Int) != 64)=true:=by rw [bne,hd];rfl
    clear h
    go_enter Tryz.func13,Tryz.ntmps13
    go_wp2_with fail
    go_ret2
    exact HN.out
  have hd:((t.size:Int)==64)=true:=by rw [beq_iff_eq];omega
  have hd':((t.size:Int) != 64)=false:=by rw [bne,hd];rfl
  by_cases hm:many < 0∨24 < many
  · have HN:Hid (RJ19 many t w (.returned (.tuple #[.pointer none,.int .i64 4])) w):=RJ19.no (by unfold M.jgetE;rw [if_neg (fun e=>e h),if_pos (hm.elim Or.inl (fun e=>Or.inr (Or.inl e)))]) (by decide) (Below.refl _ _)
    have hc:many < 0∨(¬ many < 0∧24 < many):=by omega
    clear h hm
    rcases hc with h1 | ⟨h1,h2⟩
    all_goals
      go_enter Tryz.func13,Tryz.ntmps13
      go_wp2_with fail
      go_ret2
      exact HN.out
  obtain ⟨m,rfl⟩:∃ m:Nat,many=m:=⟨many.toNat,by omega⟩
  have h24:m≤24:=by omega
  have hw3:=M.wide24 h24
  have h0:¬ (m:Int) < 0:=by omega
  have h0':¬ (24:Int) < (m:Int):=by omega
  have hl0:0 < t.size:=by omega
  have hl1:1 < t.size:=by omega
  have hex:=M.ex_one19 t hl0 74
  have hnum:=M.hnum_at t 1 hl1
  obtain ⟨cc,hc⟩:∃ c,c=t[0]'hl0:=⟨_,rfl⟩
  obtain ⟨ck,hk⟩:∃ c,c=t[1]'hl1:=⟨_,rfl⟩
  have x0:∀ h:0 < t.size,t[0]'h=cc:=fun _=>hc.symm
  have x1:∀ h:1 < t.size,t[1]'h=ck:=fun _=>hk.symm
  rw [←hc] at hex
  rw [←hk] at hnum
  have he:((cc.toNat:Int)==74)=decide (cc=74):=u8_eq19 cc 74 (by decide)
  have hkb:=ck.toNat_lt
  have v1:IntKind.i64.wrap (ck.toNat:Int)=(ck.toNat:Int):=by rw [IntKind.wrap_i64];omega
  have N1:Hid (((cc.toNat:Int)==74)=false→M.jgetE (m:Nat) t=4):=fun e=>by
    unfold M.jgetE
    rw [if_neg (fun e=>e h),if_pos (Or.inr (Or.inr (Or.inl (fun q=>by rw [he,decide_eq_true (hex.1 q)] at e;cases e))))]
  have N2:Hid (((ck.toNat:Int)==(m:Int))=false→M.jgetE (m:Nat) t=4):=fun e=>by
    unfold M.jgetE
    rw [if_neg (fun e=>e h),if_pos (Or.inr (Or.inr (Or.inr (fun q=>by rw [hnum] at q;rw [q] at e;simp at e))))]
  have K0:((cc.toNat:Int)==74)=true→((ck.toNat:Int)==(m:Int))=true→¬ ((m:Int) < 0∨24 < (m:Int)∨t.extract 0 1≠M.jf0∨M.hnum t 1 2≠(m:Int)):=fun e e2 q=>by
    rcases q with q | q | q | q
    · omega
    · omega
    · exact q (hex.2 (by rw [he,decide_eq_true_eq] at e;exact e))
    · exact q (by rw [hnum];exact beq_iff_eq.1 e2)
  obtain ⟨wd,hwd⟩:∃ x,x=K.M.wide m:=⟨_,rfl⟩
  obtain ⟨n,hn⟩:∃ x,x=2+wd:=⟨_,rfl⟩
  obtain ⟨n4,hn4⟩:∃ x,x=6+wd:=⟨_,rfl⟩
  have E0:((cc.toNat:Int)==74)=true→((ck.toNat:Int)==(m:Int))=true→M.jgetE (m:Nat) t=if t.extract n n4≠M.tail (t.extract 0 n) then 5 else if K.M.bad m (t.extract 2 n).data.toList=true then 4 else if M.jwhole m (M.jset m t)≠t then 4 else 0:=fun e e2=>by
    unfold M.jgetE
    rw [if_neg (fun e=>e h),if_neg (K0 e e2),Int.toNat_natCast,←hwd,←hn,←hn4]
  have hset:M.jset m t=K.M.bitAt (t.extract 2 n).data.toList:=by unfold M.jset;rw [←hwd,←hn]
  have hlen:(t.extract 2 n).data.toList.length=wd:=by rw [Array.length_toList];show (t.extract 2 n).size=wd;rw [ByteArray.size_extract];omega
  have CT:Hid (∀ x,Calls Tryz.prog 37 #[.string (t.extract 0 n)] x fun e w'=>e=.returned (.string (M.tail (t.extract 0 n)))∧Below x.heap.size x w'):=fun x=>rtail_any (t.extract 0 n) x (by rw [ByteArray.size_extract];omega)
  have hrE:K.M.readE m (t.extract 2 n).data.toList=if K.M.bad m (t.extract 2 n).data.toList=true then 4 else 0:=by
    unfold K.M.readE
    rw [hlen,←hwd,if_neg (by omega),if_neg (by omega)]
  have CR:Hid (∀ x,Calls Tryz.prog 43 #[.int .i64 (m:Nat),.string (t.extract 2 n)] x fun e w'=>K.RReadPost m (t.extract 2 n).data.toList x e w'):=fun x=>by
    have:=K.refRead_any (m:Nat) (t.extract 2 n) x
    rw [K.M.most_nat (by omega)] at this
    exact this
  have CP:Hid (∀ x b g c,K.RSet x b g c m (M.jset m t)→Calls Tryz.prog 11 #[.pointer (some ⟨b,0,none⟩)] x fun e w'=>e=.returned (.tuple #[.string (M.jwhole m (M.jset m t)),.int .i64 0])∧Below x.heap.size x w'):=fun x b g c hs=>by
    have:=rjput_any x hs
    rw [M.jput_ok h24] at this
    exact this
  have HN5:Hid (((cc.toNat:Int)==74)=true→((ck.toNat:Int)==(m:Int))=true→((t.extract n n4).toList==(M.tail (t.extract 0 n)).toList)=false→M.jgetE (m:Nat) t=5):=fun e e2 e3=>by rw [E0 e e2,if_pos (ne_of_list19 e3)]
  have HN6:Hid (((cc.toNat:Int)==74)=true→((ck.toNat:Int)==(m:Int))=true→((t.extract n n4).toList==(M.tail (t.extract 0 n)).toList)=true→K.M.bad m (t.extract 2 n).data.toList=true→M.jgetE (m:Nat) t=4):=fun e e2 e3 e4=>by rw [E0 e e2,if_neg (fun q=>q (eq_of_list19 e3)),if_pos e4]
  have HN7:Hid (((cc.toNat:Int)==74)=true→((ck.toNat:Int)==(m:Int))=true→((t.extract n n4).toList==(M.tail (t.extract 0 n)).toList)=true→K.M.bad m (t.extract 2 n).data.toList=false→((M.jwhole m (M.jset m t)).toList==t.toList)=false→M.jgetE (m:Nat) t=4):=fun e e2 e3 e4 e5=>by rw [E0 e e2,if_neg (fun q=>q (eq_of_list19 e3)),if_neg (by rw [e4];decide),if_pos (ne_of_list19 e5)]
  have HN8:Hid (((cc.toNat:Int)==74)=true→((ck.toNat:Int)==(m:Int))=true→((t.extract n n4).toList==(M.tail (t.extract 0 n)).toList)=true→K.M.bad m (t.extract 2 n).data.toList=false→((M.jwhole m (M.jset m t)).toList==t.toList)=true→M.jgetE (m:Nat) t=0):=fun e e2 e3 e4 e5=>by rw [E0 e e2,if_neg (fun q=>q (eq_of_list19 e3)),if_neg (by rw [e4];decide),if_neg (fun q=>q (eq_of_list19 e5))]
  have HM:=Lib.hid h24
  have HRE:=Lib.hid hrE
  have HSET:Hid (K.M.bitAt (t.extract 2 n).data.toList=M.jset m t):=hset.symm
  have r1:IntKind.i64.wrap ((m:Int)+7)=((m+7:Nat):Int):=by rw [IntKind.wrap_i64];omega
  have hw8:wd=(m+7) / 8:=by rw [hwd];rfl
  have r2:((m+7:Nat):Int).tdiv 8=(wd:Int):=by rw [Int.tdiv_eq_ediv_of_nonneg (by omega)];omega
  have r3:IntKind.i64.wrap (wd:Int)=(wd:Int):=by rw [IntKind.wrap_i64];omega
  have r4:IntKind.i64.wrap (2+(wd:Int))=(n:Int):=by rw [IntKind.wrap_i64];omega
  have r5:IntKind.i64.wrap ((n:Int)+4)=(n4:Int):=by rw [IntKind.wrap_i64];omega
  have b1:(n:Int)≤(n4:Int):=by omega
  have b2:(n4:Int)≤(t.size:Int):=by omega
  have b3:(0:Int)≤(n:Int):=by omega
  have b4:(2:Int)≤(n:Int):=by omega
  have b5:(n:Int)≤(t.size:Int):=by omega
  obtain ⟨m7,hm7⟩:∃ x,x=m+7:=⟨_,rfl⟩
  rw [←hm7] at r1 r2
  clear h hm h24 hw3 hwd hn hn4 hex hnum hc hk he K0 E0 hset hlen hrE hw8 hm7
  cases k1:((cc.toNat:Int)==74)
  · have HE:=N1.out k1
    have HZ:=Lib.hid (RJ19.no HE (by decide) (Below.refl w.heap.size w))
    have k1':((cc.toNat:Int) != 74)=true:=by rw [bne,k1];rfl
    clear HE
    go_enter Tryz.func13,Tryz.ntmps13
    go_wp2_with fail
    go_ret2
    exact HZ.out
  have k1':((cc.toNat:Int) != 74)=false:=by rw [bne,k1];rfl
  cases k2:((ck.toNat:Int)==(m:Int))
  · have HE:=N2.out k2
    have HZ:=Lib.hid (RJ19.no HE (by decide) (Below.refl w.heap.size w))
    have k2':((ck.toNat:Int) != (m:Int))=true:=by rw [bne,k2];rfl
    clear HE
    go_enter Tryz.func13,Tryz.ntmps13
    go_wp2_with fail
    go_ret2
    exact HZ.out
  have k2':((ck.toNat:Int) != (m:Int))=false:=by rw [bne,k2];rfl
  go_enter Tryz.func13,Tryz.ntmps13
  go_wp2_with fail
  go_region_held3 (fun _=>True) (first | trivial)
    (first
      | (go_at_call 37;refine (CT.out _).mono ?_;rintro e w2 ⟨rfl,h2⟩;have H2:Hid (Below w.heap.size w w2):=(by show Below _ _ _;first | exact h2 | exact (Below.refl w.heap.size w).drew.trans h2)))
  cases k3:((t.extract n n4).toList==(M.tail (t.extract 0 n)).toList)
  · have HZ:=Lib.hid (RJ19.no (HN5.out k1 k2 k3) (by decide) H2.out)
    have k3':((t.extract n n4).toList != (M.tail (t.extract 0 n)).toList)=true:=by rw [bne,k3];rfl
    go_wp2_with fail
    go_ret2
    exact HZ.out
  have k3':((t.extract n n4).toList != (M.tail (t.extract 0 n)).toList)=false:=by rw [bne,k3];rfl
  go_wp2_with fail
  refine (CR.out _).mono ?_
  rintro e w3 ⟨p,rfl,hp1,hp2,hb3⟩
  have H3:=Lib.hid (H2.out.trans (hb3.mono H2.out.size))
  clear hb3
  cases k4:K.M.bad m (t.extract 2 n).data.toList
  · have e0:K.M.readE m (t.extract 2 n).data.toList=0:=by rw [HRE.out,if_neg (by rw [k4];decide)]
    obtain ⟨b,g,c,rfl,hs⟩:=hp2 e0
    rw [HSET.out] at hs
    rw [e0]
    have G3:=Lib.hid hs
    have C5:=Lib.hid (CP.out w3 b g c hs)
    clear hs hp1 hp2 e0
    obtain ⟨W,hW⟩:∃ W,W=M.jwhole m (M.jset m t):=⟨_,rfl⟩
    rw [←hW] at C5 HN7 HN8
    clear hW
    go_wp2_with fail
    refine C5.out.mono ?_
    rintro e w4 ⟨rfl,hb4⟩
    have G4:=Lib.hid (G3.out.below hb4)
    have H4:=Lib.hid (H3.out.trans (hb4.mono H3.out.size))
    clear hb4 C5 G3
    cases k5:(W.toList==t.toList)
    · have HZ:=Lib.hid (RJ19.no (HN7.out k1 k2 k3 k4 k5) (by decide) H4.out)
      have k5':(W.toList != t.toList)=true:=by rw [bne,k5];rfl
      go_wp2_with fail
      go_ret2
      exact HZ.out
    · have HZ:=Lib.hid (RJ19.yes (HN8.out k1 k2 k3 k4 k5) HM.out G4.out H4.out)
      have k5':(W.toList != t.toList)=false:=by rw [bne,k5];rfl
      go_wp2_with fail
      go_ret2
      exact HZ.out
  · have e0:K.M.readE m (t.extract 2 n).data.toList=4:=by rw [HRE.out,if_pos k4]
    obtain rfl:=hp1 (by rw [e0];decide)
    rw [e0]
    have HZ:=Lib.hid (RJ19.no (HN6.out k1 k2 k3 k4) (by decide) H3.out)
    clear hp1 hp2 e0
    go_wp2_with fail
    go_ret2
    exact HZ.out
end Go.Proofs.YtmljgogdgmeceaaGreatDoor
namespace Go.Proofs.YtmljgogdgmeceaaGreatDoor
open Go.RowKit
theorem jmay_any (n:Int) (w:World):Calls Tryz.prog 31 #[.int .i64 n] w fun e w'=>e=.returned (.bool (decide (0≤n) && decide (n≤24)))∧w'=w:=by
  by_cases h1:0≤n
  · have d1:decide (0≤n)=true:=by simpa using h1
    rw [d1]
    clear h1
    go_enter Tryz.func31,Tryz.ntmps31
    go_wp2_with fail
    go_ret
    exact ⟨by simp,rfl⟩
  · have d1:decide (0≤n)=false:=by simpa using h1
    rw [d1]
    clear h1
    go_enter Tryz.func31,Tryz.ntmps31
    go_wp2_with fail
    go_ret
    exact ⟨by simp,rfl⟩
theorem jmay_yes {m:Nat} (h:m≤24) (w:World):Calls Tryz.prog 31 #[.int .i64 (m:Nat)] w fun e w'=>e=.returned (.bool true)∧w'=w:=by
  have:=jmay_any (m:Nat) w
  have e:(decide ((0:Int)≤(m:Nat)) && decide (((m:Nat):Int)≤24))=true:=by simp;omega
  rw [e] at this
  exact this
theorem jmay_no {n:Int} (h:n < 0∨24 < n) (w:World):Calls Tryz.prog 31 #[.int .i64 n] w fun e w'=>e=.returned (.bool false)∧w'=w:=by
  have:=jmay_any n w
  have e:(decide ((0:Int)≤n) && decide (n≤24))=false:=by simp;omega
  rw [e] at this
  exact this
theorem jput_nil (w:World):Calls Tryz.prog 10 #[.pointer none] w fun e w'=>e=.returned (.tuple #[.string ⟨#[]⟩,.int .i64 3])∧Below w.heap.size w w':=by
  go_enter Tryz.func10,Tryz.ntmps10
  go_wp2_with fail
  go_ret2
  exact ⟨rfl,Below.refl _ _⟩
set_option maxRecDepth 100000 in
set_option maxHeartbeats 2000000 in
theorem jput_any {a m:Nat} {f:Nat→Bool} (w:World) (h:K.Set w a m f) :
    Calls Tryz.prog 10 #[.pointer (some ⟨a,0,none⟩)] w fun e w'=>e=.returned (M.jput m f)∧Below w.heap.size w w':=by
  have CM:Hid (∀ y,Below w.heap.size w y→Calls Tryz.prog 16 #[.pointer (some ⟨a,0,none⟩)] y fun e w'=>e=.returned (.int .i64 (m:Nat))∧w'=y):=fun y hb=>K.many_any y (h.below hb h.box.lt)
  by_cases h24:m≤24
  · rw [M.jput_ok h24]
    have hw:=M.wide24 h24
    have CY:=Lib.hid (fun x=>jmay_yes h24 x)
    have C1:=Lib.hid (fun x=>put_any M.jf0 (m:Nat) 1 x (by rw [M.jf0_size];omega) (by omega) (by decide) (by decide))
    have hfit:M.fitsB (m:Nat) 1=true:=by
      unfold M.fitsB
      simp only [decide_eq_true_eq]
      have e:(256:Int) ^ (1:Int).toNat=256:=by decide
      rw [e]
      omega
    rw [M.putS_yes hfit] at C1
    have e1:M.jf0++M.bytes ((m:Nat):Int).toNat (1:Int).toNat=M.jf1 m:=rfl
    rw [e1] at C1
    have C2:Hid (∀ x,Below w.heap.size w x→Calls Tryz.prog 14 #[.pointer (some ⟨a,0,none⟩)] x fun e w'=>e=.returned (.string (M.jb m f))∧Below x.heap.size x w'):=fun x hb=>by
      refine (K.bytes_any x (h.below hb h.box.lt)).mono ?_
      rintro e y ⟨q1,n,q2⟩
      exact ⟨q1,by rw [q2];exact below_drewN (Below.refl _ _) n⟩
    have C3:Hid (∀ x,Calls Tryz.prog 34 #[.string (M.jfront m f)] x fun e w'=>e=.returned (.string (M.tail (M.jfront m f)))∧Below x.heap.size x w'):=fun x=>tail_any (M.jfront m f) x (by rw [M.jfront_size];omega)
    have C4:=Lib.hid (fun x=>pad_any (M.jfront m f++M.tail (M.jfront m f)) (by rw [M.jsum_size];omega) x)
    have e2:M.pad (M.jfront m f++M.tail (M.jfront m f))=M.jwhole m f:=rfl
    rw [e2] at C4
    have hs:(M.jfront m f).size≤100∧(M.jfront m f++M.tail (M.jfront m f)).size≤100:=⟨by rw [M.jfront_size];omega,by rw [M.jsum_size];omega⟩
    obtain ⟨hs1,hs2⟩:=hs
    have hs3:(M.jf1 m).size≤100:=by rw [M.jf1_size];decide
    have hs4:(M.jb m f).size≤100:=by rw [M.jb_size];omega
    have hs5:(M.tail (M.jfront m f)).size≤100:=by rw [M.tail_size];decide
    have hj0:(⟨#[74]⟩:ByteArray)=M.jf0:=rfl
    have HF:Hid (M.jf1 m++M.jb m f=M.jfront m f):=rfl
    obtain ⟨W,hW⟩:∃ W,W=M.jwhole m f:=⟨_,rfl⟩
    rw [←hW] at C4 ⊢
    obtain ⟨f0,hf0⟩:∃ x,x=M.jf0:=⟨_,rfl⟩
    rw [←hf0] at C1 hj0
    obtain ⟨f1,hf1⟩:∃ x,x=M.jf1 m:=⟨_,rfl⟩
    rw [←hf1] at C1 HF hs3
    obtain ⟨fb,hfb⟩:∃ x,x=M.jb m f:=⟨_,rfl⟩
    rw [←hfb] at C2 HF hs4
    obtain ⟨tl,htl⟩:∃ x,x=M.tail (M.jfront m f):=⟨_,rfl⟩
    rw [←htl] at C3 C4 hs2 hs5
    obtain ⟨fr,hfr⟩:∃ x,x=M.jfront m f:=⟨_,rfl⟩
    rw [←hfr] at C3 C4 HF hs1 hs2
    have hff:=HF.out
    clear h hfit hW hf0 hf1 hfb htl hfr e1 e2 hw h24 HF
    go_enter Tryz.func10,Tryz.ntmps10
    go_wp2_with fail
    refine (CM.out _ (Below.refl _ _)).mono ?_
    rintro e w0 ⟨rfl,rfl⟩
    go_wp2_with fail
    refine (CY.out _).mono ?_
    rintro e w0 ⟨rfl,rfl⟩
    go_wp2_with fail
    refine (CM.out _ (Below.refl _ _)).mono ?_
    rintro e w0 ⟨rfl,rfl⟩
    go_wp2_with fail
    refine (C1.out _).mono ?_
    rintro e w1 ⟨rfl,hb1⟩
    have HB1:=Lib.hid hb1
    clear hb1 C1 CM CY
    go_wp2_with fail
    refine (C2.out _ HB1.out).mono ?_
    rintro e w2 ⟨rfl,hb2⟩
    have HB2:=Lib.hid (HB1.out.trans (hb2.mono HB1.out.size))
    clear hb2 C2 HB1
    go_wp2_with fail
    refine (C3.out _).mono ?_
    rintro e w3 ⟨rfl,hb3⟩
    have HB3:=Lib.hid (HB2.out.trans (hb3.mono HB2.out.size))
    clear hb3 C3 HB2
    go_wp2_with fail
    refine (C4.out _).mono ?_
    rintro e w4 ⟨rfl,hb4⟩
    have HB4:=Lib.hid (HB3.out.trans (hb4.mono HB3.out.size))
    clear hb4 C4 HB3
    go_wp2_with fail
    go_ret2
    exact ⟨rfl,HB4.out⟩
  · rw [M.jput_no h24]
    have CY:=Lib.hid (fun x=>jmay_no (n:=(m:Nat)) (by omega) x)
    clear h h24
    go_enter Tryz.func10,Tryz.ntmps10
    go_wp2_with fail
    refine (CM.out _ (Below.refl _ _)).mono ?_
    rintro e w0 ⟨rfl,rfl⟩
    go_wp2_with fail
    refine (CY.out _).mono ?_
    rintro e w0 ⟨rfl,rfl⟩
    go_wp2_with fail
    go_ret2
    exact ⟨rfl,Below.refl _ _⟩
end Go.Proofs.YtmljgogdgmeceaaGreatDoor
