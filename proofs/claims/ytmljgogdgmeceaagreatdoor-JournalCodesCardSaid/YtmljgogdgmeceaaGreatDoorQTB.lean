/-
  AEnv UEnv IArg OArg
-/
import Derived.Test.YtmljgogdgmeceaaGreatDoorRows
import Derived.Test.YtmljgogdgmeceaaGreatDoorTie
import Derived.Test.YtmljgogdgmeceaaGreatDoorQPD
import Derived.Test.YtmljgogdgmeceaaGreatDoorQMP
import Derived.Test.YtmljgogdgmeceaaGreatDoorQMA
import Derived.ProofKit
import Derived.LaidMore
import Derived.LaidHandle
import Derived.MakeChecks
import Derived.OpenShut
import Derived.SevenTiedAt
import Derived.ChangeSame
import Derived.Stop.Joined
import Derived.Deep.Strs
namespace Go.Proofs.YtmljgogdgmeceaaGreatDoor
open Go.ChangeShapes Go.WideShapes Go.ChangeAt Go.RowKit
def laidL:List (String×DataW Unit):=[("errors.errorType",Rows.laid_errors_errorType),("solder/loghead.none",Rows.laid_solder_loghead_none)]
theorem door_met (os:Os) (args:Array Value):laidMetH Tryz.prog laidL ((World.doorLaid Tryz.prog 400 os).forCall (fun _ _=>0) ⟨#[],args,[]⟩).memory :=
  laidMetH_of_parts3 (fuel:=8) (laidMet_of_run' 8 (by kernel_rfl) (by kernel_rfl)) (by kernel_rfl) (by kernel_rfl)
theorem none_of_laid14 {W:World} (h:laidMetH Tryz.prog laidL W):laidMet Tryz.prog [("solder/loghead.none",Rows.laid_solder_loghead_none)] W :=
  (show laidMet Tryz.prog [("solder/loghead.none",Rows.laid_solder_loghead_none)] W∧handlesMet Tryz.prog [("errors.errorType",Rows.laid_errors_errorType)] W from h).1
theorem Tryz.et14:Tryz.prog.globalNamed "errors.errorType"=some 1:=by kernel_rfl
theorem Tryz.rt14:(Tryz.prog.cutTypes.find? (·.1 == "internal/reflectlite.rtype")).map (·.2)=some 220:=by kernel_rfl
theorem Tryz.oneRow14:((List.range 285).filter fun t=>Tryz.prog.rowNamed t [101,114,114,111,114])=[124]:=by kernel_rfl
theorem Tryz.size14:Tryz.prog.types.size=285:=by kernel_rfl
theorem type_of_laid14 {W:World} (h:laidMetH Tryz.prog laidL W):W.cell? ⟨1,0,none⟩=some (.iface 220 (.agg #[.pointer (some ⟨3,124,none⟩)])):=by
  have h':laidMet Tryz.prog [("solder/loghead.none",Rows.laid_solder_loghead_none)] W∧handlesMet Tryz.prog [("errors.errorType",Rows.laid_errors_errorType)] W:=h
  obtain ⟨name,u,ty,e1,e2,e3,e4,e5⟩:=h'.2 _ (List.mem_singleton.2 rfl)
  have en:name=[101,114,114,111,114]:=(Option.some.inj e1).symm
  subst en
  obtain rfl:=Option.some.inj (Tryz.rt14.symm.trans e2)
  have hm:ty∈(List.range 285).filter fun t=>Tryz.prog.rowNamed t [101,114,114,111,114]:=List.mem_filter.2 ⟨List.mem_range.2 (by rw [←Tryz.size14];exact e3),e4⟩
  rw [Tryz.oneRow14] at hm
  obtain rfl:=List.mem_singleton.1 hm
  have hh:typeHandle Tryz.prog 124=.pointer (some ⟨3,124,none⟩):=by kernel_rfl
  rw [hh] at e5
  simpa using World.var?_cell Tryz.et14 e5 0
end Go.Proofs.YtmljgogdgmeceaaGreatDoor
namespace Go.Proofs.YtmljgogdgmeceaaGreatDoor
open Go.ChangeShapes Go.WideShapes Go.ChangeAt Go.RowKit Go.Deep
theorem Tryz.own:ownKnob Tryz.prog.godebug=none:=by kernel_rfl
theorem three_of (l:List Value) (h:l.length=3):∃ a b c,l=[a,b,c]:=by
  match l,h with
  | [a, b, c], _ => exact ⟨a,b,c,rfl⟩
theorem Tryz.gNoneType:(Tryz.prog.globals[0]?).map (·.type)=some 96:=by kernel_rfl
set_option maxRecDepth 100000 in
theorem none_env15 {W:World} (h:laidMetH Tryz.prog laidL W):Env10 W:=by
  replace h:=none_of_laid14 h
  obtain ⟨ps,⟨g',t',cs,fuel,p,q,hg',ht',hvar,hd,_,_⟩,_⟩:=h
  obtain rfl:=Option.some.inj (Tryz.gNone.symm.trans hg')
  obtain rfl:=Option.some.inj (Tryz.gNoneType.symm.trans ht')
  unfold Env10
  rw [hvar]
  have c3:Tryz.prog.cellsOf 96=3:=by kernel_rfl
  have c1:Tryz.prog.cellsOf 3=1:=by kernel_rfl
  obtain ⟨y0,y1,y2,m,hx,hl,hy0,hy1,hy2⟩:=trod_struct3 Tryz.underlying96 hd
  rw [c3] at hl
  obtain ⟨e0,e1,e2,he⟩:=three_of cs.toList (by simpa using hl)
  rw [he] at hy0 hy1 hy2
  rw [c1] at hy0 hy1 hy2
  obtain ⟨x0,h0,g0,w0⟩:=DataW.trod_int Tryz.underlying3 hy0
  obtain ⟨x1,h1,g1,w1⟩:=DataW.trod_int Tryz.underlying3 hy1
  obtain ⟨x2,h2,g2,w2⟩:=DataW.trod_int Tryz.underlying3 hy2
  obtain rfl:e0=.int .i64 x0:=by have h:[e0]=[Value.int .i64 x0]:=h0;simpa using h
  obtain rfl:e1=.int .i64 x1:=by have h:[e1]=[Value.int .i64 x1]:=h1;simpa using h
  obtain rfl:e2=.int .i64 x2:=by have h:[e2]=[Value.int .i64 x2]:=h2;simpa using h
  subst g0 g1 g2
  have hx':=(Prod.mk.inj hx).1
  unfold Rows.laid_solder_loghead_none at hx'
  injection hx' with hx'
  injection hx' with a0 hx'
  injection hx' with a1 hx'
  injection hx' with a2 _
  injection a0 with a0
  injection a0 with _ a0
  injection a1 with a1
  injection a1 with _ a1
  injection a2 with a2
  injection a2 with _ a2
  subst a0 a1 a2
  congr 1
  exact Array.ext' he
theorem env_of_laid {W:World} (h:laidMetH Tryz.prog laidL W):Env10 W∧ErrT W:=⟨none_env15 h,type_of_laid14 h⟩
end Go.Proofs.YtmljgogdgmeceaaGreatDoor
namespace Go.Proofs.YtmljgogdgmeceaaGreatDoor
open Go.ChangeShapes Go.WideShapes Go.ChangeAt Go.RowKit Go.Deep
theorem three_of15 (l:List Value) (h:l.length=3):∃ a b c,l=[a,b,c]:=by
  match l,h with
  | [a, b, c], _ => exact ⟨a,b,c,rfl⟩
set_option maxRecDepth 100000 in
theorem cf_open {H:Type} {enc:TypeId×Value→H} {W:World} {r:Reach} {b0:Nat} {v:Value} {d:DataW H} {p:List MemPlace} (hval:Value.okWide Tryz.prog W r b0 45 v)
    (h:DataW.Trod enc Tryz.prog W 0 (fun _=>true) true 45 v d p) :
    ∃ a b c:Int,v=.agg #[.int .i64 a,.int .i64 b,.int .i64 c]∧d=.agg [.lit (.int .i64 a),.lit (.int .i64 b),.lit (.int .i64 c)]∧p=[]∧(Lit.int .i64 a).wf=true∧(Lit.int .i64 b).wf=true∧(Lit.int .i64 c).wf=true:=by
  obtain ⟨cs,rfl,hsz,_⟩:∃ cs,v=.agg cs∧cs.size=Tryz.prog.cellsOf 45∧Row.okWide Tryz.prog W r b0 45 cs:=by
    simpa [Value.okWide,Tryz.underlying45] using hval
  have c3:Tryz.prog.cellsOf 45=3:=by kernel_rfl
  have c1:Tryz.prog.cellsOf 3=1:=by kernel_rfl
  rw [c3] at hsz
  obtain ⟨l⟩:=cs
  obtain ⟨e0,e1,e2,rfl⟩:=three_of15 l hsz
  obtain ⟨fuel,hf⟩:=h
  obtain ⟨y0,y1,y2,m,hx,_,hy0,hy1,hy2⟩:=trod_struct3 Tryz.underlying45 hf
  rw [c1] at hy0 hy1 hy2
  obtain ⟨x0,h0,g0,w0⟩:=DataW.trod_int Tryz.underlying3 hy0
  obtain ⟨x1,h1,g1,w1⟩:=DataW.trod_int Tryz.underlying3 hy1
  obtain ⟨x2,h2,g2,w2⟩:=DataW.trod_int Tryz.underlying3 hy2
  obtain rfl:e0=.int .i64 x0:=by have h:[e0]=[Value.int .i64 x0]:=h0;simpa using h
  obtain rfl:e1=.int .i64 x1:=by have h:[e1]=[Value.int .i64 x1]:=h1;simpa using h
  obtain rfl:e2=.int .i64 x2:=by have h:[e2]=[Value.int .i64 x2]:=h2;simpa using h
  subst g0 g1 g2
  obtain ⟨rfl,rfl⟩:=Prod.mk.inj hx
  exact ⟨x0,x1,x2,rfl,rfl,rfl,w0,w1,w2⟩
set_option maxRecDepth 100000 in
theorem cf_shut {H:Type} {enc:TypeId×Value→H} {W:World} {base:Nat} {spare:Nat→Bool} {held:Bool} {a b c:Int} (wa:(Lit.int .i64 a).wf=true) (wb:(Lit.int .i64 b).wf=true) (wc:(Lit.int .i64 c).wf=true) :
    DataW.Trod enc Tryz.prog W base spare held 45 (.agg #[.int .i64 a,.int .i64 b,.int .i64 c]) (.agg [.lit (.int .i64 a),.lit (.int .i64 b),.lit (.int .i64 c)]) []:=by
  have c3:Tryz.prog.cellsOf 45=3:=by kernel_rfl
  have c1:Tryz.prog.cellsOf 3=1:=by kernel_rfl
  refine ⟨2,?_⟩
  have:=trod_struct3_mk (enc:=enc) (w:=W) (base:=base) (spare:=spare) (held:=held) (n:=1) (cs:=[.int .i64 a,.int .i64 b,.int .i64 c]) Tryz.underlying45 (by rw [c3];rfl)
    (by rw [c1];exact trod_int_mk 0 Tryz.underlying3 wa) (by rw [c1];exact trod_int_mk 0 Tryz.underlying3 wb) (by rw [c1];exact trod_int_mk 0 Tryz.underlying3 wc)
  exact this
end Go.Proofs.YtmljgogdgmeceaaGreatDoor
namespace Go.Proofs.YtmljgogdgmeceaaGreatDoor
open Go.RowKit Go.Maps
theorem Tryz.cellsInt19:Tryz.prog.cellsOf 3=1:=by kernel_rfl
theorem Tryz.cellsBool19:Tryz.prog.cellsOf 4=1:=by kernel_rfl
theorem add_block19 (a:Addr) (n:Nat):(a.add n).block=a.block:=by unfold Addr.add;split <;> rfl
theorem add_one19 (a:Addr) (m j:Nat) (hj:j≠0):a.add (m+j)=⟨(a.add m).block,(a.add m).off+j,none⟩:=by
  unfold Addr.add
  by_cases h:m=0
  · subst h
    simp [hj]
  · simp [h]
    omega
def Op19 (w:World) (ad:Addr) (x:Int) (v:Bool):Prop:=w.cell? ad=some (.int .i64 x)∧w.cell? ⟨ad.block,ad.off+1,none⟩=some (.bool v)
theorem Op19.below {w y:World} {ad:Addr} {x:Int} {v:Bool} (h:Op19 w ad x v) (hb:Below w.heap.size w y) (hl:ad.block < w.heap.size):Op19 y ad x v :=
  ⟨(hb.cell hl).trans h.1,(hb.cell (p:=⟨ad.block,ad.off+1,none⟩) hl).trans h.2⟩
def OpsAt19 (w:World) (v:Value):Prop:=∃ (A:Option Addr) (len cap:Nat),v=.slice A len cap ∧
  ∀ i,i < len→∃ (ad:Addr) (x:Int) (u:Bool),A=some ad∧ad.block < w.heap.size∧Op19 w (ad.add (i * 2)) x u
def IntsAt19 (w:World) (v:Value):Prop:=∃ (A:Option Addr) (len cap:Nat),v=.slice A len cap ∧
  ∀ i,i < len→∃ (ad:Addr) (x:Int),A=some ad∧ad.block < w.heap.size∧w.cell? (ad.add i)=some (.int .i64 x)
open Go.ChangeShapes Go.WideShapes Go.ChangeAt Go.Deep
set_option maxRecDepth 100000 in
theorem journalCodes_open1 {H:Type} {enc:TypeId×Value→H} {W:World} {r:Reach} {b0:Nat} {v:Value} {d:DataW H} {p:List MemPlace} (hval:Value.okWide Tryz.prog W r b0 22 v)
    (h:DataW.Trod enc Tryz.prog W 0 (fun _=>true) true 22 v d p):IntsAt19 W v:=by
  obtain ⟨A,len,cap,rfl⟩:=okWide_slice Tryz.underlying22 hval
  obtain ⟨fuel,hf⟩:=h
  rcases open_slice1 Tryz.underlying22 (by kernel_rfl) hf with ⟨hc,_⟩ | ⟨a,l,c,m,k,V,D,Pl,hc,_,hl,_,hmm,_,hall⟩
  · simp [Value.cells] at hc
    obtain ⟨rfl,rfl,rfl⟩:=hc
    exact ⟨none,0,0,rfl,fun i hi=>absurd hi (by omega)⟩
  · simp [Value.cells] at hc
    obtain ⟨rfl,rfl,rfl⟩:=hc
    simp only [if_true] at hmm
    subst hmm
    refine ⟨some a,len,m,rfl,fun i hi=>?_⟩
    obtain ⟨c0,t0⟩:=hall i (by omega)
    obtain ⟨s,h1,_⟩:=DataW.trod_int Tryz.underlying3 t0
    simp only [List.cons.injEq,and_true] at h1
    rw [h1] at c0
    have hlt:=World.block_lt_of_cell? W _ c0
    rw [add_block19] at hlt
    exact ⟨a,s,rfl,hlt,c0⟩
set_option maxRecDepth 100000 in
theorem journalMarks_open1 {H:Type} {enc:TypeId×Value→H} {W:World} {r:Reach} {b0:Nat} {v:Value} {d:DataW H} {p:List MemPlace} (hval:Value.okWide Tryz.prog W r b0 46 v)
    (h:DataW.Trod enc Tryz.prog W 0 (fun _=>true) true 46 v d p):OpsAt19 W v:=by
  obtain ⟨A,len,cap,rfl⟩:=okWide_slice Tryz.underlying46 hval
  obtain ⟨fuel,hf⟩:=h
  rcases open_slice Tryz.underlying46 hf with ⟨hc,_⟩ | ⟨a,l,c,m,k,D,Pl,hc,_,hl,_,hmm,_,hall⟩
  · simp [Value.cells] at hc
    obtain ⟨rfl,rfl,rfl⟩:=hc
    exact ⟨none,0,0,rfl,fun i hi=>absurd hi (by omega)⟩
  · simp [Value.cells] at hc
    obtain ⟨rfl,rfl,rfl⟩:=hc
    simp only [if_true] at hmm
    subst hmm
    refine ⟨some a,len,m,rfl,fun i hi=>?_⟩
    obtain ⟨cs,h1,h2⟩:=hall i (by omega)
    have ce:Tryz.prog.cellsOf 56=2:=by kernel_rfl
    rw [ce] at h1
    obtain ⟨_,hlen,hcell⟩:=World.cells?_some h1
    match cs,hlen with
    | [v0,v1],_ =>
      obtain ⟨y0,y1,k',_,_,g0,g1⟩:=trod_struct2 Tryz.underlying56 h2
      replace g0:DataW.trod enc Tryz.prog W 0 (fun _=>true) true k' 3 (([v0,v1].drop 0).take (Tryz.prog.cellsOf 3))=some y0:=g0
      replace g1:DataW.trod enc Tryz.prog W 0 (fun _=>true) true k' 4 (([v0,v1].drop 1).take (Tryz.prog.cellsOf 4))=some y1:=g1
      rw [Tryz.cellsInt19] at g0
      rw [Tryz.cellsBool19] at g1
      obtain ⟨n0,e0,_,_⟩:=DataW.trod_int Tryz.underlying3 g0
      obtain ⟨n1,e1,_⟩:=DataW.trod_bool Tryz.underlying4 g1
      obtain rfl:v0=.int .i64 n0:=by have h:[v0]=[Value.int .i64 n0]:=e0;simpa using h
      obtain rfl:v1=.bool n1:=by have h:[v1]=[Value.bool n1]:=e1;simpa using h
      have c0:=hcell 0 (by omega)
      have c1:=hcell 1 (by omega)
      rw [add_add] at c0 c1
      have hlt:a.block < W.heap.size:=by
        have:=World.block_lt_of_cell? W _ c0
        rwa [add_block19] at this
      refine ⟨a,n0,n1,rfl,hlt,⟨?_,?_⟩⟩
      · rw [Nat.add_zero] at c0;rw [c0];simp
      · rw [←add_one19 _ _ 1 (by omega),c1];simp
end Go.Proofs.YtmljgogdgmeceaaGreatDoor
