/-
  OWal
-/
import Derived.Test.YtmljgogdgmeceaaGreatDoorQOB
import Derived.Test.YtmljgogdgmeceaaGreatDoorQKA
import Derived.Test.YtmljgogdgmeceaaGreatDoorQTA
import Derived.Test.YtmljgogdgmeceaaGreatDoorQIA
namespace Go.Proofs.YtmljgogdgmeceaaGreatDoor
open Go.RowKit Go.Maps
abbrev Cj (a b c:Int):Obj:=.cells #[.int .i64 a,.int .i64 b,.int .i64 c] 45
abbrev BCf (y:World) (g:Nat) (a b c:Int):Prop:=Box y g 45 #[.int .i64 a,.int .i64 b,.int .i64 c]
theorem BCf.cells {y:World} {g:Nat} {a b c:Int} (h:BCf y g a b c):y.cell? ⟨g,0,none⟩=some (.int .i64 a)∧y.cell? ⟨g,1,none⟩=some (.int .i64 b)∧y.cell? ⟨g,2,none⟩=some (.int .i64 c) :=
  ⟨Box.cell h 0,Box.cell h 1,Box.cell h 2⟩
theorem M.now_one (s:M.Wl) (T:Nat→ByteArray) (t:ByteArray):M.now { s with l:=M.ins (1:Int) (.string t) s.l } T 1=t:=M.now_some (M.find_ins_same _ _ _)
theorem M.gd_jour {E S L:Nat} (h:M.lokB E S L=true):M.gd (M.geo E S L h) 1:=by
  left
  show 1 < M.ll E S
  unfold M.ll M.ls M.lx
  omega
theorem M.stages19 {E S L:Nat} {h:M.lokB E S L=true} {s:M.Wl} {T:Nat→ByteArray} {n:Nat} (H:M.WS (M.geo E S L h) s T n) (hact:s.act=true) (hl:s.l.length≤15) {k:Nat} (hk:M.gd (M.geo E S L h) k) (tt:ByteArray) (ht:tt.size=64):M.wlStageE (M.geo E S L h).fr (M.geo E S L h).mn s k tt=0:=by
  have h1:=M.gd_guards hk
  unfold M.wlStageE
  rw [hact,H.ok.len,h1,if_neg (by decide),if_neg (by decide),if_neg (fun e=>e ht),if_neg (fun e=>by omega)]
set_option maxHeartbeats 1000000 in
theorem jsave_bad (wp sp:Option Addr) (a b c:Int) (hl:M.lokB a b c=false) (y:World):Calls Tryz.prog 20 #[.pointer wp,Cf a b c,.pointer sp] y fun e z=>e=.returned (.int .i64 3)∧Below y.heap.size y z:=by
  have C1:=Lib.hid (fun x=>check15_any a b c x)
  rw [M.lerr_no hl] at C1
  have HB:=Lib.hid (ib1 y (Cj a b c))
  clear hl
  go_enter Tryz.func20,Tryz.ntmps20
  go_wp2_with fail
  refine (C1.out _).mono ?_
  rintro e z1 ⟨rfl,hb⟩
  have HB1:=Lib.hid (HB.out.trans (hb.mono HB.out.size))
  clear hb
  go_wp2_with fail
  go_ret
  exact ⟨rfl,HB1.out⟩
set_option maxHeartbeats 1000000 in
theorem jload_bad (wp:Option Addr) (a b c:Int) (hl:M.lokB a b c=false) (y:World):Calls Tryz.prog 19 #[.pointer wp,Cf a b c] y fun e z=>e=.returned (.tuple #[.pointer none,.int .i64 3])∧Below y.heap.size y z:=by
  have C1:=Lib.hid (fun x=>check15_any a b c x)
  rw [M.lerr_no hl] at C1
  have HB:=Lib.hid (ib1 y (Cj a b c))
  clear hl
  go_enter Tryz.func19,Tryz.ntmps19
  go_wp2_with fail
  refine (C1.out _).mono ?_
  rintro e z1 ⟨rfl,hb⟩
  have HB1:=Lib.hid (HB.out.trans (hb.mono HB.out.size))
  clear hb
  go_wp2_with fail
  go_ret2
  exact ⟨rfl,HB1.out⟩
set_option maxHeartbeats 1000000 in
theorem jmark_bad (wp:Option Addr) (a b c i:Int) (v:Bool) (hl:M.lokB a b c=false) (y:World):Calls Tryz.prog 21 #[.pointer wp,Cf a b c,.int .i64 i,.bool v] y fun e z=>e=.returned (.int .i64 3)∧Below y.heap.size y z:=by
  have C1:=Lib.hid (fun x=>check15_any a b c x)
  rw [M.lerr_no hl] at C1
  have HB:=Lib.hid (ib1 y (Cj a b c))
  clear hl
  go_enter Tryz.func21,Tryz.ntmps21
  go_wp2_with fail
  refine (C1.out _).mono ?_
  rintro e z1 ⟨rfl,hb⟩
  have HB1:=Lib.hid (HB.out.trans (hb.mono HB.out.size))
  clear hb
  go_wp2_with fail
  go_ret
  exact ⟨rfl,HB1.out⟩
set_option maxHeartbeats 1000000 in
theorem jmark_out (wp:Option Addr) (E S L:Nat) (h:M.lokB E S L=true) (i:Int) (hi:i < 0∨(E:Int)≤i) (v:Bool) (y:World):Calls Tryz.prog 21 #[.pointer wp,Cf E S L,.int .i64 i,.bool v] y fun e z=>e=.returned (.int .i64 3)∧Below y.heap.size y z:=by
  have C1:=Lib.hid (fun x=>check15_any E S L x)
  rw [M.lerr_ok h] at C1
  have HB:=Lib.hid (ib1 y (Cj E S L))
  have HX:Hid (BCf (y.alloc (Cj E S L)) y.heap.size E S L):=Box.new _ _ _
  have hc:i < 0∨(¬ i < 0∧(E:Int)≤i):=by omega
  clear h hi
  rcases hc with h1 | ⟨h1,h2⟩
  all_goals
    go_enter Tryz.func21,Tryz.ntmps21
    go_wp2_with fail
    refine (C1.out _).mono ?_
    rintro e z1 ⟨rfl,hb⟩
    have HB1:=Lib.hid (HB.out.trans (hb.mono HB.out.size))
    obtain ⟨c0,-,-⟩:=BCf.cells (Box.below HX.out hb (Box.lt HX.out))
    clear hb
    go_wp2_with fail
    go_ret
    exact ⟨rfl,HB1.out⟩
set_option maxHeartbeats 1000000 in
theorem jsave_not (wp sp:Option Addr) (E S L m:Nat) (f:Nat→Bool) (h:M.lokB E S L=true) (hm:m≠E) (y:World) (hs:K.SetN y sp m f):Calls Tryz.prog 20 #[.pointer wp,Cf E S L,.pointer sp] y fun e z=>e=.returned (.int .i64 3)∧Below y.heap.size y z:=by
  have C1:=Lib.hid (fun x=>check15_any E S L x)
  rw [M.lerr_ok h] at C1
  have HB:=Lib.hid (ib1 y (Cj E S L))
  have HX:Hid (BCf (y.alloc (Cj E S L)) y.heap.size E S L):=Box.new _ _ _
  have CM:Hid (∀ z,Below y.heap.size y z→Calls Tryz.prog 16 #[.pointer sp] z fun e z'=>e=.returned (.int .i64 (m:Nat))∧z'=z):=fun z hb=>K.many_n z (hs.below hb)
  have hne:((m:Int)==(E:Int))=false:=by rw [beq_eq_false_iff_ne];omega
  have hne':((m:Int) != (E:Int))=true:=by rw [bne,hne];rfl
  clear h hm hs
  go_enter Tryz.func20,Tryz.ntmps20
  go_wp2_with fail
  refine (C1.out _).mono ?_
  rintro e z1 ⟨rfl,hb⟩
  have HB1:=Lib.hid (HB.out.trans (hb.mono HB.out.size))
  obtain ⟨c0,-,-⟩:=BCf.cells (Box.below HX.out hb (Box.lt HX.out))
  clear hb
  go_wp2_with fail
  go_quiet (first | (go_at_call 16;exact quiet_same (CM.out _ (below_drewN HB1.out _))))
  go_wp2_with fail
  go_ret
  exact ⟨rfl,below_drewN HB1.out _⟩
section
variable {E S L : Nat} {h : M.lokB E S L = true} {R : Nat → Prop} {y : World} {b n : Nat} {s : M.Wl} {T : Nat → ByteArray} {p : Nat} {f : Nat → Bool}
set_option maxHeartbeats 4000000 in
theorem jsave_ok (H:QA (M.geo E S L h) R y b s T n) (hact:s.act=true) (hl:s.l.length≤15) (hs:K.Set y p E f) :
    Calls Tryz.prog 20 #[.pointer (some ⟨b,0,none⟩),Cf E S L,.pointer (some ⟨p,0,none⟩)] y fun e z=>e=.returned (.int .i64 0)∧QA (M.geo E S L h) R z b { s with l:=M.ins (1:Int) (.string (M.jwhole E f)) s.l } T n∧Kept R y z:=by
  have hv:=(M.lok_iff E S L).1 h
  have h24:E≤24:=by omega
  have C1:=Lib.hid (fun x=>check15_any E S L x)
  rw [M.lerr_ok h] at C1
  have CJ:=Lib.hid (fun x=>journal15_ok E S L h x)
  have HX:Hid (BCf (y.alloc (Cj E S L)) y.heap.size E S L):=Box.new _ _ _
  have HB:=Lib.hid (ib1 y (Cj E S L))
  have CM:Hid (∀ z,Below y.heap.size y z→Calls Tryz.prog 16 #[.pointer (some ⟨p,0,none⟩)] z fun e z'=>e=.returned (.int .i64 (E:Nat))∧z'=z):=fun z hb=>K.many_any z (hs.below hb hs.box.lt)
  have CP:Hid (∀ z,Below y.heap.size y z→Calls Tryz.prog 10 #[.pointer (some ⟨p,0,none⟩)] z fun e z'=>e=.returned (.tuple #[.string (M.jwhole E f),.int .i64 0])∧Below z.heap.size z z'):=fun z hb=>by
    have:=jput_any z (hs.below hb hs.box.lt)
    rw [M.jput_ok h24] at this
    exact this
  have CS:Hid (∀ z,Below y.heap.size y z→Calls Tryz.prog 52 #[.pointer (some ⟨b,0,none⟩),.int .i64 1,.string (M.jwhole E f)] z fun e z'=>e=.returned (.int .i64 0)∧QA (M.geo E S L h) R z' b { s with l:=M.ins (1:Int) (.string (M.jwhole E f)) s.l } T n∧Kept R y z'):=fun z hb=>by
    have q:=H.beside hb
    have hE:=M.stages19 (k:=1) q.wa.ws hact hl (M.gd_jour h) (M.jwhole E f) (M.jwhole_size E f h24)
    refine (q.wa.stage (1:Nat) (M.jwhole E f) (WalkArith.wf_i64 (by omega))).mono ?_
    rintro e z' ⟨e1,e2,e3⟩
    rw [hE] at e1
    unfold M.wlStage at e2
    rw [if_pos hE] at e2
    exact ⟨e1,q.did e2 e3,(Kept.of_below hb R).trans e3⟩
  have hee:((E:Int)==(E:Int))=true:=by simp
  have hee':((E:Int) != (E:Int))=false:=by simp
  obtain ⟨W,hW⟩:∃ W,W=M.jwhole E f:=⟨_,rfl⟩
  rw [←hW] at CP CS ⊢
  clear H hact hl hs hv h24 hW
  go_enter Tryz.func20,Tryz.ntmps20
  go_wp2_with fail
  refine (C1.out _).mono ?_
  rintro e z1 ⟨rfl,hb⟩
  have HB1:=Lib.hid (HB.out.trans (hb.mono HB.out.size))
  have X1:=Lib.hid (Box.below HX.out hb (Box.lt HX.out))
  obtain ⟨c0,-,-⟩:=BCf.cells X1.out
  clear hb C1
  go_wp2_with fail
  go_quiet (first | (go_at_call 16;exact quiet_same (CM.out _ (below_drewN HB1.out _))))
  go_wp2_with fail
  refine (CP.out _ (below_drewN HB1.out _)).mono ?_
  rintro e z3 ⟨rfl,hb⟩
  have hb':Below z1.heap.size z1 z3:=(below_drewN (Below.refl z1.heap.size z1) _).trans hb
  have HB3:=Lib.hid (HB1.out.trans (hb'.mono HB1.out.size))
  have X3:=Lib.hid (Box.below X1.out hb' (Box.lt X1.out))
  clear hb'
  clear hb c0 HB1 X1 CP CM
  obtain ⟨c0,c1,c2⟩:=BCf.cells X3.out
  go_wp2_with fail
  refine (CJ.out _).mono ?_
  rintro e z4 ⟨rfl,hb⟩
  have HB4:=Lib.hid (HB3.out.trans (hb.mono HB3.out.size))
  clear hb c0 c1 c2 HB3 X3
  go_wp2_with fail
  refine (CS.out _ HB4.out).mono ?_
  rintro e z5 ⟨rfl,q⟩
  have Q:=Lib.hid q
  clear q CS HB4
  go_wp2_with fail
  go_ret
  exact ⟨rfl,Q.out⟩
set_option maxHeartbeats 4000000 in
theorem jload_step (H:QA (M.geo E S L h) R y b s T n) (hn:n≤400000) :
    Calls Tryz.prog 19 #[.pointer (some ⟨b,0,none⟩),Cf E S L] y fun e z =>
      (M.jgetE (E:Nat) (M.now s T 1)≠0→e=.returned (.tuple #[.pointer none,.int .i64 32])∧∃ d',QA (M.geo E S L h) R z b { s with d:=d' } T (n+1)∧Kept R y z) ∧
      (M.jgetE (E:Nat) (M.now s T 1)=0→∃ p,e=.returned (.tuple #[.pointer (some ⟨p,0,none⟩),.int .i64 0])∧K.Set z p E (M.jset E (M.now s T 1))∧∃ d',QF (M.geo E S L h) R [p] y z b { s with d:=d' } T (n+1)):=by
  have C1:=Lib.hid (fun x=>check15_any E S L x)
  rw [M.lerr_ok h] at C1
  have CJ:=Lib.hid (fun x=>journal15_ok E S L h x)
  have f1:=(QF.start H).alloc (Cj E S L)
  obtain ⟨tt,htt⟩:∃ x,x=M.now s T 1:=⟨_,rfl⟩
  rw [←htt]
  obtain ⟨E1,hE1⟩:∃ x,x=M.jgetE (E:Nat) tt:=⟨_,rfl⟩
  rw [←hE1]
  have HE1:=Lib.hid hE1
  have HG:Hid (∀ z,Below (y.alloc (Cj E S L)).heap.size (y.alloc (Cj E S L)) z→QF (M.geo E S L h) R [y.heap.size] y z b s T n∧BCf z y.heap.size E S L):=fun z hb=>⟨f1.beside hb,Box.below (Box.new _ _ _) hb (by rw [World.size_alloc];omega)⟩
  have HG2:Hid (∀ z1 z2,(QF (M.geo E S L h) R [y.heap.size] y z1 b s T n∧BCf z1 y.heap.size E S L)→Below z1.heap.size z1 z2→QF (M.geo E S L h) R [y.heap.size] y z2 b s T n∧BCf z2 y.heap.size E S L):=fun z1 z2 q hb=>⟨q.1.beside hb,Box.below q.2 hb (Box.lt q.2)⟩
  have CR:Hid (∀ z,(QF (M.geo E S L h) R [y.heap.size] y z b s T n∧BCf z y.heap.size E S L)→Calls Tryz.prog 50 #[.pointer (some ⟨b,0,none⟩),.int .i64 1] z fun e z'=>e=.returned (.tuple #[.string tt,.int .i64 0])∧(∃ d',QF (M.geo E S L h) R [y.heap.size] y z' b { s with d:=d' } T (n+1))∧BCf z' y.heap.size E S L):=by
    rintro z ⟨q1,q2⟩
    refine (q1.qa.wa.read (by omega) 1 (M.gd_jour h)).mono ?_
    rintro e z' ⟨e1,d',e2,e3⟩
    exact ⟨by rw [e1,htt],⟨d',q1.did e2 e3⟩,QF.mine q2 (List.mem_cons_self ..) e3⟩
  have CG:=Lib.hid (fun x=>jget_any (E:Nat) tt x)
  have HD:Hid (∀ z1 z2,(∃ d',QF (M.geo E S L h) R [y.heap.size] y z1 b { s with d:=d' } T (n+1))→Below z1.heap.size z1 z2→∃ d',QA (M.geo E S L h) R z2 b { s with d:=d' } T (n+1)∧Kept R y z2):=by
    rintro z1 z2 ⟨d',q⟩ hb
    exact ⟨d',(q.beside hb).done⟩
  have HY:Hid (∀ z1 z2 p,(∃ d',QF (M.geo E S L h) R [y.heap.size] y z1 b { s with d:=d' } T (n+1))→Below z1.heap.size z1 z2→z1.heap.size≤p→p < z2.heap.size→∃ d',QF (M.geo E S L h) R [p] y z2 b { s with d:=d' } T (n+1)):=by
    rintro z1 z2 p ⟨d',q⟩ hb h1 h2
    exact ⟨d',q.own hb (fun j e=>Or.inr (by obtain rfl:j=p:=(by simpa using e);exact ⟨h1,h2⟩))⟩
  clear H hn f1 htt hE1
  go_enter Tryz.func19,Tryz.ntmps19
  go_wp2_with fail
  refine (C1.out _).mono ?_
  rintro e z1 ⟨rfl,hb⟩
  have G1:=Lib.hid (HG.out _ hb)
  clear hb C1 HG
  obtain ⟨c0,c1,c2⟩:=BCf.cells G1.out.2
  go_wp2_with fail
  refine (CJ.out _).mono ?_
  rintro e z2 ⟨rfl,hb⟩
  have G2:=Lib.hid (HG2.out _ _ G1.out hb)
  clear hb c0 c1 c2 G1 HG2 CJ
  go_wp2_with fail
  refine (CR.out _ G2.out).mono ?_
  rintro e z3 ⟨rfl,q1,q2⟩
  have G3:=Lib.hid q1
  have X3:=Lib.hid q2
  clear q1 q2 G2 CR
  obtain ⟨c0,-,-⟩:=BCf.cells X3.out
  go_wp2_with fail
  refine (CG.out _).mono ?_
  rintro e z4 ⟨p,rfl,hp1,hp2,hb⟩
  rw [←HE1.out] at hp1 hp2 ⊢
  have HP1:=Lib.hid hp1
  have HP2:=Lib.hid hp2
  have HB4:=Lib.hid hb
  clear hp1 hp2 hb c0 CG X3 HE1
  by_cases h0:E1=0
  · subst h0
    obtain ⟨m,q,e1,-,rfl,hq,hset⟩:=HP2.out rfl
    obtain rfl:E=m:=by omega
    have HS:=Lib.hid hset
    have GE:=Lib.hid (HY.out _ _ q G3.out HB4.out hq hset.box.lt)
    clear e1 hq hset HP1 HP2
    go_wp2_with fail
    go_ret2
    first | exact ⟨q,rfl,HS.out,GE.out⟩ | exact ⟨fun e=>absurd rfl e,fun _=>⟨q,rfl,HS.out,GE.out⟩⟩
  · obtain rfl:=HP1.out h0
    have GE:=Lib.hid (HD.out _ _ G3.out HB4.out)
    clear HP1 HP2
    go_wp2_with fail
    go_ret2
    exact ⟨fun _=>⟨rfl,GE.out⟩,fun e=>absurd e h0⟩
end
set_option maxHeartbeats 1000000 in
theorem jchange_any {p m:Nat} {f:Nat→Bool} (i:Int) (v:Bool) (w:World) (hs:K.Set w p m f) :
    Calls Tryz.prog 53 #[.pointer (some ⟨p,0,none⟩),.int .i64 i,.bool v] w fun e z=>e=.returned (.bool (K.M.putB m f i v))∧K.Set z p m (K.M.putI m f i v)∧Kept (fun k=>k=p) w z:=by
  cases v
  · have C1:=Lib.hid (K.remove_any i w hs)
    rw [←K.M.putB_false hs.low i] at C1
    obtain ⟨r,hr⟩:∃ r,r=K.M.putB m f i false:=⟨_,rfl⟩
    rw [←hr] at C1 ⊢
    clear hs hr
    go_enter Tryz.func53,Tryz.ntmps53
    go_wp2_with fail
    refine C1.out.mono ?_
    rintro e z1 ⟨rfl,q⟩
    have Q:=Lib.hid q
    clear q C1
    go_wp2_with fail
    go_ret
    exact ⟨rfl,Q.out⟩
  · have C1:=Lib.hid (K.add_any i w hs)
    rw [←K.M.putB_true m f i] at C1
    obtain ⟨r,hr⟩:∃ r,r=K.M.putB m f i true:=⟨_,rfl⟩
    rw [←hr] at C1 ⊢
    clear hs hr
    go_enter Tryz.func53,Tryz.ntmps53
    go_wp2_with fail
    refine C1.out.mono ?_
    rintro e z1 ⟨rfl,q⟩
    have Q:=Lib.hid q
    clear q C1
    go_wp2_with fail
    go_ret
    exact ⟨rfl,Q.out⟩
theorem K.M.put_same19 {m i:Nat} {f:Nat→Bool} {v:Bool} (hi:i < m) (h:K.M.putB m f (i:Nat) v=false):K.M.putI m f (i:Nat) v=f:=by
  rw [K.M.putI_in m f i v hi]
  apply K.M.put_id
  unfold K.M.putB at h
  have h2:(i:Int) < (m:Int):=by omega
  simpa [h2] using h
section
variable {E S L : Nat} {h : M.lokB E S L = true} {R : Nat → Prop} {y : World} {b n : Nat} {s : M.Wl} {T : Nat → ByteArray} {f : Nat → Bool}
set_option maxHeartbeats 4000000 in
theorem jmark_no (H:QA (M.geo E S L h) R y b s T n) (hn:n≤400000) (i:Nat) (hi:i < E) (v:Bool) (hg:M.jgetE (E:Nat) (M.now s T 1)≠0) :
    Calls Tryz.prog 21 #[.pointer (some ⟨b,0,none⟩),Cf E S L,.int .i64 (i:Nat),.bool v] y fun e z=>e=.returned (.int .i64 32)∧∃ d',QA (M.geo E S L h) R z b { s with d:=d' } T (n+1)∧Kept R y z:=by
  have C1:=Lib.hid (fun x=>check15_any E S L x)
  rw [M.lerr_ok h] at C1
  have f1:=(QF.start H).alloc (Cj E S L)
  have HG:Hid (∀ z,Below (y.alloc (Cj E S L)).heap.size (y.alloc (Cj E S L)) z→QF (M.geo E S L h) R [y.heap.size] y z b s T n∧BCf z y.heap.size E S L):=fun z hb=>⟨f1.beside hb,Box.below (Box.new _ _ _) hb (by rw [World.size_alloc];omega)⟩
  have CL:Hid (∀ z,QF (M.geo E S L h) R [y.heap.size] y z b s T n→Calls Tryz.prog 19 #[.pointer (some ⟨b,0,none⟩),Cf E S L] z fun e z'=>e=.returned (.tuple #[.pointer none,.int .i64 32])∧∃ d',QA (M.geo E S L h) R z' b { s with d:=d' } T (n+1)∧Kept R y z'):=fun z q=>by
    refine (jload_step q.qa hn).mono ?_
    rintro e z' ⟨e1,-⟩
    obtain ⟨e2,d',e3,e4⟩:=e1 hg
    exact ⟨e2,d',(q.call e3 e4).done⟩
  have hi0:¬ (i:Int) < 0:=by omega
  have hi1:¬ (E:Int)≤(i:Int):=by omega
  clear H hn f1 hi hg
  go_enter Tryz.func21,Tryz.ntmps21
  go_wp2_with fail
  refine (C1.out _).mono ?_
  rintro e z1 ⟨rfl,hb⟩
  have G1:=Lib.hid (HG.out _ hb)
  clear hb C1 HG
  obtain ⟨c0,c1,c2⟩:=BCf.cells G1.out.2
  go_wp2_with fail
  refine (CL.out _ G1.out.1).mono ?_
  rintro e z2 ⟨rfl,q⟩
  have G2:=Lib.hid q
  clear q c0 c1 c2 G1 CL
  go_wp2_with fail
  go_ret
  exact ⟨rfl,G2.out⟩
set_option maxHeartbeats 8000000 in
theorem jmark_ok (H:QA (M.geo E S L h) R y b s T n) (hn:n≤400000) (hact:s.act=true) (hl:s.l.length≤15) (i:Nat) (hi:i < E) (v:Bool) (hg:M.now s T 1=M.jwhole E f) (hf:K.M.Below E f) :
    Calls Tryz.prog 21 #[.pointer (some ⟨b,0,none⟩),Cf E S L,.int .i64 (i:Nat),.bool v] y fun e z=>e=.returned (.int .i64 0)∧∃ s',QA (M.geo E S L h) R z b s' T (n+1)∧s'.act=true∧s'.l.length≤s.l.length+1∧s'.dk=s.dk∧M.now s' T 1=M.jwhole E (K.M.putI E f (i:Nat) v)∧Kept R y z:=by
  have hv:=(M.lok_iff E S L).1 h
  have C1:=Lib.hid (fun x=>check15_any E S L x)
  rw [M.lerr_ok h] at C1
  have f1:=(QF.start H).alloc (Cj E S L)
  have HG:Hid (∀ z,Below (y.alloc (Cj E S L)).heap.size (y.alloc (Cj E S L)) z→QF (M.geo E S L h) R [y.heap.size] y z b s T n∧BCf z y.heap.size E S L):=fun z hb=>⟨f1.beside hb,Box.below (Box.new _ _ _) hb (by rw [World.size_alloc];omega)⟩
  have CL:Hid (∀ z,(QF (M.geo E S L h) R [y.heap.size] y z b s T n∧BCf z y.heap.size E S L)→Calls Tryz.prog 19 #[.pointer (some ⟨b,0,none⟩),Cf E S L] z fun e z'=>∃ p,e=.returned (.tuple #[.pointer (some ⟨p,0,none⟩),.int .i64 0])∧K.Set z' p E f∧(∃ d',QF (M.geo E S L h) R [p,y.heap.size] y z' b { s with d:=d' } T (n+1))∧BCf z' y.heap.size E S L):=by
    rintro z ⟨q1,q2⟩
    refine (jload_step q1.qa hn).mono ?_
    rintro e z' ⟨-,e1⟩
    rw [hg] at e1
    obtain ⟨p,e2,e3,d',e4⟩:=e1 (M.jget_whole E f (by omega) hf)
    rw [(M.jset_whole E f (by omega) hf).2] at e3
    exact ⟨p,e2,e3,⟨d',q1.callF e4⟩,e4.kept.box q2 (fun e=>e.2 (List.mem_cons_self ..))⟩
  have CC:Hid (∀ z p,K.Set z p E f→(∃ d',QF (M.geo E S L h) R [p,y.heap.size] y z b { s with d:=d' } T (n+1))→BCf z y.heap.size E S L→Calls Tryz.prog 53 #[.pointer (some ⟨p,0,none⟩),.int .i64 (i:Nat),.bool v] z fun e z'=>e=.returned (.bool (K.M.putB E f (i:Nat) v))∧K.Set z' p E (K.M.putI E f (i:Nat) v)∧(∃ d',QF (M.geo E S L h) R [p,y.heap.size] y z' b { s with d:=d' } T (n+1))∧BCf z' y.heap.size E S L):=by
    rintro z p e3 ⟨d',e4⟩ e5
    by_cases hpy:y.heap.size=p
    · subst hpy
      have h1:=e3.box.cell 1
      have h2:=Box.cell e5 1
      have:=h1.symm.trans h2
      rw [show (K.M.cells E f)[1]?=_ from K.M.cells_at E f 0 (by omega)] at this
      cases this
    · refine (jchange_any (i:Nat) v z e3).mono ?_
      rintro e z' ⟨x1,x2,x3⟩
      exact ⟨x1,x2,⟨d',e4.turn (x3.mono (fun k _ e=>by rw [e];exact List.mem_cons_self ..)) (fun _ e=>Or.inl e)⟩,x3.box e5 hpy⟩
  have CS:Hid (∀ z p,K.Set z p E (K.M.putI E f (i:Nat) v)→(∃ d',QF (M.geo E S L h) R [p,y.heap.size] y z b { s with d:=d' } T (n+1))→Calls Tryz.prog 20 #[.pointer (some ⟨b,0,none⟩),Cf E S L,.pointer (some ⟨p,0,none⟩)] z fun e z'=>e=.returned (.int .i64 0)∧∃ s',QA (M.geo E S L h) R z' b s' T (n+1)∧s'.act=true∧s'.l.length≤s.l.length+1∧s'.dk=s.dk∧M.now s' T 1=M.jwhole E (K.M.putI E f (i:Nat) v)∧Kept R y z'):=by
    rintro z p e3 ⟨d',e4⟩
    refine (jsave_ok (s:={ s with d:=d' }) e4.qa hact hl e3).mono ?_
    rintro e z' ⟨x1,x2,x3⟩
    have q:=(e4.call x2 x3).done
    exact ⟨x1,_,q.1,hact,M.ins_le _ _ _,rfl,M.now_one { s with d:=d' } T _,q.2⟩
  have CE:Hid (∀ z p,K.M.putB E f (i:Nat) v=false→(∃ d',QF (M.geo E S L h) R [p,y.heap.size] y z b { s with d:=d' } T (n+1))→∃ s',QA (M.geo E S L h) R z b s' T (n+1)∧s'.act=true∧s'.l.length≤s.l.length+1∧s'.dk=s.dk∧M.now s' T 1=M.jwhole E (K.M.putI E f (i:Nat) v)∧Kept R y z):=by
    rintro z p e0 ⟨d',e4⟩
    have q:=e4.done
    rw [K.M.put_same19 hi e0]
    exact ⟨_,q.1,hact,Nat.le_succ _,rfl,hg,q.2⟩
  have hi0:¬ (i:Int) < 0:=by omega
  have hi1:¬ (E:Int)≤(i:Int):=by omega
  obtain ⟨g,hgg⟩:∃ x,x=K.M.putI E f (i:Nat) v:=⟨_,rfl⟩
  obtain ⟨r,hr⟩:∃ x,x=K.M.putB E f (i:Nat) v:=⟨_,rfl⟩
  rw [←hgg] at CC CS CE ⊢
  rw [←hr] at CC CE
  clear H hn f1 hi hg hact hl hv hf hgg hr
  cases r
  all_goals
    go_enter Tryz.func21,Tryz.ntmps21
    go_wp2_with fail
    refine (C1.out _).mono ?_
    rintro e z1 ⟨rfl,hb⟩
    have G1:=Lib.hid (HG.out _ hb)
    clear hb C1 HG
    obtain ⟨c0,c1,c2⟩:=BCf.cells G1.out.2
    go_wp2_with fail
    refine (CL.out _ G1.out).mono ?_
    rintro e z2 ⟨p,rfl,q1,q2,q3⟩
    have G2:=Lib.hid (CC.out _ _ q1 q2 q3)
    clear q1 q2 q3 c0 c1 c2 G1 CL CC
    go_wp2_with fail
    refine G2.out.mono ?_
    rintro e z3 ⟨rfl,q1,q2,q3⟩
    have GS:=Lib.hid q1
    have GQ:=Lib.hid q2
    obtain ⟨c0,c1,c2⟩:=BCf.cells q3
    clear q1 q2 q3 G2
    go_wp2_with fail
  · go_ret
    exact ⟨rfl,CE.out _ _ (by first | rfl | trivial) GQ.out⟩
  · refine (CS.out _ _ GS.out GQ.out).mono ?_
    rintro e z4 ⟨rfl,q⟩
    have G4:=Lib.hid q
    clear q c0 c1 c2 GS GQ CS CE
    go_wp2_with fail
    go_ret
    exact ⟨rfl,G4.out⟩
end
end Go.Proofs.YtmljgogdgmeceaaGreatDoor
