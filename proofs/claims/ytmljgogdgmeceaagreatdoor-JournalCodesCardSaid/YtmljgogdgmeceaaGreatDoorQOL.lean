/-
  OCod
-/
import Derived.Test.YtmljgogdgmeceaaGreatDoorQOE
import Derived.Test.YtmljgogdgmeceaaGreatDoorQOD
import Derived.Test.YtmljgogdgmeceaaGreatDoorQTB
namespace Go.Proofs.YtmljgogdgmeceaaGreatDoor
open Go.RowKit Go.Maps
theorem putC19:PutC19:=⟨fun x _ _ _ h=>jput_any x h,fun x=>jput_nil x⟩
theorem getC19:GetC19:=fun many t x=>(jget_any many t x).mono fun e y ⟨p,h1,h2,h3,h4⟩=>⟨p,h1,h2,fun e0=>by
  obtain ⟨m,b,q1,q2,q3,q4,q5⟩:=h3 e0
  exact ⟨m,b,q1,q2,q3,q5⟩,h4⟩
set_option maxHeartbeats 1000000 in
theorem journalCodes_far (many:Int) (A:Option Addr) (len cap:Nat) (s:ByteArray) (w:World) (hE:Env10 w) (hET:ErrT w) (hf:100 < len∨3000 < s.size) :
    Calls Tryz.prog 3 #[.int .i64 many,.slice A len cap,.string s] w fun e w'=>e=.returned (.bool true)∧Below w.heap.size w w':=by
  have C0:=Lib.hid (works19_any w hE hET)
  have hc:(100:Int) < (len:Int)∨(¬ (100:Int) < (len:Int)∧(3000:Int) < (s.size:Int)):=by omega
  clear hE hET hf
  rcases hc with d1 | ⟨d1,d2⟩
  all_goals
    go_enter Tryz.func3,Tryz.ntmps3
    go_wp2_with fail
    refine C0.out.mono ?_
    rintro en w1 ⟨rfl,hb1⟩
    have HB1:=Lib.hid hb1
    clear hb1
    go_wp2_with fail
    go_ret
    exact ⟨rfl,HB1.out⟩
theorem journalCodes_walk (many:Int) (v:Value) (s:ByteArray) (W:World) (hE:Env10 W∧ErrT W) (hv:IntsAt19 W v) :
    Calls Tryz.prog 3 #[.int .i64 many,v,.string s] W fun en y=>en=.returned (.bool true)∧Below W.heap.size W y:=by
  obtain ⟨A,len,cap,rfl,hO⟩:=hv
  by_cases hf:100 < len∨3000 < s.size
  · exact journalCodes_far many A len cap s W hE.1 hE.2 hf
  · exact journalCodes_few putC19 getC19 many A len cap s W (by omega) (by omega) (works19_any W hE.1 hE.2) hO
end Go.Proofs.YtmljgogdgmeceaaGreatDoor
