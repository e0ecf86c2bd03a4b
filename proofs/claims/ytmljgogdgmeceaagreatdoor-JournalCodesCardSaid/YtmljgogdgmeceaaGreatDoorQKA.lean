/-
  MKMath MKBase MKAdd MKRange MKRead MKWalk MKAll MKFree MKSame MKRef MKRefRead MKRefPut MKRefBytes MKNone MKBoth
-/
import Derived.Test.YtmljgogdgmeceaaGreatDoorQMA
import Derived.BigQuiet
import Derived.Deep.QuietTactic
import Derived.Handy
import Derived.Deep.RegionHeld3
import Derived.Laws.BitsAllLaws
import Derived.RangeFuncNested
import Derived.RangeFuncBound
import Derived.RangeFuncCalls
import Derived.RangeFuncLeaves
import Derived.Shelf.Abstract
import Derived.Shelf.RegionOpen
import Derived.OwnWalkIn
import Derived.TacticsInMore
import Derived.LoopNIn
import Derived.LoopIn
import Derived.Deep.OwnRows
import Derived.Deep.AppendLies
import Derived.Laws.AppendOwnNone
import Derived.OwnWalk
import Derived.Deep.WholeRow
import Derived.Laws.IdiomStrings
import Derived.WalkMore
namespace Go.Proofs.YtmljgogdgmeceaaGreatDoor.K.M
def most (n:Int):Nat:=if n < 0 then 0 else if 1000 < n then 1000 else n.toNat
theorem most_le (n:Int):most n≤1000:=by unfold most;split <;> (try split) <;> omega
def ofB (g:Nat→Bool):Nat→Nat
  | 0 => 0
  | n + 1 => (if g 0 then 1 else 0)+2 * ofB (fun k=>g (k+1)) n
theorem ofB_lt:∀ (n:Nat) (g:Nat→Bool),ofB g n < 2 ^ n
  | 0, _ => by simp [ofB]
  | n + 1, g => by
    have:=ofB_lt n (fun k=>g (k+1))
    unfold ofB
    rw [Nat.pow_succ]
    split <;> omega
theorem ofB_bit:∀ (n:Nat) (g:Nat→Bool) (k:Nat),(ofB g n).testBit k=(decide (k < n) && g k)
  | 0, g, k => by simp [ofB]
  | n + 1, g, 0 => by
    unfold ofB
    rw [Nat.testBit_zero]
    by_cases h:g 0
    · rw [if_pos h];simp [h]
    · rw [if_neg h];simp [h]
  | n + 1, g, k + 1 => by
    have ih:=ofB_bit n (fun k=>g (k+1)) k
    unfold ofB
    rw [Nat.testBit_succ]
    have e:((if g 0 then 1 else 0)+2 * ofB (fun k=>g (k+1)) n) / 2=ofB (fun k=>g (k+1)) n:=by split <;> omega
    rw [e,ih]
    simp
def byte (f:Nat→Bool) (j:Nat):Nat:=ofB (fun k=>f (8 * j+k)) 8
theorem byte_lt (f:Nat→Bool) (j:Nat):byte f j < 256:=ofB_lt 8 _
theorem byte_bit (f:Nat→Bool) (j k:Nat):(byte f j).testBit k=(decide (k < 8) && f (8 * j+k)):=ofB_bit 8 _ k
theorem pow_bit (a k:Nat):(2 ^ a).testBit k=decide (a=k):=Nat.testBit_two_pow
def put (f:Nat→Bool) (i:Nat) (v:Bool):Nat→Bool:=fun k=>if k=i then v else f k
theorem put_same (f:Nat→Bool) (i:Nat) (v:Bool):put f i v i=v:=if_pos rfl
theorem put_other (f:Nat→Bool) {i k:Nat} (v:Bool) (h:k≠i):put f i v k=f k:=if_neg h
theorem put_id (f:Nat→Bool) (i:Nat) (v:Bool) (h:f i=v):put f i v=f:=by
  funext k
  unfold put
  split
  · subst_vars;rfl
  · rfl
theorem byte_other (f:Nat→Bool) (i:Nat) (v:Bool) (j:Nat) (h:j≠i / 8):byte (put f i v) j=byte f j:=by
  apply Nat.eq_of_testBit_eq
  intro k
  rw [byte_bit,byte_bit]
  by_cases hk:k < 8
  · rw [put_other f v (by omega)]
  · simp [hk]
theorem byte_in (f:Nat→Bool) (i:Nat):byte f (i / 8) ||| 2 ^ (i % 8)=byte (put f i true) (i / 8):=by
  apply Nat.eq_of_testBit_eq
  intro k
  rw [Nat.testBit_or,byte_bit,byte_bit,pow_bit]
  by_cases hk:k < 8
  · by_cases e:i % 8=k
    · rw [show 8 * (i / 8)+k=i by omega,put_same];simp [hk,e]
    · rw [put_other f true (by omega)];simp [e]
  · have:¬ i % 8=k:=by omega
    simp [hk,this]
theorem byte_out (f:Nat→Bool) (i:Nat):byte f (i / 8) &&& (255 ^^^ 2 ^ (i % 8))=byte (put f i false) (i / 8):=by
  apply Nat.eq_of_testBit_eq
  intro k
  have h255:Nat.testBit 255 k=decide (k < 8):=by
    rw [show 255=2 ^ 8 - 1 by rfl];exact Nat.testBit_two_pow_sub_one 8 k
  rw [Nat.testBit_and,Nat.testBit_xor,byte_bit,byte_bit,pow_bit,h255]
  by_cases hk:k < 8
  · by_cases e:i % 8=k
    · rw [show 8 * (i / 8)+k=i by omega,put_same];simp [hk,e]
    · rw [put_other f false (by omega)];simp [hk,e]
  · simp [hk]
theorem byte_has (f:Nat→Bool) (i:Nat):byte f (i / 8) &&& 2 ^ (i % 8)=if f i then 2 ^ (i % 8) else 0:=by
  apply Nat.eq_of_testBit_eq
  intro k
  rw [Nat.testBit_and,byte_bit,pow_bit]
  by_cases e:i % 8=k
  · have hk:k < 8:=by omega
    rw [show 8 * (i / 8)+k=i by omega]
    by_cases h:f i
    · rw [if_pos h,pow_bit];simp [hk,e,h]
    · rw [if_neg h];simp [h]
  · by_cases h:f i
    · rw [if_pos h,pow_bit];simp [e]
    · rw [if_neg h];simp [e]
def Below (m:Nat) (f:Nat→Bool):Prop:=∀ i,m≤i→f i=false
theorem Below.put {m:Nat} {f:Nat→Bool} (h:Below m f) {i:Nat} (hi:i < m) (v:Bool):Below m (put f i v):=fun k hk=>by
  rw [put_other f v (by omega)];exact h k hk
theorem Below.none (m:Nat):Below m (fun _=>false):=fun _ _=>rfl
theorem Below.ext {m:Nat} {f g:Nat→Bool} (h:Below m f) (k:Below m g) (e:∀ i,i < m→f i=g i):f=g:=by
  funext i
  by_cases hi:i < m
  · exact e i hi
  · rw [h i (by omega),k i (by omega)]
def wide (m:Nat):Nat:=(m+7) / 8
def bytes (m:Nat) (f:Nat→Bool):List UInt8:=(List.range (wide m)).map (fun j=>UInt8.ofNat (byte f j))
theorem bytes_len (m:Nat) (f:Nat→Bool):(bytes m f).length=wide m:=by simp [bytes]
theorem bytes_at (m:Nat) (f:Nat→Bool) (j:Nat) (h:j < (bytes m f).length):((bytes m f)[j]'h).toNat=byte f j:=by
  have:=byte_lt f j
  simp [bytes]
  omega
def bitAt (s:List UInt8) (i:Nat):Bool:=(s[i / 8]?.getD 0).toNat.testBit (i % 8)
theorem bytes_bit (m:Nat) (f:Nat→Bool) (hf:Below m f) (i:Nat):bitAt (bytes m f) i=f i:=by
  unfold bitAt
  by_cases h:i / 8 < (bytes m f).length
  · rw [List.getElem?_eq_getElem h,Option.getD_some,bytes_at,byte_bit]
    rw [show 8 * (i / 8)+i % 8=i by omega]
    have:i % 8 < 8:=by omega
    simp [this]
  · rw [List.getElem?_eq_none (by omega)]
    rw [bytes_len] at h
    unfold wide at h
    rw [hf i (by omega)]
    simp
theorem bit_and (b k:Nat):(b &&& 2 ^ k==0)=!b.testBit k:=by
  have e:b &&& 2 ^ k=if b.testBit k then 2 ^ k else 0:=by
    apply Nat.eq_of_testBit_eq
    intro j
    rw [Nat.testBit_and,pow_bit]
    by_cases e:k=j
    · subst e
      by_cases h:b.testBit k
      · rw [if_pos h,pow_bit];simp [h]
      · rw [if_neg h];simp [h]
    · by_cases h:b.testBit k
      · rw [if_pos h,pow_bit];simp [e]
      · rw [if_neg h];simp [e]
  rw [e]
  by_cases h:b.testBit k
  · rw [if_pos h,h]
    have:0 < 2 ^ k:=Nat.two_pow_pos k
    simp
  · rw [if_neg h];simp [h]
def upto (s:List UInt8) (k:Nat):Nat→Bool:=fun i=>decide (i < k) && bitAt s i
theorem upto_zero (s:List UInt8):upto s 0=fun _=>false:=by funext i;simp [upto]
theorem upto_in (s:List UInt8) (k:Nat) (h:bitAt s k=true):upto s (k+1)=put (upto s k) k true:=by
  funext i
  unfold upto put
  by_cases e:i=k
  · subst e;simp [h]
  · rw [if_neg e]
    have:decide (i < k+1)=decide (i < k):=by simp;omega
    rw [this]
theorem upto_out (s:List UInt8) (k:Nat) (h:bitAt s k=false):upto s (k+1)=upto s k:=by
  funext i
  unfold upto
  by_cases e:i=k
  · subst e;simp [h]
  · have:decide (i < k+1)=decide (i < k):=by simp;omega
    rw [this]
theorem upto_at (s:List UInt8) (k:Nat):upto s k k=false:=by simp [upto]
def nums (m:Nat) (f:Nat→Bool):List Nat:=(List.range m).filter f
theorem nums_in (m:Nat) (f:Nat→Bool) (h:f m=true):nums (m+1) f=nums m f++[m]:=by
  unfold nums
  rw [List.range_succ,List.filter_append]
  simp [h]
theorem nums_out (m:Nat) (f:Nat→Bool) (h:f m=false):nums (m+1) f=nums m f:=by
  unfold nums
  rw [List.range_succ,List.filter_append]
  simp [h]
theorem nums_len (m:Nat) (f:Nat→Bool):(nums m f).length≤m:=by
  have:=List.length_filter_le f (List.range m)
  simpa [nums] using this
def num (o:Option Nat):Int:=(o.getD 0:Nat)
end Go.Proofs.YtmljgogdgmeceaaGreatDoor.K.M
namespace Go.Proofs.YtmljgogdgmeceaaGreatDoor.K
open Go.RowKit
def M.cells (m:Nat) (f:Nat→Bool):Array Value:=(Value.int .i64 (m:Nat) :: (List.range 125).map (fun j=>Value.int .u8 (M.byte f j:Nat))).toArray
theorem M.cells_zero (m:Nat) (f:Nat→Bool):(M.cells m f)[0]?=some (.int .i64 (m:Nat)):=by simp [M.cells]
theorem M.cells_at (m:Nat) (f:Nat→Bool) (j:Nat) (h:j < 125):(M.cells m f)[1+j]?=some (.int .u8 (M.byte f j:Nat)):=by
  rw [Nat.add_comm]
  simp [M.cells,h]
theorem M.cells_put (m:Nat) (f:Nat→Bool) (i:Nat) (v:Bool) (h:i / 8 < 125):(M.cells m f).setIfInBounds (1+i / 8) (.int .u8 (M.byte (M.put f i v) (i / 8):Nat))=M.cells m (M.put f i v):=by
  apply Array.ext_getElem?
  intro k
  rw [Array.getElem?_setIfInBounds]
  have hz:(M.cells m f).size=126:=by simp [M.cells]
  by_cases e:1+i / 8=k
  · subst e
    rw [if_pos rfl,if_pos (by omega),M.cells_at _ _ _ h]
  · rw [if_neg e]
    cases k with
    | zero => rw [M.cells_zero,M.cells_zero]
    | succ k =>
      rw [Nat.add_comm k 1]
      by_cases hk:k < 125
      · rw [M.cells_at _ _ _ hk,M.cells_at _ _ _ hk,M.byte_other f i v k (by omega)]
      · rw [Array.getElem?_eq_none (by omega),Array.getElem?_eq_none (by simp [M.cells];omega)]
structure Set (w:World) (b m:Nat) (f:Nat→Bool):Prop where
  box:Box w b 66 (M.cells m f)
  le:m≤1000
  low:M.Below m f
section
variable {w w' : World} {b m : Nat} {f : Nat → Bool}
theorem Set.drewN (h:Set w b m f) (n:Nat):Set (w.drewN n) b m f:=⟨h.box,h.le,h.low⟩
theorem Set.drew (h:Set w b m f):Set w.drew b m f:=⟨h.box,h.le,h.low⟩
theorem Set.kept {P:Nat→Prop} (h:Set w b m f) (hk:Kept P w w') (hb:¬ P b):Set w' b m f:=⟨hk.box h.box hb,h.le,h.low⟩
theorem Set.below {B:Nat} (h:Set w b m f) (hk:Below B w w') (hb:b < B):Set w' b m f:=⟨h.box.below hk hb,h.le,h.low⟩
theorem Set.c0 (h:Set w b m f):w.cell? ⟨b,0,none⟩=some (.int .i64 (m:Nat)):=(h.box.cell 0).trans (M.cells_zero m f)
theorem Set.c1 (h:Set w b m f) (j:Nat) (hj:j < 125):w.cell? ⟨b,1+j,none⟩=some (.int .u8 (M.byte f j:Nat)):=(h.box.cell (1+j)).trans (M.cells_at m f j hj)
theorem Set.put (h:Set w b m f) {i:Nat} (hi:i < m) (v:Bool):Set (w.setCell ⟨b,1+i / 8,none⟩ (.int .u8 (M.byte (M.put f i v) (i / 8):Nat))) b m (M.put f i v):=by
  have hm:=h.le
  have:=h.box.set (1+i / 8) (.int .u8 (M.byte (M.put f i v) (i / 8):Nat))
  rw [M.cells_put m f i v (by omega)] at this
  exact ⟨this,h.le,h.low.put hi v⟩
end
theorem zeroS (w:World):(zeroValue 66).run Tryz.prog w=.ok (.agg (M.cells 0 (fun _=>false))) w:=by
  have h:Tryz.t66.zero=some (.agg (M.cells 0 (fun _=>false))):=by kernel_rfl
  simp [zeroValue,h]
theorem M.cells_new (m:Nat):(M.cells 0 (fun _=>false)).setIfInBounds 0 (.int .i64 (m:Nat))=M.cells m (fun _=>false):=by
  simp [M.cells]
theorem M.cells_ne (m:Nat) (f:Nat→Bool):(M.cells m f=#[])=False:=by simp [M.cells]
theorem new_any (n:Int) (w:World) :
    Calls Tryz.prog 6 #[.int .i64 n] w fun e w'=>e=.returned (.pointer (some ⟨w.heap.size,0,none⟩))∧w'=w.alloc (.cells (M.cells (M.most n) (fun _=>false)) 66):=by
  have hz:=zeroS
  have hne:=M.cells_ne 0 (fun _=>false)
  have hst:=M.cells_new (M.most n)
  obtain ⟨Z,hZ⟩:∃ Z,Z=M.cells 0 (fun _=>false):=⟨_,rfl⟩
  rw [←hZ] at hst hne
  simp only [←hZ] at hz
  clear hZ
  by_cases h0:n < 0
  · rw [M.most,if_pos h0] at hst ⊢
    go_enter Tryz.func6,Tryz.ntmps6
    go_wp2_with fail
    go_ret
    exact ⟨rfl,by rw [←hst];first | rfl | (rw [show min (max n 0) 1000=(0:Int) by omega];rfl)⟩
  · by_cases h1:1000 < n
    · rw [M.most,if_neg h0,if_pos h1] at hst ⊢
      have h0':0≤n:=by omega
      clear h0
      go_enter Tryz.func6,Tryz.ntmps6
      go_wp2_with fail
      go_ret
      exact ⟨rfl,by rw [←hst];first | rfl | (rw [show min (max n 0) 1000=(1000:Int) by omega];rfl)⟩
    · rw [M.most,if_neg h0,if_neg h1] at hst ⊢
      obtain ⟨m,rfl⟩:∃ m:Nat,n=m:=⟨n.toNat,by omega⟩
      have h0':(0:Int)≤(m:Int):=by omega
      have h1':(m:Int)≤1000:=by omega
      rw [Int.toNat_natCast] at hst ⊢
      clear h0 h1
      go_enter Tryz.func6,Tryz.ntmps6
      go_wp2_with fail
      go_ret
      exact ⟨rfl,by rw [←hst];first | done | rfl | rw [show min (m:Int) 1000=(m:Int) by omega]⟩
theorem Set.new (w:World) (n:Int):Set (w.alloc (.cells (M.cells (M.most n) (fun _=>false)) 66)) w.heap.size (M.most n) (fun _=>false) :=
  ⟨Box.new _ _ _,M.most_le n,M.Below.none _⟩
theorem bitOf_any (i:Nat) (w:World):Calls Tryz.prog 30 #[.int .i64 i] w fun e w'=>e=.returned (.int .u8 ((2 ^ (i % 8):Nat):Int))∧w'=w:=by
  have e:∀ k,k < 8→(2:Int) ^ k % 256=((2 ^ k:Nat):Int):=by decide
  have e':=e (i % 8) (by omega)
  clear e
  rw [←e']
  clear e'
  go_enter Tryz.func30,Tryz.ntmps30
  go_wp2_with fail
  go_ret
  exact ⟨rfl,rfl⟩
theorem many_nil (w:World):Calls Tryz.prog 16 #[.pointer none] w fun e w'=>e=.returned (.int .i64 0)∧w'=w:=by
  go_enter Tryz.func16,Tryz.ntmps16
  go_wp2_with fail
  go_ret
  exact ⟨rfl,rfl⟩
theorem many_any (w:World) {b m:Nat} {f:Nat→Bool} (h:Set w b m f):Calls Tryz.prog 16 #[.pointer (some ⟨b,0,none⟩)] w fun e w'=>e=.returned (.int .i64 (m:Nat))∧w'=w:=by
  have h0:=h.c0
  clear h
  go_enter Tryz.func16,Tryz.ntmps16
  go_wp2_with fail
  go_ret
  exact ⟨rfl,rfl⟩
def SetN (w:World) (p:Option Addr) (m:Nat) (f:Nat→Bool):Prop:=(p=none∧m=0∧f=fun _=>false)∨∃ b,p=some ⟨b,0,none⟩∧Set w b m f
theorem SetN.drewN {w:World} {p:Option Addr} {m:Nat} {f:Nat→Bool} (h:SetN w p m f) (n:Nat):SetN (w.drewN n) p m f:=h.imp id (fun ⟨b,e,hs⟩=>⟨b,e,hs.drewN n⟩)
theorem SetN.le {w:World} {p:Option Addr} {m:Nat} {f:Nat→Bool} (h:SetN w p m f):m≤1000:=by
  rcases h with ⟨_,e,_⟩ | ⟨b,_,hs⟩
  · omega
  · exact hs.le
theorem SetN.low {w:World} {p:Option Addr} {m:Nat} {f:Nat→Bool} (h:SetN w p m f):M.Below m f:=by
  rcases h with ⟨_,_,e⟩ | ⟨b,_,hs⟩
  · rw [e];exact M.Below.none _
  · exact hs.low
theorem SetN.below {w w':World} {p:Option Addr} {m:Nat} {f:Nat→Bool} (h:SetN w p m f) (hk:Below w.heap.size w w'):SetN w' p m f :=
  h.imp id (fun ⟨b,e,hs⟩=>⟨b,e,hs.below hk hs.box.lt⟩)
theorem Set.n {w:World} {b m:Nat} {f:Nat→Bool} (h:Set w b m f):SetN w (some ⟨b,0,none⟩) m f:=Or.inr ⟨b,rfl,h⟩
theorem SetN.nil (w:World):SetN w none 0 (fun _=>false):=Or.inl ⟨rfl,rfl,rfl⟩
theorem many_n (w:World) {p:Option Addr} {m:Nat} {f:Nat→Bool} (h:SetN w p m f):Calls Tryz.prog 16 #[.pointer p] w fun e w'=>e=.returned (.int .i64 (m:Nat))∧w'=w:=by
  rcases h with ⟨rfl,rfl,_⟩ | ⟨b,rfl,hs⟩
  · exact many_nil w
  · exact many_any w hs
theorem may_n (i:Int) (w:World) {p:Option Addr} {m:Nat} {f:Nat→Bool} (h:SetN w p m f) :
    Calls Tryz.prog 29 #[.pointer p,.int .i64 i] w fun e w'=>e=.returned (.bool (decide (0≤i) && decide (i < (m:Int))))∧w'=w:=by
  have HM:=Lib.hid (many_n w h)
  clear h
  by_cases h0:0≤i
  · have hd:decide (0≤i)=true:=by simpa using h0
    rw [hd,Bool.true_and]
    clear h0
    go_enter Tryz.func29,Tryz.ntmps29
    go_wp2_with fail
    refine HM.out.mono ?_
    rintro e w1 ⟨rfl,rfl⟩
    go_wp2_with fail
    go_ret
    exact ⟨rfl,rfl⟩
  · have hd:decide (0≤i)=false:=by simpa using h0
    rw [hd,Bool.false_and]
    clear h0
    go_enter Tryz.func29,Tryz.ntmps29
    go_wp2_with fail
    go_ret
    exact ⟨rfl,rfl⟩
theorem width_n (w:World) {p:Option Addr} {m:Nat} {f:Nat→Bool} (h:SetN w p m f) :
    Calls Tryz.prog 44 #[.pointer p] w fun e w'=>e=.returned (.int .i64 (M.wide m:Nat))∧w'=w:=by
  have HM:=Lib.hid (many_n w h)
  have hm:=h.le
  have e:((m:Int)+8 - 1) / 8=(M.wide m:Nat):=by unfold M.wide;omega
  clear h
  rw [←e]
  clear e
  go_enter Tryz.func44,Tryz.ntmps44
  go_wp2_with fail
  refine HM.out.mono ?_
  rintro e w1 ⟨rfl,rfl⟩
  go_wp2_with fail
  go_ret
  exact ⟨rfl,rfl⟩
set_option maxHeartbeats 1000000 in
theorem has_in (i:Nat) (w:World) {b m:Nat} {f:Nat→Bool} (h:Set w b m f) (hi:i < m) :
    Calls Tryz.prog 27 #[.pointer (some ⟨b,0,none⟩),.int .i64 i] w fun e w'=>e=.returned (.bool (f i))∧∃ n,w'=w.drewN n:=by
  have hm:=h.le
  have hi8:i / 8 < 125:=by omega
  have hc:=h.c1 (i / 8) hi8
  have HM:=Lib.hid (fun n=>may_n i (w.drewN n) (h.drewN n).n)
  have HB:=Lib.hid (fun n=>bitOf_any i (w.drewN n))
  have e1:(decide ((0:Int)≤(i:Int)) && decide ((i:Int) < (m:Int)))=true:=by simp;omega
  rw [e1] at HM
  clear e1
  have hq:(i:Int) / 8=((i / 8:Nat):Int):=by omega
  have hand:bits .and .u8 (M.byte f (i / 8):Nat) ((2 ^ (i % 8):Nat):Int)=((if f i then 2 ^ (i % 8) else 0:Nat):Int):=by
    rw [←M.byte_has]
    exact u8_and_nat _ _ (M.byte_lt _ _) (Nat.pow_lt_pow_right (by omega) (by omega:i % 8 < 8))
  obtain ⟨x,hx⟩:∃ x:Nat,x=if f i then 2 ^ (i % 8) else 0:=⟨_,rfl⟩
  rw [←hx] at hand
  have hne:((x:Int) != 0)=f i:=by
    rw [hx]
    have:(0:Nat) < 2 ^ (i % 8):=Nat.two_pow_pos _
    cases f i
    · simp
    · simp only [if_true]
      rw [bne_iff_ne]
      omega
  obtain ⟨y,hy⟩:∃ y,y=2 ^ (i % 8):=⟨_,rfl⟩
  rw [←hy] at hand HB
  obtain ⟨z,hz⟩:∃ z,z=M.byte f (i / 8):=⟨_,rfl⟩
  rw [←hz] at hand hc
  obtain ⟨q,hq'⟩:∃ q,q=i / 8:=⟨_,rfl⟩
  rw [←hq'] at hq hc hi8
  have hq0:(0:Int)≤(q:Int):=by omega
  have hq1:(q:Int) < 125:=by omega
  obtain ⟨v,hv⟩:∃ v,v=f i:=⟨_,rfl⟩
  rw [←hv] at hne
  rw [←hv]
  clear h hx hy hz hq' hv
  have HN:=Lib.hid hne
  clear hne
  go_enter Tryz.func27,Tryz.ntmps27
  go_wp2_with fail
  go_quiet (first | (go_at_call 29;exact quiet_same (HM.out _)) | (go_at_call 30;exact quiet_same (HB.out _)))
  go_wp2_with fail
  go_ret
  exact ⟨by rw [←HN.out];rfl,_,rfl⟩
def M.hasI (f:Nat→Bool) (i:Int):Bool:=decide (0≤i) && f i.toNat
theorem M.hasI_nat (f:Nat→Bool) (i:Nat):M.hasI f (i:Int)=f i:=by simp [M.hasI]
theorem M.hasI_out {m:Nat} {f:Nat→Bool} (h:M.Below m f) {i:Int} (hi:i < 0∨(m:Int)≤i):M.hasI f i=false:=by
  unfold M.hasI
  rcases hi with hi | hi
  · have:¬ 0≤i:=by omega
    simp [this]
  · rw [h i.toNat (by omega),Bool.and_false]
theorem has_out (i:Int) (w:World) {p:Option Addr} {m:Nat} {f:Nat→Bool} (h:SetN w p m f) (hi:i < 0∨(m:Int)≤i) :
    Calls Tryz.prog 27 #[.pointer p,.int .i64 i] w fun e w'=>e=.returned (.bool false)∧∃ n,w'=w.drewN n:=by
  have HM:=Lib.hid (fun n=>may_n i (w.drewN n) (h.drewN n))
  have e1:(decide ((0:Int)≤i) && decide (i < (m:Int)))=false:=by simp;omega
  rw [e1] at HM
  clear e1 h hi
  go_enter Tryz.func27,Tryz.ntmps27
  go_wp2_with fail
  go_quiet (first | (go_at_call 29;exact quiet_same (HM.out _)))
  go_wp2_with fail
  go_ret
  exact ⟨rfl,_,rfl⟩
theorem has_n (i:Int) (w:World) {p:Option Addr} {m:Nat} {f:Nat→Bool} (h:SetN w p m f) :
    Calls Tryz.prog 27 #[.pointer p,.int .i64 i] w fun e w'=>e=.returned (.bool (M.hasI f i))∧∃ n,w'=w.drewN n:=by
  by_cases hi:i < 0∨(m:Int)≤i
  · rw [M.hasI_out h.low hi]
    exact has_out i w h hi
  · obtain ⟨j,rfl⟩:∃ j:Nat,i=j:=⟨i.toNat,by omega⟩
    rw [M.hasI_nat]
    rcases h with ⟨_,e,_⟩ | ⟨b,rfl,hs⟩
    · omega
    · exact has_in j w hs (by omega)
end Go.Proofs.YtmljgogdgmeceaaGreatDoor.K
namespace Go.Proofs.YtmljgogdgmeceaaGreatDoor.K
open Go.RowKit
def M.addB (m:Nat) (f:Nat→Bool) (i:Int):Bool:=decide (0≤i) && decide (i < (m:Int)) && !f i.toNat
def M.putI (m:Nat) (f:Nat→Bool) (i:Int) (v:Bool):Nat→Bool:=if 0≤i∧i < (m:Int) then M.put f i.toNat v else f
theorem M.putI_in (m:Nat) (f:Nat→Bool) (i:Nat) (v:Bool) (h:i < m):M.putI m f (i:Int) v=M.put f i v:=by
  unfold M.putI
  rw [if_pos (by omega),Int.toNat_natCast]
theorem M.putI_out (m:Nat) (f:Nat→Bool) (i:Int) (v:Bool) (h:i < 0∨(m:Int)≤i):M.putI m f i v=f:=by
  unfold M.putI
  rw [if_neg (by omega)]
theorem add_out (i:Int) (w:World) {p:Option Addr} {m:Nat} {f:Nat→Bool} (h:SetN w p m f) (hi:i < 0∨(m:Int)≤i) :
    Calls Tryz.prog 8 #[.pointer p,.int .i64 i] w fun e w'=>e=.returned (.bool false)∧∃ n,w'=w.drewN n:=by
  have HM:=Lib.hid (may_n i w h)
  have e1:(decide ((0:Int)≤i) && decide (i < (m:Int)))=false:=by simp;omega
  rw [e1] at HM
  clear e1 h hi
  go_enter Tryz.func8,Tryz.ntmps8
  go_wp2_with fail
  refine HM.out.mono ?_
  rintro e w1 ⟨rfl,rfl⟩
  go_wp2_with fail
  go_ret
  exact ⟨rfl,0,rfl⟩
theorem add_was (i:Nat) (w:World) {b m:Nat} {f:Nat→Bool} (h:Set w b m f) (hi:i < m) (hf:f i=true) :
    Calls Tryz.prog 8 #[.pointer (some ⟨b,0,none⟩),.int .i64 i] w fun e w'=>e=.returned (.bool false)∧∃ n,w'=w.drewN n:=by
  have HM:=Lib.hid (may_n i w h.n)
  have e1:(decide ((0:Int)≤(i:Int)) && decide ((i:Int) < (m:Int)))=true:=by simp;omega
  rw [e1] at HM
  have HH:=Lib.hid (has_in i w h hi)
  rw [hf] at HH
  clear e1 h hi hf
  go_enter Tryz.func8,Tryz.ntmps8
  go_wp2_with fail
  refine HM.out.mono ?_
  rintro e w1 ⟨rfl,rfl⟩
  go_wp2_with fail
  refine HH.out.mono ?_
  rintro e w2 ⟨rfl,n,rfl⟩
  go_wp2_with fail
  go_ret
  exact ⟨rfl,n,rfl⟩
theorem M.sub_pow:∀ k,k < 8→255 - 2 ^ k=255 ^^^ 2 ^ k:=by decide
set_option maxHeartbeats 1000000 in
theorem add_new (i:Nat) (w:World) {b m:Nat} {f:Nat→Bool} (h:Set w b m f) (hi:i < m) (hf:f i=false) :
    Calls Tryz.prog 8 #[.pointer (some ⟨b,0,none⟩),.int .i64 i] w fun e w'=>e=.returned (.bool true)∧Set w' b m (M.put f i true)∧Kept (fun k=>k=b) w w':=by
  have HM:=Lib.hid (may_n i w h.n)
  have e1:(decide ((0:Int)≤(i:Int)) && decide ((i:Int) < (m:Int)))=true:=by simp;omega
  rw [e1] at HM
  clear e1
  have HH:=Lib.hid (has_in i w h hi)
  rw [hf] at HH
  have HB:=Lib.hid (fun x=>bitOf_any i x)
  have hm:=h.le
  have HX:Hid (∀ n,Set ((w.drewN n).setCell ⟨b,1+i / 8,none⟩ (.int .u8 (M.byte (M.put f i true) (i / 8):Nat))) b m (M.put f i true)∧Kept (fun k=>k=b) w ((w.drewN n).setCell ⟨b,1+i / 8,none⟩ (.int .u8 (M.byte (M.put f i true) (i / 8):Nat)))):=fun n =>
    ⟨(h.drewN n).put hi true,Kept.set (P:=fun k=>k=b) ((Kept.refl _ w).drewN n) (fun _=>rfl) _ _⟩
  have hi8:i / 8 < 125:=by omega
  have HC:Hid (∀ n,(w.drewN n).cell? ⟨b,1+i / 8,none⟩=some (.int .u8 (M.byte f (i / 8):Nat))∧(w.drewN n).frozen? ⟨b,1+i / 8,none⟩=false):=fun n=>⟨(h.drewN n).c1 _ hi8,(h.drewN n).box.frozen _⟩
  have hq:(i:Int) / 8=((i / 8:Nat):Int):=by omega
  have hor:bits .or .u8 (M.byte f (i / 8):Nat) ((2 ^ (i % 8):Nat):Int)=(M.byte (M.put f i true) (i / 8):Nat):=by
    rw [←M.byte_in]
    exact u8_or_nat _ _ (M.byte_lt _ _) (Nat.pow_lt_pow_right (by omega) (by omega:i % 8 < 8))
  obtain ⟨x,hx⟩:∃ x:Nat,x=M.byte (M.put f i true) (i / 8):=⟨_,rfl⟩
  rw [←hx] at hor HX
  obtain ⟨y,hy⟩:∃ y,y=2 ^ (i % 8):=⟨_,rfl⟩
  rw [←hy] at hor HB
  obtain ⟨z,hz⟩:∃ z,z=M.byte f (i / 8):=⟨_,rfl⟩
  rw [←hz] at hor HC
  obtain ⟨q,hq'⟩:∃ q,q=i / 8:=⟨_,rfl⟩
  rw [←hq'] at hq HC hi8 HX
  have hq0:(0:Int)≤(q:Int):=by omega
  have hq1:(q:Int) < 125:=by omega
  have hqt:(i:Int).tdiv 8=(q:Int):=by rw [Int.tdiv_eq_ediv_of_nonneg (by omega)];exact hq
  have hqw:IntKind.i64.wrap (q:Int)=(q:Int):=by rw [IntKind.wrap_i64];omega
  clear h hx hy hz hq' hf
  go_enter Tryz.func8,Tryz.ntmps8
  go_wp2_with fail
  refine HM.out.mono ?_
  rintro e w1 ⟨rfl,hw1⟩
  rw [hw1]
  clear hw1
  go_wp2_with fail
  refine HH.out.mono ?_
  rintro e w2 ⟨rfl,n,hw2⟩
  have HX2:Hid (Set ((w2.setCell ⟨b,1+q,none⟩ (.int .u8 (x:Nat))).drew) b m (M.put f i true)∧Kept (fun k=>k=b) w ((w2.setCell ⟨b,1+q,none⟩ (.int .u8 (x:Nat))).drew)):=by
    rw [hw2];exact ⟨(HX.out n).1.drew,(HX.out n).2.drew⟩
  have hc:=(HC.out n).1
  have hfz:=(HC.out n).2
  rw [←hw2] at hc hfz
  clear hw2 HX HC HH HM
  go_wp2_with fail
  go_region_with (first | (go_at_call 30;refine (HB.out _).mono ?_;rintro e w3 ⟨rfl,rfl⟩))
  all_goals (obtain ⟨W,hW⟩:∃ W,W=(w2.setCell ⟨b,1+q,none⟩ (.int .u8 (x:Nat))).drew:=⟨_,rfl⟩;rw [←hW] at HX2;rw [←hW];clear hW hc hfz)
  all_goals go_wp2_with fail
  all_goals go_ret
  all_goals exact ⟨rfl,HX2.out.1,HX2.out.2⟩
set_option maxHeartbeats 1000000 in
theorem remove_was (i:Nat) (w:World) {b m:Nat} {f:Nat→Bool} (h:Set w b m f) (hi:i < m) (hf:f i=true) :
    Calls Tryz.prog 96 #[.pointer (some ⟨b,0,none⟩),.int .i64 i] w fun e w'=>e=.returned (.bool true)∧Set w' b m (M.put f i false)∧Kept (fun k=>k=b) w w':=by
  have HH:=Lib.hid (has_in i w h hi)
  rw [hf] at HH
  have HB:=Lib.hid (fun x=>bitOf_any i x)
  have hm:=h.le
  have HX:Hid (∀ n,Set ((w.drewN n).setCell ⟨b,1+i / 8,none⟩ (.int .u8 (M.byte (M.put f i false) (i / 8):Nat))) b m (M.put f i false)∧Kept (fun k=>k=b) w ((w.drewN n).setCell ⟨b,1+i / 8,none⟩ (.int .u8 (M.byte (M.put f i false) (i / 8):Nat)))):=fun n =>
    ⟨(h.drewN n).put hi false,Kept.set (P:=fun k=>k=b) ((Kept.refl _ w).drewN n) (fun _=>rfl) _ _⟩
  have hi8:i / 8 < 125:=by omega
  have HC:Hid (∀ n,(w.drewN n).cell? ⟨b,1+i / 8,none⟩=some (.int .u8 (M.byte f (i / 8):Nat))∧(w.drewN n).frozen? ⟨b,1+i / 8,none⟩=false):=fun n=>⟨(h.drewN n).c1 _ hi8,(h.drewN n).box.frozen _⟩
  have hq:(i:Int) / 8=((i / 8:Nat):Int):=by omega
  have hor:bits .andNot .u8 (M.byte f (i / 8):Nat) ((2 ^ (i % 8):Nat):Int)=(M.byte (M.put f i false) (i / 8):Nat):=by
    rw [←M.byte_out,←M.sub_pow _ (by omega:i % 8 < 8)]
    exact u8_andNot_nat _ _ (M.byte_lt _ _) (Nat.pow_lt_pow_right (by omega) (by omega:i % 8 < 8))
  obtain ⟨x,hx⟩:∃ x:Nat,x=M.byte (M.put f i false) (i / 8):=⟨_,rfl⟩
  rw [←hx] at hor HX
  obtain ⟨y,hy⟩:∃ y,y=2 ^ (i % 8):=⟨_,rfl⟩
  rw [←hy] at hor HB
  obtain ⟨z,hz⟩:∃ z,z=M.byte f (i / 8):=⟨_,rfl⟩
  rw [←hz] at hor HC
  obtain ⟨q,hq'⟩:∃ q,q=i / 8:=⟨_,rfl⟩
  rw [←hq'] at hq HC hi8 HX
  have hq0:(0:Int)≤(q:Int):=by omega
  have hq1:(q:Int) < 125:=by omega
  have hqt:(i:Int).tdiv 8=(q:Int):=by rw [Int.tdiv_eq_ediv_of_nonneg (by omega)];exact hq
  have hqw:IntKind.i64.wrap (q:Int)=(q:Int):=by rw [IntKind.wrap_i64];omega
  clear h hx hy hz hq' hf
  go_enter Tryz.func96,Tryz.ntmps96
  go_wp2_with fail
  refine HH.out.mono ?_
  rintro e w2 ⟨rfl,n,hw2⟩
  have HX2:Hid (Set ((w2.setCell ⟨b,1+q,none⟩ (.int .u8 (x:Nat))).drew) b m (M.put f i false)∧Kept (fun k=>k=b) w ((w2.setCell ⟨b,1+q,none⟩ (.int .u8 (x:Nat))).drew)):=by
    rw [hw2];exact ⟨(HX.out n).1.drew,(HX.out n).2.drew⟩
  have hc:=(HC.out n).1
  have hfz:=(HC.out n).2
  rw [←hw2] at hc hfz
  clear hw2 HX HC HH
  go_wp2_with fail
  go_region_with (first | (go_at_call 30;refine (HB.out _).mono ?_;rintro e w3 ⟨rfl,rfl⟩))
  all_goals (obtain ⟨W,hW⟩:∃ W,W=(w2.setCell ⟨b,1+q,none⟩ (.int .u8 (x:Nat))).drew:=⟨_,rfl⟩;rw [←hW] at HX2;rw [←hW];clear hW hc hfz)
  all_goals go_wp2_with fail
  all_goals go_ret
  all_goals exact ⟨rfl,HX2.out.1,HX2.out.2⟩
theorem add_any (i:Int) (w:World) {b m:Nat} {f:Nat→Bool} (h:Set w b m f) :
    Calls Tryz.prog 8 #[.pointer (some ⟨b,0,none⟩),.int .i64 i] w fun e w'=>e=.returned (.bool (M.addB m f i))∧Set w' b m (M.putI m f i true)∧Kept (fun k=>k=b) w w':=by
  by_cases hi:i < 0∨(m:Int)≤i
  · have e:M.addB m f i=false:=by
      unfold M.addB
      rcases hi with hi | hi
      · have:¬ 0≤i:=by omega
        simp [this]
      · have:¬ i < (m:Int):=by omega
        simp [this]
    rw [e,M.putI_out m f i true hi]
    refine (add_out i w h.n hi).mono ?_
    rintro e w' ⟨rfl,n,rfl⟩
    exact ⟨rfl,h.drewN n,(Kept.refl _ w).drewN n⟩
  · obtain ⟨j,rfl⟩:∃ j:Nat,i=j:=⟨i.toNat,by omega⟩
    have hj:j < m:=by omega
    have e:M.addB m f (j:Int)=!f j:=by
      unfold M.addB
      have h2:(j:Int) < (m:Int):=by omega
      simp [h2]
    rw [e,M.putI_in m f j true hj]
    by_cases hf:f j=true
    · rw [hf,M.put_id f j true hf]
      refine (add_was j w h hj hf).mono ?_
      rintro e w' ⟨rfl,n,rfl⟩
      exact ⟨rfl,h.drewN n,(Kept.refl _ w).drewN n⟩
    · have hf':f j=false:=by simpa using hf
      rw [hf']
      exact add_new j w h hj hf'
theorem remove_none (i:Int) (w:World) {p:Option Addr} {m:Nat} {f:Nat→Bool} (h:SetN w p m f) (hi:M.hasI f i=false) :
    Calls Tryz.prog 96 #[.pointer p,.int .i64 i] w fun e w'=>e=.returned (.bool false)∧∃ n,w'=w.drewN n:=by
  have HH:=Lib.hid (has_n i w h)
  rw [hi] at HH
  clear h hi
  go_enter Tryz.func96,Tryz.ntmps96
  go_wp2_with fail
  refine HH.out.mono ?_
  rintro e w2 ⟨rfl,n,rfl⟩
  go_wp2_with fail
  go_ret
  exact ⟨rfl,n,rfl⟩
theorem remove_any (i:Int) (w:World) {b m:Nat} {f:Nat→Bool} (h:Set w b m f) :
    Calls Tryz.prog 96 #[.pointer (some ⟨b,0,none⟩),.int .i64 i] w fun e w'=>e=.returned (.bool (M.hasI f i))∧Set w' b m (M.putI m f i false)∧Kept (fun k=>k=b) w w':=by
  by_cases hf:M.hasI f i=true
  · have hi:¬ (i < 0∨(m:Int)≤i):=fun hi=>by rw [M.hasI_out h.low hi] at hf;cases hf
    obtain ⟨j,rfl⟩:∃ j:Nat,i=j:=⟨i.toNat,by omega⟩
    have hj:j < m:=by omega
    rw [hf,M.putI_in m f j false hj]
    rw [M.hasI_nat] at hf
    exact remove_was j w h hj hf
  · have hf':M.hasI f i=false:=by simpa using hf
    have e:M.putI m f i false=f:=by
      unfold M.putI
      split
      · rename_i hi
        apply M.put_id
        unfold M.hasI at hf'
        have:decide (0≤i)=true:=by simpa using hi.1
        rw [this,Bool.true_and] at hf'
        exact hf'
      · rfl
    rw [hf',e]
    refine (remove_none i w h.n hf').mono ?_
    rintro e w' ⟨rfl,n,rfl⟩
    exact ⟨rfl,h.drewN n,(Kept.refl _ w).drewN n⟩
end Go.Proofs.YtmljgogdgmeceaaGreatDoor.K
namespace Go.Proofs.YtmljgogdgmeceaaGreatDoor.K
open Go.RowKit
def goesOr (B:Nat) (W:World) (I E:World→Prop):Exit→Act→World→Prop
  | .normal, _, W' => W.heap.size≤W'.heap.size∧(∀ j,B≤j→j < W.heap.size→W'.heap[j]?=W.heap[j]?)∧I W'
  | .ret, _, W' => W.heap.size≤W'.heap.size∧(∀ j,B≤j→j < W.heap.size→W'.heap[j]?=W.heap[j]?)∧E W'
  | _, _, _ => False
def recOf (w:World) (a:Act) (fn:FuncId) (ps:Array Tmp) (assign body:Code) (s:LoopState) (p:Option Code):Loop :=
  { state:=s,pending:=p,fn:=fn,tmps:=a.tmps,params:=ps,assign:=assign,body:=body,defers:=w.heap.size }
theorem range_leave {m:Nat} {P:Program} {g:Operand} {ps:Array Tmp} {assign body:Code} {Q:Exit→Act→World→Prop} {a:Act} {w:World} {gf:Nat} {bd:Array Value}
    (hg:a.eval g=.func (.func gf) bd #[]) (eg:∀ args w,(callFunc gf args).run P w=.ok (.enter gf args) w) (N:Nat) (S:Nat→Bool) (args:Nat→Array Value) (hps:∀ k,(args k).size=ps.size)
    (I:Nat→World→Prop) (E:World→Prop) (hIa:∀ k W o,I k W→I k (W.alloc o)) (hIp:∀ k W l o,I k W→w.heap.size≤l→I k (W.putObj l o)) (hEp:∀ W l o,E W→w.heap.size≤l→E (W.putObj l o)) (hId:∀ k W n,I k W→I k (World.drewN W n))
    (hIs:∀ k W,k < N→S k=false→I k W→I (k+1) W) (h0:I 0 w) (a₁:Nat→Act)
    (hit:∀ (l:Nat) (J:Nat→World→Prop) (D:World→Prop),(∀ k W,J k W→I k W)→(∀ k W n,J k W→J k (World.drewN W n))→(∀ k W,k < N→S k=false→J k W→J (k+1) W) →
      (∀ k W,k < N→S k=true→J k W→YieldAt Fence.wide m P l (args k) W fun e W'=>(e=.returned (.bool true)∧J (k+1) W')∨(e=.returned (.bool false)∧D W'))→∀ W,J 0 W →
      CallsIn Fence.wide (m+1) P gf (bd++#[.func (.yield l) #[] #[]]) W fun e W'=>(∃ v,e=.returned v)∧(J N W'∨D W'))
    (hassign:∀ (l k:Nat) (W:World) (K:Act→World→Prop),k < N→S k=true→K (a₁ k) W →
      assign.wpIn (Fence.wide.inRound l) m P (Exit.then K (fun _ _ _=>False)) { tmps:=(ps.zip (args k)).foldl (fun t (p,v)=>t.setIfInBounds p v) a.tmps,defers:=[] } W)
    (hbody:∀ (l k:Nat) (W:World),k < N→S k=true→I k W→body.wpIn (Fence.wide.inRound l) m P (goesOr w.heap.size W (I (k+1)) E) (a₁ k) W)
    (hdone:∀ (D:Nat) (W:World),w.heap.size≤D→I N W→W.heap[D]?=some (.deferred (some []))→Q .normal { a with defers:={ target:=.collected D,args:=#[] } :: a.defers } W)
    (hstop:∀ (D:Nat) (W:World),w.heap.size≤D→E W→W.heap[D]?=some (.deferred (some []))→Code.ret.wpIn Fence.wide (m+2) P Q { a with defers:={ target:=.collected D,args:=#[] } :: a.defers } W) :
    (Code.rangeFunc g ps assign body).wpIn Fence.wide (m+2) P Q a w:=by
  refine wpIn_rangeFunc ?_
  intro fn _
  obtain ⟨R,hRR⟩:∃ R,R=recOf w a fn ps assign body:=⟨_,rfl⟩
  obtain ⟨W1,hW1⟩:∃ W1,W1=(w.alloc (.deferred (some []))).alloc (.loop (R .ready none)):=⟨_,rfl⟩
  have hl1:W1.heap[w.heap.size+1]?=some (.loop (R .ready none)):=by
    rw [hW1]
    have:=World.alloc_heap_new (w.alloc (.deferred (some []))) (.loop (R .ready none))
    rwa [World.size_alloc] at this
  have hd1:W1.heap[w.heap.size]?=some (.deferred (some [])):=by
    rw [hW1]
    exact (Below.heap_alloc _ _ _ (by simp)).trans (World.alloc_heap_new w _)
  have hi1:I 0 W1:=by rw [hW1];exact hIa _ _ _ (hIa _ _ _ h0)
  refine ⟨w.heap.size+1,[{ target:=.collected w.heap.size,args:=#[] }],W1,{ target:=.fn (.func gf) #[],args:=bd++#[.func (.yield (w.heap.size+1)) #[] #[]] },W1,gf,
    bd++#[.func (.yield (w.heap.size+1)) #[] #[]],W1,?_,?_,fun _ _=>trivial,?_,fun h=>absurd h (by simp [Fence.wide]),?_⟩
  · rw [hW1,hRR]
    exact run_enterLoop_outer _ _ _ _ _
  · simp only [resolve,hg]
    simp [go_sem]
  · simp [invoke,go_sem,eg]
  · refine (hit (w.heap.size+1) (fun k W=>I k W∧W.heap[w.heap.size+1]?=some (.loop (R .ready none))∧W.heap[w.heap.size]?=some (.deferred (some [])))
      (fun W=>E W∧W.heap[w.heap.size+1]?=some (.loop (R .done (some .ret)))∧W.heap[w.heap.size]?=some (.deferred (some [])))
      (fun _ _ h=>h.1) (fun k W n h=>⟨hId k W n h.1,h.2⟩) (fun k W hk hs h=>⟨hIs k W hk hs h.1,h.2⟩) ?_ W1 ⟨hi1,hl1,hd1⟩).mono ?_
    · rintro k W hk hsk ⟨hi,hl,hd⟩
      have hy:=run_yield (P:=P) (args:=args k) hl (by rw [hRR];exact hps k)
      rw [hRR] at hy
      refine ⟨fn,_,assign,body,hy,roundIn_of_wpIn trivial (hassign _ k W _ hk hsk ⟨_,run_beginRound hl (by rw [hRR];rfl),?_⟩)⟩
      have hlt:w.heap.size+1 < W.heap.size:=(Array.getElem?_eq_some_iff.1 hl).1
      refine wpIn_mono (hbody _ k _ hk hsk (hIp k _ _ _ hi (by omega))) ?_
      intro e a3 W3 hp
      cases e with
      | normal =>
        obtain ⟨hz,hk3,hi3⟩:=hp
        rw [World.putObj_size] at hz hk3
        have hl3:W3.heap[w.heap.size+1]?=some (.loop { R .ready none with state:=.busy }):=(hk3 _ (by omega) hlt).trans (World.putObj_heap_same hlt)
        have hd3:W3.heap[w.heap.size]?=some (.deferred (some [])):=(hk3 _ (Nat.le_refl _) (by omega)).trans ((World.putObj_heap_other (by omega)).trans hd)
        refine ⟨_,_,run_endRound (P:=P) none hl3,?_⟩
        refine Or.inl ⟨rfl,hIp _ _ _ _ hi3 (by omega),?_,?_⟩
        · rw [World.putObj_heap_same (by omega),hRR]
          rfl
        · exact (World.putObj_heap_other (by omega)).trans hd3
      | ret =>
        obtain ⟨hz,hk3,hi3⟩:=hp
        rw [World.putObj_size] at hz hk3
        have hl3:W3.heap[w.heap.size+1]?=some (.loop { R .ready none with state:=.busy }):=(hk3 _ (by omega) hlt).trans (World.putObj_heap_same hlt)
        have hd3:W3.heap[w.heap.size]?=some (.deferred (some [])):=(hk3 _ (Nat.le_refl _) (by omega)).trans ((World.putObj_heap_other (by omega)).trans hd)
        refine ⟨_,_,run_endRound (P:=P) (some .ret) hl3,?_⟩
        refine Or.inr ⟨rfl,hEp _ _ _ hi3 (by omega),?_,?_⟩
        · rw [World.putObj_heap_same (by omega),hRR]
          rfl
        · exact (World.putObj_heap_other (by omega)).trans hd3
      | exit _ => exact hp.elim
      | goto _ => exact hp.elim
      | panic _ => exact hp.elim
      | outgrown => exact hp.elim
    · rintro e W2 ⟨⟨v,rfl⟩,⟨hi,hl,hd⟩ | ⟨hi,hl,hd⟩⟩
      · have hend:=run_endLoop (P:=P) hl (by rw [hRR];simp [recOf])
        have hpn:(R .ready none).pending=none:=by rw [hRR];rfl
        rw [hpn] at hend
        exact ⟨none,_,hend,hdone _ _ (Nat.le_refl _) (hIp _ _ _ _ hi (by omega)) ((World.putObj_heap_other (by omega)).trans hd)⟩
      · have hend:=run_endLoop (P:=P) hl (by rw [hRR];simp [recOf])
        have hpn:(R .done (some .ret)).pending=some .ret:=by rw [hRR];rfl
        rw [hpn] at hend
        exact ⟨some .ret,_,hend,hstop _ _ (Nat.le_refl _) (hEp _ _ _ hi (by omega)) ((World.putObj_heap_other (by omega)).trans hd)⟩
end Go.Proofs.YtmljgogdgmeceaaGreatDoor.K
namespace Go.Proofs.YtmljgogdgmeceaaGreatDoor.K
open Go.RowKit
def M.bad (m:Nat) (l:List UInt8):Bool:=(List.range (8 * l.length)).any (fun i=>M.bitAt l i && decide (m≤i))
def M.readE (m:Nat) (l:List UInt8):Int:=if l.length < M.wide m then 1 else if M.wide m < l.length then 2 else if M.bad m l then 4 else 0
theorem M.bit_far (l:List UInt8) (i:Nat) (h:8 * l.length≤i):M.bitAt l i=false:=by
  unfold M.bitAt
  rw [List.getElem?_eq_none (by omega)]
  simp
theorem M.good {m:Nat} {l:List UInt8} (h:∀ i,i < 8 * l.length→M.bitAt l i=true→i < m):M.bad m l=false:=by
  unfold M.bad
  rw [List.any_eq_false]
  intro i hi
  have:=h i (by simpa using hi)
  by_cases e:M.bitAt l i=true
  · have:=this e
    simp [e];omega
  · simp [e]
theorem M.bad_at {m:Nat} {l:List UInt8} {i:Nat} (h:i < 8 * l.length) (hb:M.bitAt l i=true) (hm:m≤i):M.bad m l=true:=by
  unfold M.bad
  rw [List.any_eq_true]
  exact ⟨i,by simpa using h,by simp [hb,hm]⟩
theorem M.upto_all (l:List UInt8):M.upto l (8 * l.length)=M.bitAt l:=by
  funext i
  unfold M.upto
  by_cases h:i < 8 * l.length
  · simp [h]
  · rw [M.bit_far l i (by omega)];simp
def ReadPost (m:Nat) (l:List UInt8) (w:World) (e:Ending) (w':World):Prop :=
  ∃ p,e=.returned (.tuple #[.pointer p,.int .i64 (M.readE m l)])∧(M.readE m l≠0→p=none)∧(M.readE m l=0→∃ b,p=some ⟨b,0,none⟩∧w.heap.size≤b∧Set w' b m (M.bitAt l))∧Below w.heap.size w w'
set_option maxRecDepth 100000 in
set_option maxHeartbeats 2000000 in
theorem read_any (n:Int) (s:ByteArray) (w:World) :
    Calls Tryz.prog 42 #[.int .i64 n,.string s] w fun e w'=>ReadPost (M.most n) s.data.toList w e w':=by
  have HN:=Lib.hid (new_any n w)
  have HS0:=Lib.hid (Set.new w n)
  have HK0:Hid (Kept (fun k=>k=w.heap.size) w (w.alloc (.cells (M.cells (M.most n) (fun _=>false)) 66))):=(Kept.refl _ w).alloc _
  have hm:=M.most_le n
  obtain ⟨m,hmm⟩:∃ m,m=M.most n:=⟨_,rfl⟩
  rw [←hmm] at HN HS0 HK0 hm
  rw [←hmm]
  clear hmm
  have hsl:s.data.toList.length=s.size:=by rw [Array.length_toList];rfl
  obtain ⟨l,hl⟩:∃ l,l=s.data.toList:=⟨_,rfl⟩
  rw [←hl] at hsl
  rw [←hl]
  have HL:=Lib.hid hl
  clear hl
  have hq1:M.wide m≤125∧m≤8 * M.wide m:=by unfold M.wide;omega
  have HFin:Hid (∀ x:World,Kept (fun k=>k=w.heap.size) w x→Below w.heap.size w x):=fun x hx=>hx.below (Nat.le_refl _) (fun k hk e=>by omega)
  have HWd:=Lib.hid (fun x (hx:Set x w.heap.size m (fun _=>false))=>width_n x hx.n)
  by_cases h1:s.size < M.wide m
  · have HE:Hid (M.readE m l=1):=by show _=_;unfold M.readE;rw [if_pos (by omega)]
    have h1':(s.size:Int) < (M.wide m:Nat):=by omega
    go_enter Tryz.func42,Tryz.ntmps42
    go_wp2_with fail
    refine HN.out.mono ?_
    rintro e w1 ⟨rfl,hw1⟩
    rw [←hw1] at HS0 HK0
    clear hw1 HN
    go_wp2_with fail
    refine (HWd.out w1 HS0.out).mono ?_
    rintro e w2 ⟨rfl,rfl⟩
    go_wp2_with fail
    go_ret2
    exact ⟨none,by rw [HE.out];rfl,fun _=>rfl,fun h=>(by rw [HE.out] at h;cases h),HFin.out _ HK0.out⟩
  · by_cases h2:M.wide m < s.size
    · have HE:Hid (M.readE m l=2):=by show _=_;unfold M.readE;rw [if_neg (by omega),if_pos (by omega)]
      have h1':((M.wide m:Nat):Int)≤(s.size:Int):=by omega
      have h2':((M.wide m:Nat):Int) < (s.size:Int):=by omega
      clear h1
      go_enter Tryz.func42,Tryz.ntmps42
      go_wp2_with fail
      refine HN.out.mono ?_
      rintro e w1 ⟨rfl,hw1⟩
      rw [←hw1] at HS0 HK0
      clear hw1 HN
      go_wp2_with fail
      refine (HWd.out w1 HS0.out).mono ?_
      rintro e w2 ⟨rfl,rfl⟩
      go_wp2_with fail
      refine (HWd.out _ HS0.out).mono ?_
      rintro e w2 ⟨rfl,rfl⟩
      go_wp2_with fail
      go_ret2
      exact ⟨none,by rw [HE.out];rfl,fun _=>rfl,fun h=>(by rw [HE.out] at h;cases h),HFin.out _ HK0.out⟩
    · have he:M.wide m=s.size:=by omega
      have HB4:Hid (M.bad m l=true→M.readE m l=4):=fun h=>by unfold M.readE;rw [if_neg (by omega),if_neg (by omega),if_pos h]
      have HB0:Hid (M.bad m l=false→M.readE m l=0):=fun h=>by unfold M.readE;rw [if_neg (by omega),if_neg (by omega),if_neg (by rw [h];simp)]
      rw [he] at HWd hq1
      obtain ⟨z,hz⟩:∃ z,z=s.size:=⟨_,rfl⟩
      rw [←hz] at HWd hq1 hsl
      have HZ:=Lib.hid hz
      have hzi:(s.size:Int)=(z:Nat):=by omega
      clear h1 h2 he hz
      go_enter Tryz.func42,Tryz.ntmps42
      go_wp2_with fail
      refine HN.out.mono ?_
      rintro e w1 ⟨rfl,hw1⟩
      rw [←hw1] at HS0 HK0
      clear hw1 HN
      go_wp2_with fail
      refine (HWd.out w1 HS0.out).mono ?_
      rintro e w2 ⟨rfl,rfl⟩
      go_wp2_with fail
      refine (HWd.out _ HS0.out).mono ?_
      rintro e w2 ⟨rfl,rfl⟩
      go_wp2_with fail
      go_loopw [23] (fun i wr=>∃ k:Nat,k≤8 * z∧i=.int .i64 k∧Set wr w.heap.size m (M.upto l k)∧(∀ j,j < k→M.bitAt l j=true→j < m)∧Kept (fun k=>k=w.heap.size) w wr) (fun i _=>8 * z - (intOf i).toNat)
      case atStart=>exact ⟨0,Nat.zero_le _,rfl,by rw [M.upto_zero];exact HS0.out,fun j hj=>absurd hj (by omega),HK0.out⟩
      case round =>
        obtain ⟨k,hk,rfl,hSk,hbk,hKk⟩:=hrel
        have HSk:=Lib.hid hSk
        have HBk:=Lib.hid hbk
        have HKk:=Lib.hid hKk
        clear hSk hbk hKk HS0 HK0
        by_cases hlt:k < 8 * z
        · have hlt':(k:Int) < 8 * (z:Int):=by omega
          obtain ⟨q,hq'⟩:∃ q,q=k / 8:=⟨_,rfl⟩
          have hqz:q < s.size:=by have:=HZ.out;omega
          obtain ⟨c,hc⟩:∃ c,c=s[q]'hqz:=⟨_,rfl⟩
          have hcr:∀ h:q < s.size,s[q]'h=c:=fun _=>hc.symm
          have HBit:Hid (M.bitAt l k=c.toNat.testBit (k % 8)):=by
            show _=_
            unfold M.bitAt
            rw [hc,HL.out,←hq']
            have e:s.data.toList[q]?=some (s[q]'hqz):=by
              rw [List.getElem?_eq_getElem (by rw [Array.length_toList];exact hqz)]
              rfl
            rw [e];rfl
          have hq:(k:Int) / 8=(q:Int):=by omega
          have HBo:=Lib.hid (fun x=>bitOf_any k x)
          have HAdd:=Lib.hid (fun x (hx:Set x w.heap.size m (M.upto l k))=>add_any (k:Nat) x hx)
          obtain ⟨y,hy⟩:∃ y,y=2 ^ (k % 8):=⟨_,rfl⟩
          have hbx:=M.bit_and c.toNat (k % 8)
          have hand:bits .and .u8 ((c.toNat:Nat):Int) ((2 ^ (k % 8):Nat):Int)=((c.toNat &&& 2 ^ (k % 8):Nat):Int):=u8_and_nat _ _ c.toNat_lt (Nat.pow_lt_pow_right (by omega) (by omega:k % 8 < 8))
          rw [←hy] at HBo hand hbx
          obtain ⟨x,hx⟩:∃ x:Nat,x=c.toNat &&& y:=⟨_,rfl⟩
          rw [←hx] at hand hbx
          rw [←HBit.out] at hbx
          have hq0:(0:Int)≤(q:Int):=by omega
          have hqs:(q:Int) < (s.size:Int):=by omega
          have hqz':(q:Int) < (z:Int):=by omega
          have hqt:(k:Int).tdiv 8=(q:Int):=by rw [Int.tdiv_eq_ediv_of_nonneg (by omega)];exact hq
          have hqw:IntKind.i64.wrap (q:Int)=(q:Int):=by rw [IntKind.wrap_i64];omega
          by_cases hb:M.bitAt l k=true
          · have hne:((x:Int) != 0)=true:=by
              rw [hb] at hbx
              simp at hbx
              simp
              omega
            clear hc hx hy hq' hbx
            have HB':=Lib.hid hb
            clear hb
            by_cases hkm:k < m
            · have HA:Hid (∀ x (_:Set x w.heap.size m (M.upto l k)),Calls Tryz.prog 8 #[.pointer (some ⟨w.heap.size,0,none⟩),.int .i64 (k:Nat)] x fun e w'=>e=.returned (.bool true)∧Set w' w.heap.size m (M.upto l (k+1))∧Kept (fun k=>k=w.heap.size) x w'):=fun x hx=>by
                have:=add_any (k:Nat) x hx
                rw [M.putI_in m _ k true hkm,←M.upto_in l k HB'.out] at this
                have e:M.addB m (M.upto l k) (k:Nat)=true:=by
                  unfold M.addB
                  have h2:(k:Int) < (m:Int):=by omega
                  simp [h2,M.upto_at]
                rw [e] at this
                exact this
              go_wp2_with fail
              go_region_held3 (fun _=>True) (first | trivial) (first
                | (go_at_call 30;refine (HBo.out _).mono ?_;rintro e w3 ⟨rfl,hw3⟩;subst hw3)
                | (go_at_call 8;refine (HA.out _ HSk.out.drew).mono ?_;rintro e w4 ⟨rfl,hS4,hK4⟩))
              all_goals (have HS4:=Lib.hid hS4;have HK4:Hid (Kept (fun k=>k=w.heap.size) w w4):=HKk.out.drew.trans hK4;clear hS4 hK4)
              all_goals go_wp2_with fail
              all_goals go_roundw
              all_goals first
                | exact ⟨k + 1, by omega, by go_num, HS4.out, fun j hj hjb => by
                    by_cases e:j=k
                    · omega
                    · exact HBk.out j (by omega) hjb,HK4.out⟩
                | (simp [intOf];omega)
            · have HA:Hid (∀ x (_:Set x w.heap.size m (M.upto l k)),Calls Tryz.prog 8 #[.pointer (some ⟨w.heap.size,0,none⟩),.int .i64 (k:Nat)] x fun e w'=>e=.returned (.bool false)∧∃ n,w'=x.drewN n):=fun x hx =>
                add_out (k:Nat) x hx.n (Or.inr (by omega))
              have HE:=Lib.hid (HB4.out (M.bad_at (by omega) HB'.out (by omega)))
              go_wp2_with fail
              go_quiet (first
                | (go_at_call 30;exact quiet_same (HBo.out _))
                | (go_at_call 8;exact quiet_more (HA.out _ (HSk.out.drewN _))))
              go_wp2_with fail
              go_ret2
              exact ⟨none,by rw [HE.out];rfl,fun _=>rfl,fun h=>(by rw [HE.out] at h;cases h),HFin.out _ (HKk.out.drewN _)⟩
          · have hb':M.bitAt l k=false:=by simpa using hb
            have hne:((x:Int) != 0)=false:=by
              rw [hb'] at hbx
              simp at hbx
              simp [hbx]
            have HU:=Lib.hid (M.upto_out l k hb')
            clear hc hx hy hq' hbx hb
            have HB':=Lib.hid hb'
            clear hb'
            go_wp2_with fail
            go_quiet (first | (go_at_call 30;exact quiet_same (HBo.out _)))
            go_wp2_with fail
            go_roundw
            case rel=>exact ⟨k+1,by omega,by go_num,by rw [HU.out];exact HSk.out.drewN _,fun j hj hjb=>by
              by_cases e:j=k
              · rw [e,HB'.out] at hjb;cases hjb
              · exact HBk.out j (by omega) hjb,HKk.out.drewN _⟩
            case measure=>simp [intOf];omega
        · have ek:k=8 * z:=by omega
          subst ek
          have HE:=Lib.hid (HB0.out (M.good (by rw [hsl];exact HBk.out)))
          have HX:Hid (Set wr w.heap.size m (M.bitAt l)):=by
            have:=HSk.out
            rw [←hsl,M.upto_all] at this
            exact this
          go_wp2_with fail
          go_ret2
          exact ⟨_,by rw [HE.out];rfl,fun h=>absurd HE.out h,fun _=>⟨_,rfl,Nat.le_refl _,HX.out⟩,HFin.out _ HKk.out⟩
end Go.Proofs.YtmljgogdgmeceaaGreatDoor.K
namespace Go.Proofs.YtmljgogdgmeceaaGreatDoor.K
open Go.RowKit Go.Shelf
attribute [local go_sem] Oper.semAt_some
set_option maxRecDepth 100000 in
set_option maxHeartbeats 2000000 in
theorem tell_in (n l:Nat) {p:Option Addr} {m:Nat} {f:Nat→Bool} (J:Nat→World→Prop) (D:World→Prop)
    (hJ:∀ k W,J k W→SetN W p m f) (hD:∀ k W n,J k W→J k (World.drewN W n)) (hS:∀ k W,k < m→f k=false→J k W→J (k+1) W)
    (hY:∀ k W,k < m→f k=true→J k W→YieldAt Fence.wide n Tryz.prog l #[.int .i64 (k:Nat)] W fun e W'=>(e=.returned (.bool true)∧J (k+1) W')∨(e=.returned (.bool false)∧D W'))
    (W:World) (h0:J 0 W) :
    CallsIn Fence.wide (n+1) Tryz.prog 69 #[.pointer p,.func (.yield l) #[] #[]] W fun e W'=>(∃ v,e=.returned v)∧(J m W'∨D W'):=by
  have HR:=Lib.hid (hJ 0 W h0)
  have HC:Hid (∀ x,CallsIn Fence.wide x Tryz.prog 16 #[.pointer p] W fun e w'=>e=.returned (.int .i64 (m:Nat))∧w'=W):=fun x=>callsIn_wide.2 (many_n W HR.out)
  have hm:=HR.out.le
  have HH:Hid (∀ x k W,J k W→CallsIn Fence.wide x Tryz.prog 27 #[.pointer p,.int .i64 (k:Nat)] W fun e w'=>e=.returned (.bool (f k))∧J k w'):=fun x k W h=>callsIn_wide.2 ((has_n (k:Nat) W (hJ k W h)).mono fun e w' ⟨he,n,hw⟩=>⟨by rw [he,M.hasI_nat],by rw [hw];exact hD k W n h⟩)
  have HY:=Lib.hid hY
  have HS:=Lib.hid hS
  clear hY hJ hD hS HR
  refine callsIn_of_wp Tryz.func69 rfl trivial ?_ rfl
  simp only [Tryz.ntmps69,List.size_toArray,List.length_cons,List.length_nil,Nat.reduceAdd,Nat.reduceSub,Array.replicate_succ,Array.replicate_zero,List.push_toArray,List.append_toArray,List.nil_append,List.cons_append]
  gi_wp2_with (refine ⟨trivial,?_⟩;gi_at_call 16;refine (HC.out _).mono ?_;rintro e w1 ⟨rfl,rfl⟩)
  gi_loopw [7] (fun i wr=>∃ k:Nat,k≤m∧i=.int .i64 k∧J k wr) (fun i _=>m - (intOf i).toNat)
  case atStart=>exact ⟨0,Nat.zero_le _,rfl,h0⟩
  case round =>
    obtain ⟨k,hk,rfl,hJk⟩:=hrel
    have HHk:=Lib.hid (fun x=>HH.out x k wr hJk)
    have HJk:=Lib.hid hJk
    clear hJk h0 HC HH
    by_cases hlt:k < m
    · have hlt':(k:Int) < (m:Int):=by omega
      have HYk:=Lib.hid (HY.out k)
      by_cases hf:f k=true
      · rw [hf] at HHk
        have HF:=Lib.hid hf
        clear HY HS hf
        gi_wp2_with (refine ⟨trivial,?_⟩;gi_at_call 27;refine (HHk.out _).mono ?_;rintro e w2 ⟨rfl,hJ2⟩;obtain ⟨fn,tmps,assign,body,hy,hR⟩:=HYk.out w2 hlt HF.out hJ2)
        refine hR.mono ?_
        rintro e W3 (⟨rfl,hJ3⟩ | ⟨rfl,hD3⟩)
        · gi_wp2_with fail
          go_roundw
          case rel=>exact ⟨k+1,by omega,by go_num,hJ3⟩
          case measure=>simp [intOf];omega
        · gi_wp2_with fail
          exact bodyPost_ret (results_none rfl _ _ _) rfl ⟨⟨_,rfl⟩,Or.inr hD3⟩
      · have hf':f k=false:=by simpa using hf
        have HSk:=Lib.hid (fun W=>HS.out k W hlt hf')
        rw [hf'] at HHk
        clear HY HS HYk hf hf'
        gi_wp2_with (refine ⟨trivial,?_⟩;gi_at_call 27;refine (HHk.out _).mono ?_;rintro e w2 ⟨rfl,hJ2⟩)
        refine ⟨fun g hg=>(by cases hg),?_⟩
        gi_wp2_with fail
        go_roundw
        case rel=>exact ⟨k+1,by omega,by go_num,HSk.out _ hJ2⟩
        case measure=>simp [intOf];omega
    · have e:k=m:=by omega
      subst e
      gi_wp2_with fail
      go_end0
      exact ⟨⟨_,rfl⟩,Or.inl HJk.out⟩
set_option maxRecDepth 100000 in
set_option maxHeartbeats 1000000 in
theorem len_in (w:World) {p:Option Addr} {m:Nat} {f:Nat→Bool} (hR:SetN w p m f) :
    CallsIn Fence.wide 3 Tryz.prog 28 #[.pointer p] w fun e w'=>e=.returned (.int .i64 ((M.nums m f).length:Nat))∧Below w.heap.size w w':=by
  have HR:=Lib.hid (fun (x:World) (hx:Below w.heap.size w x)=>hR.below hx)
  have hm:=hR.le
  clear hR
  refine callsIn_of_wp_marks Tryz.func28 rfl trivial ?_ rfl
  simp only [Tryz.ntmps28,List.size_toArray,List.length_cons,List.length_nil,Nat.reduceAdd,Nat.reduceSub,Array.replicate_succ,Array.replicate_zero,List.push_toArray,List.append_toArray,List.nil_append,List.cons_append]
  gi_wp2_with fail
  obtain ⟨W0,hW0⟩:∃ W0,W0=w.alloc (Obj.cells #[Value.int IntKind.i64 0] 3):=⟨_,rfl⟩
  have hz0:W0.heap.size=w.heap.size+1:=by rw [hW0];simp
  have hbl0:Below w.heap.size w W0:=by rw [hW0];exact (Below.refl _ w).alloc (Nat.le_refl _) _
  have hV0:Box W0 w.heap.size 3 #[Value.int .i64 0]:=by rw [hW0];exact Box.new _ _ _
  rw [←hW0]
  clear hW0
  refine range_leave (m:=1) (gf:=69) (bd:=#[.pointer p]) rfl (enters_of Tryz.func69 (by kernel_rfl) rfl) m f
    (fun k=>#[.int .i64 (k:Nat)]) (fun _=>rfl)
    (fun k W=>Box W w.heap.size 3 #[.int .i64 ((M.nums k f).length:Nat)]∧Below w.heap.size w W) (fun _=>False)
    ?hIa ?hIp ?hEp ?hId ?hIs ?h0
    (fun k=>{ tmps:=#[.pointer p,undef,.int .i64 0,.pointer (some ⟨w.heap.size,0,none⟩),.pointer p,.func (.func 69) #[.pointer p] #[],.int .i64 (k:Nat),undef,undef,undef],defers:=[] })
    ?hit ?hassign ?hbody ?hdone ?hstop
  case hIa =>
    rintro k W o ⟨h2,h3⟩
    exact ⟨(Below.heap_alloc W o _ h2.lt).trans h2,h3.alloc h3.size o⟩
  case hIp =>
    rintro k W l o ⟨h2,h3⟩ hl
    exact ⟨(World.putObj_heap_other (by omega)).trans h2,h3.trans ⟨rfl,rfl,rfl,by simp,fun i hi=>World.putObj_heap_other (by omega)⟩⟩
  case hEp=>exact fun _ _ _ h _=>h
  case hId =>
    rintro k W m ⟨h2,h3⟩
    exact ⟨h2,below_drewN h3 m⟩
  case hIs =>
    rintro k W hk hs ⟨h2,h3⟩
    rw [M.nums_out k f hs]
    exact ⟨h2,h3⟩
  case h0=>exact ⟨hV0,hbl0⟩
  case hit =>
    intro l J D hJ hD hS hY W h0
    exact tell_in 1 l J D (fun k W h=>HR.out W (hJ k W h).2) hD hS hY W h0
  case hassign =>
    intro l k W K hk hs hK
    gi_wp2
    simpa using hK
  case hbody =>
    rintro l k W hk hs ⟨h1,h3⟩
    have c1:=h1.cell 0
    simp at c1
    have c3:=h1.frozen 0
    have hlen:=M.nums_len k f
    have hs1:=h1.set 0 (.int .i64 (((M.nums k f).length:Nat)+1:Int))
    have hX:Hid (goesOr W0.heap.size W (fun W=>Box W w.heap.size 3 #[.int .i64 ((M.nums (k+1) f).length:Nat)]∧Below w.heap.size w W) (fun _=>False) .normal ⟨#[],[]⟩ (W.setCell ⟨w.heap.size,0,none⟩ (.int .i64 (((M.nums k f).length:Nat)+1:Int)))) :=
      ⟨by simp [World.setCell],fun j hj _=>Below.heap_setCell W _ _ j (by simp only;omega),by rw [M.nums_in k f hs];simpa using hs1,h3.setCell (p:=⟨w.heap.size,0,none⟩) (Nat.le_refl _) _⟩
    clear h1 h3 hs1 HR hV0 hbl0 hs
    obtain ⟨x,hx⟩:∃ x,x=(M.nums k f).length:=⟨_,rfl⟩
    rw [←hx] at hX c1 hlen
    clear hx
    gi_wp2_with fail
    exact hX.out
  case hdone =>
    rintro D W hD ⟨h2,h3⟩ hK
    have c1:=h2.cell 0
    simp at c1
    have H3:=Lib.hid h3
    clear h2 h3 HR hV0 hbl0
    gi_wp2_with fail
    refine ⟨by simp,.inl ⟨_,_,rfl,run_takeDeferred hK,?_⟩⟩
    exact ⟨_,results_tmp rfl _ _ _,rfl,H3.out.trans ⟨rfl,rfl,rfl,by simp,fun i hi=>World.putObj_heap_other (by omega)⟩⟩
  case hstop=>exact fun _ _ _ h _=>h.elim
theorem len_n (w:World) {p:Option Addr} {m:Nat} {f:Nat→Bool} (hR:SetN w p m f) :
    Calls Tryz.prog 28 #[.pointer p] w fun e w'=>e=.returned (.int .i64 ((M.nums m f).length:Nat))∧Below w.heap.size w w':=callsIn_wide.1 (len_in w hR)
section
variable {w W : World} {a rv : Int} {rb : Bool} {lv : Int} {lb : Bool}
end
end Go.Proofs.YtmljgogdgmeceaaGreatDoor.K
namespace Go.Proofs.YtmljgogdgmeceaaGreatDoor.K
open Go.RowKit
theorem bytes_any (w:World) {b m:Nat} {f:Nat→Bool} (h:Set w b m f) :
    Calls Tryz.prog 14 #[.pointer (some ⟨b,0,none⟩)] w fun e w'=>e=.returned (.string ⟨(M.bytes m f).toArray⟩)∧∃ n,w'=w.drewN n:=by
  have HW:=Lib.hid (fun n=>width_n (w.drewN n) (h.drewN n).n)
  have hm:=h.le
  have hw1:M.wide m≤125:=by unfold M.wide;omega
  have hcv:∀ n:Nat,Sem.run Tryz.prog (convert 74 9 (.slice (some ⟨b,1,none⟩) (M.wide m) 125)) (w.drewN n)=.ok (.string ⟨(M.bytes m f).toArray⟩) (w.drewN n):=fun n=>by
    have:=run_convert_bytes_back (P:=Tryz.prog) (w.drewN n) 74 9 5 ⟨b,1,none⟩ 125 (M.bytes m f) Tryz.underlying74 Tryz.underlying5 Tryz.underlying9 (fun j hj=>by
      have e:(⟨b,1,none⟩:Addr).add j=⟨b,1+j,none⟩:=by
        unfold Addr.add
        split
        · simp_all
        · rfl
      rw [e,M.bytes_at m f j hj]
      rw [M.bytes_len] at hj
      exact (h.drewN n).c1 j (by omega))
    rw [M.bytes_len] at this
    exact this
  obtain ⟨q,hq⟩:∃ q,q=M.wide m:=⟨_,rfl⟩
  rw [←hq] at HW hw1 hcv
  obtain ⟨s,hs⟩:∃ s:ByteArray,s=⟨(M.bytes m f).toArray⟩:=⟨_,rfl⟩
  rw [←hs]
  simp only [←hs] at hcv
  clear hq hs h
  have hq0:(0:Int)≤(q:Int):=by omega
  have hq1:(q:Int)≤125:=by omega
  go_enter Tryz.func14,Tryz.ntmps14
  go_wp2_with fail
  go_quiet (first | (go_at_call 44;exact quiet_same (HW.out _)))
  go_wp2_with fail
  go_ret
  exact ⟨rfl,_,rfl⟩
end Go.Proofs.YtmljgogdgmeceaaGreatDoor.K
namespace Go.Proofs.YtmljgogdgmeceaaGreatDoor.K
open Go.RowKit
theorem infoB:(Tryz.prog.info? 4).map (fun i=>(i.zero,i.size,i.bytes))=some (some (.bool false),1,1):=by kernel_rfl
structure RSet (w:World) (b g c m:Nat) (f:Nat→Bool):Prop where
  box:Box w b 40 #[.slice (some ⟨g,0,none⟩) m c]
  row:∃ cs,Box w g 4 cs∧∀ i,i < m→cs[i]?=some (.bool (f i))
  cap:m≤c
  le:m≤1000
  low:M.Below m f
  ne:b≠g
section
variable {w w' : World} {b g c m : Nat} {f : Nat → Bool}
theorem RSet.drewN (h:RSet w b g c m f) (n:Nat):RSet (w.drewN n) b g c m f:=⟨h.box,h.row,h.cap,h.le,h.low,h.ne⟩
theorem RSet.kept {P:Nat→Prop} (h:RSet w b g c m f) (hk:Kept P w w') (hb:¬ P b) (hg:¬ P g):RSet w' b g c m f :=
  ⟨hk.box h.box hb,by obtain ⟨cs,h1,h2⟩:=h.row;exact ⟨cs,hk.box h1 hg,h2⟩,h.cap,h.le,h.low,h.ne⟩
theorem RSet.glt (h:RSet w b g c m f):g < w.heap.size:=by obtain ⟨cs,h1,_⟩:=h.row;exact h1.lt
theorem RSet.below (h:RSet w b g c m f) (hk:Below w.heap.size w w'):RSet w' b g c m f :=
  ⟨h.box.below hk h.box.lt,by obtain ⟨cs,h1,h2⟩:=h.row;exact ⟨cs,h1.below hk h1.lt,h2⟩,h.cap,h.le,h.low,h.ne⟩
theorem RSet.c0 (h:RSet w b g c m f):w.cell? ⟨b,0,none⟩=some (.slice (some ⟨g,0,none⟩) m c):=(h.box.cell 0).trans rfl
theorem RSet.c1 (h:RSet w b g c m f) (i:Nat) (hi:i < m):w.cell? ⟨g,i,none⟩=some (.bool (f i)):=by
  obtain ⟨cs,h1,h2⟩:=h.row
  exact (h1.cell i).trans (h2 i hi)
theorem RSet.fz (h:RSet w b g c m f) (i:Nat):w.frozen? ⟨g,i,none⟩=false:=by
  obtain ⟨cs,h1,h2⟩:=h.row
  exact h1.frozen i
theorem RSet.set (h:RSet w b g c m f) (i:Nat) (hi:i < m) (v:Bool):RSet (w.setCell ⟨g,i,none⟩ (.bool v)) b g c m (M.put f i v):=by
  refine ⟨(Below.heap_setCell w ⟨g,i,none⟩ _ b h.ne).trans h.box,?_,h.cap,h.le,h.low.put hi v,h.ne⟩
  obtain ⟨cs,h1,h2⟩:=h.row
  refine ⟨_,h1.set i (.bool v),fun j hj=>?_⟩
  rw [Array.getElem?_setIfInBounds]
  by_cases e:i=j
  · subst e
    have:i < cs.size:=(Array.getElem?_eq_some_iff.1 (h2 i hi)).1
    rw [if_pos rfl,if_pos this,M.put_same]
  · rw [if_neg e,M.put_other f v (Ne.symm e)]
    exact h2 j hj
end
theorem madeB (n i:Nat) (h:i < n):(madeCells #[Value.bool false] n)[i]?=some (.bool false):=by
  have hz:(madeCells #[Value.bool false] n).size=n:=by simp [madeCells]
  rw [Array.getElem?_eq_getElem (by omega)]
  simp [madeCells,Nat.mod_one]
theorem RSet.new (w:World) (n:Int):RSet ((w.alloc (.cells (madeCells #[.bool false] (M.most n)) 4)).alloc (.cells #[.slice (some ⟨w.heap.size,0,none⟩) (M.most n) (M.most n)] 40)) (w.heap.size+1) w.heap.size (M.most n) (M.most n) (fun _=>false):=by
  refine ⟨?_,⟨_,(Below.heap_alloc _ _ _ (by simp)).trans (heap_alloc_new w _),fun i hi=>madeB _ i hi⟩,Nat.le_refl _,M.most_le n,M.Below.none _,by omega⟩
  have:=Box.new (w.alloc (.cells (madeCells #[.bool false] (M.most n)) 4)) 40 #[.slice (some ⟨w.heap.size,0,none⟩) (M.most n) (M.most n)]
  rwa [World.size_alloc] at this
set_option maxRecDepth 100000 in
theorem refNew_any (n:Int) (w:World) :
    Calls Tryz.prog 7 #[.int .i64 n] w fun e w'=>e=.returned (.pointer (some ⟨w.heap.size+1,0,none⟩))∧RSet w' (w.heap.size+1) w.heap.size (M.most n) (M.most n) (fun _=>false)∧Below w.heap.size w w'∧w'.heap.size=w.heap.size+2:=by
  have HX:Hid (RSet ((w.alloc (.cells (madeCells #[.bool false] (M.most n)) 4)).alloc (.cells #[.slice (some ⟨w.heap.size,0,none⟩) (M.most n) (M.most n)] 40)) (w.heap.size+1) w.heap.size (M.most n) (M.most n) (fun _=>false) ∧
      Below w.heap.size w ((w.alloc (.cells (madeCells #[.bool false] (M.most n)) 4)).alloc (.cells #[.slice (some ⟨w.heap.size,0,none⟩) (M.most n) (M.most n)] 40)) ∧
      ((w.alloc (.cells (madeCells #[.bool false] (M.most n)) 4)).alloc (.cells #[.slice (some ⟨w.heap.size,0,none⟩) (M.most n) (M.most n)] 40)).heap.size=w.heap.size+2) :=
    ⟨RSet.new w n,((Below.refl _ w).alloc (Nat.le_refl _) _).alloc (by simp) _,by simp⟩
  have hmk:∀ W:World,(Instr.makeSlice 38 (.int .i64 (M.most n:Nat)) (.int .i64 (M.most n:Nat))).run Tryz.prog W=.ok (.slice (some ⟨W.heap.size,0,none⟩) (M.most n) (M.most n)) (W.alloc (.cells (madeCells #[.bool false] (M.most n)) 4)) :=
    fun W=>run_make_row' 38 4 (.bool false) 1 Tryz.underlying38 infoB rfl .i64 .i64 (M.most n) (by have:=M.most_le n;omega) (by have:=M.most_le n;omega) W
  by_cases h0:n < 0
  · have e:M.most n=0:=by unfold M.most;rw [if_pos h0]
    rw [e] at HX hmk ⊢
    have hmk':∀ W:World,(Instr.makeSlice 38 (.int .i64 0) (.int .i64 0)).run Tryz.prog W=.ok (.slice (some ⟨W.heap.size,0,none⟩) 0 0) (W.alloc (.cells (madeCells #[.bool false] 0) 4)):=hmk
    clear hmk
    have hmx:min (max n 0) 1000=(0:Int):=by omega
    go_enter Tryz.func7,Tryz.ntmps7
    go_wp2_with fail
    go_ret
    exact ⟨rfl,HX.out⟩
  · by_cases h1:1000 < n
    · have e:M.most n=1000:=by unfold M.most;rw [if_neg h0,if_pos h1]
      rw [e] at HX hmk ⊢
      have hmk':∀ W:World,(Instr.makeSlice 38 (.int .i64 1000) (.int .i64 1000)).run Tryz.prog W=.ok (.slice (some ⟨W.heap.size,0,none⟩) 1000 1000) (W.alloc (.cells (madeCells #[.bool false] 1000) 4)):=hmk
      clear hmk
      have h0':0≤n:=by omega
      clear h0
      have hmx:min (max n 0) 1000=(1000:Int):=by omega
      go_enter Tryz.func7,Tryz.ntmps7
      go_wp2_with fail
      go_ret
      exact ⟨rfl,HX.out⟩
    · obtain ⟨m,rfl⟩:∃ m:Nat,n=m:=⟨n.toNat,by omega⟩
      have e:M.most (m:Int)=m:=by unfold M.most;rw [if_neg h0,if_neg h1];rfl
      rw [e] at HX hmk ⊢
      have h0':(0:Int)≤(m:Int):=by omega
      have h1':(m:Int)≤1000:=by omega
      clear h0 h1
      have hmx:min (m:Int) 1000=(m:Int):=by omega
      have hmx':max (m:Int) 0=(m:Int):=by omega
      go_enter Tryz.func7,Tryz.ntmps7
      go_wp2_with fail
      go_ret
      exact ⟨rfl,HX.out⟩
section
variable {b g c m : Nat} {f : Nat → Bool}
end
end Go.Proofs.YtmljgogdgmeceaaGreatDoor.K
namespace Go.Proofs.YtmljgogdgmeceaaGreatDoor.K
open Go.RowKit
def RReadPost (m:Nat) (l:List UInt8) (w:World) (e:Ending) (w':World):Prop :=
  ∃ p,e=.returned (.tuple #[.pointer p,.int .i64 (M.readE m l)])∧(M.readE m l≠0→p=none)∧(M.readE m l=0→∃ b g c,p=some ⟨b,0,none⟩∧RSet w' b g c m (M.bitAt l))∧Below w.heap.size w w'
set_option maxRecDepth 100000 in
set_option maxHeartbeats 2000000 in
theorem refRead_any (n:Int) (s:ByteArray) (w:World) :
    Calls Tryz.prog 43 #[.int .i64 n,.string s] w fun e w'=>RReadPost (M.most n) s.data.toList w e w':=by
  have HN:=Lib.hid (refNew_any n w)
  have hm:=M.most_le n
  obtain ⟨m,hmm⟩:∃ m,m=M.most n:=⟨_,rfl⟩
  rw [←hmm] at HN hm
  rw [←hmm]
  clear hmm
  have hsl:s.data.toList.length=s.size:=by rw [Array.length_toList];rfl
  obtain ⟨l,hl⟩:∃ l,l=s.data.toList:=⟨_,rfl⟩
  rw [←hl] at hsl
  rw [←hl]
  have HL:=Lib.hid hl
  clear hl
  have hq1:M.wide m≤125∧m≤8 * M.wide m:=by unfold M.wide;omega
  have hwd:((m:Int)+7) / 8=(M.wide m:Nat):=by unfold M.wide;omega
  by_cases h1:s.size < M.wide m
  · have HE:Hid (M.readE m l=1):=by show _=_;unfold M.readE;rw [if_pos (by omega)]
    have h1':(s.size:Int) < (M.wide m:Nat):=by omega
    go_enter Tryz.func43,Tryz.ntmps43
    go_wp2_with fail
    refine HN.out.mono ?_
    rintro e w1 ⟨rfl,hS1,hb1,_⟩
    have h0:=hS1.c0
    have HB:=Lib.hid hb1
    clear hS1 hb1 HN
    go_wp2_with fail
    go_ret2
    exact ⟨none,by rw [HE.out];rfl,fun _=>rfl,fun h=>(by rw [HE.out] at h;cases h),HB.out⟩
  · by_cases h2:M.wide m < s.size
    · have HE:Hid (M.readE m l=2):=by show _=_;unfold M.readE;rw [if_neg (by omega),if_pos (by omega)]
      have h1':((M.wide m:Nat):Int)≤(s.size:Int):=by omega
      have h2':((M.wide m:Nat):Int) < (s.size:Int):=by omega
      clear h1
      go_enter Tryz.func43,Tryz.ntmps43
      go_wp2_with fail
      refine HN.out.mono ?_
      rintro e w1 ⟨rfl,hS1,hb1,_⟩
      have h0:=hS1.c0
      have HB:=Lib.hid hb1
      clear hS1 hb1 HN
      go_wp2_with fail
      go_ret2
      exact ⟨none,by rw [HE.out];rfl,fun _=>rfl,fun h=>(by rw [HE.out] at h;cases h),HB.out⟩
    · have he:M.wide m=s.size:=by omega
      have HB4:Hid (M.bad m l=true→M.readE m l=4):=fun h=>by unfold M.readE;rw [if_neg (by omega),if_neg (by omega),if_pos h]
      have HB0:Hid (M.bad m l=false→M.readE m l=0):=fun h=>by unfold M.readE;rw [if_neg (by omega),if_neg (by omega),if_neg (by rw [h];simp)]
      rw [he] at hwd hq1
      obtain ⟨z,hz⟩:∃ z,z=s.size:=⟨_,rfl⟩
      rw [←hz] at hwd hq1 hsl
      have HZ:=Lib.hid hz
      have hzi:(s.size:Int)=(z:Nat):=by omega
      clear h1 h2 he hz
      go_enter Tryz.func43,Tryz.ntmps43
      go_wp2_with fail
      refine HN.out.mono ?_
      rintro e w1 ⟨rfl,hS1,hb1,hz1⟩
      obtain ⟨b,hbb⟩:∃ b,b=w.heap.size+1:=⟨_,rfl⟩
      obtain ⟨g,hgg⟩:∃ g,g=w.heap.size:=⟨_,rfl⟩
      have hgw:w.heap.size≤g:=by omega
      rw [←hbb,←hgg] at hS1
      rw [←hbb]
      have h0:=hS1.c0
      have HS1:=Lib.hid hS1
      have HB1:=Lib.hid hb1
      clear hS1 hb1 HN hz1 hbb hgg
      go_wp2_with fail
      clear h0
      go_loopw [8] (fun i wr=>∃ k:Nat,k≤8 * z∧i=.int .i64 k∧RSet wr b g m m (M.upto l k)∧(∀ j,j < k→M.bitAt l j=true→j < m)∧Below w.heap.size w wr) (fun i _=>8 * z - (intOf i).toNat)
      case atStart=>exact ⟨0,Nat.zero_le _,rfl,by rw [M.upto_zero];exact HS1.out,fun j hj=>absurd hj (by omega),HB1.out⟩
      case round =>
        obtain ⟨k,hk,rfl,hSk,hbk,hKk⟩:=hrel
        have HSk:=Lib.hid hSk
        have HBk:=Lib.hid hbk
        have HKk:=Lib.hid hKk
        have h0:=hSk.c0
        clear hSk hbk hKk HS1 HB1
        by_cases hlt:k < 8 * z
        · have hlt':(k:Int) < 8 * (z:Int):=by omega
          obtain ⟨q,hq'⟩:∃ q,q=k / 8:=⟨_,rfl⟩
          have hqz:q < s.size:=by have:=HZ.out;omega
          obtain ⟨c,hc⟩:∃ c,c=s[q]'hqz:=⟨_,rfl⟩
          have hcr:∀ h:q < s.size,s[q]'h=c:=fun _=>hc.symm
          have HBit:Hid (M.bitAt l k=c.toNat.testBit (k % 8)):=by
            show _=_
            unfold M.bitAt
            rw [hc,HL.out,←hq']
            have e:s.data.toList[q]?=some (s[q]'hqz):=by
              rw [List.getElem?_eq_getElem (by rw [Array.length_toList];exact hqz)]
              rfl
            rw [e];rfl
          have hq:(k:Int) / 8=(q:Int):=by omega
          have hp8:∀ j,j < 8→(2:Int) ^ j % 256=((2 ^ j:Nat):Int):=by decide
          have hpw:=hp8 (k % 8) (by omega)
          clear hp8
          obtain ⟨y,hy⟩:∃ y,y=2 ^ (k % 8):=⟨_,rfl⟩
          have hbx:=M.bit_and c.toNat (k % 8)
          have hand:bits .and .u8 ((c.toNat:Nat):Int) ((2 ^ (k % 8):Nat):Int)=((c.toNat &&& 2 ^ (k % 8):Nat):Int):=u8_and_nat _ _ c.toNat_lt (Nat.pow_lt_pow_right (by omega) (by omega:k % 8 < 8))
          rw [←hy] at hpw hand hbx
          obtain ⟨x,hx⟩:∃ x:Nat,x=c.toNat &&& y:=⟨_,rfl⟩
          rw [←hx] at hand hbx
          rw [←HBit.out] at hbx
          have hq0:(0:Int)≤(q:Int):=by omega
          have hqs:(q:Int) < (s.size:Int):=by omega
          have hqz':(q:Int) < (z:Int):=by omega
          have hk0:(0:Int)≤(k:Int):=by omega
          by_cases hb:M.bitAt l k=true
          · have hne:((x:Int)==0)=false:=by
              rw [hb] at hbx
              simp at hbx
              simp
              omega
            clear hc hx hy hq' hbx
            have HB':=Lib.hid hb
            clear hb
            by_cases hkm:k < m
            · have hkm':(k:Int) < (m:Int):=by omega
              have hcc:wr.cell? ⟨g,k,none⟩=some (.bool (M.upto l k k)):=HSk.out.c1 k hkm
              have hfz:=HSk.out.fz k
              have HX:Hid (∀ n,RSet ((wr.drewN n).setCell ⟨g,k,none⟩ (.bool true)) b g m m (M.upto l (k+1))∧Below w.heap.size w ((wr.drewN n).setCell ⟨g,k,none⟩ (.bool true))):=fun n=>by
                rw [M.upto_in l k HB'.out]
                exact ⟨(HSk.out.drewN n).set k hkm true,(below_drewN HKk.out n).setCell (p:=⟨g,k,none⟩) hgw _⟩
              go_wp2_with fail
              go_quiet (fail)
              go_wp2_with fail
              go_roundw
              case rel=>exact ⟨k+1,by omega,by go_num,(HX.out _).1,fun j hj hjb=>by
                by_cases e:j=k
                · omega
                · exact HBk.out j (by omega) hjb,(HX.out _).2⟩
              case measure=>simp [intOf];omega
            · have hkm':(m:Int)≤(k:Int):=by omega
              have HE:=Lib.hid (HB4.out (M.bad_at (by omega) HB'.out (by omega)))
              go_wp2_with fail
              go_quiet (fail)
              go_wp2_with fail
              go_ret2
              exact ⟨none,by rw [HE.out];rfl,fun _=>rfl,fun h=>(by rw [HE.out] at h;cases h),below_drewN HKk.out _⟩
          · have hb':M.bitAt l k=false:=by simpa using hb
            have hne:((x:Int)==0)=true:=by
              rw [hb'] at hbx
              simp at hbx
              simp [hbx]
            have HU:=Lib.hid (M.upto_out l k hb')
            clear hc hx hy hq' hbx hb
            have HB':=Lib.hid hb'
            clear hb'
            go_wp2_with fail
            go_quiet (fail)
            go_wp2_with fail
            go_roundw
            case rel=>exact ⟨k+1,by omega,by go_num,by rw [HU.out];exact HSk.out.drewN _,fun j hj hjb=>by
              by_cases e:j=k
              · rw [e,HB'.out] at hjb;cases hjb
              · exact HBk.out j (by omega) hjb,below_drewN HKk.out _⟩
            case measure=>simp [intOf];omega
        · have ek:k=8 * z:=by omega
          subst ek
          have HE:=Lib.hid (HB0.out (M.good (by rw [hsl];exact HBk.out)))
          have HX:Hid (RSet wr b g m m (M.bitAt l)):=by
            have:=HSk.out
            rw [←hsl,M.upto_all] at this
            exact this
          go_wp2_with fail
          go_ret2
          exact ⟨_,by rw [HE.out];rfl,fun h=>absurd HE.out h,fun _=>⟨_,_,_,rfl,HX.out⟩,HKk.out⟩
end Go.Proofs.YtmljgogdgmeceaaGreatDoor.K
namespace Go.Proofs.YtmljgogdgmeceaaGreatDoor.K
open Go.RowKit
def M.bools (m:Nat) (f:Nat→Bool):List Value:=(List.range m).map (fun i=>Value.bool (f i))
theorem M.bools_at (m:Nat) (f:Nat→Bool) (j:Nat) (h:j < m):(M.bools m f)[j]?=some (.bool (f j)):=by simp [M.bools,h]
theorem own_none (u:World) (t:TypeId):(u.alloc (.cells #[] t)).ownsRow u.heap.size t 1 (.slice (some ⟨u.heap.size,0,none⟩) 0 0) 0 [] :=
  ⟨rfl,Or.inr ⟨_,0,#[],rfl,Nat.le_refl _,heap_alloc_new u _,Nat.le_refl _,Nat.zero_le _,rfl,rfl⟩⟩
section
variable {b g c m : Nat} {f : Nat → Bool}
theorem RSet.put_end {w w3:World} {h3 c3:Nat} (h:RSet w b g c m f) (hown:w3.ownsRow w.heap.size 4 1 (.slice (some ⟨h3,0,none⟩) m c3) m (M.bools m f)) (hk:Kept (fun _=>False) w w3) (i:Nat) (hi:i < m) (v:Bool) :
    w3.cell? ⟨h3,i,none⟩=some (.bool (f i))∧w3.frozen? ⟨h3,i,none⟩=false∧(w3.setCell ⟨h3,i,none⟩ (.bool v)).cell? ⟨b,0,none⟩=some (.slice (some ⟨g,0,none⟩) m c)∧(w3.setCell ⟨h3,i,none⟩ (.bool v)).frozen? ⟨b,0,none⟩=false ∧
      Hid (RSet ((w3.setCell ⟨h3,i,none⟩ (.bool v)).setCell ⟨b,0,none⟩ (.slice (some ⟨h3,0,none⟩) m c3)) b h3 c3 m (M.put f i v)∧w.heap.size≤h3∧Kept (fun k=>k=b) w ((w3.setCell ⟨h3,i,none⟩ (.bool v)).setCell ⟨b,0,none⟩ (.slice (some ⟨h3,0,none⟩) m c3))):=by
  have hbl:=h.box.lt
  rcases hown.2 with ⟨e,_⟩ | ⟨g',cap',cur,e,h1,h2,hc3,h4,h5,h6⟩
  · cases e
  · injection e with e1 e2 e3
    injection e1 with e1
    injection e1 with e1
    subst e1
    subst e3
    have hB3:Box w3 h3 4 cur:=h2
    have hcur:∀ j,j < m→cur[j]?=some (.bool (f j)):=fun j hj=>by
      have:(cur.toList.take (m * 1))[j]?=some (.bool (f j)):=by rw [h6];exact M.bools_at m f j hj
      rw [List.getElem?_take_of_lt (by omega)] at this
      simpa using this
    have hbb:Box w3 b 40 #[.slice (some ⟨g,0,none⟩) m c]:=hk.box h.box (fun h=>h)
    have hne:b≠h3:=by omega
    have hbs:Box (w3.setCell ⟨h3,i,none⟩ (.bool v)) b 40 #[.slice (some ⟨g,0,none⟩) m c]:=(Below.heap_setCell w3 ⟨h3,i,none⟩ _ b hne).trans hbb
    have hB4:=hB3.set i (.bool v)
    have hB5:Box ((w3.setCell ⟨h3,i,none⟩ (.bool v)).setCell ⟨b,0,none⟩ (.slice (some ⟨h3,0,none⟩) m c3)) h3 4 (cur.setIfInBounds i (.bool v)):=(Below.heap_setCell _ ⟨b,0,none⟩ _ h3 (Ne.symm hne)).trans hB4
    refine ⟨(hB3.cell i).trans (hcur i hi),hB3.frozen i,(hbs.cell 0).trans rfl,hbs.frozen 0,⟨by simpa using hbs.set 0 (.slice (some ⟨h3,0,none⟩) m c3),⟨_,hB5,fun j hj=>?_⟩,hc3,h.le,h.low.put hi v,hne⟩,h1,?_⟩
    · rw [Array.getElem?_setIfInBounds]
      by_cases e:i=j
      · subst e
        have:i < cur.size:=(Array.getElem?_eq_some_iff.1 (hcur i hi)).1
        rw [if_pos rfl,if_pos this,M.put_same]
      · rw [if_neg e,M.put_other f v (Ne.symm e)]
        exact hcur j hj
    · exact Kept.set (P:=fun k=>k=b) (Kept.set (P:=fun k=>k=b) (hk.mono (fun _ _ h=>h.elim)) (fun hh=>absurd hh (by omega)) i _) (fun _=>rfl) 0 _
set_option maxRecDepth 100000 in
theorem refPut_out (i:Int) (v:Bool) (w:World) (h:RSet w b g c m f) (hi:i < 0∨(m:Int)≤i) :
    Calls Tryz.prog 9 #[.pointer (some ⟨b,0,none⟩),.int .i64 i,.bool v] w fun e w'=>e=.returned (.bool false)∧w'=w:=by
  have h0:=h.c0
  clear h
  by_cases hn:i < 0
  · have hd:decide (i < 0)=true:=by simpa using hn
    clear hn hi
    go_enter Tryz.func9,Tryz.ntmps9
    go_wp2_with fail
    go_ret
    exact ⟨rfl,rfl⟩
  · have hd:decide (i < 0)=false:=by simpa using hn
    have hd2:decide ((m:Int)≤i)=true:=by simpa using hi.resolve_left hn
    clear hn hi
    go_enter Tryz.func9,Tryz.ntmps9
    go_wp2_with fail
    go_ret
    exact ⟨rfl,rfl⟩
set_option maxRecDepth 100000 in
theorem refPut_same (i:Nat) (v:Bool) (w:World) (h:RSet w b g c m f) (hi:i < m) (hf:f i=v) :
    Calls Tryz.prog 9 #[.pointer (some ⟨b,0,none⟩),.int .i64 i,.bool v] w fun e w'=>e=.returned (.bool false)∧w'=w:=by
  have h0:=h.c0
  have h1:=h.c1 i hi
  rw [hf] at h1
  have hd:decide ((i:Int) < 0)=false:=by simp
  have hd2:decide ((m:Int)≤(i:Int))=false:=by simp;omega
  have hj0:(0:Int)≤(i:Int):=by omega
  have hj1:(i:Int) < (m:Int):=by omega
  have hvv:(v==v)=true:=by simp
  clear h hf
  go_enter Tryz.func9,Tryz.ntmps9
  go_wp2_with fail
  go_ret
  exact ⟨rfl,rfl⟩
set_option maxRecDepth 100000 in
set_option maxHeartbeats 1000000 in
theorem refPut_new (i:Nat) (v:Bool) (w:World) (h:RSet w b g c m f) (hi:i < m) (hf:f i=!v) :
    Calls Tryz.prog 9 #[.pointer (some ⟨b,0,none⟩),.int .i64 i,.bool v] w fun e w'=>e=.returned (.bool true) ∧
      (∃ g' c',RSet w' b g' c' m (M.put f i v)∧w.heap.size≤g')∧Kept (fun k=>k=b) w w':=by
  obtain ⟨i0,hii,hz0,hz1,hz2⟩:=info_parts infoB
  have h0:=h.c0
  have h1:=h.c1 i hi
  rw [hf] at h1
  have hm:=h.le
  have hd:decide ((i:Int) < 0)=false:=by simp
  have hd2:decide ((m:Int)≤(i:Int))=false:=by simp;omega
  have hj0:(0:Int)≤(i:Int):=by omega
  have hj1:(i:Int) < (m:Int):=by omega
  have hvv:((!v)==v)=false:=by cases v <;> rfl
  have HR:=Lib.hid h
  have hca:(w.alloc (.cells #[] 4)).cell? ⟨b,0,none⟩=some (.slice (some ⟨g,0,none⟩) m c):=(World.cell?_of_block (Below.heap_alloc _ _ _ h.box.lt)).trans h0
  have HN:Hid (∀ j u,(M.bools m f)[j]?=some u→(w.alloc (.cells #[] 4)).cell? ((⟨g,0,none⟩:Addr).add j)=some u):=fun j u hj=>by
    have hjm:j < m:=by
      have:=(List.getElem?_eq_some_iff.1 hj).1
      simpa [M.bools] using this
    rw [M.bools_at m f j hjm] at hj
    injection hj with hj
    rw [←hj,blk_add]
    exact (World.cell?_of_block (Below.heap_alloc _ _ _ h.glt)).trans (h.c1 j hjm)
  have HLn:Hid ((M.bools m f).length=m * 1):=by simp [Hid,M.bools]
  have HOn:Hid (∀ u∈M.bools m f,u.oneCell'=true):=fun u hu=>by
    obtain ⟨j,_,rfl⟩:=List.mem_map.1 hu
    rfl
  have HO:=Lib.hid (own_none w 4)
  have HK0:Hid (Kept (fun _=>False) w (w.alloc (.cells #[] 4))):=(Kept.refl _ w).alloc _
  clear h hf
  go_enter Tryz.func9,Tryz.ntmps9
  go_wp2_with (at_builtin;refine wpList_append_lies _ rfl _ _ 38 rfl w.heap.size 4 i0 (.bool false) 1 1 Tryz.underlying38 hii hz0 hz1 hz2 rfl (by decide) _ _ _ rfl HO.out ⟨g,0,none⟩ m c (M.bools m f) rfl HLn.out HN.out HOn.out (by omega) (by unfold maxLen;omega) (by omega) (by simp) _ rfl ?_
               intro h3 c3 w3 hown3 hgrow3 _ _
               rw [Nat.zero_add] at hown3
               rw [Nat.zero_add]
               have hk3:=HK0.out.grown hgrow3 (fun q e hq=>absurd hq (by have:=(HO.out.lt q e).1;omega))
               obtain ⟨p1,p2,p3,p4,HX⟩:=HR.out.put_end hown3 hk3 i hi v
               clear hown3 hgrow3 hk3 h0 h1 hca)
  go_ret
  exact ⟨rfl,⟨_,_,HX.out.1,HX.out.2.1⟩,HX.out.2.2⟩
def M.putB (m:Nat) (f:Nat→Bool) (i:Int) (v:Bool):Bool:=decide (0≤i) && decide (i < (m:Int)) && (f i.toNat != v)
theorem M.putB_true (m:Nat) (f:Nat→Bool) (i:Int):M.putB m f i true=M.addB m f i:=by
  unfold M.putB M.addB
  cases f i.toNat <;> simp
theorem M.putB_false {m:Nat} {f:Nat→Bool} (h:M.Below m f) (i:Int):M.putB m f i false=M.hasI f i:=by
  by_cases hi:i < 0∨(m:Int)≤i
  · rw [M.hasI_out h hi]
    unfold M.putB
    rcases hi with hi | hi
    · have:¬ 0≤i:=by omega
      simp [this]
    · have:¬ i < (m:Int):=by omega
      simp [this]
  · unfold M.putB M.hasI
    have h1:i < (m:Int):=by omega
    simp [h1]
theorem refPut_any (i:Int) (v:Bool) (w:World) (h:RSet w b g c m f) :
    Calls Tryz.prog 9 #[.pointer (some ⟨b,0,none⟩),.int .i64 i,.bool v] w fun e w'=>e=.returned (.bool (M.putB m f i v)) ∧
      (∃ g' c',RSet w' b g' c' m (M.putI m f i v)∧(g'=g∨w.heap.size≤g'))∧Kept (fun k=>k=b) w w':=by
  by_cases hi:i < 0∨(m:Int)≤i
  · have e:M.putB m f i v=false:=by
      unfold M.putB
      rcases hi with hi | hi
      · have:¬ 0≤i:=by omega
        simp [this]
      · have:¬ i < (m:Int):=by omega
        simp [this]
    rw [e,M.putI_out m f i v hi]
    refine (refPut_out i v w h hi).mono ?_
    rintro e w' ⟨rfl,rfl⟩
    exact ⟨rfl,⟨g,c,h,Or.inl rfl⟩,Kept.refl _ _⟩
  · obtain ⟨j,rfl⟩:∃ j:Nat,i=j:=⟨i.toNat,by omega⟩
    have hj:j < m:=by omega
    have e:M.putB m f (j:Int) v=(f j != v):=by
      unfold M.putB
      have h2:(j:Int) < (m:Int):=by omega
      simp [h2]
    rw [e,M.putI_in m f j v hj]
    by_cases hf:f j=v
    · have e2:(f j != v)=false:=by simp [hf]
      rw [e2,M.put_id f j v hf]
      refine (refPut_same j v w h hj hf).mono ?_
      rintro e w' ⟨rfl,rfl⟩
      exact ⟨rfl,⟨g,c,h,Or.inl rfl⟩,Kept.refl _ _⟩
    · have hf':f j=!v:=by cases hh:f j <;> cases hv:v <;> simp_all
      have e2:(f j != v)=true:=by simp [hf]
      rw [e2]
      refine (refPut_new j v w h hj hf').mono ?_
      rintro e w' ⟨rfl,⟨g',c',h1,h2⟩,h3⟩
      exact ⟨rfl,⟨g',c',h1,Or.inr h2⟩,h3⟩
end
end Go.Proofs.YtmljgogdgmeceaaGreatDoor.K
namespace Go.Proofs.YtmljgogdgmeceaaGreatDoor.K
open Go.RowKit
theorem infoU:(Tryz.prog.info? 5).map (fun i=>(i.zero,i.size,i.bytes))=some (some (.int .u8 0),1,1):=by kernel_rfl
def M.upf (f:Nat→Bool) (k:Nat):Nat→Bool:=fun i=>decide (i < k) && f i
theorem M.upf_in (f:Nat→Bool) (k:Nat) (h:f k=true):M.upf f (k+1)=M.put (M.upf f k) k true:=by
  funext i
  unfold M.upf M.put
  by_cases e:i=k
  · subst e;simp [h]
  · rw [if_neg e]
    have:decide (i < k+1)=decide (i < k):=by simp;omega
    rw [this]
theorem M.upf_out (f:Nat→Bool) (k:Nat) (h:f k=false):M.upf f (k+1)=M.upf f k:=by
  funext i
  unfold M.upf
  by_cases e:i=k
  · subst e;simp [h]
  · have:decide (i < k+1)=decide (i < k):=by simp;omega
    rw [this]
theorem M.upf_all {m:Nat} {f:Nat→Bool} (h:M.Below m f):M.upf f m=f:=by
  funext i
  unfold M.upf
  by_cases e:i < m
  · simp [e]
  · rw [h i (by omega)];simp
theorem M.upf_zero (f:Nat→Bool):M.upf f 0=fun _=>false:=by funext i;simp [M.upf]
def M.row (q:Nat) (f:Nat→Bool):Array Value:=((List.range q).map (fun j=>Value.int .u8 (M.byte f j:Nat))).toArray
theorem M.row_at (q:Nat) (f:Nat→Bool) (j:Nat) (h:j < q):(M.row q f)[j]?=some (.int .u8 (M.byte f j:Nat)):=by simp [M.row,h]
theorem M.row_size (q:Nat) (f:Nat→Bool):(M.row q f).size=q:=by simp [M.row]
theorem M.row_put (q:Nat) (f:Nat→Bool) (i:Nat) (v:Bool) (h:i / 8 < q):(M.row q f).setIfInBounds (i / 8) (.int .u8 (M.byte (M.put f i v) (i / 8):Nat))=M.row q (M.put f i v):=by
  apply Array.ext_getElem?
  intro k
  rw [Array.getElem?_setIfInBounds]
  by_cases e:i / 8=k
  · subst e
    rw [if_pos rfl,if_pos (by rw [M.row_size];exact h),M.row_at _ _ _ h]
  · rw [if_neg e]
    by_cases hk:k < q
    · rw [M.row_at _ _ _ hk,M.row_at _ _ _ hk,M.byte_other f i v k (by omega)]
    · rw [Array.getElem?_eq_none (by rw [M.row_size];omega),Array.getElem?_eq_none (by rw [M.row_size];omega)]
theorem madeU (q:Nat):madeCells #[Value.int .u8 0] q=M.row q (fun _=>false):=by
  apply Array.ext
  · simp [madeCells,M.row]
  · intro i h1 h2
    have:M.byte (fun _=>false) i=0:=by unfold M.byte;rfl
    simp [madeCells,M.row,Nat.mod_one,this]
section
variable {b g c m : Nat} {f : Nat → Bool}
set_option maxHeartbeats 2000000 in
theorem refBytes_any (w:World) (h:RSet w b g c m f) :
    Calls Tryz.prog 15 #[.pointer (some ⟨b,0,none⟩)] w fun e w'=>e=.returned (.string ⟨(M.bytes m f).toArray⟩)∧Below w.heap.size w w':=by
  have hm:=h.le
  have h0:=h.c0
  have hqd:M.wide m≤125∧m≤8 * M.wide m:=by unfold M.wide;omega
  have hwd:((m:Int)+7) / 8=(M.wide m:Nat):=by unfold M.wide;omega
  have hmk:∀ W:World,(Instr.makeSlice 74 (.int .i64 (M.wide m:Nat)) (.int .i64 (M.wide m:Nat))).run Tryz.prog W=.ok (.slice (some ⟨W.heap.size,0,none⟩) (M.wide m) (M.wide m)) (W.alloc (.cells (madeCells #[.int .u8 0] (M.wide m)) 5)) :=
    fun W=>run_make_row' 74 5 (.int .u8 0) 1 Tryz.underlying74 infoU rfl .i64 .i64 (M.wide m) (by omega) (by omega) W
  rw [madeU] at hmk
  have HF:Hid (∀ x B,Box x B 5 (M.row (M.wide m) f)→Sem.run Tryz.prog (convert 74 9 (.slice (some ⟨B,0,none⟩) (M.wide m) (M.wide m))) x=.ok (.string ⟨(M.bytes m f).toArray⟩) x):=fun x B hB=>by
    have:=run_convert_bytes_back (P:=Tryz.prog) x 74 9 5 ⟨B,0,none⟩ (M.wide m) (M.bytes m f) Tryz.underlying74 Tryz.underlying5 Tryz.underlying9 (fun j hj=>by
      rw [blk_add,M.bytes_at m f j hj]
      rw [M.bytes_len] at hj
      exact (hB.cell j).trans (M.row_at _ _ _ hj))
    rw [M.bytes_len] at this
    exact this
  have HR:=Lib.hid (fun (x:World) (hx:Below w.heap.size w x)=>h.below hx)
  have HLow:=Lib.hid h.low
  clear h
  obtain ⟨q,hq⟩:∃ q,q=M.wide m:=⟨_,rfl⟩
  rw [←hq] at hqd hwd hmk HF
  obtain ⟨s,hs⟩:∃ s:ByteArray,s=⟨(M.bytes m f).toArray⟩:=⟨_,rfl⟩
  rw [←hs] at HF
  rw [←hs]
  clear hq hs
  have HB0:Hid (Below w.heap.size w (w.alloc (.cells (M.row q (fun _=>false)) 5))):=(Below.refl _ w).alloc (Nat.le_refl _) _
  have HX0:Hid (Box (w.alloc (.cells (M.row q (fun _=>false)) 5)) w.heap.size 5 (M.row q (fun _=>false))):=Box.new _ _ _
  go_enter Tryz.func15,Tryz.ntmps15
  go_wp2_with fail
  obtain ⟨w0,hw0⟩:∃ x,x=w.alloc (.cells (M.row q (fun _=>false)) 5):=⟨_,rfl⟩
  rw [←hw0] at HB0 HX0
  rw [←hw0]
  clear hw0 hmk h0
  obtain ⟨B,hB⟩:∃ B,B=w.heap.size:=⟨_,rfl⟩
  rw [←hB] at HX0
  rw [←hB]
  have hBw:w.heap.size≤B:=by omega
  have HBw:=Lib.hid hB
  clear hB
  go_loopw [4] (fun i wr=>∃ k:Nat,k≤m∧i=.int .i64 k∧Box wr B 5 (M.row q (M.upf f k))∧Below w.heap.size w wr) (fun i _=>m - (intOf i).toNat)
  case atStart=>exact ⟨0,Nat.zero_le _,rfl,by rw [M.upf_zero];exact HX0.out,HB0.out⟩
  case round =>
    obtain ⟨k,hk,rfl,hX,hB⟩:=hrel
    have HX:=Lib.hid hX
    have HB:=Lib.hid hB
    have h0:=(HR.out wr hB).c0
    by_cases hlt:k < m
    · have hlt':(k:Int) < (m:Int):=by omega
      have hk0:(0:Int)≤(k:Int):=by omega
      have hc:=(HR.out wr hB).c1 k hlt
      clear hX hB
      by_cases hf:f k=true
      · rw [hf] at hc
        have HE:Hid (M.upf f (k+1)=M.put (M.upf f k) k true):=M.upf_in f k hf
        have hor:bits .or .u8 (M.byte (M.upf f k) (k / 8):Nat) ((2 ^ (k % 8):Nat):Int)=(M.byte (M.put (M.upf f k) k true) (k / 8):Nat):=by
          rw [←M.byte_in]
          exact u8_or_nat _ _ (M.byte_lt _ _) (Nat.pow_lt_pow_right (by omega) (by omega:k % 8 < 8))
        have hp8:∀ j,j < 8→(2:Int) ^ j % 256=((2 ^ j:Nat):Int):=by decide
        have hpw:=hp8 (k % 8) (by omega)
        clear hp8
        have hkq:k / 8 < q:=by omega
        have hcb:wr.cell? ⟨B,k / 8,none⟩=some (.int .u8 (M.byte (M.upf f k) (k / 8):Nat)):=(HX.out.cell _).trans (M.row_at _ _ _ hkq)
        have hfz:=HX.out.frozen (k / 8)
        have HX2:Hid (Box (wr.setCell ⟨B,k / 8,none⟩ (.int .u8 (M.byte (M.put (M.upf f k) k true) (k / 8):Nat))).drew B 5 (M.row q (M.upf f (k+1)))∧Below w.heap.size w (wr.setCell ⟨B,k / 8,none⟩ (.int .u8 (M.byte (M.put (M.upf f k) k true) (k / 8):Nat))).drew):=by
          rw [HE.out]
          have:=HX.out.set (k / 8) (.int .u8 (M.byte (M.put (M.upf f k) k true) (k / 8):Nat))
          rw [M.row_put q _ k true hkq] at this
          exact ⟨this,(HB.out.setCell (p:=⟨B,k / 8,none⟩) hBw _).drew⟩
        obtain ⟨x,hx⟩:∃ x:Nat,x=M.byte (M.put (M.upf f k) k true) (k / 8):=⟨_,rfl⟩
        rw [←hx] at hor HX2
        obtain ⟨y,hy⟩:∃ y,y=2 ^ (k % 8):=⟨_,rfl⟩
        rw [←hy] at hor hpw
        obtain ⟨z,hz⟩:∃ z,z=M.byte (M.upf f k) (k / 8):=⟨_,rfl⟩
        rw [←hz] at hor hcb
        obtain ⟨t,ht⟩:∃ t,t=k / 8:=⟨_,rfl⟩
        have hq:(k:Int) / 8=(t:Int):=by omega
        rw [←ht] at hcb hfz HX2 hkq
        have hq0:(0:Int)≤(t:Int):=by omega
        have hq1:(t:Int) < (q:Int):=by omega
        clear hf hx hy hz ht HE
        go_wp2_with fail
        go_region
        obtain ⟨W,hW⟩:∃ W,W=(wr.setCell ⟨B,t,none⟩ (.int .u8 (x:Nat))).drew:=⟨_,rfl⟩
        rw [←hW] at HX2
        rw [←hW]
        clear hW hcb hfz hc h0
        go_wp2_with fail
        go_roundw
        case rel=>exact ⟨k+1,by omega,by go_num,HX2.out.1,HX2.out.2⟩
        case measure=>simp [intOf];omega
      · have hf':f k=false:=by simpa using hf
        rw [hf'] at hc
        have HE:Hid (M.upf f (k+1)=M.upf f k):=M.upf_out f k hf'
        clear hf hf'
        go_wp2_with fail
        go_roundw
        case rel=>exact ⟨k+1,by omega,by go_num,by rw [HE.out];exact HX.out,HB.out⟩
        case measure=>simp [intOf];omega
    · have e:k=m:=by omega
      subst e
      rw [M.upf_all HLow.out] at hX
      have hcv:=HF.out wr B hX
      clear hX hB
      go_wp2_with fail
      go_ret
      exact ⟨rfl,HB.out⟩
end
end Go.Proofs.YtmljgogdgmeceaaGreatDoor.K
namespace Go.Proofs.YtmljgogdgmeceaaGreatDoor.K
open Go.RowKit
def Both (W:World) (a b m:Nat) (fa fb:Nat→Bool) (x:World):Prop :=
  ∃ g c,Set x a m fa∧RSet x b g c m fb∧Below W.heap.size W x∧W.heap.size≤a∧W.heap.size≤b∧W.heap.size≤g∧a≠b∧g≠a
section
variable {W : World} {a b m : Nat} {fa fb : Nat → Bool} {x : World}
theorem Both.low (h:Both W a b m fa fb x):Below W.heap.size W x:=by
  obtain ⟨g,c,h1,h2,h3,h4⟩:=h
  exact h3
theorem Both.putA {y:World} {f':Nat→Bool} (h:Both W a b m fa fb x) (hS:Set y a m f') (hk:Kept (fun k=>k=a) x y):Both W a b m f' fb y:=by
  obtain ⟨g,c,h1,h2,h3,h4,h5,h6,h7,h8⟩:=h
  exact ⟨g,c,hS,h2.kept hk (fun e=>h7 e.symm) h8,h3.trans (hk.below h3.size (fun k hk e=>by omega)),h4,h5,h6,h7,h8⟩
theorem aAdd (i:Int) (h:Both W a b m fa fb x) :
    Calls Tryz.prog 8 #[.pointer (some ⟨a,0,none⟩),.int .i64 i] x fun e y=>e=.returned (.bool (M.putB m fa i true))∧Both W a b m (M.putI m fa i true) fb y:=by
  have h':=h
  obtain ⟨g,c,h1,_⟩:=h
  refine (add_any i x h1).mono ?_
  rintro e y ⟨he,hS,hk⟩
  exact ⟨by rw [he,M.putB_true],h'.putA hS hk⟩
theorem bPut (i:Int) (v:Bool) (h:Both W a b m fa fb x) :
    Calls Tryz.prog 9 #[.pointer (some ⟨b,0,none⟩),.int .i64 i,.bool v] x fun e y=>e=.returned (.bool (M.putB m fb i v))∧Both W a b m fa (M.putI m fb i v) y:=by
  obtain ⟨g,c,h1,h2,h3,h4,h5,h6,h7,h8⟩:=h
  refine (refPut_any i v x h2).mono ?_
  rintro e y ⟨he,⟨g',c',hR,hg⟩,hk⟩
  have hal:=h1.box.lt
  have hz:=h3.size
  exact ⟨he,g',c',h1.kept hk h7,hR,h3.trans (hk.below h3.size (fun k hk e=>by omega)),h4,h5,by omega,h7,by omega⟩
end
end Go.Proofs.YtmljgogdgmeceaaGreatDoor.K
