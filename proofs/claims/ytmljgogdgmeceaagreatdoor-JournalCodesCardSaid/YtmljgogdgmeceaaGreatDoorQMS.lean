/-
  AOwn ARef ARead AStage
-/
import Derived.Test.YtmljgogdgmeceaaGreatDoorQMA
import Derived.Maps.AppendAt
import Derived.Laws.AppendOwnNone
import Derived.Deep.AppendLies
import Derived.Deep.OwnRows
import Derived.OwnWalk
import Derived.BigQuiet
import Derived.Deep.QuietTactic
import Derived.Handy
namespace Go.Proofs.YtmljgogdgmeceaaGreatDoor
open Go.RowKit
theorem Kept.owns14 {P:Nat→Prop} {w w':World} (hk:Kept P w w') {B:Nat} {t:TypeId} {z n:Nat} {v:Value} {xs:List Value} (h:w.ownsRow B t z v n xs) (hp:∀ k,v.ownBlock=some k→¬ P k):w'.ownsRow B t z v n xs:=by
  refine ⟨h.1,?_⟩
  rcases h.2 with h | ⟨g,cap,cur,e,h1,h2,h3⟩
  · exact Or.inl h
  · exact Or.inr ⟨g,cap,cur,e,h1,(hk.block g (lt_of_block h2) (hp g (by rw [e];rfl))).trans h2,h3⟩
theorem owns_shape14 {w:World} {B:Nat} {t:TypeId} {z n:Nat} {v:Value} {xs:List Value} (h:w.ownsRow B t z v n xs):∃ (A:Option Addr) (c:Nat),v=.slice A n c∧n≤c:=by
  rcases h.2 with ⟨e,hn⟩ | ⟨g,cap,cur,e,_,_,h3,_⟩
  · exact ⟨none,0,by rw [e,hn],by omega⟩
  · exact ⟨_,cap,e,h3⟩
theorem owns_mono14 {w:World} {B B':Nat} {t:TypeId} {z n:Nat} {v:Value} {xs:List Value} (h:w.ownsRow B t z v n xs) (hB:B'≤B):w.ownsRow B' t z v n xs :=
  ⟨h.1,h.2.imp id (fun ⟨g,cap,cur,e,h1,h2⟩=>⟨g,cap,cur,e,Nat.le_trans hB h1,h2⟩)⟩
end Go.Proofs.YtmljgogdgmeceaaGreatDoor
namespace Go.Proofs.YtmljgogdgmeceaaGreatDoor
open Go.RowKit
theorem infoSec14:(Tryz.prog.info? 134).map (fun i=>(i.zero,i.size,i.bytes))=some (some (.agg #[.int .i64 0,.string ⟨#[]⟩]),2,24):=by kernel_rfl
theorem cell2_new14 (w:World) (x y:Value) (t:TypeId):∀ j u,[x,y][j]?=some u→(w.alloc (.cells #[x,y] t)).cell? ((⟨w.heap.size,0,none⟩:Addr).add j)=some u:=by
  intro j u hj
  rw [blk_add,(Box.new w t #[x,y]).cell]
  simpa using hj
theorem M.cells_one:∀ (T:List (Nat×ByteArray)),∀ u∈M.cells T,u.oneCell'=true
  | [], _, h => by simp [M.cells] at h
  | p :: L, u, h => by
    rw [M.cells] at h
    rcases List.mem_cons.1 h with rfl | h
    · rfl
    · rcases List.mem_cons.1 h with rfl | h
      · rfl
      · exact M.cells_one L u h
end Go.Proofs.YtmljgogdgmeceaaGreatDoor
