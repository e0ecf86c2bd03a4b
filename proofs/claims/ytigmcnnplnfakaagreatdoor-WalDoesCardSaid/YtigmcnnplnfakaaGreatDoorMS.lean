/-
  Rows that a call owns: kept, cut, set, copied (the lemmas of layers 8 and 13, under names of their own). No function of the program in this text. The document's log in memory. Walks over solderref14's Begin, own, Room, Abort and Read. Walks over solderref14's Read. Walks over solderref14's Stage. Walks over solderref14's Stage, where it refuses; what it comes to.
-/
import Derived.Test.YtigmcnnplnfakaaGreatDoorMA
import Derived.Maps.AppendAt
import Derived.Laws.AppendOwnNone
import Derived.Deep.AppendLies
import Derived.Deep.OwnRows
import Derived.OwnWalk
import Derived.BigQuiet
import Derived.Deep.QuietTactic
import Derived.Handy
namespace Go.Proofs.YtigmcnnplnfakaaGreatDoor
open Go.RowKit

theorem own_slice14 {g n c k : Nat} (e : (Value.slice (some ⟨g, 0, none⟩) n c).ownBlock = some k) : g = k := by simpa [Value.ownBlock] using e
theorem Kept.set14 {P : Nat → Prop} {w : World} {g : Nat} (h : P g) (i : Nat) (u : Value) : Kept P w (w.setCell ⟨g, i, none⟩ u) := Kept.set (Kept.refl P w) (fun _ => h) i u
theorem Kept.owns14 {P : Nat → Prop} {w w' : World} (hk : Kept P w w') {B : Nat} {t : TypeId} {z n : Nat} {v : Value} {xs : List Value} (h : w.ownsRow B t z v n xs) (hp : ∀ k, v.ownBlock = some k → ¬ P k) : w'.ownsRow B t z v n xs := by
  refine ⟨h.1, ?_⟩
  rcases h.2 with h | ⟨g, cap, cur, e, h1, h2, h3⟩
  · exact Or.inl h
  · exact Or.inr ⟨g, cap, cur, e, h1, (hk.block g (lt_of_block h2) (hp g (by rw [e]; rfl))).trans h2, h3⟩
theorem owns_shape14 {w : World} {B : Nat} {t : TypeId} {z n : Nat} {v : Value} {xs : List Value} (h : w.ownsRow B t z v n xs) : ∃ (A : Option Addr) (c : Nat), v = .slice A n c ∧ n ≤ c := by
  rcases h.2 with ⟨e, hn⟩ | ⟨g, cap, cur, e, _, _, h3, _⟩
  · exact ⟨none, 0, by rw [e, hn], by omega⟩
  · exact ⟨_, cap, e, h3⟩
theorem owns_empty14 (u : World) (t : TypeId) (z : Nat) : (u.alloc (.cells #[] t)).ownsRow u.heap.size t z (.slice (some ⟨u.heap.size, 0, none⟩) 0 0) 0 [] :=
  ⟨by simp, Or.inr ⟨_, 0, #[], rfl, Nat.le_refl _, heap_alloc_new u _, Nat.le_refl _, Nat.zero_le _, by simp, by simp⟩⟩
theorem owns_mono14 {w : World} {B B' : Nat} {t : TypeId} {z n : Nat} {v : Value} {xs : List Value} (h : w.ownsRow B t z v n xs) (hB : B' ≤ B) : w.ownsRow B' t z v n xs :=
  ⟨h.1, h.2.imp id (fun ⟨g, cap, cur, e, h1, h2⟩ => ⟨g, cap, cur, e, Nat.le_trans hB h1, h2⟩)⟩
/-- A cell of an owned row is written. -/
theorem owns_set14 {w : World} {B g n cap z : Nat} {t : TypeId} {xs : List Value} (h : w.ownsRow B t z (.slice (some ⟨g, 0, none⟩) n cap) n xs) (j : Nat) (u : Value) :
    (w.setCell ⟨g, j, none⟩ u).ownsRow B t z (.slice (some ⟨g, 0, none⟩) n cap) n (xs.set j u) ∧ w.frozen? ⟨g, j, none⟩ = false := by
  rcases h.2 with ⟨e, _⟩ | ⟨g', cap', cur, e, h1, h2, h3, h4, h5, h6⟩
  · cases e
  · injection e with e1 e2 e3
    injection e1 with e1
    injection e1 with e1
    subst e1
    subst e3
    have hB : Box w g t cur := h2
    refine ⟨⟨by rw [List.length_set]; exact h.1, Or.inr ⟨g, cap, cur.setIfInBounds j u, rfl, h1, hB.set j u, h3, h4, by simpa using h5, ?_⟩⟩, hB.frozen j⟩
    rw [← h6, Array.toList_setIfInBounds, ← List.take_set]
/-- A cell of an owned row is read. -/
theorem owns_at14 {w : World} {B n z j : Nat} {t : TypeId} {v u : Value} {xs : List Value} (h : w.ownsRow B t z v n xs) (hj : xs[j]? = some u) (hn : 0 < n) : ∃ g cap, v = .slice (some ⟨g, 0, none⟩) n cap ∧ n ≤ cap ∧ g < w.heap.size ∧ w.cell? ⟨g, j, none⟩ = some u := by
  rcases h.2 with ⟨_, e⟩ | ⟨g, cap, cur, e, _, hb, h3, _⟩
  · omega
  · subst e
    have hc := h.cells (g := g) rfl j u hj
    rw [blk_add] at hc
    exact ⟨g, cap, rfl, h3, lt_of_block hb, hc⟩

/-- append([]T{}, v...): a row is copied into a new one; v an owned row, nil or empty too. -/
theorem append_copy14 {P : Program} {w : World} {ops : Array Oper} {rest : List Oper} {o : Oper} {a : Act} {Q : Exit → Act → World → Prop} (hgd : o.guard = none) (s x : Operand) (t : TypeId)
    (ho : o.op = .call { callee := .builtin .append, args := #[s, x], argTypes := #[t, t] })
    (e : TypeId) (i : TypeInfo) (z : Value) (size bytes : Nat) (ht : P.underlying t = some (.slice e)) (hi : P.info? e = some i) (hz : i.zero = some z)
    (hsize : i.size = size) (hby : i.bytes = bytes) (hzs : z.cells.size = size) (hsz : 0 < size)
    (H : Nat) (hH : w.heap.size = H) (hs : a.eval s = .slice (some ⟨H, 0, none⟩) 0 0) (v : Value) (n : Nat) (xs : List Value) (hx : a.eval x = v) (hown : w.ownsRow 0 e size v n xs) (h1 : ∀ u ∈ xs, u.oneCell' = true)
    (h63 : n ≤ maxLen) (hbytes : n * bytes ≤ 140737488355328)
    (h : ∀ g cap w', w'.ownsRow 0 e size (.slice (some ⟨g, 0, none⟩) n cap) n xs → Kept (fun _ => False) w w' → w.heap.size ≤ g → wpList P ops Q rest (a.put o.dst (.slice (some ⟨g, 0, none⟩) n cap)) w') :
    wpList P ops Q (o :: rest) a (w.alloc (.cells #[] e)) := by
  subst hH
  have he := owns_empty14 w e size
  have hk0 : Kept (fun _ => False) w (w.alloc (.cells #[] e)) := (Kept.refl _ w).alloc _
  rcases hown.2 with ⟨rfl, rfl⟩ | ⟨g0, c0, cur, rfl, hb0, hg0, hc0, _⟩
  · have hxs : xs = [] := List.eq_nil_of_length_eq_zero (by simpa using hown.1)
    subst hxs
    refine wpList_append_own_none hgd s x t ho w.heap.size e i size ht hi _ 0 [] hs he hx ?_
    exact h _ 0 _ (owns_mono14 he (Nat.zero_le _)) hk0 (Nat.le_refl _)
  · refine wpList_append_own_at _ hgd s x t ho w.heap.size e i z size bytes ht hi hz hsize hby hzs hsz _ 0 [] hs he ⟨g0, 0, none⟩ n c0 xs hx hown.1 (fun j u hj => ?_) h1 (by omega) (by rw [Nat.zero_add]; exact hbytes) (by rw [World.size_alloc]; omega) ?_
    · have hc := hown.cells (g := g0) rfl j u hj
      rw [blk_add] at hc ⊢
      exact (World.cell?_of_block (Below.heap_alloc w _ _ (lt_of_block hg0))).trans hc
    · intro v' w' ho' hgr hnil hat
      rw [Nat.zero_add, List.nil_append] at ho'
      have hk : Kept (fun _ => False) w w' := hk0.grown hgr (fun k e hk => by
        have : w.heap.size = k := by simpa [Value.ownBlock] using e
        omega)
      rcases ho'.2 with ⟨e1, _⟩ | ⟨g, cap, cur', rfl, hg, _⟩
      · exact absurd (hnil.1 e1).1 (by simp)
      · exact h g cap w' (owns_mono14 ho' (Nat.zero_le _)) hk hg
end Go.Proofs.YtigmcnnplnfakaaGreatDoor
namespace Go.Proofs.YtigmcnnplnfakaaGreatDoor
open Go.RowKit

/-- What the document's log is. -/
structure M.W where
  seen : List ByteArray
  staged : List (Nat × ByteArray)
  act : Bool
  fr : Nat
  mn : Nat
  used : Nat
  sure : Bool

/-- The document's log in block b of w: what is seen as SV, what is staged as GV. -/
structure WlAt (w : World) (b : Nat) (SV GV : Value) (r : M.W) : Prop where
  box : Box w b 42 #[SV, GV, .bool r.act, .int .i64 (r.fr : Nat), .int .i64 (r.mn : Nat), .int .i64 (r.used : Nat), .bool r.sure]
  seen : w.ownsRow 0 9 1 SV r.seen.length (r.seen.map Value.string)
  staged : w.ownsRow 0 87 2 GV r.staged.length (M.cells r.staged)
  sb : ∀ k, SV.ownBlock = some k → k ≠ b
  gb : ∀ k, GV.ownBlock = some k → k ≠ b
  lies : ∀ p ∈ r.staged, p.1 < r.seen.length
  few : r.staged.length ≤ 16
  many : r.seen.length ≤ 1000
  low : r.fr ≤ 1000 ∧ r.mn ≤ 1000
  u40 : r.used ≤ 1099511627776
section
variable {w w' : World} {b : Nat} {SV GV : Value} {r : M.W}
theorem WlAt.kept {P : Nat → Prop} (h : WlAt w b SV GV r) (hk : Kept P w w') (hb : ¬ P b) (h1 : ∀ k, SV.ownBlock = some k → ¬ P k) (h2 : ∀ k, GV.ownBlock = some k → ¬ P k) : WlAt w' b SV GV r :=
  ⟨hk.box h.box hb, hk.owns14 h.seen h1, hk.owns14 h.staged h2, h.sb, h.gb, h.lies, h.few, h.many, h.low, h.u40⟩
theorem WlAt.c0 (h : WlAt w b SV GV r) : w.cell? ⟨b, 0, none⟩ = some SV := by simpa using h.box.cell 0
theorem WlAt.c1 (h : WlAt w b SV GV r) : w.cell? ⟨b, 1, none⟩ = some GV := by simpa using h.box.cell 1
theorem WlAt.c2 (h : WlAt w b SV GV r) : w.cell? ⟨b, 2, none⟩ = some (.bool r.act) := by simpa using h.box.cell 2
theorem WlAt.c3 (h : WlAt w b SV GV r) : w.cell? ⟨b, 3, none⟩ = some (.int .i64 (r.fr : Nat)) := by simpa using h.box.cell 3
theorem WlAt.c4 (h : WlAt w b SV GV r) : w.cell? ⟨b, 4, none⟩ = some (.int .i64 (r.mn : Nat)) := by simpa using h.box.cell 4
theorem WlAt.c5 (h : WlAt w b SV GV r) : w.cell? ⟨b, 5, none⟩ = some (.int .i64 (r.used : Nat)) := by simpa using h.box.cell 5
theorem WlAt.c6 (h : WlAt w b SV GV r) : w.cell? ⟨b, 6, none⟩ = some (.bool r.sure) := by simpa using h.box.cell 6
theorem WlAt.set0 {SV' : Value} {S : List ByteArray} (h : WlAt w b SV GV r) (ho : w.ownsRow 0 9 1 SV' S.length (S.map Value.string)) (hl : S.length = r.seen.length) (hn : ∀ k, SV'.ownBlock = some k → k ≠ b) :
    WlAt (w.setCell ⟨b, 0, none⟩ SV') b SV' GV { r with seen := S } := by
  have hk : Kept (fun k => k = b) w (w.setCell ⟨b, 0, none⟩ SV') := Kept.set14 (P := fun k => k = b) rfl 0 _
  exact ⟨by simpa using h.box.set 0 SV', hk.owns14 ho hn, hk.owns14 h.staged h.gb, hn, h.gb, fun p hp => by show p.1 < S.length; rw [hl]; exact h.lies p hp, h.few, by show S.length ≤ 1000; rw [hl]; exact h.many, h.low, h.u40⟩
theorem WlAt.set1 {GV' : Value} {G : List (Nat × ByteArray)} (h : WlAt w b SV GV r) (ho : w.ownsRow 0 87 2 GV' G.length (M.cells G)) (hl : ∀ p ∈ G, p.1 < r.seen.length) (hf : G.length ≤ 16) (hn : ∀ k, GV'.ownBlock = some k → k ≠ b) :
    WlAt (w.setCell ⟨b, 1, none⟩ GV') b SV GV' { r with staged := G } := by
  have hk : Kept (fun k => k = b) w (w.setCell ⟨b, 1, none⟩ GV') := Kept.set14 (P := fun k => k = b) rfl 1 _
  exact ⟨by simpa using h.box.set 1 GV', hk.owns14 h.seen h.sb, hk.owns14 ho hn, h.sb, hn, hl, hf, h.many, h.low, h.u40⟩
theorem WlAt.set2 (h : WlAt w b SV GV r) (x : Bool) : WlAt (w.setCell ⟨b, 2, none⟩ (.bool x)) b SV GV { r with act := x } := by
  have hk : Kept (fun k => k = b) w (w.setCell ⟨b, 2, none⟩ (.bool x)) := Kept.set14 (P := fun k => k = b) rfl 2 _
  exact ⟨by simpa using h.box.set 2 (.bool x), hk.owns14 h.seen h.sb, hk.owns14 h.staged h.gb, h.sb, h.gb, h.lies, h.few, h.many, h.low, h.u40⟩
theorem WlAt.set5 (h : WlAt w b SV GV r) (x : Nat) (hx : x ≤ 1099511627776) : WlAt (w.setCell ⟨b, 5, none⟩ (.int .i64 (x : Nat))) b SV GV { r with used := x } := by
  have hk : Kept (fun k => k = b) w (w.setCell ⟨b, 5, none⟩ (.int .i64 (x : Nat))) := Kept.set14 (P := fun k => k = b) rfl 5 _
  exact ⟨by simpa using h.box.set 5 (.int .i64 (x : Nat)), hk.owns14 h.seen h.sb, hk.owns14 h.staged h.gb, h.sb, h.gb, h.lies, h.few, h.many, h.low, hx⟩
theorem WlAt.set6 (h : WlAt w b SV GV r) (x : Bool) : WlAt (w.setCell ⟨b, 6, none⟩ (.bool x)) b SV GV { r with sure := x } := by
  have hk : Kept (fun k => k = b) w (w.setCell ⟨b, 6, none⟩ (.bool x)) := Kept.set14 (P := fun k => k = b) rfl 6 _
  exact ⟨by simpa using h.box.set 6 (.bool x), hk.owns14 h.seen h.sb, hk.owns14 h.staged h.gb, h.sb, h.gb, h.lies, h.few, h.many, h.low, h.u40⟩
end

/-- The document's log in block b of w; all its blocks are among P. -/
def Wr (w : World) (b : Nat) (P : Nat → Prop) (r : M.W) : Prop := ∃ SV GV, WlAt w b SV GV r ∧ P b ∧ (∀ k, SV.ownBlock = some k → P k) ∧ ∀ k, GV.ownBlock = some k → P k
def M.plus14 (P : Nat → Prop) (n : Nat) : Nat → Prop := fun k => P k ∨ n ≤ k
section
variable {w w' : World} {b : Nat} {P Q : Nat → Prop} {r : M.W}
theorem Wr.kept (h : Wr w b P r) (hk : Kept Q w w') (hpq : ∀ k, P k → ¬ Q k) : Wr w' b P r := by
  obtain ⟨SV, GV, h, p1, p2, p3⟩ := h
  exact ⟨SV, GV, h.kept hk (hpq _ p1) (fun k e => hpq _ (p2 k e)) (fun k e => hpq _ (p3 k e)), p1, p2, p3⟩
theorem Wr.mono (h : Wr w b P r) (hpq : ∀ k, k < w.heap.size → P k → Q k) : Wr w b Q r := by
  obtain ⟨SV, GV, h, p1, p2, p3⟩ := h
  exact ⟨SV, GV, h, hpq _ h.box.lt p1, fun k e => hpq _ (h.seen.lt k e).2 (p2 k e), fun k e => hpq _ (h.staged.lt k e).2 (p3 k e)⟩
theorem Wr.lt (h : Wr w b P r) : b < w.heap.size := let ⟨_, _, h, _⟩ := h; h.box.lt
theorem Wr.drewN (h : Wr w b P r) (n : Nat) : Wr (w.drewN n) b P r := h.kept ((Kept.refl (fun _ => False) w).drewN n) (fun _ _ => id)

/-- Begin. -/
def M.wbeginE (r : M.W) : Int := if r.act then 10 else 0
def M.wbegin (r : M.W) : M.W := { r with act := true }
theorem rbegin14 (w : World) (h : Wr w b P r) : Calls Tryz.prog 43 #[.pointer (some ⟨b, 0, none⟩)] w fun e w' => e = .returned (.int .i64 (M.wbeginE r)) ∧ Wr w' b P (M.wbegin r) ∧ Kept P w w' := by
  obtain ⟨SV, GV, h, p1, p2, p3⟩ := h
  have c2 := h.c2
  have f2 := h.box.frozen 2
  have hk : Kept P w (w.setCell ⟨b, 2, none⟩ (.bool true)) := Kept.set14 p1 2 _
  have HX : Hid (Wr (w.setCell ⟨b, 2, none⟩ (.bool true)) b P (M.wbegin r)) := ⟨SV, GV, h.set2 true, p1, p2, p3⟩
  unfold M.wbeginE
  cases ha : r.act with
  | true =>
    rw [ha] at c2
    have HY : Hid (Wr w b P (M.wbegin r)) := by
      have e : M.wbegin r = r := by unfold M.wbegin; rw [← ha]
      rw [e]
      exact ⟨SV, GV, h, p1, p2, p3⟩
    clear h ha
    go_enter Tryz.func43, Tryz.ntmps43
    go_wp2_with fail
    go_ret
    exact ⟨rfl, HY.out, Kept.refl _ _⟩
  | false =>
    rw [ha] at c2
    have HK := Lib.hid hk
    clear h ha hk
    go_enter Tryz.func43, Tryz.ntmps43
    go_wp2_with fail
    go_ret
    exact ⟨rfl, HX.out, HK.out⟩

/-- Is a sector one of the log's? -/
def M.wown (r : M.W) (k : Int) : Bool := decide ((r.fr : Int) ≤ k) && decide (k < (r.fr : Int) + (r.mn : Int))
theorem rown14 (w : World) (h : Wr w b P r) (k : Int) : Calls Tryz.prog 87 #[.pointer (some ⟨b, 0, none⟩), .int .i64 k] w fun e w' => e = .returned (.bool (M.wown r k)) ∧ ∃ n, w' = w.drewN n := by
  obtain ⟨SV, GV, h, -⟩ := h
  have c3 := h.c3
  have c4 := h.c4
  have hlow := h.low
  obtain ⟨f, hf⟩ : ∃ f, f = r.fr := ⟨_, rfl⟩
  obtain ⟨m, hm⟩ : ∃ m, m = r.mn := ⟨_, rfl⟩
  unfold M.wown
  rw [← hf] at c3 hlow
  rw [← hm] at c4 hlow
  rw [← hf, ← hm]
  obtain ⟨hl1, hl2⟩ := hlow
  clear h hf hm
  by_cases h0 : (f : Int) ≤ k
  · have hd : decide ((f : Int) ≤ k) = true := by simpa using h0
    rw [hd, Bool.true_and]
    go_enter Tryz.func87, Tryz.ntmps87
    go_wp2_with fail
    go_quiet (fail)
    go_wp2_with fail
    go_ret
    exact ⟨rfl, _, rfl⟩
  · have hd : decide ((f : Int) ≤ k) = false := by simpa using h0
    rw [hd, Bool.false_and]
    go_enter Tryz.func87, Tryz.ntmps87
    go_wp2_with fail
    go_quiet (fail)
    go_wp2_with fail
    go_ret
    exact ⟨rfl, _, rfl⟩

theorem rroom14 (w : World) (h : Wr w b P r) : Calls Tryz.prog 19 #[.pointer (some ⟨b, 0, none⟩)] w fun e w' => e = .returned (.int .i64 ((r.mn : Int) - 2 - (r.used : Int))) ∧ ∃ n, w' = w.drewN n := by
  obtain ⟨SV, GV, h, -⟩ := h
  have c4 := h.c4
  have c5 := h.c5
  have hlow := h.low.2
  have hu := h.u40
  obtain ⟨u, hu'⟩ : ∃ f, f = r.used := ⟨_, rfl⟩
  obtain ⟨m, hm⟩ : ∃ m, m = r.mn := ⟨_, rfl⟩
  rw [← hu'] at c5 hu
  rw [← hm] at c4 hlow
  rw [← hu', ← hm]
  clear h hu' hm
  go_enter Tryz.func19, Tryz.ntmps19
  go_wp2_with fail
  go_quiet (fail)
  go_wp2_with fail
  go_ret
  exact ⟨rfl, _, rfl⟩

def M.wabort (r : M.W) : M.W := { r with act := false, staged := [] }
theorem rabort14 (w : World) (h : Wr w b P r) : Calls Tryz.prog 12 #[.pointer (some ⟨b, 0, none⟩)] w fun e w' => e = .returned (.tuple #[]) ∧ Wr w' b P (M.wabort r) ∧ Kept P w w' := by
  obtain ⟨SV, GV, h, p1, p2, p3⟩ := h
  have c2 := h.c2
  have f2 := h.box.frozen 2
  have h2 := h.set2 false
  have c1 := h2.c1
  have f1 := h2.box.frozen 1
  have h3 := h2.set1 (GV' := .slice none 0 0) (G := []) (World.ownsRow_nil _ _ _ _) (fun _ hp => by simp at hp) (Nat.zero_le _) (fun _ e => by simp [Value.ownBlock] at e)
  obtain ⟨A, c, e, _⟩ := owns_shape14 h.staged
  have HX : Hid (Wr ((w.setCell ⟨b, 2, none⟩ (.bool false)).setCell ⟨b, 1, none⟩ (.slice none 0 0)) b P (M.wabort r)) := ⟨SV, _, h3, p1, p2, fun _ e => by simp [Value.ownBlock] at e⟩
  have HK : Hid (Kept P w ((w.setCell ⟨b, 2, none⟩ (.bool false)).setCell ⟨b, 1, none⟩ (.slice none 0 0))) := (Kept.set14 p1 2 _).trans (Kept.set14 p1 1 _)
  rw [e] at c1
  clear h h2 h3 e
  go_enter Tryz.func12, Tryz.ntmps12
  go_wp2_with fail
  go_end0
  exact ⟨rfl, HX.out, HK.out⟩
end
end Go.Proofs.YtigmcnnplnfakaaGreatDoor
namespace Go.Proofs.YtigmcnnplnfakaaGreatDoor
open Go.RowKit

/-- The first staged one of a sector. -/
def M.sfind (k : Nat) : List (Nat × ByteArray) → Option ByteArray
  | [] => none
  | p :: L => if p.1 = k then some p.2 else M.sfind k L
theorem M.sfind_not {k : Nat} : ∀ {L : List (Nat × ByteArray)}, (∀ i (hi : i < L.length), ¬ (L[i]'hi).1 = k) → M.sfind k L = none
  | [], _ => rfl
  | q :: L, h => by
    rw [M.sfind, if_neg (show ¬ q.1 = k from h 0 (by simp)), M.sfind_not (fun i hi => h (i + 1) (by simpa using hi))]
theorem M.sfind_first {k : Nat} : ∀ {L : List (Nat × ByteArray)} {j : Nat}, (∀ i (hi : i < L.length), i < j → ¬ (L[i]'hi).1 = k) → ∀ hj : j < L.length, (L[j]'hj).1 = k → M.sfind k L = some (L[j]'hj).2
  | [], j, _, hj, _ => absurd hj (by simp)
  | q :: L, 0, _, _, h => by
    have h : q.1 = k := h
    simp [M.sfind, h]
  | q :: L, j + 1, h1, hj, h => by
    rw [M.sfind, if_neg (show ¬ q.1 = k from h1 0 (by simp) (by omega)), M.sfind_first (L := L) (j := j) (fun i hi hik => h1 (i + 1) (by simpa using hi) (by omega)) (by simpa using hj) (by simpa using h)]
    simp
/-- Is there such a sector? -/
def M.wHas (n : Nat) (k : Int) : Bool := decide (0 ≤ k) && decide (k < (n : Int))
def M.wreadE (r : M.W) (k : Int) : Int := if M.wHas r.seen.length k = true then 0 else 3
def M.wreadS (r : M.W) (k : Int) : ByteArray := if M.wHas r.seen.length k = true then (M.sfind k.toNat r.staged).getD (r.seen.getD k.toNat ByteArray.empty) else ⟨#[]⟩

set_option maxRecDepth 100000 in
set_option maxHeartbeats 2000000 in
theorem rread14 (w : World) {b : Nat} {P : Nat → Prop} {r : M.W} (h : Wr w b P r) (k : Int) :
    Calls Tryz.prog 15 #[.pointer (some ⟨b, 0, none⟩), .int .i64 k] w fun e w' => e = .returned (.tuple #[.string (M.wreadS r k), .int .i64 (M.wreadE r k)]) ∧ w' = w := by
  obtain ⟨SV, GV, h, -⟩ := h
  have c0 := h.c0
  have c1 := h.c1
  obtain ⟨SA, sc, eS, hsc⟩ := owns_shape14 h.seen
  obtain ⟨GA, gc, eG, hgc⟩ := owns_shape14 h.staged
  subst eS eG
  unfold M.wreadS M.wreadE
  by_cases hb : M.wHas r.seen.length k = true
  · rw [if_pos hb, if_pos hb]
    obtain ⟨m, rfl, hm⟩ : ∃ m : Nat, k = m ∧ m < r.seen.length := by
      unfold M.wHas at hb
      simp at hb
      exact ⟨k.toNat, by omega, by omega⟩
    rw [Int.toNat_natCast]
    clear hb
    have hmany := h.many
    have hfew := h.few
    obtain ⟨sg, sc', eS, _, _, s0⟩ := owns_at14 (j := m) (u := .string (r.seen[m]'hm)) h.seen (by simp [hm]) (by omega)
    have eSA : SA = some ⟨sg, 0, none⟩ := by injection eS
    subst eSA
    have HC : Hid (∀ j (hj : j < r.staged.length), ∃ g, GA = some ⟨g, 0, none⟩ ∧ w.cell? ⟨g, j * 2, none⟩ = some (.int .i64 ((r.staged[j]'hj).1 : Nat)) ∧ w.cell? ⟨g, j * 2 + 1, none⟩ = some (.string (r.staged[j]'hj).2)) := by
      intro j hj
      obtain ⟨a1, a2⟩ := M.cells_at (p := r.staged[j]'hj) (List.getElem?_eq_getElem hj)
      obtain ⟨g, cap, e, _, _, d1⟩ := owns_at14 h.staged a1 (by omega)
      obtain ⟨g', cap', e', _, _, d2⟩ := owns_at14 h.staged a2 (by omega)
      injection e with e _ _
      injection e' with e' _ _
      rw [e] at e'
      injection e' with e'
      injection e' with e'
      subst e'
      exact ⟨g, e, d1, d2⟩
    obtain ⟨o, ho⟩ : ∃ o, o = (M.sfind m r.staged).getD (r.seen.getD m ByteArray.empty) := ⟨_, rfl⟩
    rw [← ho]
    have HO := Lib.hid ho
    obtain ⟨sl, hsl⟩ : ∃ x, x = r.seen.length := ⟨_, rfl⟩
    obtain ⟨gl, hgl⟩ : ∃ x, x = r.staged.length := ⟨_, rfl⟩
    rw [← hsl] at c0 hmany hsc
    rw [← hgl] at c1 hfew hgc
    have hm0 : (0 : Int) ≤ (m : Int) := by omega
    have hm1 : (m : Int) < (sl : Int) := by rw [hsl]; omega
    have hd : decide ((m : Int) < 0) = false := by simp
    have hd2 : decide ((sl : Int) ≤ (m : Int)) = false := by simp; omega
    have HN := Lib.hid hgl
    obtain ⟨s, hs⟩ : ∃ s, s = r.seen[m]'hm := ⟨_, rfl⟩
    rw [← hs] at s0
    have HSS : Hid (s = r.seen.getD m ByteArray.empty) := by show s = _; rw [hs]; simp [hm]
    clear h ho hm hsl hgl hs eS
    go_enter Tryz.func15, Tryz.ntmps15
    go_wp2_with fail
    go_loopw [6] (fun i wr => ∃ j : Nat, j ≤ gl ∧ i = .int .i64 j ∧ wr = w ∧ ∀ i (hi : i < r.staged.length), i < j → ¬ (r.staged[i]'hi).1 = m) (fun i _ => gl - (intOf i).toNat)
    case atStart => exact ⟨0, Nat.zero_le _, rfl, rfl, fun i hi h => absurd h (by omega)⟩
    case round =>
      obtain ⟨j, hj, rfl, rfl, hF⟩ := hrel
      have HF := Lib.hid hF
      clear hF
      by_cases hlt : j < gl
      · have hjT : j < r.staged.length := by rw [← HN.out]; exact hlt
        obtain ⟨g, rfl, d0, d1⟩ := HC.out j hjT
        have hj0 : (0 : Int) ≤ (j : Int) := by omega
        have hj1 : (j : Int) < (gl : Int) := by omega
        by_cases he : (r.staged[j]'hjT).1 = m
        · have HE : Hid (o = (r.staged[j]'hjT).2) := by rw [HO.out, M.sfind_first HF.out hjT he]; rfl
          rw [he] at d0
          obtain ⟨y, hy⟩ : ∃ x, x = (r.staged[j]'hjT).2 := ⟨_, rfl⟩
          rw [← hy] at d1 HE
          have hkk : ((m : Int) == (m : Int)) = true := by simp
          clear he hy hjT
          go_wp2_with fail
          go_ret2
          exact ⟨by rw [HE.out]; rfl, rfl⟩
        · have HE := Lib.hid he
          obtain ⟨x, hx⟩ : ∃ x, x = (r.staged[j]'hjT).1 := ⟨_, rfl⟩
          rw [← hx] at d0 he
          have hne : ((x : Int) == (m : Int)) = false := by rw [beq_eq_false_iff_ne]; omega
          clear he hx d1
          go_wp2_with fail
          go_roundw
          case rel => exact ⟨j + 1, by omega, by go_num, (by first | rfl | trivial), fun i hi hij => by
            by_cases e : i = j
            · subst e; exact HE.out
            · exact HF.out i hi (by omega)⟩
          case measure => simp [intOf]; omega
      · have e : j = gl := by omega
        subst e
        have HE : Hid (o = s) := by
          rw [HO.out, M.sfind_not (fun i hi => HF.out i hi (by rw [HN.out]; exact hi)), HSS.out]
          rfl
        go_wp2_with fail
        go_ret2
        exact ⟨by rw [HE.out]; rfl, rfl⟩
  · rw [if_neg hb, if_neg hb]
    obtain ⟨sl, hsl⟩ : ∃ x, x = r.seen.length := ⟨_, rfl⟩
    rw [← hsl] at c0 hb
    have hmany := h.many
    rw [← hsl] at hmany
    clear h hsl
    by_cases h0 : k < 0
    · have hd : decide (k < 0) = true := by simpa using h0
      clear hb
      go_enter Tryz.func15, Tryz.ntmps15
      go_wp2_with fail
      go_ret2
      exact ⟨rfl, rfl⟩
    · have hd : decide (k < 0) = false := by simpa using h0
      have hd2 : decide ((sl : Int) ≤ k) = true := by
        unfold M.wHas at hb
        simp at hb ⊢
        omega
      clear hb
      go_enter Tryz.func15, Tryz.ntmps15
      go_wp2_with fail
      go_ret2
      exact ⟨rfl, rfl⟩
end Go.Proofs.YtigmcnnplnfakaaGreatDoor
namespace Go.Proofs.YtigmcnnplnfakaaGreatDoor
open Go.RowKit

theorem infoSec14 : (Tryz.prog.info? 87).map (fun i => (i.zero, i.size, i.bytes)) = some (some (.agg #[.int .i64 0, .string ⟨#[]⟩]), 2, 24) := by kernel_rfl
theorem cell2_new14 (w : World) (x y : Value) (t : TypeId) : ∀ j u, [x, y][j]? = some u → (w.alloc (.cells #[x, y] t)).cell? ((⟨w.heap.size, 0, none⟩ : Addr).add j) = some u := by
  intro j u hj
  rw [blk_add, (Box.new w t #[x, y]).cell]
  simpa using hj
theorem M.cells_one : ∀ (T : List (Nat × ByteArray)), ∀ u ∈ M.cells T, u.oneCell' = true
  | [], _, h => by simp [M.cells] at h
  | p :: L, u, h => by
    rw [M.cells] at h
    rcases List.mem_cons.1 h with rfl | h
    · rfl
    · rcases List.mem_cons.1 h with rfl | h
      · rfl
      · exact M.cells_one L u h
/-- One more, in the place of the first one of its sector. -/
def M.sput (k : Nat) (s : ByteArray) : List (Nat × ByteArray) → List (Nat × ByteArray)
  | [] => [(k, s)]
  | p :: L => if p.1 = k then (k, s) :: L else p :: M.sput k s L
theorem M.sput_not {k : Nat} {s : ByteArray} : ∀ {L : List (Nat × ByteArray)}, (∀ i (hi : i < L.length), ¬ (L[i]'hi).1 = k) → M.sput k s L = L ++ [(k, s)]
  | [], _ => rfl
  | q :: L, h => by
    rw [M.sput, if_neg (show ¬ q.1 = k from h 0 (by simp)), M.sput_not (fun i hi => h (i + 1) (by simpa using hi))]
    rfl
theorem M.sput_first {k : Nat} {s : ByteArray} : ∀ {L : List (Nat × ByteArray)} {j : Nat}, (∀ i (hi : i < L.length), i < j → ¬ (L[i]'hi).1 = k) → ∀ hj : j < L.length, (L[j]'hj).1 = k → M.sput k s L = L.set j (k, s)
  | [], j, _, hj, _ => absurd hj (by simp)
  | q :: L, 0, _, _, h => by
    have h : q.1 = k := h
    simp [M.sput, h]
  | q :: L, j + 1, h1, hj, h => by
    rw [M.sput, if_neg (show ¬ q.1 = k from h1 0 (by simp) (by omega)), M.sput_first (L := L) (j := j) (fun i hi hik => h1 (i + 1) (by simpa using hi) (by omega)) (by simpa using hj) (by simpa using h)]
    simp
theorem M.cells_set14 : ∀ {L : List (Nat × ByteArray)} {j : Nat} {k : Nat} {s : ByteArray}, ∀ hj : j < L.length, (L[j]'hj).1 = k → M.cells (L.set j (k, s)) = (M.cells L).set (j * 2 + 1) (.string s)
  | [], j, _, _, hj, _ => absurd hj (by simp)
  | q :: L, 0, k, s, _, h => by
    have h : q.1 = k := h
    simp [M.cells, h]
  | q :: L, j + 1, k, s, hj, h => by
    have := M.cells_set14 (L := L) (j := j) (k := k) (s := s) (by simpa using hj) (by simpa using h)
    rw [show (j + 1) * 2 + 1 = (j * 2 + 1) + 1 + 1 by omega]
    simp [M.cells, this]
theorem M.sput_lies {k n : Nat} {s : ByteArray} (hk : k < n) : ∀ {L : List (Nat × ByteArray)}, (∀ p ∈ L, p.1 < n) → ∀ p ∈ M.sput k s L, p.1 < n
  | [], _, p, hp => by
    simp [M.sput] at hp
    rw [hp]
    exact hk
  | q :: L, h, p, hp => by
    unfold M.sput at hp
    split at hp
    · rcases List.mem_cons.1 hp with rfl | hp
      · exact hk
      · exact h p (List.mem_cons_of_mem _ hp)
    · rcases List.mem_cons.1 hp with rfl | hp
      · exact h _ (List.mem_cons_self ..)
      · exact M.sput_lies hk (fun p hp => h p (List.mem_cons_of_mem _ hp)) p hp
theorem M.sput_len (k : Nat) (s : ByteArray) : ∀ L : List (Nat × ByteArray), (M.sput k s L).length = if (M.sfind k L).isSome then L.length else L.length + 1
  | [] => rfl
  | q :: L => by
    have := M.sput_len k s L
    unfold M.sput M.sfind
    split
    · simp
    · simp [this]
      split <;> simp

def M.wstageE (r : M.W) (k : Int) (s : ByteArray) : Int :=
  if r.act = true then (if M.wHas r.seen.length k = true ∧ M.wown r k = false then (if s.size = 64 then (if (M.sfind k.toNat r.staged).isSome = true then 0 else if 16 ≤ r.staged.length then 6 else 0) else 12) else 3) else 10
def M.wstage (r : M.W) (k : Int) (s : ByteArray) : M.W := if M.wstageE r k s = 0 then { r with staged := M.sput k.toNat s r.staged } else r

/-- Stage once all is well. -/
structure StgOk (r : M.W) (m : Nat) (s : ByteArray) : Prop where
  act : r.act = true
  has : m < r.seen.length
  own : M.wown r m = false
  size : s.size = 64
theorem StgOk.has' {r : M.W} {m : Nat} {s : ByteArray} (h : StgOk r m s) : M.wHas r.seen.length m = true := by
  have := h.has
  unfold M.wHas
  simp
  omega
theorem StgOk.some {r : M.W} {m : Nat} {s : ByteArray} (h : StgOk r m s) (hf : (M.sfind m r.staged).isSome = true) : M.wstageE r m s = 0 ∧ M.wstage r m s = { r with staged := M.sput m s r.staged } := by
  have e : M.wstageE r m s = 0 := by unfold M.wstageE; rw [if_pos h.act, if_pos ⟨h.has', h.own⟩, if_pos h.size, Int.toNat_natCast, if_pos hf]
  exact ⟨e, by unfold M.wstage; rw [if_pos e, Int.toNat_natCast]⟩
theorem StgOk.none {r : M.W} {m : Nat} {s : ByteArray} (h : StgOk r m s) (hf : ¬ (M.sfind m r.staged).isSome = true) (hl : ¬ 16 ≤ r.staged.length) : M.wstageE r m s = 0 ∧ M.wstage r m s = { r with staged := M.sput m s r.staged } := by
  have e : M.wstageE r m s = 0 := by unfold M.wstageE; rw [if_pos h.act, if_pos ⟨h.has', h.own⟩, if_pos h.size, Int.toNat_natCast, if_neg hf, if_neg hl]
  exact ⟨e, by unfold M.wstage; rw [if_pos e, Int.toNat_natCast]⟩
theorem StgOk.full {r : M.W} {m : Nat} {s : ByteArray} (h : StgOk r m s) (hf : ¬ (M.sfind m r.staged).isSome = true) (hl : 16 ≤ r.staged.length) : M.wstageE r m s = 6 ∧ M.wstage r m s = r := by
  have e : M.wstageE r m s = 6 := by unfold M.wstageE; rw [if_pos h.act, if_pos ⟨h.has', h.own⟩, if_pos h.size, Int.toNat_natCast, if_neg hf, if_pos hl]
  exact ⟨e, by unfold M.wstage; rw [if_neg (by rw [e]; decide)]⟩

/-- The copy that Stage makes. -/
structure Copied (w y : World) (b : Nat) (P : Nat → Prop) (r : M.W) (g c : Nat) : Prop where
  wr : ∃ SV GV, WlAt y b SV GV r ∧ P b ∧ (∀ k, SV.ownBlock = some k → P k ∧ k ≠ g) ∧ (∀ k, GV.ownBlock = some k → P k ∧ k ≠ g)
  row : y.ownsRow 0 87 2 (.slice (some ⟨g, 0, none⟩) r.staged.length c) r.staged.length (M.cells r.staged)
  new : w.heap.size ≤ g
  gb : g ≠ b
  kept : Kept P w y
theorem Copied.of {w y : World} {b g c n : Nat} {P : Nat → Prop} {r : M.W} (h : Wr w b P r) (ho : y.ownsRow 0 87 2 (.slice (some ⟨g, 0, none⟩) r.staged.length c) r.staged.length (M.cells r.staged)) (hk : Kept (fun _ => False) (w.drewN n) y) (hg : (w.drewN n).heap.size ≤ g) : Copied w y b P r g c := by
  have hg' : w.heap.size ≤ g := hg
  obtain ⟨SV, GV, h, p1, p2, p3⟩ := h
  have hk' : Kept (fun _ => False) w y := ((Kept.refl (fun _ => False) w).drewN n).trans hk
  have hbl := h.box.lt
  exact ⟨⟨SV, GV, h.kept hk' id (fun _ _ => id) (fun _ _ => id), p1, fun k e => ⟨p2 k e, by have := (h.seen.lt k e).2; omega⟩, fun k e => ⟨p3 k e, by have := (h.staged.lt k e).2; omega⟩⟩, ho, hg', by omega, hk'.mono (fun _ _ e => e.elim)⟩
/-- It stays as it was. -/
theorem Copied.same {w y : World} {b g c : Nat} {P : Nat → Prop} {r : M.W} (h : Copied w y b P r g c) : Wr y b (M.plus14 P w.heap.size) r := by
  obtain ⟨SV, GV, hw, p1, p2, p3⟩ := h.wr
  exact ⟨SV, GV, hw, Or.inl p1, fun k e => Or.inl (p2 k e).1, fun k e => Or.inl (p3 k e).1⟩
/-- It was found: its bytes are stored, and the copy takes the place of what was staged. -/
theorem Copied.found {w y : World} {b g c : Nat} {P : Nat → Prop} {r : M.W} (h : Copied w y b P r g c) {m j : Nat} {s : ByteArray} (hs : StgOk r m s) (hF : ∀ i (hi : i < r.staged.length), i < j → ¬ (r.staged[i]'hi).1 = m) (hj : j < r.staged.length) (he : (r.staged[j]'hj).1 = m) :
    (∃ old, y.cell? ⟨g, j * 2 + 1, none⟩ = some (.string old)) ∧ y.frozen? ⟨g, j * 2 + 1, none⟩ = false ∧ (∃ A n' c', (y.setCell ⟨g, j * 2 + 1, none⟩ (.string s)).cell? ⟨b, 1, none⟩ = some (.slice A n' c')) ∧ (y.setCell ⟨g, j * 2 + 1, none⟩ (.string s)).frozen? ⟨b, 1, none⟩ = false ∧
      Hid (M.wstageE r m s = 0 ∧ Wr ((y.setCell ⟨g, j * 2 + 1, none⟩ (.string s)).setCell ⟨b, 1, none⟩ (.slice (some ⟨g, 0, none⟩) r.staged.length c)) b (M.plus14 P w.heap.size) (M.wstage r m s) ∧ Kept P w ((y.setCell ⟨g, j * 2 + 1, none⟩ (.string s)).setCell ⟨b, 1, none⟩ (.slice (some ⟨g, 0, none⟩) r.staged.length c))) := by
  obtain ⟨SV, GV, hw, p1, p2, p3⟩ := h.wr
  have hf := M.sfind_first hF hj he
  obtain ⟨e0, e1⟩ := hs.some (by rw [hf]; rfl)
  have hput := M.sput_first (s := s) hF hj he
  have hat := (M.cells_at (p := r.staged[j]'hj) (List.getElem?_eq_getElem hj)).2
  have hc := h.row.cells (g := g) rfl _ _ hat
  rw [blk_add] at hc
  obtain ⟨hrow, hfr⟩ := owns_set14 h.row (j * 2 + 1) (.string s)
  have hk1 : Kept (fun k => k = g) y (y.setCell ⟨g, j * 2 + 1, none⟩ (.string s)) := Kept.set14 (P := fun k => k = g) rfl _ _
  have hw1 : WlAt (y.setCell ⟨g, j * 2 + 1, none⟩ (.string s)) b SV GV r := hw.kept hk1 (Ne.symm h.gb) (fun k e => (p2 k e).2) (fun k e => (p3 k e).2)
  obtain ⟨A, cc, eGV, _⟩ := owns_shape14 hw1.staged
  have hc1 := hw1.c1
  rw [eGV] at hc1
  have hlen : (M.sput m s r.staged).length = r.staged.length := by rw [hput, List.length_set]
  have hset := hw1.set1 (GV' := .slice (some ⟨g, 0, none⟩) r.staged.length c) (G := M.sput m s r.staged) (by rw [hlen, hput, M.cells_set14 hj he]; exact hrow) (M.sput_lies hs.has hw.lies) (by rw [hlen]; exact hw.few) (fun k e => by rw [← own_slice14 e]; exact h.gb)
  have hnew := h.new
  refine ⟨⟨_, hc⟩, hfr, ⟨_, _, _, hc1⟩, hw1.box.frozen 1, e0, ?_, ?_⟩
  · rw [e1]
    exact ⟨SV, _, hset, Or.inl p1, fun k e => Or.inl (p2 k e).1, fun k e => Or.inr (by rw [← own_slice14 e]; exact hnew)⟩
  · exact (h.kept.next hk1 (fun i hi e => by omega)).trans (Kept.set14 p1 1 _)
/-- It is laid behind the others, and the copy takes the place of what was staged. -/
theorem Copied.more {w y y3 : World} {b g c g3 c3 : Nat} {P : Nat → Prop} {r : M.W} {o : Obj} (h : Copied w y b P r g c) {m : Nat} {s : ByteArray} (hs : StgOk r m s) (hF : ∀ i (hi : i < r.staged.length), ¬ (r.staged[i]'hi).1 = m) (hl : ¬ 16 ≤ r.staged.length)
    (ho : y3.ownsRow 0 87 2 (.slice (some ⟨g3, 0, none⟩) (r.staged.length + 1) c3) (r.staged.length + 1) (M.cells r.staged ++ [.int .i64 (m : Nat), .string s])) (hgr : (y.alloc o).grownBy y3 (Value.slice (some ⟨g, 0, none⟩) r.staged.length c).ownBlock) (hat : (Value.slice (some ⟨g, 0, none⟩) r.staged.length c).ownBlock = some g3 ∨ g3 = (y.alloc o).heap.size) :
    (∃ A n' c', y3.cell? ⟨b, 1, none⟩ = some (.slice A n' c')) ∧ y3.frozen? ⟨b, 1, none⟩ = false ∧
      Hid (M.wstageE r m s = 0 ∧ Wr (y3.setCell ⟨b, 1, none⟩ (.slice (some ⟨g3, 0, none⟩) (r.staged.length + 1) c3)) b (M.plus14 P w.heap.size) (M.wstage r m s) ∧ Kept P w (y3.setCell ⟨b, 1, none⟩ (.slice (some ⟨g3, 0, none⟩) (r.staged.length + 1) c3))) := by
  obtain ⟨SV, GV, hw, p1, p2, p3⟩ := h.wr
  have hf := M.sfind_not hF
  obtain ⟨e0, e1⟩ := hs.none (by rw [hf]; decide) hl
  have hput := M.sput_not (s := s) hF
  have hbl := hw.box.lt
  have hsz := h.kept.size
  have hnew := h.new
  have hz : (y.alloc o).heap.size = y.heap.size + 1 := by simp
  have hg3 : w.heap.size ≤ g3 ∧ g3 ≠ b := by
    rcases hat with e | e
    · rw [← own_slice14 e]; exact ⟨hnew, h.gb⟩
    · omega
  have hk3 : Kept (fun k => k = g) y y3 := Kept.grown (Kept.alloc (Kept.refl (fun k => k = g) y) o) hgr (fun k e _ => (own_slice14 e).symm)
  have hw1 : WlAt y3 b SV GV r := hw.kept hk3 (Ne.symm h.gb) (fun k e => (p2 k e).2) (fun k e => (p3 k e).2)
  obtain ⟨A, cc, eGV, _⟩ := owns_shape14 hw1.staged
  have hc1 := hw1.c1
  rw [eGV] at hc1
  have hlen : (M.sput m s r.staged).length = r.staged.length + 1 := by rw [hput]; simp
  have hset := hw1.set1 (GV' := .slice (some ⟨g3, 0, none⟩) (r.staged.length + 1) c3) (G := M.sput m s r.staged) (by rw [hlen, hput, M.cells_snoc]; exact ho) (M.sput_lies hs.has hw.lies) (by rw [hlen]; omega) (fun k e => by rw [← own_slice14 e]; exact hg3.2)
  refine ⟨⟨_, _, _, hc1⟩, hw1.box.frozen 1, e0, ?_, ?_⟩
  · rw [e1]
    exact ⟨SV, _, hset, Or.inl p1, fun k e => Or.inl (p2 k e).1, fun k e => Or.inr (by rw [← own_slice14 e]; exact hg3.1)⟩
  · exact (h.kept.next hk3 (fun i hi e => by omega)).trans (Kept.set14 p1 1 _)

set_option maxRecDepth 100000 in
set_option maxHeartbeats 4000000 in
theorem rstage14_ok (w : World) {b : Nat} {P : Nat → Prop} {r : M.W} (h : Wr w b P r) (m : Nat) (s : ByteArray) (hs : StgOk r m s) :
    Calls Tryz.prog 44 #[.pointer (some ⟨b, 0, none⟩), .int .i64 m, .string s] w fun e w' => e = .returned (.int .i64 (M.wstageE r m s)) ∧ Wr w' b (M.plus14 P w.heap.size) (M.wstage r m s) ∧ Kept P w w' := by
  obtain ⟨i0, hi, hz0, hz1, hz2⟩ := info_parts infoSec14
  have HOwn := Lib.hid (rown14 w h m)
  rw [hs.own] at HOwn
  have HCp : Hid (∀ n y g c, y.ownsRow 0 87 2 (.slice (some ⟨g, 0, none⟩) r.staged.length c) r.staged.length (M.cells r.staged) → Kept (fun _ => False) (w.drewN n) y → (w.drewN n).heap.size ≤ g → Copied w y b P r g c) := fun n y g c h1 h2 h3 => Copied.of h h1 h2 h3
  obtain ⟨SV, GV, hw, -⟩ := h
  have c0 := hw.c0
  have c1 := hw.c1
  have c2 := hw.c2
  rw [hs.act] at c2
  obtain ⟨SA, sc, eS, hsc⟩ := owns_shape14 hw.seen
  obtain ⟨GA, gc, eG, hgc⟩ := owns_shape14 hw.staged
  have hst := hw.staged
  rw [eS] at c0
  rw [eG] at c1 hst
  have hfew := hw.few
  have hmany := hw.many
  have hm := hs.has
  obtain ⟨sl, hsl⟩ : ∃ x, x = r.seen.length := ⟨_, rfl⟩
  obtain ⟨gl, hgl⟩ : ∃ x, x = r.staged.length := ⟨_, rfl⟩
  obtain ⟨xs, hxs⟩ : ∃ x, x = M.cells r.staged := ⟨_, rfl⟩
  rw [← hsl] at c0 hsc hmany hm
  rw [← hgl] at c1 hgc hst hfew HCp
  rw [← hxs] at hst HCp
  have hs64 := hs.size
  have HSt : Hid (∀ n, (w.drewN n).ownsRow 0 87 2 (.slice GA gl gc) gl xs) := fun n => hst
  have HOne : Hid (∀ u ∈ xs, u.oneCell' = true) := by rw [hxs]; exact M.cells_one _
  have hd : decide ((m : Int) < 0) = false := by simp
  have hd2 : decide ((sl : Int) ≤ (m : Int)) = false := by simp; omega
  have HMx : Hid (gl ≤ maxLen ∧ gl * 24 ≤ 140737488355328 ∧ gl + 1 ≤ maxLen ∧ (gl + 1) * 24 ≤ 140737488355328) := ⟨by unfold maxLen; omega, by omega, by unfold maxLen; omega, by omega⟩
  have HN := Lib.hid hgl
  have HXs := Lib.hid hxs
  have HS := Lib.hid hs
  clear hw eS eG hst hsl hgl hxs hs
  have HD1 : Hid (∀ (n : Nat) (o : Obj), ((w.drewN n).alloc o).cell? ⟨b, 1, none⟩ = some (.slice GA gl gc)) := fun n o => ((Kept.refl (fun _ => False) (w.drewN n)).alloc o).cell (p := ⟨b, 1, none⟩) c1 id
  have tok1 : True := trivial
  go_enter Tryz.func44, Tryz.ntmps44
  go_wp2_with (first
    | (go_at_call 87; refine HOwn.out.mono ?_; rintro e w1 ⟨rfl, n1, rfl⟩; have d1 := HD1.out n1)
    | (at_builtin
       have _t := tok1
       refine append_copy14 rfl _ _ 40 rfl 87 i0 (.agg #[.int .i64 0, .string ⟨#[]⟩]) 2 24 Tryz.underlying40 hi hz0 hz1 hz2 rfl (by decide) _ rfl rfl (.slice GA gl gc) gl xs rfl (HSt.out _) HOne.out HMx.out.1 HMx.out.2.1 ?_
       intro g1 k1 w2 ho1 hk1 hg1
       have HC2 := Lib.hid (HCp.out _ w2 g1 k1 ho1 hk1 hg1)
       clear tok1 ho1 hk1 hg1 HCp)
    | fail)
  go_loopw [8] (fun i wr => ∃ j : Nat, j ≤ gl ∧ i = .int .i64 j ∧ wr = w2 ∧ ∀ i (hi : i < r.staged.length), i < j → ¬ (r.staged[i]'hi).1 = m) (fun i _ => gl - (intOf i).toNat)
  case atStart => exact ⟨0, Nat.zero_le _, rfl, rfl, fun i hi h => absurd h (by omega)⟩
  case round =>
    obtain ⟨j, hj, rfl, rfl, hF⟩ := hrel
    have HF := Lib.hid hF
    clear hF
    have HCell : Hid (∀ j (hj : j < r.staged.length), wr.cell? ⟨g1, j * 2, none⟩ = some (.int .i64 ((r.staged[j]'hj).1 : Nat))) := by
      intro j hj
      obtain ⟨a1, a2⟩ := M.cells_at (p := r.staged[j]'hj) (List.getElem?_eq_getElem hj)
      have hc := HC2.out.row.cells (g := g1) rfl _ _ a1
      rwa [blk_add] at hc
    by_cases hlt : j < gl
    · have hjT : j < r.staged.length := by rw [← HN.out]; exact hlt
      have e0 := HCell.out j hjT
      have hj0 : (0 : Int) ≤ (j : Int) := by omega
      have hj1 : (j : Int) < (gl : Int) := by omega
      by_cases he : (r.staged[j]'hjT).1 = m
      · obtain ⟨⟨old, q0⟩, q1, ⟨A2, n2, k2, q2⟩, q3, HX⟩ := HC2.out.found HS.out HF.out hjT he
        rw [he] at e0
        rw [← HN.out] at HX
        have hkk : ((m : Int) == (m : Int)) = true := by simp
        clear he hjT HCell
        go_wp2_with fail
        go_ret
        exact ⟨by rw [HX.out.1]; rfl, HX.out.2⟩
      · have HE := Lib.hid he
        obtain ⟨x, hx⟩ : ∃ x, x = (r.staged[j]'hjT).1 := ⟨_, rfl⟩
        rw [← hx] at e0 he
        have hne : ((x : Int) == (m : Int)) = false := by rw [beq_eq_false_iff_ne]; omega
        clear he hx HCell
        go_wp2_with fail
        go_roundw
        case rel => exact ⟨j + 1, by omega, by go_num, (by first | rfl | trivial), fun i hi hij => by
          by_cases e : i = j
          · subst e; exact HE.out
          · exact HF.out i hi (by omega)⟩
        case measure => simp [intOf]; omega
    · have ej : j = gl := by omega
      subst ej
      have HNo : Hid (∀ i (hi : i < r.staged.length), ¬ (r.staged[i]'hi).1 = m) := fun i hi => HF.out i hi (by rw [HN.out]; exact hi)
      clear HCell HF
      by_cases h16 : 16 ≤ j
      · have hd16 : decide ((16 : Int) ≤ (j : Int)) = true := by simp; omega
        obtain ⟨E0, E1⟩ := HS.out.full (by rw [M.sfind_not HNo.out]; decide) (by rw [← HN.out]; exact h16)
        have HX : Hid (M.wstageE r m s = 6 ∧ Wr wr b (M.plus14 P w.heap.size) (M.wstage r m s) ∧ Kept P w wr) := ⟨E0, by rw [E1]; exact HC2.out.same, HC2.out.kept⟩
        clear E0 E1 HC2
        go_wp2_with fail
        go_ret
        exact ⟨by rw [HX.out.1]; rfl, HX.out.2⟩
      · have hd16 : decide ((16 : Int) ≤ (j : Int)) = false := by simp; omega
        have HMo : Hid (∀ y3 g3 c3 o, y3.ownsRow 0 87 2 (.slice (some ⟨g3, 0, none⟩) (j + 1) c3) (j + 1) (xs ++ [.int .i64 (m : Nat), .string s]) → (wr.alloc o).grownBy y3 (Value.slice (some ⟨g1, 0, none⟩) j k1).ownBlock → ((Value.slice (some ⟨g1, 0, none⟩) j k1).ownBlock = some g3 ∨ g3 = (wr.alloc o).heap.size) →
            (∃ A n' c', y3.cell? ⟨b, 1, none⟩ = some (.slice A n' c')) ∧ y3.frozen? ⟨b, 1, none⟩ = false ∧ Hid (M.wstageE r m s = 0 ∧ Wr (y3.setCell ⟨b, 1, none⟩ (.slice (some ⟨g3, 0, none⟩) (j + 1) c3)) b (M.plus14 P w.heap.size) (M.wstage r m s) ∧ Kept P w (y3.setCell ⟨b, 1, none⟩ (.slice (some ⟨g3, 0, none⟩) (j + 1) c3)))) := by
          intro y3 g3 c3 o h1 h2 h3
          have hh := HC2.out.more (y3 := y3) (g3 := g3) (c3 := c3) (o := o) HS.out HNo.out (by rw [← HN.out]; exact h16)
          rw [← HN.out, ← HXs.out] at hh
          exact hh h1 h2 h3
        have HRow : Hid (wr.ownsRow 0 87 2 (.slice (some ⟨g1, 0, none⟩) j k1) j xs) := by rw [HN.out, HXs.out]; exact HC2.out.row
        clear HC2
        have tok2 : True := trivial
        go_wp2_with (first
          | (at_builtin
             have _t := tok2
             refine wpList_append_lies _ rfl _ _ 40 rfl 0 87 i0 (.agg #[.int .i64 0, .string ⟨#[]⟩]) 2 24 Tryz.underlying40 hi hz0 hz1 hz2 rfl (by decide) _ _ _ rfl (HRow.out.alloc _) ⟨wr.heap.size, 0, none⟩ 1 1 [.int .i64 (m : Nat), .string s] rfl rfl (cell2_new14 _ _ _ _) (fun u hu => by simp at hu; rcases hu with rfl | rfl <;> rfl) (by omega) HMx.out.2.2.1 HMx.out.2.2.2 (Nat.zero_le _) _ rfl ?_
             intro g3 c3 w3 ho3 hg3 hat3 _
             obtain ⟨⟨A2, n2, k2, q2⟩, q3, HX⟩ := HMo.out w3 g3 c3 _ ho3 hg3 hat3
             clear tok2 ho3 hg3 hat3 HMo)
          | fail)
        go_ret
        exact ⟨by rw [HX.out.1]; rfl, HX.out.2⟩
end Go.Proofs.YtigmcnnplnfakaaGreatDoor
namespace Go.Proofs.YtigmcnnplnfakaaGreatDoor
open Go.RowKit

set_option maxHeartbeats 2000000 in
theorem rstage14 (w : World) {b : Nat} {P : Nat → Prop} {r : M.W} (h : Wr w b P r) (k : Int) (s : ByteArray) :
    Calls Tryz.prog 44 #[.pointer (some ⟨b, 0, none⟩), .int .i64 k, .string s] w fun e w' => e = .returned (.int .i64 (M.wstageE r k s)) ∧ Wr w' b (M.plus14 P w.heap.size) (M.wstage r k s) ∧ Kept P w w' := by
  have HSame : Hid (∀ n E, M.wstageE r k s = E → E ≠ 0 → Wr (w.drewN n) b (M.plus14 P w.heap.size) (M.wstage r k s) ∧ Kept P w (w.drewN n)) := by
    intro n E hE hn
    have e : M.wstage r k s = r := by unfold M.wstage; rw [if_neg (by rw [hE]; exact hn)]
    rw [e]
    exact ⟨(h.drewN n).mono (fun _ _ e => Or.inl e), (Kept.refl P w).drewN n⟩
  have HOwn := Lib.hid (rown14 w h k)
  have hh := h
  obtain ⟨SV, GV, hw, -⟩ := h
  have c0 := hw.c0
  have c2 := hw.c2
  obtain ⟨SA, sc, eS, hsc⟩ := owns_shape14 hw.seen
  rw [eS] at c0
  by_cases ha : r.act = true
  · rw [ha] at c2
    by_cases hk : M.wHas r.seen.length k = true
    · by_cases ho : M.wown r k = false
      · by_cases h64 : s.size = 64
        · obtain ⟨m, rfl, hm⟩ : ∃ m : Nat, k = m ∧ m < r.seen.length := by
            unfold M.wHas at hk
            simp at hk
            exact ⟨k.toNat, by omega, by omega⟩
          exact rstage14_ok w hh m s ⟨ha, hm, ho, h64⟩
        · have hE : M.wstageE r k s = 12 := by unfold M.wstageE; rw [if_pos ha, if_pos ⟨hk, ho⟩, if_neg h64]
          have HX := Lib.hid (fun n => HSame.out n 12 hE (by decide))
          rw [hE]
          rw [ho] at HOwn
          obtain ⟨sl, hsl⟩ : ∃ x, x = r.seen.length := ⟨_, rfl⟩
          rw [← hsl] at c0 hk
          have hd : decide (k < 0) = false := by unfold M.wHas at hk; simp at hk ⊢; omega
          have hd2 : decide ((sl : Int) ≤ k) = false := by unfold M.wHas at hk; simp at hk ⊢; omega
          have h64' : ((s.size : Int) != 64) = true := by simp; omega
          have h64'' : ((s.size : Int) == 64) = false := by rw [beq_eq_false_iff_ne]; omega
          clear hw hh hk ho h64 hE hsl eS ha HSame
          go_enter Tryz.func44, Tryz.ntmps44
          go_wp2_with fail
          refine HOwn.out.mono ?_
          rintro e w1 ⟨rfl, n1, rfl⟩
          go_wp2_with fail
          go_ret
          exact ⟨rfl, HX.out n1⟩
      · have ho' : M.wown r k = true := by simpa using ho
        have hE : M.wstageE r k s = 3 := by unfold M.wstageE; rw [if_pos ha, if_neg (fun h => ho h.2)]
        have HX := Lib.hid (fun n => HSame.out n 3 hE (by decide))
        rw [hE]
        rw [ho'] at HOwn
        obtain ⟨sl, hsl⟩ : ∃ x, x = r.seen.length := ⟨_, rfl⟩
        rw [← hsl] at c0 hk
        have hd : decide (k < 0) = false := by unfold M.wHas at hk; simp at hk ⊢; omega
        have hd2 : decide ((sl : Int) ≤ k) = false := by unfold M.wHas at hk; simp at hk ⊢; omega
        clear hw hh hk ho ho' hE hsl eS ha HSame
        go_enter Tryz.func44, Tryz.ntmps44
        go_wp2_with fail
        refine HOwn.out.mono ?_
        rintro e w1 ⟨rfl, n1, rfl⟩
        go_wp2_with fail
        go_ret
        exact ⟨rfl, HX.out n1⟩
    · have hE : M.wstageE r k s = 3 := by unfold M.wstageE; rw [if_pos ha, if_neg (fun h => hk h.1)]
      have HX := Lib.hid (HSame.out 0 3 hE (by decide))
      rw [hE]
      obtain ⟨sl, hsl⟩ : ∃ x, x = r.seen.length := ⟨_, rfl⟩
      rw [← hsl] at c0 hk
      have hkk : decide (k < 0) = true ∨ (decide (k < 0) = false ∧ decide ((sl : Int) ≤ k) = true) := by
        unfold M.wHas at hk
        simp at hk ⊢
        omega
      clear hw hh hk hE hsl eS ha HSame HOwn
      rcases hkk with hd | ⟨hd, hd2⟩
      · go_enter Tryz.func44, Tryz.ntmps44
        go_wp2_with fail
        go_ret
        exact ⟨rfl, HX.out⟩
      · go_enter Tryz.func44, Tryz.ntmps44
        go_wp2_with fail
        go_ret
        exact ⟨rfl, HX.out⟩
  · have ha' : r.act = false := by simpa using ha
    rw [ha'] at c2
    have hE : M.wstageE r k s = 10 := by unfold M.wstageE; rw [if_neg ha]
    have HX := Lib.hid (HSame.out 0 10 hE (by decide))
    rw [hE]
    clear hw hh hE eS ha ha' HSame HOwn
    go_enter Tryz.func44, Tryz.ntmps44
    go_wp2_with fail
    go_ret
    exact ⟨rfl, HX.out⟩
end Go.Proofs.YtigmcnnplnfakaaGreatDoor
