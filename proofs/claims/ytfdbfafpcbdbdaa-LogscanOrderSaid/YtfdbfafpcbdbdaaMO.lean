/-
  append([]T{}, v...): a row is copied into a new one; v an owned row, nil or empty too. No function of the program in this text. The document's disk (solderref08) in memory. Walks over has, may and call. Walks over solderref08's call, may, Read, and over disk.Fail and DownAt. Walks over solderref08's put and Write. Walks over solderref08's Write, Flush, Fail and Restart(nil). Walks over solderref08's Flush, Fail and Restart(nil). Walks over solderref08's Restart(nil) and New. Walk over solderref08.New. Walk over disk.Fail. Walks over solderref08's Fail, and over disk.Fail and disk.DownAt. The disk and the document's disk do the same: the mathematics. No function of the program is walked in this text. The disk and the document's disk side by side in memory: one contract a call over both, what stands beside them (F) kept. The document's parts of a disk (solderref09) in memory. Walks over its New and Read.
-/
import Derived.Test.YtfdbfafpcbdbdaaMD
import Derived.Test.YtfdbfafpcbdbdaaME
import Derived.Test.YtfdbfafpcbdbdaaMA
import Derived.Test.YtfdbfafpcbdbdaaMG
import Derived.Maps.AppendAt
import Derived.Laws.AppendOwnNone
import Derived.OwnWalk
import Derived.Deep.RegionLaw
import Derived.Deep.AppendLies
import Derived.Deep.RegionHeld3
namespace Go.Proofs.Ytfdbfafpcbdbdaa
open Go.RowKit

theorem owns_empty (u : World) (t : TypeId) (z : Nat) : (u.alloc (.cells #[] t)).ownsRow u.heap.size t z (.slice (some ⟨u.heap.size, 0, none⟩) 0 0) 0 [] :=
  ⟨by simp, Or.inr ⟨_, 0, #[], rfl, Nat.le_refl _, heap_alloc_new u _, Nat.le_refl _, Nat.zero_le _, by simp, by simp⟩⟩
theorem owns_mono {w : World} {B B' : Nat} {t : TypeId} {z n : Nat} {v : Value} {xs : List Value} (h : w.ownsRow B t z v n xs) (hB : B' ≤ B) : w.ownsRow B' t z v n xs :=
  ⟨h.1, h.2.imp id (fun ⟨g, cap, cur, e, h1, h2⟩ => ⟨g, cap, cur, e, Nat.le_trans hB h1, h2⟩)⟩

theorem wpList_append_copy {P : Program} {w : World} {ops : Array Oper} {rest : List Oper} {o : Oper} {a : Act} {Q : Exit → Act → World → Prop} (hgd : o.guard = none) (s x : Operand) (t : TypeId)
    (ho : o.op = .call { callee := .builtin .append, args := #[s, x], argTypes := #[t, t] })
    (e : TypeId) (i : TypeInfo) (z : Value) (size bytes : Nat) (ht : P.underlying t = some (.slice e)) (hi : P.info? e = some i) (hz : i.zero = some z)
    (hsize : i.size = size) (hby : i.bytes = bytes) (hzs : z.cells.size = size) (hsz : 0 < size)
    (H : Nat) (hH : w.heap.size = H) (hs : a.eval s = .slice (some ⟨H, 0, none⟩) 0 0) (v : Value) (n : Nat) (xs : List Value) (hx : a.eval x = v) (hown : w.ownsRow 0 e size v n xs) (h1 : ∀ u ∈ xs, u.oneCell' = true)
    (h63 : n ≤ maxLen) (hbytes : n * bytes ≤ 140737488355328)
    (h : ∀ g cap w', w'.ownsRow 0 e size (.slice (some ⟨g, 0, none⟩) n cap) n xs → Kept (fun _ => False) w w' → w.heap.size ≤ g → wpList P ops Q rest (a.put o.dst (.slice (some ⟨g, 0, none⟩) n cap)) w') :
    wpList P ops Q (o :: rest) a (w.alloc (.cells #[] e)) := by
  subst hH
  have he := owns_empty w e size
  have hk0 : Kept (fun _ => False) w (w.alloc (.cells #[] e)) := (Kept.refl _ w).alloc _
  rcases hown.2 with ⟨rfl, rfl⟩ | ⟨g0, c0, cur, rfl, hb0, hg0, hc0, _⟩
  · have hxs : xs = [] := List.eq_nil_of_length_eq_zero (by simpa using hown.1)
    subst hxs
    refine wpList_append_own_none hgd s x t ho w.heap.size e i size ht hi _ 0 [] hs he hx ?_
    exact h _ 0 _ (owns_mono he (Nat.zero_le _)) hk0 (Nat.le_refl _)
  · refine wpList_append_own_at _ hgd s x t ho w.heap.size e i z size bytes ht hi hz hsize hby hzs hsz _ 0 [] hs he ⟨g0, 0, none⟩ n c0 xs hx hown.1 (fun j u hj => ?_) h1 (by omega) (by rw [Nat.zero_add]; exact hbytes) (by rw [World.size_alloc]; omega) ?_
    · have hc := hown.cells (g := g0) rfl j u hj
      rw [blk_add] at hc ⊢
      exact (World.cell?_of_block (Below.heap_alloc w _ _ (lt_of_block hg0))).trans hc
    · intro v' w' ho' hgr hnil hat
      rw [Nat.zero_add, List.nil_append] at ho'
      have hk : Kept (fun _ => False) w w' := hk0.grown hgr (fun k e hk => by
        have : w.heap.size = k := by simpa [Value.ownBlock] using e
        omega)
      rcases ho'.2 with ⟨e1, _⟩ | ⟨g, cap, cur', rfl, hg, _⟩
      · exact absurd (hnil.1 e1).1 (by simp)
      · exact h g cap w' (owns_mono ho' (Nat.zero_le _)) hk hg
end Go.Proofs.Ytfdbfafpcbdbdaa
namespace Go.Proofs.Ytfdbfafpcbdbdaa
open Go.RowKit

/-- What the document's disk is. -/
structure M.R where
  sure : List ByteArray
  seen : List ByteArray
  wait : List (Nat × ByteArray)
  ops : Nat
  fails : List Int
  at_ : Int
  off : Bool

/-- It lies in block b of w. -/
structure RefAt (w : World) (b : Nat) (SV EV WV FV : Value) (r : M.R) : Prop where
  box : Box w b 94 #[SV, EV, WV, .int .i64 (r.ops : Nat), FV, .int .i64 r.at_, .bool r.off]
  sure : w.ownsRow 0 9 1 SV r.sure.length (r.sure.map Value.string)
  seen : w.ownsRow 0 9 1 EV r.seen.length (r.seen.map Value.string)
  wait : w.ownsRow 0 55 2 WV r.wait.length (M.cells r.wait)
  fails : w.ownsRow 0 3 1 FV r.fails.length (r.fails.map (Value.int .i64))
  len : r.seen.length = r.sure.length
  many : r.sure.length ≤ 1000
  lies : ∀ p ∈ r.wait, p.1 < r.sure.length
  some_ : r.wait.length ≤ r.ops
  few : r.fails.length ≤ 100
  ns : ∀ k, SV.ownBlock = some k → k ≠ b
  ne : ∀ k, EV.ownBlock = some k → k ≠ b
  nw : ∀ k, WV.ownBlock = some k → k ≠ b
  nf : ∀ k, FV.ownBlock = some k → k ≠ b
theorem RefAt.kept {P : Nat → Prop} {w w' : World} {b : Nat} {SV EV WV FV : Value} {r : M.R} (h : RefAt w b SV EV WV FV r) (hk : Kept P w w') (hb : ¬ P b) (h1 : ∀ k, SV.ownBlock = some k → ¬ P k) (h2 : ∀ k, EV.ownBlock = some k → ¬ P k) (h3 : ∀ k, WV.ownBlock = some k → ¬ P k) (h4 : ∀ k, FV.ownBlock = some k → ¬ P k) : RefAt w' b SV EV WV FV r :=
  ⟨hk.box h.box hb, hk.owns h.sure h1, hk.owns h.seen h2, hk.owns h.wait h3, hk.owns h.fails h4, h.len, h.many, h.lies, h.some_, h.few, h.ns, h.ne, h.nw, h.nf⟩
theorem RefAt.drewN {w : World} {b : Nat} {SV EV WV FV : Value} {r : M.R} (h : RefAt w b SV EV WV FV r) (n : Nat) : RefAt (w.drewN n) b SV EV WV FV r :=
  h.kept ((Kept.refl (fun _ => False) w).drewN n) id (fun _ _ => id) (fun _ _ => id) (fun _ _ => id) (fun _ _ => id)
/-- It lies in block b of w; all its blocks are among P. -/
def Ref (w : World) (b : Nat) (P : Nat → Prop) (r : M.R) : Prop :=
  ∃ SV EV WV FV, RefAt w b SV EV WV FV r ∧ P b ∧ (∀ k, SV.ownBlock = some k → P k) ∧ (∀ k, EV.ownBlock = some k → P k) ∧ (∀ k, WV.ownBlock = some k → P k) ∧ ∀ k, FV.ownBlock = some k → P k
theorem Ref.kept {P Q : Nat → Prop} {w w' : World} {b : Nat} {r : M.R} (h : Ref w b P r) (hk : Kept Q w w') (hpq : ∀ k, P k → ¬ Q k) : Ref w' b P r := by
  obtain ⟨SV, EV, WV, FV, h, p0, p1, p2, p3, p4⟩ := h
  exact ⟨SV, EV, WV, FV, h.kept hk (hpq _ p0) (fun k e => hpq _ (p1 k e)) (fun k e => hpq _ (p2 k e)) (fun k e => hpq _ (p3 k e)) (fun k e => hpq _ (p4 k e)), p0, p1, p2, p3, p4⟩
theorem Ref.mono {P Q : Nat → Prop} {w : World} {b : Nat} {r : M.R} (h : Ref w b P r) (hpq : ∀ k, k < w.heap.size → P k → Q k) : Ref w b Q r := by
  obtain ⟨SV, EV, WV, FV, h, p0, p1, p2, p3, p4⟩ := h
  exact ⟨SV, EV, WV, FV, h, hpq _ h.box.lt p0, fun k e => hpq _ (h.sure.lt k e).2 (p1 k e), fun k e => hpq _ (h.seen.lt k e).2 (p2 k e), fun k e => hpq _ (h.wait.lt k e).2 (p3 k e), fun k e => hpq _ (h.fails.lt k e).2 (p4 k e)⟩
theorem RefAt.ref {w : World} {b : Nat} {SV EV WV FV : Value} {r : M.R} (h : RefAt w b SV EV WV FV r) : Ref w b (fun _ => True) r := ⟨SV, EV, WV, FV, h, trivial, fun _ _ => trivial, fun _ _ => trivial, fun _ _ => trivial, fun _ _ => trivial⟩
section
variable {w : World} {b : Nat} {SV EV WV FV : Value} {r : M.R}
theorem RefAt.c0 (h : RefAt w b SV EV WV FV r) : w.cell? ⟨b, 0, none⟩ = some SV := by simpa using h.box.cell 0
theorem RefAt.c1 (h : RefAt w b SV EV WV FV r) : w.cell? ⟨b, 1, none⟩ = some EV := by simpa using h.box.cell 1
theorem RefAt.c2 (h : RefAt w b SV EV WV FV r) : w.cell? ⟨b, 2, none⟩ = some WV := by simpa using h.box.cell 2
theorem RefAt.c3 (h : RefAt w b SV EV WV FV r) : w.cell? ⟨b, 3, none⟩ = some (.int .i64 (r.ops : Nat)) := by simpa using h.box.cell 3
theorem RefAt.c4 (h : RefAt w b SV EV WV FV r) : w.cell? ⟨b, 4, none⟩ = some FV := by simpa using h.box.cell 4
theorem RefAt.c5 (h : RefAt w b SV EV WV FV r) : w.cell? ⟨b, 5, none⟩ = some (.int .i64 r.at_) := by simpa using h.box.cell 5
theorem RefAt.c6 (h : RefAt w b SV EV WV FV r) : w.cell? ⟨b, 6, none⟩ = some (.bool r.off) := by simpa using h.box.cell 6
end

end Go.Proofs.Ytfdbfafpcbdbdaa
namespace Go.Proofs.Ytfdbfafpcbdbdaa
open Go.RowKit

/-- What a call comes to ahead of what it does, and whether the disk goes down at it. -/
def M.callE (r : M.R) : Int := if r.off = true then 31 else if r.at_ = (r.ops + 1 : Nat) then 31 else if ((r.ops + 1 : Nat) : Int) ∈ r.fails then 30 else 0
def M.callL (r : M.R) : Bool := !r.off && decide (r.at_ = (r.ops + 1 : Nat))
def M.callR (r : M.R) : M.R := { r with ops := r.ops + 1, off := r.off || decide (r.at_ = (r.ops + 1 : Nat)) }

theorem RefAt.poke {w : World} {b : Nat} {SV EV WV FV : Value} {r r' : M.R} (h : RefAt w b SV EV WV FV r) {i : Nat} {u : Value} (h1 : r'.sure = r.sure) (h2 : r'.seen = r.seen) (h3 : r'.wait = r.wait) (h4 : r'.fails = r.fails) (ho : r.ops ≤ r'.ops)
    (hb : (#[SV, EV, WV, .int .i64 (r.ops : Nat), FV, .int .i64 r.at_, .bool r.off] : Array Value).setIfInBounds i u = #[SV, EV, WV, .int .i64 (r'.ops : Nat), FV, .int .i64 r'.at_, .bool r'.off]) : RefAt (w.setCell ⟨b, i, none⟩ u) b SV EV WV FV r' := by
  have hk : Kept (fun k => k = b) w (w.setCell ⟨b, i, none⟩ u) := Kept.set' (P := fun k => k = b) rfl i u
  refine ⟨?_, ?_, ?_, ?_, ?_, by rw [h1, h2]; exact h.len, by rw [h1]; exact h.many, by rw [h1, h3]; exact h.lies, by rw [h3]; exact Nat.le_trans h.some_ ho, by rw [h4]; exact h.few, h.ns, h.ne, h.nw, h.nf⟩
  · rw [← hb]
    exact h.box.set i u
  · rw [h1]
    exact hk.owns h.sure h.ns
  · rw [h2]
    exact hk.owns h.seen h.ne
  · rw [h3]
    exact hk.owns h.wait h.nw
  · rw [h4]
    exact hk.owns h.fails h.nf
theorem RefAt.counted {w : World} {b : Nat} {SV EV WV FV : Value} {r : M.R} (h : RefAt w b SV EV WV FV r) (n : Nat) (hn : n = r.ops + 1) : RefAt (w.setCell ⟨b, 3, none⟩ (.int .i64 (n : Nat))) b SV EV WV FV { r with ops := n } :=
  h.poke rfl rfl rfl rfl (by subst hn; exact Nat.le_succ _) rfl
theorem RefAt.downed {w : World} {b : Nat} {SV EV WV FV : Value} {r : M.R} (h : RefAt w b SV EV WV FV r) : RefAt (w.setCell ⟨b, 6, none⟩ (.bool true)) b SV EV WV FV { r with off := true } :=
  h.poke rfl rfl rfl rfl (Nat.le_refl _) rfl

/-- What a read of the document's disk comes to. -/
def M.rreadE (r : M.R) (i : Int) : Int := if M.callE r = 0 then (if M.hasB r.seen.length i = true then 0 else 3) else M.callE r
def M.rreadS (r : M.R) (i : Int) : ByteArray := if M.callE r = 0 then (if M.hasB r.seen.length i = true then r.seen.getD i.toNat ByteArray.empty else ⟨#[]⟩) else ⟨#[]⟩
/-- The cells of an owned row of texts. -/
theorem owned_strs {w : World} {B g n cap : Nat} {L : List ByteArray} (h : w.ownsRow B 9 1 (.slice (some ⟨g, 0, none⟩) n cap) n (L.map Value.string)) {j : Nat} {s : ByteArray} (hj : L[j]? = some s) : w.cell? ⟨g, j, none⟩ = some (.string s) := by
  have := h.cells (g := g) rfl j (.string s) (by simp [hj])
  rwa [blk_add] at this

end Go.Proofs.Ytfdbfafpcbdbdaa
namespace Go.Proofs.Ytfdbfafpcbdbdaa
open Go.RowKit

/-- One of an owned row is written. -/
theorem owns_set {w : World} {B g n cap : Nat} {t : TypeId} {xs : List Value} (h : w.ownsRow B t 1 (.slice (some ⟨g, 0, none⟩) n cap) n xs) (j : Nat) (u : Value) :
    (w.setCell ⟨g, j, none⟩ u).ownsRow B t 1 (.slice (some ⟨g, 0, none⟩) n cap) n (xs.set j u) ∧ w.frozen? ⟨g, j, none⟩ = false := by
  rcases h.2 with ⟨e, _⟩ | ⟨g', cap', cur, e, h1, h2, h3, h4, h5, h6⟩
  · cases e
  · injection e with e1 e2 e3
    injection e1 with e1
    injection e1 with e1
    subst e1
    subst e3
    have hB : Box w g t cur := h2
    refine ⟨⟨by rw [List.length_set]; exact h.1, Or.inr ⟨g, cap, cur.setIfInBounds j u, rfl, h1, hB.set j u, h3, h4, by simpa using h5, ?_⟩⟩, hB.frozen j⟩
    rw [← h6, Array.toList_setIfInBounds, ← List.take_set]
theorem RefAt.seen1 {w : World} {b g c : Nat} {SV EV WV FV : Value} {r : M.R} {L : List ByteArray} (h : RefAt w b SV EV WV FV r) (ho : w.ownsRow 0 9 1 (.slice (some ⟨g, 0, none⟩) L.length c) L.length (L.map Value.string)) (hl : L.length = r.sure.length) (hg : g ≠ b) :
    RefAt (w.setCell ⟨b, 1, none⟩ (.slice (some ⟨g, 0, none⟩) L.length c)) b SV (.slice (some ⟨g, 0, none⟩) L.length c) WV FV { r with seen := L } := by
  have hk : Kept (fun k => k = b) w (w.setCell ⟨b, 1, none⟩ (.slice (some ⟨g, 0, none⟩) L.length c)) := Kept.set' (P := fun k => k = b) rfl 1 _
  have hne : ∀ k, (Value.slice (some ⟨g, 0, none⟩) L.length c).ownBlock = some k → k ≠ b := fun k e => by
    have : g = k := by simpa [Value.ownBlock] using e
    rw [← this]; exact hg
  exact ⟨by simpa using h.box.set 1 (.slice (some ⟨g, 0, none⟩) L.length c), hk.owns h.sure h.ns, hk.owns ho hne, hk.owns h.wait h.nw, hk.owns h.fails h.nf, hl, h.many, h.lies, h.some_, h.few, h.ns, hne, h.nw, h.nf⟩
theorem RefAt.sure1 {w : World} {b g c : Nat} {SV EV WV FV : Value} {r : M.R} {L : List ByteArray} (h : RefAt w b SV EV WV FV r) (ho : w.ownsRow 0 9 1 (.slice (some ⟨g, 0, none⟩) L.length c) L.length (L.map Value.string)) (hl : L.length = r.sure.length) (hg : g ≠ b) :
    RefAt (w.setCell ⟨b, 0, none⟩ (.slice (some ⟨g, 0, none⟩) L.length c)) b (.slice (some ⟨g, 0, none⟩) L.length c) EV WV FV { r with sure := L } := by
  have hk : Kept (fun k => k = b) w (w.setCell ⟨b, 0, none⟩ (.slice (some ⟨g, 0, none⟩) L.length c)) := Kept.set' (P := fun k => k = b) rfl 0 _
  have hne : ∀ k, (Value.slice (some ⟨g, 0, none⟩) L.length c).ownBlock = some k → k ≠ b := fun k e => by
    have : g = k := by simpa [Value.ownBlock] using e
    rw [← this]; exact hg
  exact ⟨by simpa using h.box.set 0 (.slice (some ⟨g, 0, none⟩) L.length c), hk.owns ho hne, hk.owns h.seen h.ne, hk.owns h.wait h.nw, hk.owns h.fails h.nf, by show r.seen.length = L.length; rw [hl]; exact h.len, by show L.length ≤ 1000; rw [hl]; exact h.many, fun p hp => by show p.1 < L.length; rw [hl]; exact h.lies p hp, h.some_, h.few, hne, h.ne, h.nw, h.nf⟩
theorem RefAt.wait1 {w : World} {b : Nat} {SV EV WV WV' FV : Value} {r : M.R} {L : List (Nat × ByteArray)} (h : RefAt w b SV EV WV FV r) (ho : w.ownsRow 0 55 2 WV' L.length (M.cells L)) (hl : ∀ p ∈ L, p.1 < r.sure.length) (hn : L.length ≤ r.ops) (hg : ∀ k, WV'.ownBlock = some k → k ≠ b) :
    RefAt (w.setCell ⟨b, 2, none⟩ WV') b SV EV WV' FV { r with wait := L } := by
  have hk : Kept (fun k => k = b) w (w.setCell ⟨b, 2, none⟩ WV') := Kept.set' (P := fun k => k = b) rfl 2 _
  exact ⟨by simpa using h.box.set 2 WV', hk.owns h.sure h.ns, hk.owns h.seen h.ne, hk.owns ho hg, hk.owns h.fails h.nf, h.len, h.many, hl, hn, h.few, h.ns, h.ne, hg, h.nf⟩
theorem RefAt.fails1 {w : World} {b : Nat} {SV EV WV FV FV' : Value} {r : M.R} {L : List Int} (h : RefAt w b SV EV WV FV r) (ho : w.ownsRow 0 3 1 FV' L.length (L.map (Value.int .i64))) (hn : L.length ≤ 100) (hg : ∀ k, FV'.ownBlock = some k → k ≠ b) :
    RefAt (w.setCell ⟨b, 4, none⟩ FV') b SV EV WV FV' { r with fails := L } := by
  have hk : Kept (fun k => k = b) w (w.setCell ⟨b, 4, none⟩ FV') := Kept.set' (P := fun k => k = b) rfl 4 _
  exact ⟨by simpa using h.box.set 4 FV', hk.owns h.sure h.ns, hk.owns h.seen h.ne, hk.owns h.wait h.nw, hk.owns ho hg, h.len, h.many, h.lies, h.some_, hn, h.ns, h.ne, h.nw, hg⟩
theorem RefAt.write1 {w : World} {b g n c k : Nat} {SV WV FV : Value} {r : M.R} (h : RefAt w b SV (.slice (some ⟨g, 0, none⟩) n c) WV FV r) (hn : n = r.seen.length) (s : ByteArray) (h1 : SV.ownBlock ≠ some g) (h2 : WV.ownBlock ≠ some g) (h3 : FV.ownBlock ≠ some g) :
    RefAt (w.setCell ⟨g, k, none⟩ (.string s)) b SV (.slice (some ⟨g, 0, none⟩) n c) WV FV { r with seen := r.seen.set k s } ∧ w.frozen? ⟨g, k, none⟩ = false ∧ Kept (fun j => j = g) w (w.setCell ⟨g, k, none⟩ (.string s)) := by
  have hkk : Kept (fun j => j = g) w (w.setCell ⟨g, k, none⟩ (.string s)) := Kept.set' (P := fun j => j = g) rfl k _
  have hs := h.seen
  rw [← hn] at hs
  have ho := owns_set hs k (.string s)
  have hb := h.ne g rfl
  rw [← List.map_set] at ho
  refine ⟨⟨hkk.box h.box (Ne.symm hb), hkk.owns h.sure (fun j e e' => h1 (by rw [← e']; exact e)), ?_, hkk.owns h.wait (fun j e e' => h2 (by rw [← e']; exact e)), hkk.owns h.fails (fun j e e' => h3 (by rw [← e']; exact e)), by show (r.seen.set k s).length = _; rw [List.length_set]; exact h.len, h.many, h.lies, h.some_, h.few, h.ns, h.ne, h.nw, h.nf⟩, ho.2, hkk⟩
  show World.ownsRow _ _ _ _ _ (r.seen.set k s).length ((r.seen.set k s).map Value.string)
  rw [List.length_set, ← hn]
  exact ho.1

/-- What put needs to know once the texts are copied. -/
theorem RefAt.copied {w w1 : World} {b g c k n : Nat} {SV EV WV FV : Value} {r : M.R} (h : RefAt w b SV EV WV FV r) (hk : k < r.seen.length) (hn : n = r.seen.length) (s : ByteArray) (ho : w1.ownsRow 0 9 1 (.slice (some ⟨g, 0, none⟩) n c) n (r.seen.map Value.string)) (hk1 : Kept (fun _ => False) w w1) (hg : w.heap.size ≤ g) :
    w1.cell? ⟨b, 1, none⟩ = some EV ∧ w1.frozen? ⟨b, 1, none⟩ = false ∧ (w1.setCell ⟨b, 1, none⟩ (.slice (some ⟨g, 0, none⟩) n c)).cell? ⟨b, 1, none⟩ = some (.slice (some ⟨g, 0, none⟩) n c) ∧
      (∃ old, (w1.setCell ⟨b, 1, none⟩ (.slice (some ⟨g, 0, none⟩) n c)).cell? ⟨g, k, none⟩ = some (.string old)) ∧ (w1.setCell ⟨b, 1, none⟩ (.slice (some ⟨g, 0, none⟩) n c)).frozen? ⟨g, k, none⟩ = false ∧
      ((w1.setCell ⟨b, 1, none⟩ (.slice (some ⟨g, 0, none⟩) n c)).setCell ⟨g, k, none⟩ (.string s)).cell? ⟨b, 2, none⟩ = some WV ∧
      (((w1.setCell ⟨b, 1, none⟩ (.slice (some ⟨g, 0, none⟩) n c)).setCell ⟨g, k, none⟩ (.string s)).alloc (.cells #[] 55)).cell? ⟨b, 2, none⟩ = some WV ∧
      Hid (RefAt ((w1.setCell ⟨b, 1, none⟩ (.slice (some ⟨g, 0, none⟩) n c)).setCell ⟨g, k, none⟩ (.string s)) b SV (.slice (some ⟨g, 0, none⟩) n c) WV FV { r with seen := r.seen.set k s } ∧
        Kept (fun j => j = b) w ((w1.setCell ⟨b, 1, none⟩ (.slice (some ⟨g, 0, none⟩) n c)).setCell ⟨g, k, none⟩ (.string s))) := by
  subst hn
  have hbl := h.box.lt
  have hh := h.kept hk1 (fun e => e) (fun _ _ e => e) (fun _ _ e => e) (fun _ _ e => e) (fun _ _ e => e)
  have h1 := hh.seen1 ho h.len (by omega)
  have hkk : Kept (fun j => j = b) w1 (w1.setCell ⟨b, 1, none⟩ (.slice (some ⟨g, 0, none⟩) r.seen.length c)) := Kept.set' (P := fun j => j = b) rfl 1 _
  have hno : ∀ (V : Value), (∀ j, V.ownBlock = some j → j < w.heap.size) → V.ownBlock ≠ some g := fun V hV e => by have := hV g e; omega
  have h2 := h1.write1 (k := k) rfl s (hno SV (fun j e => (h.sure.lt j e).2)) (hno WV (fun j e => (h.wait.lt j e).2)) (hno FV (fun j e => (h.fails.lt j e).2))
  refine ⟨hh.c1, hh.box.frozen 1, h1.c1, ⟨_, owned_strs h1.seen (List.getElem?_eq_getElem hk)⟩, h2.2.1, h2.1.c2, (World.cell?_of_block (Below.heap_alloc _ _ _ h2.1.box.lt)).trans h2.1.c2, h2.1, ?_⟩
  exact ((hk1.mono (fun _ _ e => e.elim)).trans hkk).next h2.2.2 (fun j hj e => by omega)

end Go.Proofs.Ytfdbfafpcbdbdaa
namespace Go.Proofs.Ytfdbfafpcbdbdaa
open Go.RowKit

/-- Is a write laid? -/
def M.rlays (r : M.R) (i : Int) (s : ByteArray) : Bool := decide (M.wrong r.seen.length i s = 0) && (decide (M.callE r = 0) || M.callL r)
def M.rwriteR (r : M.R) (i : Int) (s : ByteArray) : M.R := if M.rlays r i s = true then { M.callR r with seen := r.seen.set i.toNat s, wait := r.wait ++ [(i.toNat, s)] } else M.callR r
def M.rwriteE (r : M.R) (i : Int) (s : ByteArray) : Int := M.or2 (M.callE r) (M.wrong r.seen.length i s)
theorem M.rbegins (r : M.R) : (M.callE r = 31 ∧ M.callL r = false) ∨ (M.callE r = 31 ∧ M.callL r = true) ∨ (M.callE r = 30 ∧ M.callL r = false) ∨ (M.callE r = 0 ∧ M.callL r = false) := by
  unfold M.callE M.callL
  cases h : r.off with
  | true => exact Or.inl ⟨rfl, rfl⟩
  | false =>
    by_cases h1 : r.at_ = (r.ops + 1 : Nat)
    · exact Or.inr (Or.inl ⟨by simp [h1], by simp [h1]⟩)
    · by_cases h2 : ((r.ops + 1 : Nat) : Int) ∈ r.fails
      · exact Or.inr (Or.inr (Or.inl ⟨by rw [if_neg (by simp), if_neg h1, if_pos h2], by simpa using h1⟩))
      · exact Or.inr (Or.inr (Or.inr ⟨by rw [if_neg (by simp), if_neg h1, if_neg h2], by simpa using h1⟩))

end Go.Proofs.Ytfdbfafpcbdbdaa
namespace Go.Proofs.Ytfdbfafpcbdbdaa
open Go.RowKit

theorem strs_one (L : List ByteArray) : ∀ u ∈ L.map Value.string, u.oneCell' = true := fun u hu => by
  obtain ⟨q, _, rfl⟩ := List.mem_map.1 hu
  rfl
theorem ints_one (L : List Int) : ∀ u ∈ L.map (Value.int .i64), u.oneCell' = true := fun u hu => by
  obtain ⟨q, _, rfl⟩ := List.mem_map.1 hu
  rfl
theorem own_slice {g n c k : Nat} (e : (Value.slice (some ⟨g, 0, none⟩) n c).ownBlock = some k) : g = k := by simpa [Value.ownBlock] using e

/-- The disk behind a flush. -/
def M.rflushR (r : M.R) : M.R := if M.callE r = 0 then { M.callR r with sure := r.seen, wait := [] } else M.callR r

/-- What is seen is copied to what is sure. -/
theorem RefAt.flushed {w w1 : World} {b g c n : Nat} {SV EV WV FV : Value} {r : M.R} (h : RefAt w b SV EV WV FV r) (hn : n = r.seen.length) (ho : w1.ownsRow 0 9 1 (.slice (some ⟨g, 0, none⟩) n c) n (r.seen.map Value.string)) (hk1 : Kept (fun _ => False) w w1) (hg : w.heap.size ≤ g) :
    w1.cell? ⟨b, 0, none⟩ = some SV ∧ w1.frozen? ⟨b, 0, none⟩ = false ∧ (w1.setCell ⟨b, 0, none⟩ (.slice (some ⟨g, 0, none⟩) n c)).cell? ⟨b, 2, none⟩ = some WV ∧ (w1.setCell ⟨b, 0, none⟩ (.slice (some ⟨g, 0, none⟩) n c)).frozen? ⟨b, 2, none⟩ = false ∧
      Hid (RefAt ((w1.setCell ⟨b, 0, none⟩ (.slice (some ⟨g, 0, none⟩) n c)).setCell ⟨b, 2, none⟩ (.slice none 0 0)) b (.slice (some ⟨g, 0, none⟩) n c) EV (.slice none 0 0) FV { r with sure := r.seen, wait := [] } ∧
        Kept (fun j => j = b) w ((w1.setCell ⟨b, 0, none⟩ (.slice (some ⟨g, 0, none⟩) n c)).setCell ⟨b, 2, none⟩ (.slice none 0 0))) := by
  subst hn
  have hbl := h.box.lt
  have hh := h.kept hk1 (fun e => e) (fun _ _ e => e) (fun _ _ e => e) (fun _ _ e => e) (fun _ _ e => e)
  have h1 := hh.sure1 ho h.len (by omega)
  have h2 := h1.wait1 (WV' := .slice none 0 0) (L := []) (World.ownsRow_nil _ _ _ _) (fun p hp => by cases hp) (Nat.zero_le _) (fun k e => by cases e)
  exact ⟨hh.c0, hh.box.frozen 0, h1.c2, h1.box.frozen 2, h2, ((hk1.mono (fun _ _ e => e.elim)).trans (Kept.set' (P := fun j => j = b) rfl 0 _)).trans (Kept.set' (P := fun j => j = b) rfl 2 _)⟩

end Go.Proofs.Ytfdbfafpcbdbdaa
namespace Go.Proofs.Ytfdbfafpcbdbdaa
open Go.RowKit

/-- The disk behind a restart of which nothing survives. -/
def M.restartR (r : M.R) : M.R := ⟨r.sure, r.sure, [], r.ops, [], 0, false⟩

theorem RefAt.again {w w2 : World} {b g c n : Nat} {SV EV WV FV : Value} {r : M.R} (h : RefAt w b SV EV WV FV r) (hn : n = r.seen.length) (he : r.seen = r.sure) (ho : w2.ownsRow 0 9 1 (.slice (some ⟨g, 0, none⟩) n c) n (r.seen.map Value.string)) (hk2 : Kept (fun _ => False) w w2) (hg : w.heap.size ≤ g) :
    w2.cell? ⟨b, 0, none⟩ = some SV ∧ w2.frozen? ⟨b, 0, none⟩ = false ∧ ∃ y2 y3 y4 y5 : World, (w2.setCell ⟨b, 0, none⟩ (.slice (some ⟨g, 0, none⟩) n c)).cell? ⟨b, 2, none⟩ = some WV ∧ (w2.setCell ⟨b, 0, none⟩ (.slice (some ⟨g, 0, none⟩) n c)).frozen? ⟨b, 2, none⟩ = false ∧
      (w2.setCell ⟨b, 0, none⟩ (.slice (some ⟨g, 0, none⟩) n c)).setCell ⟨b, 2, none⟩ (.slice none 0 0) = y2 ∧ y2.cell? ⟨b, 4, none⟩ = some FV ∧ y2.frozen? ⟨b, 4, none⟩ = false ∧
      y2.setCell ⟨b, 4, none⟩ (.slice none 0 0) = y3 ∧ y3.cell? ⟨b, 5, none⟩ = some (.int .i64 r.at_) ∧ y3.frozen? ⟨b, 5, none⟩ = false ∧
      y3.setCell ⟨b, 5, none⟩ (.int .i64 0) = y4 ∧ y4.cell? ⟨b, 6, none⟩ = some (.bool r.off) ∧ y4.frozen? ⟨b, 6, none⟩ = false ∧
      y4.setCell ⟨b, 6, none⟩ (.bool false) = y5 ∧ Hid (RefAt y5 b (.slice (some ⟨g, 0, none⟩) n c) EV (.slice none 0 0) (.slice none 0 0) (M.restartR r) ∧ Kept (fun j => j = b) w y5) := by
  subst hn
  have hbl := h.box.lt
  have hh := h.kept hk2 (fun e => e) (fun _ _ e => e) (fun _ _ e => e) (fun _ _ e => e) (fun _ _ e => e)
  have h1 := hh.sure1 ho h.len (by omega)
  have h2 := h1.wait1 (WV' := .slice none 0 0) (L := []) (World.ownsRow_nil _ _ _ _) (fun p hp => by cases hp) (Nat.zero_le _) (fun k e => by cases e)
  have h3 := h2.fails1 (FV' := .slice none 0 0) (L := []) (World.ownsRow_nil _ _ _ _) (Nat.zero_le _) (fun k e => by cases e)
  have h4 := h3.poke (i := 5) (u := .int .i64 0) (r' := ⟨r.seen, r.seen, [], r.ops, [], 0, r.off⟩) rfl rfl rfl rfl (Nat.le_refl _) rfl
  have h5 := h4.poke (i := 6) (u := .bool false) (r' := ⟨r.seen, r.seen, [], r.ops, [], 0, false⟩) rfl rfl rfl rfl (Nat.le_refl _) rfl
  refine ⟨hh.c0, hh.box.frozen 0, _, _, _, _, h1.c2, h1.box.frozen 2, rfl, h2.c4, h2.box.frozen 4, rfl, h3.c5, h3.box.frozen 5, rfl, h4.c6, h4.box.frozen 6, rfl, ?_, ?_⟩
  · show RefAt _ _ _ _ _ _ ⟨r.sure, r.sure, [], r.ops, [], 0, false⟩
    rw [← he]
    exact h5
  · exact (((((hk2.mono (fun _ _ e => e.elim)).trans (Kept.set' (P := fun j => j = b) rfl 0 _)).trans (Kept.set' (P := fun j => j = b) rfl 2 _)).trans (Kept.set' (P := fun j => j = b) rfl 4 _)).trans (Kept.set' (P := fun j => j = b) rfl 5 _)).trans (Kept.set' (P := fun j => j = b) rfl 6 _)

end Go.Proofs.Ytfdbfafpcbdbdaa
namespace Go.Proofs.Ytfdbfafpcbdbdaa
open Go.RowKit

/-- A new disk of the document's. -/
def M.newR (c : Nat) : M.R := ⟨List.replicate c M.zero, List.replicate c M.zero, [], 0, [], 0, false⟩

/-- While it is made: so many sectors are sure. -/
structure Making (w y : World) (b : Nat) (zz : ByteArray) (k : Nat) (SV : Value) : Prop where
  box : Box y b 94 #[SV, .slice none 0 0, .slice none 0 0, .int .i64 0, .slice none 0 0, .int .i64 0, .bool false]
  row : y.ownsRow 0 9 1 SV k (List.replicate k (.string zz))
  ne : ∀ g, SV.ownBlock = some g → w.heap.size ≤ g ∧ g ≠ b
  low : w.heap.size ≤ b
  below : Below w.heap.size w y
theorem Making.more {w y y3 : World} {b g c k : Nat} {zz : ByteArray} {SV : Value} (h : Making w y b zz k SV) {o1 o2 : Obj} (ho : y3.ownsRow 0 9 1 (.slice (some ⟨g, 0, none⟩) (k + 1) c) (k + 1) (List.replicate k (.string zz) ++ [.string zz])) (hgr : ((y.alloc o1).alloc o2).grownBy y3 SV.ownBlock) (hat : SV.ownBlock = some g ∨ g = y.heap.size + 2) :
    y3.cell? ⟨b, 0, none⟩ = some SV ∧ y3.frozen? ⟨b, 0, none⟩ = false ∧ Hid (Making w (y3.setCell ⟨b, 0, none⟩ (.slice (some ⟨g, 0, none⟩) (k + 1) c)) b zz (k + 1) (.slice (some ⟨g, 0, none⟩) (k + 1) c)) := by
  have hbl := h.box.lt
  have hsz := h.below.size
  have hk3 : Kept (fun j => SV.ownBlock = some j) y y3 := Kept.grown (Kept.alloc (Kept.alloc (Kept.refl _ y) o1) o2) hgr (fun j e _ => e)
  have hB := hk3.box h.box (fun e => (h.ne b e).2 rfl)
  have hk4 : Kept (fun j => j = b) y3 (y3.setCell ⟨b, 0, none⟩ (.slice (some ⟨g, 0, none⟩) (k + 1) c)) := Kept.set' (P := fun j => j = b) rfl 0 _
  have hgb : w.heap.size ≤ g ∧ g ≠ b := hat.elim (fun e => h.ne g e) (fun e => ⟨by omega, by omega⟩)
  refine ⟨by simpa using hB.cell 0, hB.frozen 0, by simpa using hB.set 0 (.slice (some ⟨g, 0, none⟩) (k + 1) c), ?_, fun j e => own_slice e ▸ hgb, h.low, ?_⟩
  · rw [List.replicate_succ']
    exact hk4.owns ho (fun j e => by rw [← own_slice e]; exact hgb.2)
  · have h1 : Below w.heap.size y y3 := hk3.below hsz (fun j hj e => by have := (h.ne j e).1; omega)
    exact (h.below.trans h1).trans (hk4.below (Nat.le_trans hsz hk3.size) (fun j hj e => by have := h.low; omega))
theorem Making.done {w y w2 : World} {b g c k : Nat} {SV : Value} (h : Making w y b M.zero k SV) (hk : k ≤ 1000) (ho : w2.ownsRow 0 9 1 (.slice (some ⟨g, 0, none⟩) k c) k (List.replicate k (.string M.zero))) (hk2 : Kept (fun _ => False) y w2) (hg : y.heap.size ≤ g) :
    w2.cell? ⟨b, 1, none⟩ = some (.slice none 0 0) ∧ w2.frozen? ⟨b, 1, none⟩ = false ∧ Hid (Ref (w2.setCell ⟨b, 1, none⟩ (.slice (some ⟨g, 0, none⟩) k c)) b (fun j => w.heap.size ≤ j) (M.newR k) ∧ Below w.heap.size w (w2.setCell ⟨b, 1, none⟩ (.slice (some ⟨g, 0, none⟩) k c))) := by
  have hbl := h.box.lt
  have hsz := h.below.size
  have hB := hk2.box h.box (fun e => e)
  have hk4 : Kept (fun j => j = b) w2 (w2.setCell ⟨b, 1, none⟩ (.slice (some ⟨g, 0, none⟩) k c)) := Kept.set' (P := fun j => j = b) rfl 1 _
  have hgb : g ≠ b := by omega
  have hr : (List.replicate k M.zero).map Value.string = List.replicate k (.string M.zero) := by simp
  refine ⟨by simpa using hB.cell 1, hB.frozen 1, ⟨SV, .slice (some ⟨g, 0, none⟩) k c, .slice none 0 0, .slice none 0 0, ⟨?_, ?_, ?_, World.ownsRow_nil _ _ _ _, World.ownsRow_nil _ _ _ _, rfl, by simpa [M.newR] using hk, fun p hp => (by cases hp), Nat.le_refl _, Nat.zero_le _, fun j e => (h.ne j e).2, fun j e => own_slice e ▸ hgb, fun j e => (by cases e), fun j e => (by cases e)⟩, h.low, fun j e => (h.ne j e).1, fun j e => (by rw [← own_slice e]; omega), fun j e => (by cases e), fun j e => (by cases e)⟩, ?_⟩
  · simpa [M.newR] using hB.set 1 (.slice (some ⟨g, 0, none⟩) k c)
  · show World.ownsRow _ _ _ _ _ (List.replicate k M.zero).length ((List.replicate k M.zero).map Value.string)
    rw [hr, List.length_replicate]
    exact hk4.owns (hk2.owns h.row (fun _ _ e => e)) (fun j e => (h.ne j e).2)
  · show World.ownsRow _ _ _ _ _ (List.replicate k M.zero).length ((List.replicate k M.zero).map Value.string)
    rw [hr, List.length_replicate]
    exact hk4.owns ho (fun j e => by rw [← own_slice e]; exact hgb)
  · exact (h.below.trans (hk2.below hsz (fun _ _ e => e))).trans (hk4.below (Nat.le_trans hsz hk2.size) (fun j hj e => by have := h.low; omega))

set_option maxRecDepth 100000 in
set_option maxHeartbeats 2000000 in
theorem rnew_any (n : Int) (w : World) : Calls Try.prog 16 #[.int .i64 n] w fun e w' => ∃ b, e = .returned (.pointer (some ⟨b, 0, none⟩)) ∧ Ref w' b (fun j => w.heap.size ≤ j) (M.newR (M.held n)) ∧ Below w.heap.size w w' := by
  obtain ⟨i0, hi, hz0, hz1, hz2⟩ := info_parts infoS
  have hmx : min (max n 0) 1000 = ((M.held n : Nat) : Int) := by
    unfold M.held
    split
    · omega
    · split <;> omega
  have hcl := M.held_le n
  obtain ⟨c, hc⟩ : ∃ c, c = M.held n := ⟨_, rfl⟩
  rw [← hc] at hmx hcl
  rw [← hc]
  clear hc
  obtain ⟨R, hR⟩ : ∃ R, R = M.nils 64 := ⟨_, rfl⟩
  obtain ⟨zz, hzz⟩ : ∃ zz, zz = M.zero := ⟨_, rfl⟩
  have hmk : ∀ W : World, (Instr.makeSlice 50 (.int .i64 64) (.int .i64 64)).run Try.prog W = .ok (.slice (some ⟨W.heap.size, 0, none⟩) 64 64) (W.alloc (.cells R 5)) := fun W => by rw [hR]; exact make_nils 64 (by omega) W
  have hcvA : ∀ W : World, Sem.run Try.prog (convert 50 9 (.slice (some ⟨W.heap.size, 0, none⟩) 64 64)) (W.alloc (.cells R 5)) = .ok (.string zz) (W.alloc (.cells R 5)) := fun W => by rw [hR, hzz]; exact conv_nils 64 _ _ (Box.new _ _ _)
  have hcvB : ∀ W : World, Sem.run Try.prog (convert 50 9 (.slice (some ⟨W.heap.size, 0, none⟩) 64 64)) (W.alloc (.cells R 5)).drew = .ok (.string zz) (W.alloc (.cells R 5)).drew := fun W => by rw [hR, hzz]; exact conv_nils 64 _ _ (Box.new _ _ _)
  have HZZ := Lib.hid hzz
  clear hR hzz
  have HM0 : Hid (Making w (w.alloc (.cells #[.slice none 0 0, .slice none 0 0, .slice none 0 0, .int .i64 0, .slice none 0 0, .int .i64 0, .bool false] 94)) w.heap.size zz 0 (.slice none 0 0)) :=
    ⟨Box.new _ _ _, World.ownsRow_nil _ _ _ _, fun g e => (by cases e), Nat.le_refl _, (Below.refl _ _).alloc (Nat.le_refl _) _⟩
  go_enter Try.func16, Try.ntmps16
  go_wp2_with fail
  obtain ⟨y0, hy0⟩ : ∃ y, y = w.alloc (.cells #[.slice none 0 0, .slice none 0 0, .slice none 0 0, .int .i64 0, .slice none 0 0, .int .i64 0, .bool false] 94) := ⟨_, rfl⟩
  obtain ⟨b, hb⟩ : ∃ b, b = w.heap.size := ⟨_, rfl⟩
  rw [← hy0, ← hb] at HM0
  rw [← hy0, ← hb]
  clear hy0 hb
  go_loopw [4] (fun i wr => ∃ k : Nat, k ≤ c ∧ i = .int .i64 k ∧ ∃ SV, Making w wr b zz k SV) (fun i _ => c - (intOf i).toNat)
  case atStart => exact ⟨0, Nat.zero_le _, rfl, _, HM0.out⟩
  case round =>
    clear HM0
    obtain ⟨k, hk, rfl, SV, hM⟩ := hrel
    obtain ⟨SA, sc, rfl, _⟩ := owns_shape hM.row
    have c0 := hM.box.cell 0
    simp only [List.getElem?_toArray, List.getElem?_cons_zero] at c0
    by_cases hlt : k < c
    · have hlt' : (k : Int) < (c : Int) := by omega
      have HN : Hid (k + 1 ≤ maxLen ∧ (k + 1) * 16 ≤ 140737488355328) := by refine ⟨?_, ?_⟩ <;> (try unfold maxLen) <;> omega
      have hbl := hM.box.lt
      have d1 : (wr.alloc (.cells R 5)).cell? ⟨b, 0, none⟩ = some (.slice SA k sc) := (World.cell?_of_block (Below.heap_alloc _ _ _ hbl)).trans c0
      have d2 : ((wr.alloc (.cells R 5)).alloc (.cells #[.string zz] 9)).cell? ⟨b, 0, none⟩ = some (.slice SA k sc) := (World.cell?_of_block (Below.heap_alloc _ _ _ (by rw [World.size_alloc]; show b < _; omega))).trans d1
      obtain ⟨xs, hxs⟩ : ∃ xs, xs = List.replicate k (Value.string zz) := ⟨_, rfl⟩
      have HO : Hid (((wr.alloc (.cells R 5)).alloc (.cells #[.string zz] 9)).drew.ownsRow 0 9 1 (.slice SA k sc) k xs) := by rw [hxs]; exact ((hM.row.alloc _).alloc _)
      have HC : Hid (∀ j u, [Value.string zz][j]? = some u → ((wr.alloc (.cells R 5)).alloc (.cells #[.string zz] 9)).drew.cell? ((⟨wr.heap.size + 1, 0, none⟩ : Addr).add j) = some u) := by
        have := cell_one_new (wr.alloc (.cells R 5)) (.string zz) 9
        rw [World.size_alloc] at this
        exact this
      have HL : Hid (∀ (y3 : World) (g c : Nat), y3.ownsRow 0 9 1 (.slice (some ⟨g, 0, none⟩) (k + 1) c) (k + 1) (xs ++ [.string zz]) → ((wr.alloc (.cells R 5)).alloc (.cells #[.string zz] 9)).drew.grownBy y3 (Value.slice SA k sc).ownBlock → ((Value.slice SA k sc).ownBlock = some g ∨ g = wr.heap.size + 2) →
          y3.cell? ⟨b, 0, none⟩ = some (.slice SA k sc) ∧ y3.frozen? ⟨b, 0, none⟩ = false ∧ Hid (Making w (y3.setCell ⟨b, 0, none⟩ (.slice (some ⟨g, 0, none⟩) (k + 1) c)) b zz (k + 1) (.slice (some ⟨g, 0, none⟩) (k + 1) c))) := by
        intro y3 g c p1 p2 p3
        rw [hxs] at p1
        have p2' : ((wr.alloc (.cells R 5)).alloc (.cells #[.string zz] 9)).grownBy y3 (Value.slice SA k sc).ownBlock := ⟨p2.os, p2.tape, p2.output, p2.size, p2.block⟩
        exact hM.more p1 p2' p3
      clear hM hxs HZZ
      go_wp2_with fail
      go_region_law (refine step_append_lies _ rfl _ _ 87 rfl 0 9 i0 (.string ⟨#[]⟩) 1 16 Try.underlying87 hi hz0 hz1 hz2 rfl (by decide) (.slice SA k sc) k xs rfl (by exact HO.out) ⟨wr.heap.size + 1, 0, none⟩ 1 1 [.string zz] rfl rfl (by exact HC.out) (fun x hx => by simp at hx; subst hx; rfl) (by omega) HN.out.1 HN.out.2 (Nat.zero_le _) (wr.heap.size + 2) (by simp [World.drew]) ?_; intro g3 k3 w3 hown3 hgrow3 hat3 _; obtain ⟨p1, p2, HX⟩ := HL.out w3 g3 k3 hown3 hgrow3 hat3; clear hown3 hgrow3 hat3)
      all_goals
        go_wp2_with fail
        go_roundw
        case rel => exact ⟨k + 1, by omega, by go_num, _, HX.out⟩
        case measure => simp [intOf]; omega
    · have hlt' : ¬ (k : Int) < (c : Int) := by omega
      have e : k = c := by omega
      subst e
      have c0a : (wr.alloc (.cells #[] 9)).cell? ⟨b, 0, none⟩ = some (.slice SA k sc) := (World.cell?_of_block (Below.heap_alloc _ _ _ hM.box.lt)).trans c0
      obtain ⟨xs, hxs⟩ : ∃ xs, xs = List.replicate k (Value.string zz) := ⟨_, rfl⟩
      have HO : Hid (wr.ownsRow 0 9 1 (.slice SA k sc) k xs) := by rw [hxs]; exact hM.row
      have HOne : Hid (∀ u ∈ xs, u.oneCell' = true) := by
        rw [hxs]
        intro u hu
        rw [List.eq_of_mem_replicate hu]
        rfl
      have HN : Hid (k ≤ maxLen ∧ k * 16 ≤ 140737488355328) := by refine ⟨?_, ?_⟩ <;> (try unfold maxLen) <;> omega
      have HL : Hid (∀ w2 g c, w2.ownsRow 0 9 1 (.slice (some ⟨g, 0, none⟩) k c) k xs → Kept (fun _ => False) wr w2 → wr.heap.size ≤ g → w2.cell? ⟨b, 1, none⟩ = some (.slice none 0 0) ∧ w2.frozen? ⟨b, 1, none⟩ = false ∧ Hid (Ref (w2.setCell ⟨b, 1, none⟩ (.slice (some ⟨g, 0, none⟩) k c)) b (fun j => w.heap.size ≤ j) (M.newR k) ∧ Below w.heap.size w (w2.setCell ⟨b, 1, none⟩ (.slice (some ⟨g, 0, none⟩) k c)))) := by
        intro w2 g c p1 p2 p3
        rw [hxs, HZZ.out] at p1
        rw [HZZ.out] at hM
        exact hM.done hcl p1 p2 p3
      clear hM hxs hlt hmk hcvA hcvB
      go_wp2_with (at_builtin
                   refine wpList_append_copy rfl _ _ 87 rfl 9 i0 (.string ⟨#[]⟩) 1 16 Try.underlying87 hi hz0 hz1 hz2 rfl (by decide) wr.heap.size rfl rfl (.slice SA k sc) k xs rfl HO.out HOne.out HN.out.1 HN.out.2 ?_
                   intro g2 k2 w2 ho2 hk2 hg2
                   obtain ⟨q1, q2, HX⟩ := HL.out w2 g2 k2 ho2 hk2 hg2
                   clear ho2 hk2 hg2 HL HO c0 c0a)
      go_ret
      exact ⟨b, rfl, HX.out⟩
end Go.Proofs.Ytfdbfafpcbdbdaa
namespace Go.Proofs.Ytfdbfafpcbdbdaa
open Go.RowKit Go.Maps

theorem infoN : (Try.prog.info? 3).map (fun i => (i.zero, i.size, i.bytes)) = some (some (.int .i64 0), 1, 8) := by kernel_rfl
/-- The disk behind Fail. -/
def M.failD (d : M.D) (x : Int) : M.D := if (d.ops : Int) < x ∧ d.fails.length < 100 ∧ x ∉ d.fails then { d with fails := d.fails ++ [x] } else d

theorem DiskAt.failed {w w3 : World} {b sb mb g c n : Nat} {WV FV : Value} {d : M.D} {x : Int} {o : Obj} (h : DiskAt w b sb mb WV FV d) (hn : n = d.fails.length) (hgr : (w.alloc o).grownBy w3 FV.ownBlock) (hat : FV.ownBlock = some g ∨ g = w.heap.size + 1)
    (ho : w3.ownsRow 0 3 1 (.slice (some ⟨g, 0, none⟩) (n + 1) c) (n + 1) (d.fails.map (Value.int .i64) ++ [.int .i64 x])) :
    w3.cell? ⟨b, 4, none⟩ = some FV ∧ w3.frozen? ⟨b, 4, none⟩ = false ∧
      Hid (DiskAt (w3.setCell ⟨b, 4, none⟩ (.slice (some ⟨g, 0, none⟩) (n + 1) c)) b sb mb WV (.slice (some ⟨g, 0, none⟩) (n + 1) c) { d with fails := d.fails ++ [x] } ∧ (FV.ownBlock = some g ∨ w.heap.size ≤ g) ∧ Kept (fun j => j = b ∨ FV.ownBlock = some j) w (w3.setCell ⟨b, 4, none⟩ (.slice (some ⟨g, 0, none⟩) (n + 1) c))) := by
  have hbl := h.box.lt
  have hsl := h.sure.lt
  have hml := h.mlt
  have hk3 : Kept (fun j => FV.ownBlock = some j) w w3 := Kept.grown (Kept.alloc (Kept.refl _ w) o) hgr (fun j e _ => e)
  have hgn : g ≠ b ∧ g ≠ sb ∧ g ≠ mb ∧ WV.ownBlock ≠ some g := hat.elim (fun e => h.fn g e) (fun e => ⟨by omega, by omega, by omega, fun e' => by have := (h.writes.lt g e').2; omega⟩)
  have hB3 := hk3.box h.box (fun e => (h.fn b e).1 rfl)
  have hk4 : Kept (fun j => j = b) w3 (w3.setCell ⟨b, 4, none⟩ (.slice (some ⟨g, 0, none⟩) (n + 1) c)) := Kept.set' (P := fun j => j = b) rfl 4 _
  have hk : Kept (fun j => j = b ∨ FV.ownBlock = some j) w (w3.setCell ⟨b, 4, none⟩ (.slice (some ⟨g, 0, none⟩) (n + 1) c)) := (hk3.mono (fun _ _ e => Or.inr e)).trans (hk4.mono (fun _ _ e => Or.inl e))
  have hll : (d.fails ++ [x]).length = n + 1 := by rw [hn]; simp
  have hgo : ∀ k, (Value.slice (some ⟨g, 0, none⟩) (n + 1) c).ownBlock = some k → g = k := fun k e => by simpa [Value.ownBlock] using e
  obtain ⟨m, hm1, hm2⟩ := h.map
  refine ⟨by simpa using hB3.cell 4, hB3.frozen 4, ⟨by simpa using hB3.set 4 (.slice (some ⟨g, 0, none⟩) (n + 1) c), hk.box h.sure (fun e => e.elim (fun e => h.bs e.symm) (fun e => (h.fn sb e).2.1 rfl)), ⟨m, hk.map hm1 (fun e => e.elim (fun e => h.bm e.symm) (fun e => (h.fn mb e).2.2.1 rfl)), hm2⟩, hk.owns h.writes (fun j e e' => e'.elim (fun e' => (h.wn j e).1 e') (fun e' => (h.fn j e').2.2.2 e)), ?_, ⟨h.inv.many, h.inv.sure, h.inv.lies, h.inv.wide, h.inv.some_⟩, h.bs, h.bm, h.sm, h.wn, fun k e => hgo k e ▸ hgn⟩, hat.imp id (fun e => by omega), hk⟩
  show World.ownsRow _ _ _ _ _ (d.fails ++ [x]).length ((d.fails ++ [x]).map (Value.int .i64))
  rw [hll, List.map_append]
  exact hk4.owns ho (fun k e => by rw [← hgo k e]; exact hgn.1)

end Go.Proofs.Ytfdbfafpcbdbdaa
namespace Go.Proofs.Ytfdbfafpcbdbdaa
open Go.RowKit

theorem infoI : (Try.prog.info? 3).map (fun i => (i.zero, i.size, i.bytes)) = some (some (.int .i64 0), 1, 8) := by kernel_rfl

/-- The document's disk behind Fail. -/
def M.rfailR (r : M.R) (x : Int) : M.R := if (r.ops : Int) < x ∧ x ∉ r.fails ∧ r.fails.length < 100 then { r with fails := r.fails ++ [x] } else r
theorem RefAt.failed {w w3 w4 : World} {b g c n : Nat} {SV EV WV FV : Value} {r : M.R} {x : Int} {o : Obj} (h : RefAt w b SV EV WV FV r) (hn : n = r.fails.length) (hl : r.fails.length < 100) {g3 : Nat} (hk3 : Kept (fun _ => False) w w3) (hg3 : w.heap.size ≤ g3) (hgr : (w3.alloc o).grownBy w4 (some g3)) (hat : some g3 = some g ∨ g = w3.heap.size + 1)
    (ho : w4.ownsRow 0 3 1 (.slice (some ⟨g, 0, none⟩) (n + 1) c) (n + 1) (r.fails.map (Value.int .i64) ++ [.int .i64 x])) :
    w4.cell? ⟨b, 4, none⟩ = some FV ∧ w4.frozen? ⟨b, 4, none⟩ = false ∧
      Hid (RefAt (w4.setCell ⟨b, 4, none⟩ (.slice (some ⟨g, 0, none⟩) (n + 1) c)) b SV EV WV (.slice (some ⟨g, 0, none⟩) (n + 1) c) { r with fails := r.fails ++ [x] } ∧ w.heap.size ≤ g ∧ Kept (fun j => j = b) w (w4.setCell ⟨b, 4, none⟩ (.slice (some ⟨g, 0, none⟩) (n + 1) c))) := by
  have hz3 := hk3.size
  have hbl := h.box.lt
  have hg : w.heap.size ≤ g := hat.elim (fun e => by injection e with e; omega) (fun e => by omega)
  have hk4 : Kept (fun _ => False) w w4 := (hk3.alloc _).grown hgr (fun j e hj => by injection e with e; omega)
  have hh := h.kept hk4 (fun e => e) (fun _ _ e => e) (fun _ _ e => e) (fun _ _ e => e) (fun _ _ e => e)
  have hll : (r.fails ++ [x]).length = n + 1 := by rw [hn]; simp
  have ho' : w4.ownsRow 0 3 1 (.slice (some ⟨g, 0, none⟩) (n + 1) c) (r.fails ++ [x]).length ((r.fails ++ [x]).map (Value.int .i64)) := by
    rw [hll, List.map_append]
    exact ho
  have hx := hh.fails1 ho' (by rw [hll]; omega) (fun j e => by have := own_slice e; omega)
  exact ⟨hh.c4, hh.box.frozen 4, hx, hg, (hk4.mono (fun _ _ e => e.elim)).trans (Kept.set' (P := fun j => j = b) rfl 4 _)⟩

end Go.Proofs.Ytfdbfafpcbdbdaa
namespace Go.Proofs.Ytfdbfafpcbdbdaa
open Go.RowKit

/-- The two are the same; of the numbers that fail those whose calls have not come. -/
structure M.Same (d : M.D) (r : M.R) : Prop where
  sure : r.sure = d.S
  slen : r.seen.length = d.S.length
  seen : ∀ j, j < d.S.length → r.seen[j]? = some (M.seen d.S d.L j)
  wait : r.wait = d.L
  ops : r.ops = d.ops
  at_ : r.at_ = d.da
  off : r.off = d.dn
  fails : ∀ x : Int, (d.ops : Int) < x → (x ∈ d.fails ↔ x ∈ r.fails)
  once : d.fails.Nodup

theorem M.same_new (c : Nat) : M.Same (M.new c) (M.newR c) :=
  ⟨rfl, rfl, fun j hj => by
    have hj' : j < c := by simpa [M.new] using hj
    simp [M.newR, M.new, M.seen, M.seen0, hj'], rfl, rfl, rfl, rfl, fun _ _ => Iff.rfl, List.nodup_nil⟩
section
variable {d : M.D} {r : M.R}
theorem M.Same.callE (h : M.Same d r) : M.callE r = M.beginE d := by
  unfold M.callE M.beginE
  rw [h.off, h.at_, h.ops]
  have := h.fails ((d.ops + 1 : Nat) : Int) (by omega)
  by_cases hm : ((d.ops + 1 : Nat) : Int) ∈ d.fails
  · rw [if_pos (this.1 hm), if_pos hm]
  · rw [if_neg (fun e => hm (this.2 e)), if_neg hm]
theorem M.Same.callL (h : M.Same d r) : M.callL r = ((M.beginD d).dn && !d.dn) := by
  unfold M.callL M.beginD
  rw [h.off, h.at_, h.ops]
  cases d.dn <;> simp
theorem M.Same.begin (h : M.Same d r) : M.Same (M.beginD d) (M.callR r) := by
  refine ⟨h.sure, h.slen, h.seen, h.wait, by show r.ops + 1 = d.ops + 1; rw [h.ops], h.at_, by show (r.off || decide (r.at_ = _)) = (d.dn || decide (d.da = _)); rw [h.off, h.at_, h.ops], fun x hx => ?_, h.once.erase _⟩
  have hx' : ((d.ops + 1 : Nat) : Int) < x := hx
  show x ∈ d.fails.erase ((d.ops + 1 : Nat) : Int) ↔ x ∈ r.fails
  rw [List.mem_erase_of_ne (by omega)]
  exact h.fails x (by omega)
theorem M.Same.readE (h : M.Same d r) (i : Int) : M.rreadE r i = M.readE d i := by
  unfold M.rreadE M.readE
  rw [h.callE, h.slen]
theorem M.Same.readS (h : M.Same d r) (i : Int) : M.rreadS r i = M.readS d i := by
  unfold M.rreadS M.readS
  rw [h.callE, h.slen]
  by_cases hE : M.beginE d = 0
  · rw [if_pos hE, if_pos hE]
    by_cases hb : M.hasB d.S.length i = true
    · rw [if_pos hb, if_pos hb]
      unfold M.hasB at hb
      simp at hb
      have := h.seen i.toNat (by omega)
      rw [List.getD_eq_getElem?_getD, this]
      rfl
    · rw [if_neg hb, if_neg hb]
  · rw [if_neg hE, if_neg hE]
theorem M.Same.writeE (h : M.Same d r) (i : Int) (s : ByteArray) : M.rwriteE r i s = M.writeE d i s := by
  unfold M.rwriteE M.writeE
  rw [h.callE, h.slen]
theorem M.Same.lays (h : M.Same d r) (i : Int) (s : ByteArray) : M.rlays r i s = M.lays d i s := by
  unfold M.rlays M.lays
  rw [h.callE, h.callL, h.slen]
theorem M.Same.write (h : M.Same d r) (i : Int) (s : ByteArray) : M.Same (M.writeD d i s) (M.rwriteR r i s) := by
  have hb := h.begin
  unfold M.writeD M.rwriteR
  rw [h.lays]
  by_cases hl : M.lays d i s = true
  · rw [if_pos hl, if_pos hl]
    refine ⟨hb.sure, by show (r.seen.set i.toNat s).length = _; rw [List.length_set]; exact hb.slen, fun j hj => ?_, by show r.wait ++ [(i.toNat, s)] = d.L ++ [(i.toNat, s)]; rw [h.wait], hb.ops, hb.at_, hb.off, hb.fails, hb.once⟩
    have hj' : j < d.S.length := hj
    show (r.seen.set i.toNat s)[j]? = some (M.seen d.S (d.L ++ [(i.toNat, s)]) j)
    unfold M.seen
    rw [M.seen0_snoc]
    by_cases e : i.toNat = j
    · rw [if_pos e, e, List.getElem?_set_self (by rw [h.slen]; exact hj')]
      rfl
    · rw [if_neg e, List.getElem?_set_ne e]
      exact h.seen j hj'
  · rw [if_neg hl, if_neg hl]
    exact hb
theorem M.Same.flush (h : M.Same d r) : M.Same (M.flushD d) (M.rflushR r) := by
  have hb := h.begin
  unfold M.flushD M.rflushR
  rw [h.callE]
  by_cases hE : M.beginE d = 0
  · rw [if_pos hE, if_pos hE]
    have hS : r.seen = M.rounds (fun _ => true) d.S d.L d.L.length := by
      apply List.ext_getElem?
      intro j
      by_cases hj : j < d.S.length
      · rw [h.seen j hj, M.rounds_all d.S d.L j hj d.L.length (Nat.le_refl _), List.take_length]
      · rw [List.getElem?_eq_none (by rw [h.slen]; omega), List.getElem?_eq_none (by rw [M.rounds_len]; omega)]
    refine ⟨hS, by show r.seen.length = (M.rounds (fun _ => true) d.S d.L d.L.length).length; rw [hS], fun j hj => ?_, rfl, hb.ops, hb.at_, hb.off, hb.fails, hb.once⟩
    have hj' : j < (M.rounds (fun _ => true) d.S d.L d.L.length).length := hj
    show r.seen[j]? = some ((M.seen0 [] j).getD ((M.rounds (fun _ => true) d.S d.L d.L.length).getD j ByteArray.empty))
    rw [hS, M.seen0_nil, Option.getD_none, List.getD_eq_getElem?_getD, List.getElem?_eq_getElem hj']
    rfl
  · rw [if_neg hE, if_neg hE]
    exact hb
theorem M.rounds_none (f : Nat → Bool) (hf : ∀ i, f i = false) (S : List ByteArray) (L : List (Nat × ByteArray)) (i : Nat) : M.rounds f S L i = S := by
  induction i with
  | zero => rfl
  | succ i ih =>
    unfold M.rounds
    split
    · rw [hf, if_neg (by simp)]
      exact ih
    · exact ih
theorem M.Same.restart (h : M.Same d r) (z : Nat → Int) : M.Same (M.restartD d (M.odd 0 z)) (M.restartR r) := by
  have hS : M.rounds (M.odd 0 z) d.S d.L d.L.length = d.S := M.rounds_none _ (fun i => by simp [M.odd]) _ _ _
  unfold M.restartD M.restartR
  rw [hS]
  refine ⟨h.sure, by show r.sure.length = d.S.length; rw [h.sure], fun j hj => ?_, rfl, h.ops, rfl, rfl, fun _ _ => Iff.rfl, List.nodup_nil⟩
  have hj' : j < d.S.length := hj
  show r.sure[j]? = some ((M.seen0 [] j).getD (d.S.getD j ByteArray.empty))
  rw [h.sure, M.seen0_nil, Option.getD_none, List.getD_eq_getElem?_getD, List.getElem?_eq_getElem hj']
  rfl
theorem M.Same.fail (h : M.Same d r) (x : Int) (h1 : d.fails.length < 100) (h2 : r.fails.length < 100) : M.Same (M.failD d x) (M.rfailR r x) := by
  unfold M.failD M.rfailR
  rw [h.ops]
  by_cases hx : (d.ops : Int) < x
  · by_cases hm : x ∈ d.fails
    · rw [if_neg (fun e => e.2.2 hm), if_neg (fun e => e.2.1 ((h.fails x hx).1 hm))]
      exact h
    · have hm' : x ∉ r.fails := fun e => hm ((h.fails x hx).2 e)
      rw [if_pos ⟨hx, h1, hm⟩, if_pos ⟨hx, hm', h2⟩]
      refine ⟨h.sure, h.slen, h.seen, h.wait, rfl, h.at_, h.off, fun y hy => ?_, ?_⟩
      · show y ∈ d.fails ++ [x] ↔ y ∈ r.fails ++ [x]
        rw [List.mem_append, List.mem_append, h.fails y hy]
      · show (d.fails ++ [x]).Nodup
        rw [List.nodup_append]
        exact ⟨h.once, by simp, fun a ha b hb e => by rw [List.mem_singleton.1 hb] at e; exact hm (e ▸ ha)⟩
  · rw [if_neg (fun e => hx e.1), if_neg (fun e => hx e.1)]
    exact h
theorem M.Same.down (h : M.Same d r) (x : Int) : M.Same { d with da := x } { r with at_ := x } := ⟨h.sure, h.slen, h.seen, h.wait, h.ops, rfl, h.off, h.fails, h.once⟩
end
/-- How many numbers are kept at most. -/
theorem M.failD_len (d : M.D) (x : Int) : (M.failD d x).fails.length ≤ d.fails.length + 1 := by
  unfold M.failD
  split <;> simp
theorem M.rfailR_len (r : M.R) (x : Int) : (M.rfailR r x).fails.length ≤ r.fails.length + 1 := by
  unfold M.rfailR
  split <;> simp
theorem M.beginD_len (d : M.D) : (M.beginD d).fails.length ≤ d.fails.length := List.length_erase_le ..
end Go.Proofs.Ytfdbfafpcbdbdaa
namespace Go.Proofs.Ytfdbfafpcbdbdaa
open Go.RowKit

/-- In y, which came of w: the disk d in block a, the document's disk r in block b; all of both is from block N on; F lies apart. -/
def Two (w y : World) (N a b : Nat) (F : Nat → Prop) (d : M.D) (r : M.R) : Prop :=
  ∃ P Q : Nat → Prop, Disk y a P d ∧ Ref y b Q r ∧ (∀ k, P k → ¬ Q k ∧ ¬ F k ∧ N ≤ k ∧ k < y.heap.size) ∧ (∀ k, Q k → ¬ F k ∧ N ≤ k ∧ k < y.heap.size) ∧ (∀ k, F k → k < y.heap.size) ∧ Below N w y ∧ N ≤ y.heap.size
section
variable {w y y' : World} {N a b : Nat} {F : Nat → Prop} {d d' : M.D} {r r' : M.R}
theorem Two.below (h : Two w y N a b F d r) : Below N w y := let ⟨_, _, _, _, _, _, _, h, _⟩ := h; h
theorem Two.le (h : Two w y N a b F d r) : N ≤ y.heap.size := let ⟨_, _, _, _, _, _, _, _, h⟩ := h; h
theorem Two.inv (h : Two w y N a b F d r) : M.Inv d := let ⟨_, _, h, _⟩ := h; h.inv
/-- A step of the one. -/
theorem Two.stepA {P : Nat → Prop} {Q : Nat → Prop} (hr : Ref y b Q r) (hP : ∀ k, P k → ¬ Q k ∧ ¬ F k ∧ N ≤ k ∧ k < y.heap.size) (hQ : ∀ k, Q k → ¬ F k ∧ N ≤ k ∧ k < y.heap.size) (hF : ∀ k, F k → k < y.heap.size) (hb : Below N w y) (hN : N ≤ y.heap.size)
    (hd : Disk y' a (M.plus P y.heap.size) d') (hk : Kept P y y') : Two w y' N a b F d' r ∧ Kept (fun k => ¬ F k) y y' := by
  have hz := hk.size
  refine ⟨⟨fun k => (P k ∨ y.heap.size ≤ k) ∧ k < y'.heap.size, Q, hd.mono (fun k hk e => ⟨e, hk⟩), hr.kept hk (fun k e e' => (hP k e').1 e), fun k e => ?_, fun k e => ⟨(hQ k e).1, (hQ k e).2.1, by have := (hQ k e).2.2; omega⟩, fun k e => by have := hF k e; omega, hb.trans (hk.below hN (fun k hk e => by have := (hP k e).2.2.1; omega)), by omega⟩, hk.mono (fun k _ e => (hP k e).2.1)⟩
  rcases e.1 with e1 | e1
  · exact ⟨(hP k e1).1, (hP k e1).2.1, (hP k e1).2.2.1, e.2⟩
  · exact ⟨fun e' => by have := (hQ k e').2.2; omega, fun e' => by have := hF k e'; omega, by omega, e.2⟩
theorem Two.stepB {P : Nat → Prop} {Q : Nat → Prop} (hd : Disk y a P d) (hP : ∀ k, P k → ¬ Q k ∧ ¬ F k ∧ N ≤ k ∧ k < y.heap.size) (hQ : ∀ k, Q k → ¬ F k ∧ N ≤ k ∧ k < y.heap.size) (hF : ∀ k, F k → k < y.heap.size) (hb : Below N w y) (hN : N ≤ y.heap.size)
    (hr : Ref y' b (M.plus Q y.heap.size) r') (hk : Kept Q y y') : Two w y' N a b F d r' ∧ Kept (fun k => ¬ F k) y y' := by
  have hz := hk.size
  refine ⟨⟨P, fun k => (Q k ∨ y.heap.size ≤ k) ∧ k < y'.heap.size, hd.kept hk (fun k e e' => (hP k e).1 e'), hr.mono (fun k hk e => ⟨e, hk⟩), fun k e => ⟨?_, (hP k e).2.1, (hP k e).2.2.1, by have := (hP k e).2.2.2; omega⟩, fun k e => ?_, fun k e => by have := hF k e; omega, hb.trans (hk.below hN (fun k hk e => by have := (hQ k e).2.1; omega)), by omega⟩, hk.mono (fun k _ e => (hQ k e).1)⟩
  · rintro ⟨e1 | e1, _⟩
    · exact (hP k e).1 e1
    · have := (hP k e).2.2.2; omega
  · rcases e.1 with e1 | e1
    · exact ⟨(hQ k e1).1, (hQ k e1).2.1, e.2⟩
    · exact ⟨fun e' => by have := hF k e'; omega, by omega, e.2⟩
theorem Two.kept (h : Two w y N a b F d r) {G : Nat → Prop} (hk : Kept G y y') (hG : ∀ k, G k → F k) (hGN : ∀ k, G k → N ≤ k) : Two w y' N a b F d r := by
  obtain ⟨P, Q, hd, hr, hP, hQ, hF, hb, hN⟩ := h
  have hz := hk.size
  exact ⟨P, Q, hd.kept hk (fun k e e' => (hP k e).2.1 (hG k e')), hr.kept hk (fun k e e' => (hQ k e).1 (hG k e')), fun k e => ⟨(hP k e).1, (hP k e).2.1, (hP k e).2.2.1, by have := (hP k e).2.2.2; omega⟩, fun k e => ⟨(hQ k e).1, (hQ k e).2.1, by have := (hQ k e).2.2; omega⟩, fun k e => by have := hF k e; omega, hb.trans (hk.below hN (fun k hk e => by have := hGN k e; omega)), by omega⟩
theorem Two.alloc (h : Two w y N a b F d r) (o : Obj) : Two w (y.alloc o) N a b F d r := h.kept ((Kept.refl (fun _ => False) y).alloc o) (fun _ e => e.elim) (fun _ e => e.elim)
theorem Two.drewN (h : Two w y N a b F d r) (n : Nat) : Two w (y.drewN n) N a b F d r := h.kept ((Kept.refl (fun _ => False) y).drewN n) (fun _ e => e.elim) (fun _ e => e.elim)
theorem Two.drew (h : Two w y N a b F d r) : Two w y.drew N a b F d r := h.drewN 1
/-- A new block stands apart. -/
theorem Two.beside (h : Two w y N a b F d r) (o : Obj) : Two w (y.alloc o) N a b (fun k => F k ∨ k = y.heap.size) d r := by
  obtain ⟨P, Q, hd, hr, hP, hQ, hF, hb, hN⟩ := h
  have h0 := World.size_alloc y o
  refine ⟨P, Q, hd.kept ((Kept.refl (fun _ => False) y).alloc o) (fun _ _ => id), hr.kept ((Kept.refl (fun _ => False) y).alloc o) (fun _ _ => id), fun k e => ⟨(hP k e).1, fun e' => e'.elim (hP k e).2.1 (fun e' => by have := (hP k e).2.2.2; omega), (hP k e).2.2.1, by have := (hP k e).2.2.2; omega⟩, fun k e => ⟨fun e' => e'.elim (hQ k e).1 (fun e' => by have := (hQ k e).2.2; omega), (hQ k e).2.1, by have := (hQ k e).2.2; omega⟩, fun k e => e.elim (fun e => by have := hF k e; omega) (fun e => by omega), hb.alloc hN o, by omega⟩

theorem tread (h : Two w y N a b F d r) (ho : d.ops ≤ 1000000) (i : Int) : Calls Try.prog 69 #[.pointer (some ⟨a, 0, none⟩), .int .i64 i] y fun e y' => e = .returned (.tuple #[.string (M.readS d i), .int .i64 (M.readE d i)]) ∧ Two w y' N a b F (M.beginD d) r ∧ Kept (fun k => ¬ F k) y y' := by
  obtain ⟨P, Q, hd, hr, hP, hQ, hF, hb, hN⟩ := h
  exact (read_any i y hd (by omega)).mono fun _ _ ⟨h1, h2, h3⟩ => ⟨h1, Two.stepA hr hP hQ hF hb hN (h2.mono (fun _ _ e => Or.inl e)) h3⟩
theorem twrite (h : Two w y N a b F d r) (ho : d.ops ≤ 1000000) (i : Int) (s : ByteArray) : Calls Try.prog 38 #[.pointer (some ⟨a, 0, none⟩), .int .i64 i, .string s] y fun e y' => e = .returned (.int .i64 (M.writeE d i s)) ∧ Two w y' N a b F (M.writeD d i s) r ∧ Kept (fun k => ¬ F k) y y' := by
  obtain ⟨P, Q, hd, hr, hP, hQ, hF, hb, hN⟩ := h
  exact (write_any i s y hd (by omega)).mono fun _ _ ⟨h1, h2, h3⟩ => ⟨h1, Two.stepA hr hP hQ hF hb hN h2 h3⟩
theorem tsectors (h : Two w y N a b F d r) : Calls Try.prog 34 #[.pointer (some ⟨a, 0, none⟩)] y fun e y' => e = .returned (.int .i64 (d.S.length : Nat)) ∧ y' = y := by
  obtain ⟨P, Q, hd, _⟩ := h
  exact sectors_any y hd
/-- Its fields that are read from outside: how many sectors are seen, how many calls there were. -/
theorem Two.cells (h : Two w y N a b F d r) : ∃ EA ec, y.cell? ⟨b, 1, none⟩ = some (.slice EA r.seen.length ec) ∧ y.cell? ⟨b, 3, none⟩ = some (.int .i64 (r.ops : Nat)) ∧ b < y.heap.size := by
  obtain ⟨P, Q, hd, ⟨SV, EV, WV, FV, hr, _⟩, _⟩ := h
  obtain ⟨EA, ec, rfl, _⟩ := owns_shape hr.seen
  exact ⟨EA, ec, hr.c1, hr.c3, hr.box.lt⟩
end
/-- Both are made, one behind the other. -/
theorem tnew (n : Int) (w y : World) (hb : Below w.heap.size w y) : Calls Try.prog 15 #[.int .i64 n] y fun e y' => ∃ a, e = .returned (.pointer (some ⟨a, 0, none⟩)) ∧ Dk w y' w.heap.size a (fun k => w.heap.size ≤ k) (M.new (M.held n)) := knew n w y hb
theorem urnew (n : Int) {w y : World} {a : Nat} {d : M.D} (h : Dk w y w.heap.size a (fun k => w.heap.size ≤ k) d) : Calls Try.prog 16 #[.int .i64 n] y fun e y' => ∃ b, e = .returned (.pointer (some ⟨b, 0, none⟩)) ∧ Two w y' w.heap.size a b (fun _ => False) d (M.newR (M.held n)) := by
  refine (rnew_any n y).mono ?_
  rintro e y' ⟨b, rfl, hr, hb2⟩
  have hz := hb2.size
  have hle := h.le
  have hk : Kept (fun _ => False) y y' := Kept.of_below hb2 _
  refine ⟨b, rfl, fun k => w.heap.size ≤ k ∧ k < y.heap.size, fun k => y.heap.size ≤ k ∧ k < y'.heap.size, (h.disk.mono (fun k hk e => ⟨e, hk⟩)).kept hk (fun _ _ => id), hr.mono (fun k hk e => ⟨e, hk⟩), fun k e => ⟨fun e' => by omega, id, e.1, by omega⟩, fun k e => ⟨id, by omega, e.2⟩, fun k e => e.elim, h.below.trans (hb2.mono hle), by omega⟩
end Go.Proofs.Ytfdbfafpcbdbdaa
namespace Go.Proofs.Ytfdbfafpcbdbdaa
open Go.RowKit

/-- The document's part of the document's disk in block b: mn sectors from fr on. -/
def RReg (y : World) (rb b fr mn : Nat) : Prop := Box y rb 96 #[.pointer (some ⟨b, 0, none⟩), .int .i64 (fr : Nat), .int .i64 (mn : Nat)]
section
variable {y y' : World} {rb b fr mn : Nat}
theorem RReg.c0 (h : RReg y rb b fr mn) : y.cell? ⟨rb, 0, none⟩ = some (.pointer (some ⟨b, 0, none⟩)) := by simpa using Box.cell h 0
theorem RReg.c1 (h : RReg y rb b fr mn) : y.cell? ⟨rb, 1, none⟩ = some (.int .i64 (fr : Nat)) := by simpa using Box.cell h 1
theorem RReg.c2 (h : RReg y rb b fr mn) : y.cell? ⟨rb, 2, none⟩ = some (.int .i64 (mn : Nat)) := by simpa using Box.cell h 2
theorem RReg.lt (h : RReg y rb b fr mn) : rb < y.heap.size := Box.lt h
theorem RReg.kept {P : Nat → Prop} (h : RReg y rb b fr mn) (hk : Kept P y y') (hp : ¬ P rb) : RReg y' rb b fr mn := hk.box h hp
end
theorem Ref.seenCell {w : World} {b : Nat} {P : Nat → Prop} {r : M.R} (h : Ref w b P r) : ∃ EA ec, w.cell? ⟨b, 1, none⟩ = some (.slice EA r.seen.length ec) ∧ r.seen.length ≤ 1000 := by
  obtain ⟨SV, EV, WV, FV, hr, _⟩ := h
  obtain ⟨EA, ec, rfl, _⟩ := owns_shape hr.seen
  exact ⟨EA, ec, hr.c1, by rw [hr.len]; exact hr.many⟩
theorem Ref.plus {w : World} {b : Nat} {P : Nat → Prop} {r : M.R} (h : Ref w b P r) (n : Nat) : Ref w b (M.plus P n) r := h.mono (fun _ _ e => Or.inl e)

theorem hnew_yes (fr m : Int) (w : World) {b : Nat} {P : Nat → Prop} {r : M.R} (h : Ref w b P r) (hy : M.within fr m (r.seen.length : Nat) = true) :
    Calls Try.prog 17 #[.pointer (some ⟨b, 0, none⟩), .int .i64 fr, .int .i64 m] w fun e w' => e = .returned (.tuple #[.pointer (some ⟨w.heap.size, 0, none⟩), .int .i64 0]) ∧
      w' = w.alloc (.cells #[.pointer (some ⟨b, 0, none⟩), .int .i64 fr, .int .i64 m] 96) := by
  obtain ⟨EA, ec, c1, hl⟩ := h.seenCell
  obtain ⟨h0, h1, h2⟩ := M.within_yes hy
  obtain ⟨n, hn⟩ : ∃ n, n = r.seen.length := ⟨_, rfl⟩
  rw [← hn] at c1 hl h2
  have f0 : decide (fr < 0) = false := by simpa using h0
  have f1 : decide (m < 0) = false := by simpa using h1
  have f2 : decide ((n : Int) < fr) = false := by simp; omega
  have f3 : decide ((n : Int) - fr < m) = false := by simp; omega
  have g1 : fr ≤ (n : Int) := by omega
  have g2 : (n : Int) ≤ 1000 := by omega
  clear h hy hn hl
  go_enter Try.func17, Try.ntmps17
  go_wp2_with fail
  go_ret2
  exact ⟨rfl, rfl⟩
theorem hnew_no (fr m : Int) (w : World) {b : Nat} {P : Nat → Prop} {r : M.R} (h : Ref w b P r) (hy : M.within fr m (r.seen.length : Nat) = false) :
    Calls Try.prog 17 #[.pointer (some ⟨b, 0, none⟩), .int .i64 fr, .int .i64 m] w fun e w' => e = .returned (.tuple #[.pointer none, .int .i64 3]) ∧ w' = w := by
  obtain ⟨EA, ec, c1, hl⟩ := h.seenCell
  obtain ⟨n, hn⟩ : ∃ n, n = r.seen.length := ⟨_, rfl⟩
  rw [← hn] at c1 hl hy
  have hy' : ¬ (0 ≤ fr ∧ 0 ≤ m ∧ m ≤ (n : Int) - fr) := fun ⟨q1, q2, q3⟩ => by
    unfold M.within at hy
    simp at hy
    omega
  have g2 : (n : Int) ≤ 1000 := by omega
  clear h hy hn hl
  by_cases h0 : fr < 0
  · have f0 : decide (fr < 0) = true := by simpa using h0
    clear hy'
    go_enter Try.func17, Try.ntmps17
    go_wp2_with fail
    go_ret2
    exact ⟨rfl, rfl⟩
  · have f0 : decide (fr < 0) = false := by simpa using h0
    by_cases h1 : m < 0
    · have f1 : decide (m < 0) = true := by simpa using h1
      clear hy'
      go_enter Try.func17, Try.ntmps17
      go_wp2_with fail
      go_ret2
      exact ⟨rfl, rfl⟩
    · have f1 : decide (m < 0) = false := by simpa using h1
      by_cases h2 : (n : Int) < fr
      · have f2 : decide ((n : Int) < fr) = true := by simpa using h2
        clear hy'
        go_enter Try.func17, Try.ntmps17
        go_wp2_with fail
        go_ret2
        exact ⟨rfl, rfl⟩
      · have f2 : decide ((n : Int) < fr) = false := by simpa using h2
        have h3 : (n : Int) - fr < m := by omega
        have f3 : decide ((n : Int) - fr < m) = true := by simpa using h3
        clear hy'
        go_enter Try.func17, Try.ntmps17
        go_wp2_with fail
        go_ret2
        exact ⟨rfl, rfl⟩

/-- So many sectors are read, from one on, behind what was read before. -/
def M.rrd : Nat → M.R → Nat → ByteArray → ByteArray × Int × M.R
  | 0, r, _, acc => (acc, 0, r)
  | n + 1, r, at_, acc => if M.rreadE r at_ = 0 then M.rrd n (M.callR r) (at_ + 1) (acc ++ M.rreadS r at_) else (⟨#[]⟩, M.rreadE r at_, M.callR r)
theorem M.rreadS_size {r : M.R} (h : ∀ s ∈ r.seen, s.size = 64) {i : Int} (he : M.rreadE r i = 0) : (M.rreadS r i).size = 64 := by
  unfold M.rreadE at he
  unfold M.rreadS
  by_cases hE : M.callE r = 0
  · rw [if_pos hE] at he ⊢
    by_cases hb : M.hasB r.seen.length i = true
    · rw [if_pos hb]
      unfold M.hasB at hb
      simp at hb
      have hlt : i.toNat < r.seen.length := by omega
      rw [List.getD_eq_getElem?_getD, List.getElem?_eq_getElem hlt]
      exact h _ (List.getElem_mem hlt)
    · rw [if_neg hb] at he
      exact absurd he (by omega)
  · rw [if_neg hE] at he
    exact absurd he hE

/-- What a read comes to, wherever. -/
def M.hread (r : M.R) (fr mn : Nat) (i m : Int) : ByteArray × Int × M.R := if M.within i m (mn : Nat) = true then M.rrd m.toNat r (fr + i.toNat) ⟨#[]⟩ else (⟨#[]⟩, 3, r)
end Go.Proofs.Ytfdbfafpcbdbdaa
