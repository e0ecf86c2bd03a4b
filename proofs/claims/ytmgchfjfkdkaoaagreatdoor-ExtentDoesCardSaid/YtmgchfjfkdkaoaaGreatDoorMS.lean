/-
  Rows that a call owns: kept, cut, set, copied (the lemmas of layers 8 and 13, under names of their own). No function of the program in this text. The document's log in memory. Walks over solderref14's Begin, own, Room, Abort and Read. Walks over solderref14's Read. Walks over solderref14's Stage.
-/
import Derived.Test.YtmgchfjfkdkaoaaGreatDoorMA
import Derived.Maps.AppendAt
import Derived.Laws.AppendOwnNone
import Derived.Deep.AppendLies
import Derived.Deep.OwnRows
import Derived.OwnWalk
import Derived.BigQuiet
import Derived.Deep.QuietTactic
import Derived.Handy
namespace Go.Proofs.YtmgchfjfkdkaoaaGreatDoor
open Go.RowKit

theorem own_slice14 {g n c k : Nat} (e : (Value.slice (some ⟨g, 0, none⟩) n c).ownBlock = some k) : g = k := by simpa [Value.ownBlock] using e
theorem Kept.set14 {P : Nat → Prop} {w : World} {g : Nat} (h : P g) (i : Nat) (u : Value) : Kept P w (w.setCell ⟨g, i, none⟩ u) := Kept.set (Kept.refl P w) (fun _ => h) i u
theorem Kept.owns14 {P : Nat → Prop} {w w' : World} (hk : Kept P w w') {B : Nat} {t : TypeId} {z n : Nat} {v : Value} {xs : List Value} (h : w.ownsRow B t z v n xs) (hp : ∀ k, v.ownBlock = some k → ¬ P k) : w'.ownsRow B t z v n xs := by
  refine ⟨h.1, ?_⟩
  rcases h.2 with h | ⟨g, cap, cur, e, h1, h2, h3⟩
  · exact Or.inl h
  · exact Or.inr ⟨g, cap, cur, e, h1, (hk.block g (lt_of_block h2) (hp g (by rw [e]; rfl))).trans h2, h3⟩
theorem owns_shape14 {w : World} {B : Nat} {t : TypeId} {z n : Nat} {v : Value} {xs : List Value} (h : w.ownsRow B t z v n xs) : ∃ (A : Option Addr) (c : Nat), v = .slice A n c ∧ n ≤ c := by
  rcases h.2 with ⟨e, hn⟩ | ⟨g, cap, cur, e, _, _, h3, _⟩
  · exact ⟨none, 0, by rw [e, hn], by omega⟩
  · exact ⟨_, cap, e, h3⟩
theorem owns_empty14 (u : World) (t : TypeId) (z : Nat) : (u.alloc (.cells #[] t)).ownsRow u.heap.size t z (.slice (some ⟨u.heap.size, 0, none⟩) 0 0) 0 [] :=
  ⟨by simp, Or.inr ⟨_, 0, #[], rfl, Nat.le_refl _, heap_alloc_new u _, Nat.le_refl _, Nat.zero_le _, by simp, by simp⟩⟩
theorem owns_mono14 {w : World} {B B' : Nat} {t : TypeId} {z n : Nat} {v : Value} {xs : List Value} (h : w.ownsRow B t z v n xs) (hB : B' ≤ B) : w.ownsRow B' t z v n xs :=
  ⟨h.1, h.2.imp id (fun ⟨g, cap, cur, e, h1, h2⟩ => ⟨g, cap, cur, e, Nat.le_trans hB h1, h2⟩)⟩
/-- A cell of an owned row is written. -/
theorem owns_set14 {w : World} {B g n cap z : Nat} {t : TypeId} {xs : List Value} (h : w.ownsRow B t z (.slice (some ⟨g, 0, none⟩) n cap) n xs) (j : Nat) (u : Value) :
    (w.setCell ⟨g, j, none⟩ u).ownsRow B t z (.slice (some ⟨g, 0, none⟩) n cap) n (xs.set j u) ∧ w.frozen? ⟨g, j, none⟩ = false := by
  rcases h.2 with ⟨e, _⟩ | ⟨g', cap', cur, e, h1, h2, h3, h4, h5, h6⟩
  · cases e
  · injection e with e1 e2 e3
    injection e1 with e1
    injection e1 with e1
    subst e1
    subst e3
    have hB : Box w g t cur := h2
    refine ⟨⟨by rw [List.length_set]; exact h.1, Or.inr ⟨g, cap, cur.setIfInBounds j u, rfl, h1, hB.set j u, h3, h4, by simpa using h5, ?_⟩⟩, hB.frozen j⟩
    rw [← h6, Array.toList_setIfInBounds, ← List.take_set]
/-- A cell of an owned row is read. -/
theorem owns_at14 {w : World} {B n z j : Nat} {t : TypeId} {v u : Value} {xs : List Value} (h : w.ownsRow B t z v n xs) (hj : xs[j]? = some u) (hn : 0 < n) : ∃ g cap, v = .slice (some ⟨g, 0, none⟩) n cap ∧ n ≤ cap ∧ g < w.heap.size ∧ w.cell? ⟨g, j, none⟩ = some u := by
  rcases h.2 with ⟨_, e⟩ | ⟨g, cap, cur, e, _, hb, h3, _⟩
  · omega
  · subst e
    have hc := h.cells (g := g) rfl j u hj
    rw [blk_add] at hc
    exact ⟨g, cap, rfl, h3, lt_of_block hb, hc⟩

/-- append([]T{}, v...): a row is copied into a new one; v an owned row, nil or empty too. -/
theorem append_copy14 {P : Program} {w : World} {ops : Array Oper} {rest : List Oper} {o : Oper} {a : Act} {Q : Exit → Act → World → Prop} (hgd : o.guard = none) (s x : Operand) (t : TypeId)
    (ho : o.op = .call { callee := .builtin .append, args := #[s, x], argTypes := #[t, t] })
    (e : TypeId) (i : TypeInfo) (z : Value) (size bytes : Nat) (ht : P.underlying t = some (.slice e)) (hi : P.info? e = some i) (hz : i.zero = some z)
    (hsize : i.size = size) (hby : i.bytes = bytes) (hzs : z.cells.size = size) (hsz : 0 < size)
    (H : Nat) (hH : w.heap.size = H) (hs : a.eval s = .slice (some ⟨H, 0, none⟩) 0 0) (v : Value) (n : Nat) (xs : List Value) (hx : a.eval x = v) (hown : w.ownsRow 0 e size v n xs) (h1 : ∀ u ∈ xs, u.oneCell' = true)
    (h63 : n ≤ maxLen) (hbytes : n * bytes ≤ 140737488355328)
    (h : ∀ g cap w', w'.ownsRow 0 e size (.slice (some ⟨g, 0, none⟩) n cap) n xs → Kept (fun _ => False) w w' → w.heap.size ≤ g → wpList P ops Q rest (a.put o.dst (.slice (some ⟨g, 0, none⟩) n cap)) w') :
    wpList P ops Q (o :: rest) a (w.alloc (.cells #[] e)) := by
  subst hH
  have he := owns_empty14 w e size
  have hk0 : Kept (fun _ => False) w (w.alloc (.cells #[] e)) := (Kept.refl _ w).alloc _
  rcases hown.2 with ⟨rfl, rfl⟩ | ⟨g0, c0, cur, rfl, hb0, hg0, hc0, _⟩
  · have hxs : xs = [] := List.eq_nil_of_length_eq_zero (by simpa using hown.1)
    subst hxs
    refine wpList_append_own_none hgd s x t ho w.heap.size e i size ht hi _ 0 [] hs he hx ?_
    exact h _ 0 _ (owns_mono14 he (Nat.zero_le _)) hk0 (Nat.le_refl _)
  · refine wpList_append_own_at _ hgd s x t ho w.heap.size e i z size bytes ht hi hz hsize hby hzs hsz _ 0 [] hs he ⟨g0, 0, none⟩ n c0 xs hx hown.1 (fun j u hj => ?_) h1 (by omega) (by rw [Nat.zero_add]; exact hbytes) (by rw [World.size_alloc]; omega) ?_
    · have hc := hown.cells (g := g0) rfl j u hj
      rw [blk_add] at hc ⊢
      exact (World.cell?_of_block (Below.heap_alloc w _ _ (lt_of_block hg0))).trans hc
    · intro v' w' ho' hgr hnil hat
      rw [Nat.zero_add, List.nil_append] at ho'
      have hk : Kept (fun _ => False) w w' := hk0.grown hgr (fun k e hk => by
        have : w.heap.size = k := by simpa [Value.ownBlock] using e
        omega)
      rcases ho'.2 with ⟨e1, _⟩ | ⟨g, cap, cur', rfl, hg, _⟩
      · exact absurd (hnil.1 e1).1 (by simp)
      · exact h g cap w' (owns_mono14 ho' (Nat.zero_le _)) hk hg
end Go.Proofs.YtmgchfjfkdkaoaaGreatDoor
namespace Go.Proofs.YtmgchfjfkdkaoaaGreatDoor
open Go.RowKit

/-- What the document's log is. -/
structure M.W where
  seen : List ByteArray
  staged : List (Nat × ByteArray)
  act : Bool
  fr : Nat
  mn : Nat
  used : Nat
  sure : Bool

section
variable {w w' : World} {b : Nat} {SV GV : Value} {r : M.W}
end

def M.plus14 (P : Nat → Prop) (n : Nat) : Nat → Prop := fun k => P k ∨ n ≤ k
section
variable {w w' : World} {b : Nat} {P Q : Nat → Prop} {r : M.W}
/-- Begin. -/
def M.wbeginE (r : M.W) : Int := if r.act then 10 else 0
def M.wbegin (r : M.W) : M.W := { r with act := true }
/-- Is a sector one of the log's? -/
def M.wown (r : M.W) (k : Int) : Bool := decide ((r.fr : Int) ≤ k) && decide (k < (r.fr : Int) + (r.mn : Int))
def M.wabort (r : M.W) : M.W := { r with act := false, staged := [] }
end
end Go.Proofs.YtmgchfjfkdkaoaaGreatDoor
namespace Go.Proofs.YtmgchfjfkdkaoaaGreatDoor
open Go.RowKit

/-- The first staged one of a sector. -/
def M.sfind (k : Nat) : List (Nat × ByteArray) → Option ByteArray
  | [] => none
  | p :: L => if p.1 = k then some p.2 else M.sfind k L
theorem M.sfind_not {k : Nat} : ∀ {L : List (Nat × ByteArray)}, (∀ i (hi : i < L.length), ¬ (L[i]'hi).1 = k) → M.sfind k L = none
  | [], _ => rfl
  | q :: L, h => by
    rw [M.sfind, if_neg (show ¬ q.1 = k from h 0 (by simp)), M.sfind_not (fun i hi => h (i + 1) (by simpa using hi))]
theorem M.sfind_first {k : Nat} : ∀ {L : List (Nat × ByteArray)} {j : Nat}, (∀ i (hi : i < L.length), i < j → ¬ (L[i]'hi).1 = k) → ∀ hj : j < L.length, (L[j]'hj).1 = k → M.sfind k L = some (L[j]'hj).2
  | [], j, _, hj, _ => absurd hj (by simp)
  | q :: L, 0, _, _, h => by
    have h : q.1 = k := h
    simp [M.sfind, h]
  | q :: L, j + 1, h1, hj, h => by
    rw [M.sfind, if_neg (show ¬ q.1 = k from h1 0 (by simp) (by omega)), M.sfind_first (L := L) (j := j) (fun i hi hik => h1 (i + 1) (by simpa using hi) (by omega)) (by simpa using hj) (by simpa using h)]
    simp
/-- Is there such a sector? -/
def M.wHas (n : Nat) (k : Int) : Bool := decide (0 ≤ k) && decide (k < (n : Int))
def M.wreadE (r : M.W) (k : Int) : Int := if M.wHas r.seen.length k = true then 0 else 3
def M.wreadS (r : M.W) (k : Int) : ByteArray := if M.wHas r.seen.length k = true then (M.sfind k.toNat r.staged).getD (r.seen.getD k.toNat ByteArray.empty) else ⟨#[]⟩

end Go.Proofs.YtmgchfjfkdkaoaaGreatDoor
namespace Go.Proofs.YtmgchfjfkdkaoaaGreatDoor
open Go.RowKit

theorem infoSec14 : (Tryz.prog.info? 111).map (fun i => (i.zero, i.size, i.bytes)) = some (some (.agg #[.int .i64 0, .string ⟨#[]⟩]), 2, 24) := by kernel_rfl
theorem cell2_new14 (w : World) (x y : Value) (t : TypeId) : ∀ j u, [x, y][j]? = some u → (w.alloc (.cells #[x, y] t)).cell? ((⟨w.heap.size, 0, none⟩ : Addr).add j) = some u := by
  intro j u hj
  rw [blk_add, (Box.new w t #[x, y]).cell]
  simpa using hj
theorem M.cells_one : ∀ (T : List (Nat × ByteArray)), ∀ u ∈ M.cells T, u.oneCell' = true
  | [], _, h => by simp [M.cells] at h
  | p :: L, u, h => by
    rw [M.cells] at h
    rcases List.mem_cons.1 h with rfl | h
    · rfl
    · rcases List.mem_cons.1 h with rfl | h
      · rfl
      · exact M.cells_one L u h
/-- One more, in the place of the first one of its sector. -/
def M.sput (k : Nat) (s : ByteArray) : List (Nat × ByteArray) → List (Nat × ByteArray)
  | [] => [(k, s)]
  | p :: L => if p.1 = k then (k, s) :: L else p :: M.sput k s L
theorem M.sput_not {k : Nat} {s : ByteArray} : ∀ {L : List (Nat × ByteArray)}, (∀ i (hi : i < L.length), ¬ (L[i]'hi).1 = k) → M.sput k s L = L ++ [(k, s)]
  | [], _ => rfl
  | q :: L, h => by
    rw [M.sput, if_neg (show ¬ q.1 = k from h 0 (by simp)), M.sput_not (fun i hi => h (i + 1) (by simpa using hi))]
    rfl
theorem M.sput_first {k : Nat} {s : ByteArray} : ∀ {L : List (Nat × ByteArray)} {j : Nat}, (∀ i (hi : i < L.length), i < j → ¬ (L[i]'hi).1 = k) → ∀ hj : j < L.length, (L[j]'hj).1 = k → M.sput k s L = L.set j (k, s)
  | [], j, _, hj, _ => absurd hj (by simp)
  | q :: L, 0, _, _, h => by
    have h : q.1 = k := h
    simp [M.sput, h]
  | q :: L, j + 1, h1, hj, h => by
    rw [M.sput, if_neg (show ¬ q.1 = k from h1 0 (by simp) (by omega)), M.sput_first (L := L) (j := j) (fun i hi hik => h1 (i + 1) (by simpa using hi) (by omega)) (by simpa using hj) (by simpa using h)]
    simp
theorem M.cells_set14 : ∀ {L : List (Nat × ByteArray)} {j : Nat} {k : Nat} {s : ByteArray}, ∀ hj : j < L.length, (L[j]'hj).1 = k → M.cells (L.set j (k, s)) = (M.cells L).set (j * 2 + 1) (.string s)
  | [], j, _, _, hj, _ => absurd hj (by simp)
  | q :: L, 0, k, s, _, h => by
    have h : q.1 = k := h
    simp [M.cells, h]
  | q :: L, j + 1, k, s, hj, h => by
    have := M.cells_set14 (L := L) (j := j) (k := k) (s := s) (by simpa using hj) (by simpa using h)
    rw [show (j + 1) * 2 + 1 = (j * 2 + 1) + 1 + 1 by omega]
    simp [M.cells, this]
theorem M.sput_lies {k n : Nat} {s : ByteArray} (hk : k < n) : ∀ {L : List (Nat × ByteArray)}, (∀ p ∈ L, p.1 < n) → ∀ p ∈ M.sput k s L, p.1 < n
  | [], _, p, hp => by
    simp [M.sput] at hp
    rw [hp]
    exact hk
  | q :: L, h, p, hp => by
    unfold M.sput at hp
    split at hp
    · rcases List.mem_cons.1 hp with rfl | hp
      · exact hk
      · exact h p (List.mem_cons_of_mem _ hp)
    · rcases List.mem_cons.1 hp with rfl | hp
      · exact h _ (List.mem_cons_self ..)
      · exact M.sput_lies hk (fun p hp => h p (List.mem_cons_of_mem _ hp)) p hp
theorem M.sput_len (k : Nat) (s : ByteArray) : ∀ L : List (Nat × ByteArray), (M.sput k s L).length = if (M.sfind k L).isSome then L.length else L.length + 1
  | [] => rfl
  | q :: L => by
    have := M.sput_len k s L
    unfold M.sput M.sfind
    split
    · simp
    · simp [this]
      split <;> simp

def M.wstageE (r : M.W) (k : Int) (s : ByteArray) : Int :=
  if r.act = true then (if M.wHas r.seen.length k = true ∧ M.wown r k = false then (if s.size = 64 then (if (M.sfind k.toNat r.staged).isSome = true then 0 else if 16 ≤ r.staged.length then 6 else 0) else 12) else 3) else 10
def M.wstage (r : M.W) (k : Int) (s : ByteArray) : M.W := if M.wstageE r k s = 0 then { r with staged := M.sput k.toNat s r.staged } else r

/-- Stage once all is well. -/
structure StgOk (r : M.W) (m : Nat) (s : ByteArray) : Prop where
  act : r.act = true
  has : m < r.seen.length
  own : M.wown r m = false
  size : s.size = 64
theorem StgOk.has' {r : M.W} {m : Nat} {s : ByteArray} (h : StgOk r m s) : M.wHas r.seen.length m = true := by
  have := h.has
  unfold M.wHas
  simp
  omega
theorem StgOk.some {r : M.W} {m : Nat} {s : ByteArray} (h : StgOk r m s) (hf : (M.sfind m r.staged).isSome = true) : M.wstageE r m s = 0 ∧ M.wstage r m s = { r with staged := M.sput m s r.staged } := by
  have e : M.wstageE r m s = 0 := by unfold M.wstageE; rw [if_pos h.act, if_pos ⟨h.has', h.own⟩, if_pos h.size, Int.toNat_natCast, if_pos hf]
  exact ⟨e, by unfold M.wstage; rw [if_pos e, Int.toNat_natCast]⟩
theorem StgOk.none {r : M.W} {m : Nat} {s : ByteArray} (h : StgOk r m s) (hf : ¬ (M.sfind m r.staged).isSome = true) (hl : ¬ 16 ≤ r.staged.length) : M.wstageE r m s = 0 ∧ M.wstage r m s = { r with staged := M.sput m s r.staged } := by
  have e : M.wstageE r m s = 0 := by unfold M.wstageE; rw [if_pos h.act, if_pos ⟨h.has', h.own⟩, if_pos h.size, Int.toNat_natCast, if_neg hf, if_neg hl]
  exact ⟨e, by unfold M.wstage; rw [if_pos e, Int.toNat_natCast]⟩
theorem StgOk.full {r : M.W} {m : Nat} {s : ByteArray} (h : StgOk r m s) (hf : ¬ (M.sfind m r.staged).isSome = true) (hl : 16 ≤ r.staged.length) : M.wstageE r m s = 6 ∧ M.wstage r m s = r := by
  have e : M.wstageE r m s = 6 := by unfold M.wstageE; rw [if_pos h.act, if_pos ⟨h.has', h.own⟩, if_pos h.size, Int.toNat_natCast, if_neg hf, if_pos hl]
  exact ⟨e, by unfold M.wstage; rw [if_neg (by rw [e]; decide)]⟩

end Go.Proofs.YtmgchfjfkdkaoaaGreatDoor
