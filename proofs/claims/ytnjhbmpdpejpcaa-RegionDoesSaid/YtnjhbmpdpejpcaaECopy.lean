/-
  append([]T{}, v...): a row is copied into a new one; v an owned row, nil or empty too. No function of the program in this text.
-/
import Derived.Test.YtnjhbmpdpejpcaaDBase
import Derived.Maps.AppendAt
import Derived.Laws.AppendOwnNone
import Derived.OwnWalk
namespace Go.Proofs.Ytnjhbmpdpejpcaa
open Go.RowKit

theorem owns_empty (u : World) (t : TypeId) (z : Nat) : (u.alloc (.cells #[] t)).ownsRow u.heap.size t z (.slice (some ⟨u.heap.size, 0, none⟩) 0 0) 0 [] :=
  ⟨by simp, Or.inr ⟨_, 0, #[], rfl, Nat.le_refl _, heap_alloc_new u _, Nat.le_refl _, Nat.zero_le _, by simp, by simp⟩⟩
theorem owns_mono {w : World} {B B' : Nat} {t : TypeId} {z n : Nat} {v : Value} {xs : List Value} (h : w.ownsRow B t z v n xs) (hB : B' ≤ B) : w.ownsRow B' t z v n xs :=
  ⟨h.1, h.2.imp id (fun ⟨g, cap, cur, e, h1, h2⟩ => ⟨g, cap, cur, e, Nat.le_trans hB h1, h2⟩)⟩

theorem wpList_append_copy {P : Program} {w : World} {ops : Array Oper} {rest : List Oper} {o : Oper} {a : Act} {Q : Exit → Act → World → Prop} (hgd : o.guard = none) (s x : Operand) (t : TypeId)
    (ho : o.op = .call { callee := .builtin .append, args := #[s, x], argTypes := #[t, t] })
    (e : TypeId) (i : TypeInfo) (z : Value) (size bytes : Nat) (ht : P.underlying t = some (.slice e)) (hi : P.info? e = some i) (hz : i.zero = some z)
    (hsize : i.size = size) (hby : i.bytes = bytes) (hzs : z.cells.size = size) (hsz : 0 < size)
    (H : Nat) (hH : w.heap.size = H) (hs : a.eval s = .slice (some ⟨H, 0, none⟩) 0 0) (v : Value) (n : Nat) (xs : List Value) (hx : a.eval x = v) (hown : w.ownsRow 0 e size v n xs) (h1 : ∀ u ∈ xs, u.oneCell' = true)
    (h63 : n ≤ maxLen) (hbytes : n * bytes ≤ 140737488355328)
    (h : ∀ g cap w', w'.ownsRow 0 e size (.slice (some ⟨g, 0, none⟩) n cap) n xs → Kept (fun _ => False) w w' → w.heap.size ≤ g → wpList P ops Q rest (a.put o.dst (.slice (some ⟨g, 0, none⟩) n cap)) w') :
    wpList P ops Q (o :: rest) a (w.alloc (.cells #[] e)) := by
  subst hH
  have he := owns_empty w e size
  have hk0 : Kept (fun _ => False) w (w.alloc (.cells #[] e)) := (Kept.refl _ w).alloc _
  rcases hown.2 with ⟨rfl, rfl⟩ | ⟨g0, c0, cur, rfl, hb0, hg0, hc0, _⟩
  · have hxs : xs = [] := List.eq_nil_of_length_eq_zero (by simpa using hown.1)
    subst hxs
    refine wpList_append_own_none hgd s x t ho w.heap.size e i size ht hi _ 0 [] hs he hx ?_
    exact h _ 0 _ (owns_mono he (Nat.zero_le _)) hk0 (Nat.le_refl _)
  · refine wpList_append_own_at _ hgd s x t ho w.heap.size e i z size bytes ht hi hz hsize hby hzs hsz _ 0 [] hs he ⟨g0, 0, none⟩ n c0 xs hx hown.1 (fun j u hj => ?_) h1 (by omega) (by rw [Nat.zero_add]; exact hbytes) (by rw [World.size_alloc]; omega) ?_
    · have hc := hown.cells (g := g0) rfl j u hj
      rw [blk_add] at hc ⊢
      exact (World.cell?_of_block (Below.heap_alloc w _ _ (lt_of_block hg0))).trans hc
    · intro v' w' ho' hgr hnil hat
      rw [Nat.zero_add, List.nil_append] at ho'
      have hk : Kept (fun _ => False) w w' := hk0.grown hgr (fun k e hk => by
        have : w.heap.size = k := by simpa [Value.ownBlock] using e
        omega)
      rcases ho'.2 with ⟨e1, _⟩ | ⟨g, cap, cur', rfl, hg, _⟩
      · exact absurd (hnil.1 e1).1 (by simp)
      · exact h g cap w' (owns_mono ho' (Nat.zero_le _)) hk hg
end Go.Proofs.Ytnjhbmpdpejpcaa
