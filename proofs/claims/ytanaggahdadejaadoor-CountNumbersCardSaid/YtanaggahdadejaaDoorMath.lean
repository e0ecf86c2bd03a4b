/-
  Plain mathematics for layer 1 (count): the words of a line as lists of bytes; what a character that is no ASCII spans. No program in this text.
-/
import Derived.Lib.DecodeN
import Derived.Laws.RangeAny
namespace Go.Proofs.YtanaggahdadejaaDoor.M

def piece (cur : List UInt8) : List (List UInt8) := if cur = [] then [] else [cur]
def wgo : List UInt8 → List UInt8 → List (List UInt8)
  | [], cur => piece cur
  | c :: r, cur => if c = 32 then piece cur ++ wgo r [] else wgo r (cur ++ [c])
def words (l : List UInt8) : List (List UInt8) := wgo l []
/-- What is still to come of the words, where the loop stands at i and the part that is begun begins at k. -/
def wst (l : List UInt8) (k i : Nat) : List (List UInt8) := wgo (l.drop i) ((l.take i).drop k)

theorem wst_start (l : List UInt8) : wst l 0 0 = words l := by simp [wst, words]
theorem wst_end (l : List UInt8) (k i : Nat) (h : l.length ≤ i) : wst l k i = piece (l.drop k) := by
  rw [wst, List.drop_of_length_le h, List.take_of_length_le h, wgo]
theorem wst_blank (l : List UInt8) (k i : Nat) (h : i < l.length) (hb : l[i] = 32) : wst l k i = piece ((l.take i).drop k) ++ wst l (i + 1) (i + 1) := by
  rw [wst, List.drop_eq_getElem_cons h, wgo, if_pos hb, wst]
  congr 2
  rw [List.drop_of_length_le (by simp; omega)]
theorem wst_other (l : List UInt8) (k i : Nat) (hk : k ≤ i) (h : i < l.length) (hb : ¬ l[i] = 32) : wst l k i = wst l k (i + 1) := by
  rw [wst, List.drop_eq_getElem_cons h, wgo, if_neg hb, wst]
  congr 1
  rw [List.take_succ_eq_append_getElem h, List.drop_append_of_le_length (by simp; omega)]
theorem wst_skip (l : List UInt8) (k : Nat) : ∀ (n i : Nat), k ≤ i → i + n ≤ l.length → (∀ j (hj : j < l.length), i ≤ j → j < i + n → ¬ l[j] = 32) → wst l k i = wst l k (i + n)
  | 0, i, _, _, _ => rfl
  | n + 1, i, hk, hn, hb => by
    rw [wst_other l k i hk (by omega) (hb i (by omega) (by omega) (by omega)), wst_skip l k n (i + 1) (by omega) (by omega) (fun j hj h1 h2 => hb j hj (by omega) (by omega))]
    congr 1
    omega

theorem piece_mem {cur w : List UInt8} (h : w ∈ piece cur) : w = cur ∧ cur ≠ [] := by
  unfold piece at h
  split at h
  · simp at h
  · simp at h; exact ⟨h, by assumption⟩
theorem wgo_mem : ∀ (l cur : List UInt8), ¬ (32 : UInt8) ∈ cur → ∀ w, w ∈ wgo l cur → w ≠ [] ∧ ¬ (32 : UInt8) ∈ w
  | [], cur, hc, w, hw => by
    obtain ⟨rfl, h⟩ := piece_mem hw
    exact ⟨h, hc⟩
  | c :: r, cur, hc, w, hw => by
    rw [wgo] at hw
    split at hw
    · rcases List.mem_append.1 hw with h | h
      · obtain ⟨rfl, h⟩ := piece_mem h
        exact ⟨h, hc⟩
      · exact wgo_mem r [] (by simp) w h
    · rename_i hne
      exact wgo_mem r (cur ++ [c]) (by simp [hc]; exact fun e => hne e.symm) w hw
theorem words_mem (l w : List UInt8) (h : w ∈ words l) : w ≠ [] ∧ ¬ (32 : UInt8) ∈ w := wgo_mem l [] (by simp) w h
theorem wgo_plain : ∀ (l cur : List UInt8), ¬ (32 : UInt8) ∈ l → wgo l cur = piece (cur ++ l)
  | [], cur, _ => by simp [wgo]
  | c :: r, cur, h => by
    simp only [List.mem_cons, not_or] at h
    rw [wgo, if_neg (fun e => h.1 e.symm), wgo_plain r _ h.2]
    simp
theorem words_one (w : List UInt8) (h0 : w ≠ []) (h1 : ¬ (32 : UInt8) ∈ w) : words w = [w] := by
  rw [words, wgo_plain w [] h1, piece, if_neg (by simpa using h0)]
  simp
theorem piece_len (cur : List UInt8) : (piece cur).length ≤ 1 := by unfold piece; split <;> simp
theorem wgo_len : ∀ (l cur : List UInt8), (wgo l cur).length ≤ l.length + 1
  | [], cur => by rw [wgo]; have := piece_len cur; simp; omega
  | c :: r, cur => by
    rw [wgo]
    split
    · have := piece_len cur; have := wgo_len r []; simp; omega
    · have := wgo_len r (cur ++ [c]); simp; omega
theorem words_len (l : List UInt8) : (words l).length ≤ l.length + 1 := wgo_len l []
theorem wgo_each : ∀ (l cur w : List UInt8), w ∈ wgo l cur → w.length ≤ cur.length + l.length
  | [], cur, w, hw => by obtain ⟨rfl, _⟩ := piece_mem hw; simp
  | c :: r, cur, w, hw => by
    rw [wgo] at hw
    split at hw
    · rcases List.mem_append.1 hw with h | h
      · obtain ⟨rfl, _⟩ := piece_mem h; simp
      · have := wgo_each r [] w h; simp at this ⊢; omega
    · have := wgo_each r (cur ++ [c]) w hw; simp at this ⊢; omega
theorem words_each (l w : List UInt8) (h : w ∈ words l) : w.length ≤ l.length := by have := wgo_each l [] w h; simpa using this

theorem get_bang (s : ByteArray) (j : Nat) (h : j < s.size) : s.get! j = s[j]'h := by
  simp [ByteArray.get!, getElem!_pos, h]
  rfl
theorem list_at (s : ByteArray) (j : Nat) (h : j < s.size) : s.data.toList[j]'(by simpa using h) = s[j]'h := rfl
theorem size_list (s : ByteArray) : s.data.toList.length = s.size := rfl

set_option maxHeartbeats 1000000 in
/-- A character that begins with a byte of 128 or more spans such bytes alone. -/
theorem decode_span (s : ByteArray) (pos : Nat) (h : pos < s.size) (ha : 128 ≤ (s[pos]'h).toNat) :
    128 ≤ (Utf8.decode s pos).1 ∧ 1 ≤ (Utf8.decode s pos).2 ∧ pos + (Utf8.decode s pos).2 ≤ s.size ∧ ∀ j, pos ≤ j → j < pos + (Utf8.decode s pos).2 → 128 ≤ (s.get! j).toNat := by
  refine ⟨(decode_high s pos h ha).1, (decode_high s pos h ha).2, ?_⟩
  rw [← get_bang s pos h] at ha
  rw [Lib.decode_at, Lib.decodeN]
  have hj : ∀ j, pos ≤ j → j < pos + 4 → j = pos ∨ j = pos + 1 ∨ j = pos + 2 ∨ j = pos + 3 := fun j _ _ => by omega
  repeat' split
  all_goals (refine ⟨by simp only []; omega, fun j h1 h2 => ?_⟩; simp only [] at h2; rcases hj j h1 (by omega) with e | e | e | e <;> subst e <;> omega)

end Go.Proofs.YtanaggahdadejaaDoor.M
