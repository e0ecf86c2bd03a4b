/-
  A record of which some bytes within four in a row are turned says nothing. No program in this text.
-/
import Derived.Test.YtnjlkjphkimapaaPMath
namespace Go.Proofs.Ytnjlkjphkimapaa

/-- Where the four pieces of a list lie. -/
theorem M.pieces {H T Z A : List UInt8} (told : Nat) (h1 : H.length = told) (h2 : T.length = 4) (h3 : told + 4 + Z.length = 64) :
    (∀ j, j < told → (H ++ (T ++ (Z ++ A)))[j]? = H[j]?) ∧ (∀ i, i < 4 → (H ++ (T ++ (Z ++ A)))[told + i]? = T[i]?) ∧ (∀ i, (H ++ (T ++ (Z ++ A)))[64 + i]? = A[i]?) := by
  refine ⟨fun j hj => List.getElem?_append_left (by omega), fun i hi => ?_, fun i => ?_⟩
  · rw [List.getElem?_append_right (by omega), h1, Nat.add_sub_cancel_left, List.getElem?_append_left (by omega)]
  · rw [List.getElem?_append_right (by omega), List.getElem?_append_right (by omega), List.getElem?_append_right (by omega), h1, h2]
    congr 1
    omega
theorem M.list_eq {a b : List UInt8} (hl : a.length = b.length) (h : ∀ j, j < a.length → a[j]? = b[j]?) : a = b := by
  apply List.ext_getElem?
  intro j
  by_cases hj : j < a.length
  · exact h j hj
  · rw [List.getElem?_eq_none (by omega), List.getElem?_eq_none (by omega)]
theorem M.tl_inj {c d : Nat} (hc : c < 4294967296) (hd : d < 4294967296) (h : M.tl c = M.tl d) : c = d := by
  rw [← M.le_tl c hc, ← M.le_tl d hd, h]
/-- The lists of two records of one length that differ within four bytes in a row, not both ahead of the tail and of it. -/
theorem M.turned_lists {H T Z A H' T' A' : List UInt8} {k told : Nat} (h1 : H.length = told) (h2 : T.length = 4) (h3 : told + 4 + Z.length = 64) (ht : told ≤ 40) (h1' : H'.length = told) (h2' : T'.length = 4) (h4 : A'.length = A.length)
    (e : T = M.tl (M.of (H ++ A))) (e' : T' = M.tl (M.of (H' ++ A'))) (hN : Near k (H ++ (T ++ (Z ++ A))) (H' ++ (T' ++ (Z ++ A')))) (hk : told ≤ k ∨ k + 4 ≤ told) :
    H' ++ (T' ++ (Z ++ A')) = H ++ (T ++ (Z ++ A)) := by
  obtain ⟨p1, p2, p3⟩ := M.pieces (A := A) told h1 h2 h3
  obtain ⟨q1, q2, q3⟩ := M.pieces (A := A') (H := H') (T := T') (Z := Z) told h1' h2' h3
  have hA : ∀ i, (64 + i < k ∨ k + 4 ≤ 64 + i) → A'[i]? = A[i]? := fun i hi => by rw [← q3, ← p3]; exact hN.2 _ hi
  have hT : ∀ i, i < 4 → (told + i < k ∨ k + 4 ≤ told + i) → T'[i]? = T[i]? := fun i hi h => by rw [← q2 i hi, ← p2 i hi]; exact hN.2 _ h
  have hH : ∀ j, j < told → (j < k ∨ k + 4 ≤ j) → H'[j]? = H[j]? := fun j hj h => by rw [← q1 j hj, ← p1 j hj]; exact hN.2 _ h
  have sums : T' = T → M.of (H' ++ A') = M.of (H ++ A) := fun h => M.tl_inj (M.of_lt _) (M.of_lt _) (by rw [← e, ← e', h])
  rcases hk with hk | hk
  · have eH : H' = H := M.list_eq (by omega) (fun j hj => hH j (by omega) (by omega))
    by_cases hk2 : k + 4 ≤ 64
    · have eA : A' = A := M.list_eq h4 (fun j hj => hA j (by omega))
      rw [e, e', eH, eA]
    · have eT : T' = T := M.list_eq (by omega) (fun j hj => hT j (by omega) (by omega))
      have es := sums eT
      have hNear : Near (told + (k - 64)) (H ++ A) (H' ++ A') := by
        refine ⟨by rw [List.length_append, List.length_append]; omega, fun j hj => ?_⟩
        by_cases hj2 : j < told
        · rw [List.getElem?_append_left (by omega), List.getElem?_append_left (by omega), eH]
        · rw [List.getElem?_append_right (by omega), List.getElem?_append_right (by omega), h1, h1']
          exact hA _ (by omega)
      have eq := hNear.of es
      obtain ⟨_, eA⟩ := List.append_inj eq (by omega)
      rw [eT, eH, eA]
  · have eT : T' = T := M.list_eq (by omega) (fun j hj => hT j (by omega) (by omega))
    have eA : A' = A := M.list_eq h4 (fun j hj => hA j (by omega))
    have es := sums eT
    have hNear : Near k (H ++ A) (H' ++ A') := by
      refine ⟨by rw [List.length_append, List.length_append]; omega, fun j hj => ?_⟩
      by_cases hj2 : j < told
      · rw [List.getElem?_append_left (by omega), List.getElem?_append_left (by omega)]
        exact hH j hj2 hj
      · rw [List.getElem?_append_right (by omega), List.getElem?_append_right (by omega), h1, h1', eA]
    have eq := hNear.of es
    obtain ⟨eH, _⟩ := List.append_inj eq (by omega)
    rw [eT, eH, eA]
theorem M.rec_list (a : Nat → Int) (t : Nat → ByteArray) (q n : Nat) (hn : n ≤ 16) :
    (M.rec a t q n).data.toList = (M.head a q n n).data.toList ++ (M.tl (M.of ((M.head a q n n).data.toList ++ (M.alls t n).data.toList)) ++ ((M.zeros (52 - 2 * n)).data.toList ++ (M.alls t n).data.toList)) := by
  rw [M.rec_eq a t q n hn, M.app_list, M.app_list, M.app_list]
  simp only [List.append_assoc]
  rw [M.tail, M.app_list]
theorem M.turned11 {a : Nat → Int} {t : Nat → ByteArray} {Q : Int} {n : Nat} (h : M.rE a t Q n = 0) (k : Nat) (l : List UInt8) (bs : ByteArray) (hbs : bs = ⟨l.toArray⟩) (hN : Near k (M.rec a t Q.toNat n).data.toList l)
    (hk : 8 + 2 * n ≤ k ∨ k + 4 ≤ 8 + 2 * n) (hg : M.getE bs = 0) : bs = M.rec a t Q.toNat n := by
  obtain ⟨_, h2, h3⟩ := M.rE_ok a t h
  have hsz := M.rec_size a t Q.toNat n h2.2 (fun i hi => (h3 i hi).2)
  obtain ⟨g1, g2⟩ := M.get_ok hg
  obtain ⟨_, g3, g4⟩ := M.rE_ok _ _ g1
  have hl : bs.data.toList = l := by rw [hbs]
  have hbz : bs.size = (M.rec a t Q.toNat n).size := by rw [← M.size_list, ← M.size_list, hl]; exact hN.1
  have hn : M.gN bs = n := by unfold M.gN; omega
  rw [hn] at g2 g4
  obtain ⟨a', ha'⟩ : ∃ x, x = M.gA bs := ⟨_, rfl⟩
  obtain ⟨t', ht'⟩ : ∃ x, x = M.gT bs := ⟨_, rfl⟩
  obtain ⟨q', hq'⟩ : ∃ x, x = (M.gQ bs).toNat := ⟨_, rfl⟩
  rw [← ha', ← ht', ← hq'] at g2
  rw [← ha', ← ht'] at g4
  rw [← hl, g2, M.rec_list _ _ _ _ h2.2, M.rec_list _ _ _ _ h2.2] at hN
  apply M.ba_ext
  rw [g2, M.rec_list _ _ _ _ h2.2, M.rec_list _ _ _ _ h2.2]
  have z1 := M.head_size a Q.toNat n n
  have z2 := M.head_size a' q' n n
  have z3 := M.alls_size t n (fun i hi => (h3 i hi).2)
  have z4 := M.alls_size t' n (fun i hi => (g4 i hi).2)
  rw [← M.size_list] at z1 z2 z3 z4
  have z5 : (M.zeros (52 - 2 * n)).data.toList.length = 52 - 2 * n := by rw [M.size_list, M.zeros_size]
  exact M.turned_lists (k := k) (told := 8 + 2 * n) z1 (M.tl_len _) (by omega) (by omega) z2 (M.tl_len _) (by omega) rfl rfl hN hk
/-- What Get says of the turned bytes. -/
theorem M.turned_is {a : Nat → Int} {t : Nat → ByteArray} {Q : Int} {n : Nat} (h : M.rE a t Q n = 0) (k : Nat) (l : List UInt8) (bs : ByteArray) (hbs : bs = ⟨l.toArray⟩) (hN : Near k (M.rec a t Q.toNat n).data.toList l)
    (hk : 8 + 2 * n ≤ k ∨ k + 4 ≤ 8 + 2 * n) : (bs = M.rec a t Q.toNat n ∧ M.getE bs = 0) ∨ (bs ≠ M.rec a t Q.toNat n ∧ M.getE bs ≠ 0) := by
  by_cases e : bs = M.rec a t Q.toNat n
  · exact Or.inl ⟨e, by rw [e]; exact (M.get_rec Q h).1⟩
  · exact Or.inr ⟨e, fun hg => e (M.turned11 h k l bs hbs hN hk hg)⟩
end Go.Proofs.Ytnjlkjphkimapaa
