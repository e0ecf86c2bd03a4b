/-
  What is written is read, and no other sector changes: the mathematics of 9.4. No function of the program is walked in this text.
-/
import Derived.Test.YtnjhbmpdpejpcaaGWorks
namespace Go.Proofs.Ytnjhbmpdpejpcaa
open Go.RowKit

theorem M.ba_ext {a b : ByteArray} (h : a.data.toList = b.data.toList) : a = b := ByteArray.ext (Array.ext' h)
theorem M.app_list (a b : ByteArray) : (a ++ b).data.toList = a.data.toList ++ b.data.toList := by rw [ByteArray.data_append, Array.toList_append]
theorem M.ex_list (s : ByteArray) (i j : Nat) : (s.extract i j).data.toList = (s.data.toList.drop i).take (j - i) := by
  rw [ByteArray.data_extract, Array.toList_extract, List.extract_eq_take_drop]
theorem M.size_list (s : ByteArray) : s.data.toList.length = s.size := rfl
theorem M.ex_cut (s : ByteArray) (i j k : Nat) (h1 : i ≤ j) (h2 : j ≤ k) : s.extract i j ++ s.extract j k = s.extract i k := by
  apply M.ba_ext
  rw [M.app_list, M.ex_list, M.ex_list, M.ex_list]
  have e : k - i = (j - i) + (k - j) := by omega
  have e2 : i + (j - i) = j := by omega
  rw [e, List.take_add, List.drop_drop, e2]
theorem M.ex_all (s : ByteArray) (n : Nat) (h : s.size = n) : s.extract 0 n = s := by
  apply M.ba_ext
  rw [M.ex_list, List.drop_zero, Nat.sub_zero, ← h, ← M.size_list, List.take_length]
theorem M.pad_head (s : ByteArray) : (M.pad s).extract 0 s.size = s := by
  apply M.ba_ext
  rw [M.ex_list, M.pad, M.app_list, List.drop_zero, Nat.sub_zero, ← M.size_list, List.take_left]
theorem M.piece_size (s : ByteArray) (n j : Nat) (h : s.size = 64 * n) (hj : j < n) : (M.piece s j).size = 64 := by
  unfold M.piece
  rw [ByteArray.size_extract]
  omega

theorem M.cut_snoc (n at_ : Nat) (s : ByteArray) : M.cut (n + 1) at_ s = M.cut n at_ s ++ [(at_ + n, M.piece s n)] := by simp [M.cut, List.range_succ]
theorem M.seen_cut (n at_ : Nat) (s : ByteArray) (k : Nat) : M.seen0 (M.cut n at_ s) k = if at_ ≤ k ∧ k < at_ + n then some (M.piece s (k - at_)) else none := by
  induction n with
  | zero => rw [if_neg (by omega)]; rfl
  | succ n ih =>
    rw [M.cut_snoc, M.seen0_snoc, ih]
    by_cases e : at_ + n = k
    · rw [if_pos e, if_pos (by omega), show k - at_ = n by omega]
    · rw [if_neg e]
      by_cases h : at_ ≤ k ∧ k < at_ + n
      · rw [if_pos h, if_pos (by omega)]
      · rw [if_neg h, if_neg (by omega)]
theorem M.cut_mem {n at_ : Nat} {s : ByteArray} {p : Nat × ByteArray} (h : p ∈ M.cut n at_ s) : ∃ j, j < n ∧ p = (at_ + j, M.piece s j) := by
  unfold M.cut at h
  obtain ⟨j, hj, e⟩ := List.mem_map.1 h
  exact ⟨j, List.mem_range.1 hj, e.symm⟩

/-- So much was written to a disk, and nothing else. -/
structure M.Holds (d : M.D) (L : List (Nat × ByteArray)) (o : Nat) : Prop where
  calm : M.Calm d
  S : d.S = List.replicate 12 M.zero
  L : d.L = L
  ops : d.ops = o
theorem M.holds_new : M.Holds (M.new 12) [] 0 := ⟨M.calm_new 12, rfl, rfl, rfl⟩
theorem M.Holds.len {d : M.D} {L : List (Nat × ByteArray)} {o : Nat} (h : M.Holds d L o) : d.S.length = 12 := by rw [h.S, List.length_replicate]
theorem M.Holds.begin {d : M.D} {L : List (Nat × ByteArray)} {o : Nat} (h : M.Holds d L o) : M.Holds (M.beginD d) L (o + 1) := by
  rw [h.calm.D]
  exact ⟨⟨h.calm.dn, h.calm.fails, h.calm.da⟩, h.S, h.L, by show d.ops + 1 = _; rw [h.ops]⟩
theorem M.wr_holds : ∀ (L L0 : List (Nat × ByteArray)) (d : M.D) (o : Nat), M.Holds d L0 o → (∀ p ∈ L, p.1 < 12 ∧ p.2.size = 64) → (M.wr L d).1 = 0 ∧ M.Holds (M.wr L d).2 (L0 ++ L) (o + L.length) := by
  intro L
  induction L with
  | nil => intro L0 d o h _; exact ⟨rfl, by simpa [M.wr] using h⟩
  | cons p L ih =>
    intro L0 d o h hL
    obtain ⟨h1, h2⟩ := hL p (List.mem_cons_self ..)
    have hw : M.wrong d.S.length (p.1 : Int) p.2 = 0 := by
      have hb : M.hasB 12 (p.1 : Int) = true := by unfold M.hasB; simp; omega
      rw [h.len]
      unfold M.wrong
      rw [if_pos hb, if_pos h2]
    have he : M.writeE d (p.1 : Int) p.2 = 0 := by rw [h.calm.writeE]; exact hw
    have hd : M.Holds (M.writeD d (p.1 : Int) p.2) (L0 ++ [p]) (o + 1) := by
      rw [h.calm.writeD]
      unfold M.writeC
      rw [if_pos hw]
      exact ⟨⟨h.calm.dn, h.calm.fails, h.calm.da⟩, h.S, by show d.L ++ [((p.1 : Int).toNat, p.2)] = _; rw [h.L, Int.toNat_natCast], by show d.ops + 1 = _; rw [h.ops]⟩
    rw [M.wr, if_pos he]
    have := ih (L0 ++ [p]) _ (o + 1) hd (fun q hq => hL q (List.mem_cons_of_mem _ hq))
    rw [List.append_assoc] at this
    refine ⟨this.1, ?_⟩
    have h3 := this.2
    rw [show o + 1 + L.length = o + (p :: L).length by simp; omega] at h3
    exact h3
theorem M.rd_holds (s : ByteArray) (n at_ : Nat) (hat : at_ + n ≤ 12) : ∀ (m j : Nat) (d : M.D) (o : Nat), j + m = n → M.Holds d (M.cut n at_ s) o →
    (M.rd m d (at_ + j) (s.extract 0 (64 * j))).1 = s.extract 0 (64 * n) ∧ (M.rd m d (at_ + j) (s.extract 0 (64 * j))).2.1 = 0 ∧ M.Holds (M.rd m d (at_ + j) (s.extract 0 (64 * j))).2.2 (M.cut n at_ s) (o + m) := by
  intro m
  induction m with
  | zero =>
    intro j d o hj h
    have e : j = n := by omega
    subst e
    exact ⟨rfl, rfl, h⟩
  | succ m ih =>
    intro j d o hj h
    obtain ⟨h1, h2⟩ := h.calm.readE (k := at_ + j) (by rw [h.len]; omega)
    have hs : M.seen d.S d.L (at_ + j) = M.piece s j := by
      unfold M.seen
      rw [h.L, M.seen_cut, if_pos (by omega), show at_ + j - at_ = j by omega]
      rfl
    rw [M.rd, if_pos h1, h2, hs, M.piece, M.ex_cut s 0 (64 * j) (64 * j + 64) (by omega) (by omega)]
    have := ih (j + 1) _ (o + 1) (by omega) h.begin
    rw [show 64 * (j + 1) = 64 * j + 64 by omega, show at_ + (j + 1) = at_ + j + 1 by omega] at this
    rw [show o + (m + 1) = o + 1 + m by omega]
    exact this
/-- A sector that is not one of those that were written is all 0. -/
theorem M.Holds.other {d : M.D} {n at_ : Nat} {s : ByteArray} {o : Nat} (h : M.Holds d (M.cut n at_ s) o) {k : Nat} (hk : k < 12) (hn : ¬ (at_ ≤ k ∧ k < at_ + n)) : M.seen d.S d.L k = M.zero := by
  unfold M.seen
  rw [h.L, M.seen_cut, if_neg hn, h.S, Option.getD_none, List.getD_eq_getElem?_getD, List.getElem?_replicate, if_pos hk]
  rfl

/-- What RegionOwn writes and reads. -/
theorem M.own_yes {fr mn a n : Nat} {s : ByteArray} (hfm : fr + mn ≤ 12) (han : a + n ≤ mn) (hs : s.size = 64 * n) :
    (M.gwrite (M.new 12) fr mn (a : Nat) s).1 = 0 ∧ M.Holds (M.gwrite (M.new 12) fr mn (a : Nat) s).2 (M.cut n (fr + a) s) n := by
  have hw : M.within (a : Int) ((n : Nat) : Int) (mn : Nat) = true := by unfold M.within; simp; omega
  have hg : M.gsplit fr mn (a : Nat) s = (M.cut n (fr + a) s, 0) := by
    unfold M.gsplit
    rw [if_pos (by omega), show s.size / 64 = n by omega, if_pos hw, Int.toNat_natCast]
  unfold M.gwrite
  rw [hg, if_pos rfl]
  have := M.wr_holds (M.cut n (fr + a) s) [] (M.new 12) 0 M.holds_new (fun p hp => by
    obtain ⟨j, hj, rfl⟩ := M.cut_mem hp
    exact ⟨by show fr + a + j < 12; omega, M.piece_size s n j hs hj⟩)
  rw [List.nil_append, M.cut_len, Nat.zero_add] at this
  exact this
theorem M.own_no {fr mn n : Nat} {i : Int} {s : ByteArray} (hs : s.size = 64 * n) (hw : M.within i ((n : Nat) : Int) (mn : Nat) = false) : M.gwrite (M.new 12) fr mn i s = (3, M.new 12) := by
  have hg : M.gsplit fr mn i s = ([], 3) := by
    unfold M.gsplit
    rw [if_pos (by omega), show s.size / 64 = n by omega, if_neg (by rw [hw]; simp)]
  unfold M.gwrite
  rw [hg, if_neg (by simp)]
theorem M.own_read {fr mn a n : Nat} {s : ByteArray} {d : M.D} {o : Nat} (hfm : fr + mn ≤ 12) (han : a + n ≤ mn) (hs : s.size = 64 * n) (h : M.Holds d (M.cut n (fr + a) s) o) :
    (M.gread d fr mn (a : Nat) (n : Nat)).1 = s ∧ (M.gread d fr mn (a : Nat) (n : Nat)).2.1 = 0 ∧ M.Holds (M.gread d fr mn (a : Nat) (n : Nat)).2.2 (M.cut n (fr + a) s) (o + n) := by
  have hw : M.within (a : Int) ((n : Nat) : Int) (mn : Nat) = true := by unfold M.within; simp; omega
  unfold M.gread
  rw [if_pos hw, Int.toNat_natCast, Int.toNat_natCast]
  have := M.rd_holds s n (fr + a) (by omega) n 0 d o (by omega) h
  rw [show 64 * 0 = 0 from rfl, show s.extract 0 0 = (⟨#[]⟩ : ByteArray) by apply M.ba_ext; rw [M.ex_list]; rfl, Nat.add_zero, M.ex_all s (64 * n) hs] at this
  exact this
end Go.Proofs.Ytnjhbmpdpejpcaa
