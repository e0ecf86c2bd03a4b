/-
  Walks over count.isNatural, count.Text, count.Read.
-/
import Derived.Test.YtanaggahdadejaaDoorWords
import Derived.Test.YtanaggahdadejaaDoorShelf
import Derived.Test.YtanaggahdadejaaDoorNumMath
import Derived.Lib.AtoiErrMem
import Derived.Lib.ItoaLen
namespace Go.Proofs.YtanaggahdadejaaDoor
open Go.RowKit

theorem ret_bool {a b : Bool} (h : a = b) : Ending.returned (.bool a) = .returned (.bool b) := by rw [h]
theorem ret_int {k : IntKind} {a b : Int} (h : a = b) : Ending.returned (.int k a) = .returned (.int k b) := by rw [h]

theorem toList_data (s : ByteArray) : s.toList = s.data.toList := ByteArray.toList_eq s

set_option maxHeartbeats 1000000 in
theorem isNatural_any (s : ByteArray) (w : World) :
    Calls Tryd.prog 20 #[.string s] w fun e w' => e = .returned (.bool (M.natB s.data.toList)) ∧ Below w.heap.size w w' := by
  have HSL := Lib.hid (M.size_list s)
  go_enter Tryd.func20, Tryd.ntmps20
  go_wp2_with fail
  go_loopw [4] (fun _ wr => ∃ (pos : Nat), wr.heap[w.heap.size]? = some (.stringIter s pos) ∧ pos ≤ s.size ∧ Below w.heap.size w wr ∧ Hid ((s.data.toList.take pos).all M.digB = true)) (fun _ wr => s.size - wr.iterPos w.heap.size)
  case atStart => exact ⟨0, World.iter_heap w s 0, Nat.zero_le _, (Below.refl _ _).alloc (Nat.le_refl _) _, rfl⟩
  case round =>
    obtain ⟨pos, hit, hps, hbw, HS⟩ := hrel
    have HP := Lib.hid (iterPos_of hit)
    by_cases hp : pos < s.size
    · by_cases ha : (s[pos]'hp).toNat < 128
      · have hnx : ∀ ty, (Instr.next (.pointer (some ⟨w.heap.size, 0, none⟩)) true ty).run Tryd.prog wr = _ := fun ty => Lib.run_next_ascii_at wr w.heap.size s pos ty hit hp ha
        have hit2 := Lib.iterAt_heap wr w.heap.size s pos (pos + 1) hit
        have hbw2 := Lib.below_iterAt hbw (k := w.heap.size) (Nat.le_refl _) s (pos + 1)
        obtain ⟨W1, hW1⟩ : ∃ W1, W1 = wr.iterAt w.heap.size s (pos + 1) := ⟨_, rfl⟩
        rw [← hW1] at hnx hit2 hbw2
        clear hW1 hit hbw
        by_cases hd : 48 ≤ (s[pos]'hp).toNat ∧ (s[pos]'hp).toNat ≤ 57
        · have h1 := hd.1
          have h2 := hd.2
          have HN : Hid ((s.data.toList.take (pos + 1)).all M.digB = true) := M.all_take_succ _ pos hp HS.out (by rw [M.list_at s pos hp]; simp [M.digB, h1, h2])
          clear hd
          go_wp2_with fail
          go_roundw
          case rel => exact ⟨pos + 1, hit2, by omega, hbw2, HN⟩
          case measure => rw [iterPos_of hit2, HP.out]; omega
        · have HN : Hid (M.natB s.data.toList = false) := M.all_no _ pos hp (by rw [M.list_at s pos hp]; simp [M.digB]; omega)
          have hdd : (s[pos]'hp).toNat < 48 ∨ 57 < (s[pos]'hp).toNat := by omega
          clear hd
          rcases hdd with hdd | hdd
          · go_wp2_with fail
            go_ret
            exact ⟨ret_bool HN.out.symm, hbw2⟩
          · have hd3 : ¬ (s[pos]'hp).toNat < 48 := by omega
            go_wp2_with fail
            go_ret
            exact ⟨ret_bool HN.out.symm, hbw2⟩
      · have hnx : ∀ ty, (Instr.next (.pointer (some ⟨w.heap.size, 0, none⟩)) true ty).run Tryd.prog wr = _ := fun ty => Lib.run_next_any_at wr w.heap.size s pos ty hit hp
        have h128 := (M.decode_span s pos hp (by omega)).1
        obtain ⟨r, hr⟩ : ∃ r, r = (Utf8.decode s pos).1 := ⟨_, rfl⟩
        obtain ⟨d, hd⟩ : ∃ d, d = (Utf8.decode s pos).2 := ⟨_, rfl⟩
        rw [← hr] at h128
        rw [← hr, ← hd] at hnx
        have hbw2 := Lib.below_iterAt hbw (k := w.heap.size) (Nat.le_refl _) s (pos + d)
        obtain ⟨W1, hW1⟩ : ∃ W1, W1 = wr.iterAt w.heap.size s (pos + d) := ⟨_, rfl⟩
        rw [← hW1] at hnx hbw2
        have HN : Hid (M.natB s.data.toList = false) := M.all_no _ pos hp (by rw [M.list_at s pos hp]; simp [M.digB]; omega)
        clear hW1 hit hbw hr hd ha
        have hd3 : ¬ (r : Int) < 48 := by omega
        go_wp2_with fail
        go_ret
        exact ⟨ret_bool HN.out.symm, hbw2⟩
    · have hnx : ∀ ty, (Instr.next (.pointer (some ⟨w.heap.size, 0, none⟩)) true ty).run Tryd.prog wr = _ := fun ty => Lib.run_next_end_at wr w.heap.size s pos ty hit hp
      have hall : s.data.toList.all M.digB = true := by
        have h := HS.out
        rwa [List.take_of_length_le (by rw [HSL.out]; omega)] at h
      by_cases e0 : s.toList = [48]
      · have HN := Lib.hid (M.nat_zero ((toList_data s).symm.trans e0))
        clear hall
        go_wp2_with fail
        go_ret
        exact ⟨ret_bool HN.out.symm, hbw⟩
      · by_cases e1 : s.toList = []
        · have HN := Lib.hid (M.nat_nil ((toList_data s).symm.trans e1))
          clear hall e0
          go_wp2_with fail
          go_ret
          exact ⟨ret_bool HN.out.symm, hbw⟩
        · have h0 : 0 < s.size := by
            rcases Nat.eq_zero_or_pos s.size with h | h
            · exact absurd (List.length_eq_zero_iff.1 (HSL.out.trans h)) (by rw [← toList_data]; exact e1)
            · exact h
          have HN := Lib.hid (M.nat_rest hall (by rw [← toList_data]; exact e0) (by rw [HSL.out]; exact h0))
          have f0 : (s.toList == [48]) = false := by simpa using e0
          have f1 : (!s.toList.isEmpty) = true := by simpa using e1
          have f2 : s.toList.isEmpty = false := by simpa using e1
          by_cases hz : (s[0]'h0).toNat = 48
          · have hz1 : (((s[0]'h0).toNat : Int) != 48) = false := by rw [hz]; rfl
            have HZ := Lib.hid hz
            clear hall e0 e1 hz
            go_wp2_with fail
            go_ret
            refine ⟨ret_bool ?_, hbw⟩
            rw [HN.out, M.list_at s 0 h0, HZ.out]
            simp_all
          · have hz1 : (((s[0]'h0).toNat : Int) != 48) = true := by rw [bne_iff_ne]; omega
            have HZ : Hid (((s[0]'h0).toNat == 48) = false) := by rw [Hid, beq_eq_false_iff_ne]; exact hz
            clear hall e0 e1 hz
            go_wp2_with fail
            go_ret
            refine ⟨ret_bool ?_, hbw⟩
            rw [HN.out, M.list_at s 0 h0, HZ.out]
            simp_all

/-! ### What the calls read of the package-level variables -/
theorem var_below {P : Program} {W W' : World} {n : String} {cs : Array Value} (h : Below W.heap.size W W') (hv : W.var? P n = some cs) : W'.var? P n = some cs := by
  unfold World.var? at hv ⊢
  cases hg : P.globalNamed n with
  | none => rw [hg] at hv; cases hv
  | some g =>
    simp only [hg, Option.bind_some] at hv ⊢
    by_cases hlt : g < W.heap.size
    · rw [h.block g hlt]; exact hv
    · rw [Array.getElem?_eq_none (by omega)] at hv; cases hv
def Env (w : World) : Prop := Lib.TabIs Tryd.prog w "internal/strconv.uint64pow10" .u64 Lib.pow10Tab ∧ ∃ tp p, w.var? Tryd.prog "strconv.ErrRange" = some #[.iface tp p]
theorem Env.below {w w' : World} (h : Env w) (hb : Below w.heap.size w w') : Env w' :=
  ⟨var_below hb h.1, h.2.elim fun tp h => ⟨tp, h.elim fun p h => ⟨p, var_below hb h⟩⟩⟩

theorem below_grow (w : World) (k : Nat) (os : Array Obj) : Below w.heap.size w (Sort.grow (w.drewN k) os) :=
  ⟨rfl, rfl, rfl, by show w.heap.size ≤ (w.heap ++ os).size; simp, fun i hi => by show (w.heap ++ os)[i]? = _; rw [Array.getElem?_append_left hi]⟩

theorem text_any (n : Int) (h0 : -9223372036854775808 ≤ n) (h1 : n ≤ 9223372036854775807) (w : World) (hE : Env w) :
    Calls Tryd.prog 11 #[.int .i64 n] w fun e w' => e = .returned (.string ⟨(Lib.itoa n).toArray⟩) ∧ Below w.heap.size w w' := by
  have hT := Lib.hid hE.1
  clear hE
  go_enter Tryd.func11, Tryd.ntmps11
  go_wp2_with fail
  refine (Tryd.strconv_Itoa n h0 h1 _ hT.out).mono ?_
  rintro e w' ⟨rfl, k, os, hw⟩
  have hb := below_grow w k os
  rw [← hw] at hb
  clear hw
  go_wp2_with fail
  go_ret
  exact ⟨rfl, hb⟩
theorem isNatural_is (l : List UInt8) (b : Bool) (h : M.natB l = b) (w : World) :
    Calls Tryd.prog 20 #[.string ⟨l.toArray⟩] w fun e w' => e = .returned (.bool b) ∧ Below w.heap.size w w' := by
  subst h
  exact isNatural_any ⟨l.toArray⟩ w

def readT (l : List UInt8) : Value := .tuple #[.int .i64 (M.readP l).1, .int .i64 (M.readP l).2]
theorem readT_eq {l : List UInt8} {p : Int × Int} (h : M.readP l = p) : Ending.returned (.tuple #[.int .i64 p.1, .int .i64 p.2]) = .returned (readT l) := by rw [readT, h]

set_option maxHeartbeats 1000000 in
theorem read_any (s : ByteArray) (hs : s.size ≤ 100000) (w : World) (hE : Env w) :
    Calls Tryd.prog 9 #[.string s] w fun e w' => e = .returned (readT s.data.toList) ∧ Below w.heap.size w w' := by
  have HE := Lib.hid hE
  clear hE
  by_cases e0 : s.toList = [45, 48]
  · have HR := Lib.hid (M.read_minus0 ((toList_data s).symm.trans e0))
    go_enter Tryd.func9, Tryd.ntmps9
    go_wp2_with fail
    go_ret2
    exact ⟨readT_eq HR.out, Below.refl _ _⟩
  · have f0 : (s.toList == [45, 48]) = false := by simpa using e0
    have f1 : ¬ s.data.toList = [45, 48] := by rw [← toList_data]; exact e0
    have F1 := Lib.hid f1
    clear f1 e0
    cases hN : M.natB (Lib.trimPrefix s.data.toList [45]) with
    | false =>
      have HR := Lib.hid (M.read_form hN)
      have HN := Lib.hid hN
      clear hN
      go_enter Tryd.func9, Tryd.ntmps9
      go_wp2_with fail
      refine (Tryd.strings_TrimPrefix _ _ _).mono ?_
      rintro e w' ⟨rfl, rfl⟩
      go_wp2_with fail
      refine (isNatural_is _ _ HN.out _).mono ?_
      rintro e w1 ⟨rfl, hb1⟩
      go_wp2_with fail
      go_ret2
      exact ⟨readT_eq HR.out, hb1⟩
    | true =>
      have HN := Lib.hid hN
      rcases M.read_num F1.out hN with ⟨v, hv, hR⟩ | ⟨hv, hR⟩
      · have HR := Lib.hid hR
        have HV := Lib.hid hv
        clear hN hR hv
        go_enter Tryd.func9, Tryd.ntmps9
        go_wp2_with fail
        refine (Tryd.strings_TrimPrefix _ _ _).mono ?_
        rintro e w' ⟨rfl, rfl⟩
        go_wp2_with fail
        refine (isNatural_is _ _ HN.out _).mono ?_
        rintro e w1 ⟨rfl, hb1⟩
        go_wp2_with fail
        refine (Tryd.strconv_ParseInt_10_at64_ok _ (by omega) v HV.out _).mono ?_
        rintro e w2 ⟨rfl, hw2⟩
        have hb2 : Below w'.heap.size w' w2 := by
          rcases hw2 with rfl | ⟨t, rfl⟩
          · exact hb1
          · exact hb1.trans ((Lib.bytesWorld_below _ _ _).mono hb1.size)
        clear hw2
        go_wp2_with fail
        go_ret2
        exact ⟨readT_eq HR.out, hb2⟩
      · have HR := Lib.hid hR
        have HV := Lib.hid hv
        clear hN hR hv
        go_enter Tryd.func9, Tryd.ntmps9
        go_wp2_with fail
        refine (Tryd.strings_TrimPrefix _ _ _).mono ?_
        rintro e w' ⟨rfl, rfl⟩
        go_wp2_with fail
        refine (isNatural_is _ _ HN.out _).mono ?_
        rintro e w1 ⟨rfl, hb1⟩
        have HE1 := Lib.hid (HE.out.below hb1)
        obtain ⟨tp, p, hvar⟩ := HE1.out.2
        have HVAR := Lib.hid hvar
        clear hvar
        go_wp2_with fail
        refine (Tryd.strconv_ParseInt_10_at64_range_var _ (by omega) HV.out tp p _ HVAR.out).mono ?_
        rintro e w2 ⟨N, rfl, hN1, hN2, hbb⟩
        have hb2 : Below w'.heap.size w' w2 := hb1.trans (hbb.mono hb1.size)
        clear hN1 hN2 hbb
        go_wp2_with fail
        go_ret2
        exact ⟨readT_eq HR.out, hb2⟩
end Go.Proofs.YtanaggahdadejaaDoor
