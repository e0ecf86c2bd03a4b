/-
  Walks over solderref01.Read.
-/
import Derived.Test.YtanaggahdadejaaDoorNat
namespace Go.Proofs.YtanaggahdadejaaDoor
open Go.RowKit

def gtL (x y : List UInt8) : Bool := !(Op.bytesLess x y || x == y)
theorem run_gtr (a b : ByteArray) (w : World) : (binOp BinOp.gtr 9 (.string a) (.string b)).run Tryd.prog w = .ok (.bool (gtL a.toList b.toList)) w := by
  simp [binOp, Op.stringOp, gtL]

namespace M
theorem readP_pos_form {l : List UInt8} (h : ¬ l.head? = some 45) (hn : natB l = false) : readP l = (0, 4) := read_form (by rw [trim_pos h]; exact hn)
theorem readP_pos_ok {l : List UInt8} (h : ¬ l.head? = some 45) (hn : natB l = true) (hv : numv l < 9223372036854775808) : readP l = ((numv l : Int), 0) := by
  rw [readP, trim_pos h, if_neg, if_neg h, if_pos hv]
  rintro (e | e)
  · exact h (by rw [e]; rfl)
  · rw [hn] at e; cases e
theorem readP_pos_big {l : List UInt8} (h : ¬ l.head? = some 45) (hn : natB l = true) (hv : ¬ numv l < 9223372036854775808) : readP l = (0, 3) := by
  rw [readP, trim_pos h, if_neg, if_neg h, if_neg hv]
  rintro (e | e)
  · exact h (by rw [e]; rfl)
  · rw [hn] at e; cases e
theorem readP_neg_form {r : List UInt8} (hn : natB r = false) : readP (45 :: r) = (0, 4) := read_form (by rw [trim_neg]; exact hn)
theorem readP_neg_ok {r : List UInt8} (h : ¬ r = [48]) (hn : natB r = true) (hv : numv r ≤ 9223372036854775808) : readP (45 :: r) = (-(numv r : Int), 0) := by
  rw [readP, trim_neg, if_neg, if_pos (by rfl), if_pos hv]
  rintro (e | e)
  · injection e with _ e; exact h e
  · rw [hn] at e; cases e
theorem readP_neg_big {r : List UInt8} (h : ¬ r = [48]) (hn : natB r = true) (hv : ¬ numv r ≤ 9223372036854775808) : readP (45 :: r) = (0, 3) := by
  rw [readP, trim_neg, if_neg, if_pos (by rfl), if_neg hv]
  rintro (e | e)
  · injection e with _ e; exact h e
  · rw [hn] at e; cases e
theorem nat_lead {l : List UInt8} (h : 1 < l.length) (h0 : l[0].toNat = 48) : natB l = false := by
  match l, h with
  | c :: d :: r, _ =>
    have hc : c = 48 := UInt8.toNat_inj.1 h0
    subst hc
    rw [natB]
    have e : ((48 :: d :: r : List UInt8) == [48]) = false := by simp
    rw [e]
    simp
theorem nat_of_all {l : List UInt8} (h : 0 < l.length) (ha : l.all digB = true) (h0 : 1 < l.length → ¬ l[0].toNat = 48) : natB l = true := by
  by_cases e : l = [48]
  · exact nat_zero e
  · rw [nat_rest ha e h]
    by_cases h1 : 1 < l.length
    · simpa using h0 h1
    · match l, h with
      | [c], _ => simp only [List.getElem_cons_zero, Bool.not_eq_true', beq_eq_false_iff_ne]; intro x; exact e (by rw [show c = 48 from UInt8.toNat_inj.1 x])
      | c :: d :: r, _ => simp at h1
end M

set_option maxHeartbeats 4000000 in
theorem refRead_pos (d s : ByteArray) (hds : d = s) (hs : d.size ≤ 3000) (h0 : 0 < d.size) (hm : ¬ (d[0]'h0).toNat = 45) (hz : 1 < d.size → ¬ (d[0]'h0).toNat = 48) (w : World) :
    Calls Tryd.prog 10 #[.string d] w fun e w' => e = .returned (readT s.data.toList) ∧ w = w' := by
  have hm1 : (((d[0]'h0).toNat : Int) == 45) = false := by rw [beq_eq_false_iff_ne]; intro e; exact hm (by omega)
  have e1 : ¬ d.toList = [] := by
    intro e
    have := congrArg List.length e
    rw [toList_data, M.size_list] at this
    exact absurd this (by show ¬ d.size = 0; omega)
  have f1 : (!d.toList.isEmpty) = true := by simpa using e1
  have f2 : d.toList.isEmpty = false := by simpa using e1
  have hh : ¬ s.data.toList.head? = some 45 := by
    rw [← hds]
    rw [List.head?_eq_getElem?, List.getElem?_eq_getElem (by rw [M.size_list]; exact h0)]
    intro e
    apply hm
    have := Option.some.inj e
    rw [M.list_at d 0 h0] at this
    rw [this]; rfl
  have HF : Hid (M.natB d.data.toList = false → M.readP s.data.toList = (0, 4)) := by rw [hds]; exact M.readP_pos_form hh
  have HOK : Hid (M.natB d.data.toList = true → M.numv d.data.toList < 9223372036854775808 → M.readP s.data.toList = ((M.numv d.data.toList : Int), 0)) := by rw [hds]; exact M.readP_pos_ok hh
  have HBIG : Hid (M.natB d.data.toList = true → ¬ M.numv d.data.toList < 9223372036854775808 → M.readP s.data.toList = (0, 3)) := by rw [hds]; exact M.readP_pos_big hh
  have HNAT : Hid (d.data.toList.all M.digB = true → M.natB d.data.toList = true) := fun ha => M.nat_of_all (by rw [M.size_list]; exact h0) ha (fun h => hz h)
  have key : decide ((1 : Int) < (d.size : Int)) = false ∨ (decide ((1 : Int) < (d.size : Int)) = true ∧ (((d[0]'h0).toNat : Int) == 48) = false) := by
    by_cases h1 : 1 < d.size
    · exact .inr ⟨decide_eq_true (by omega), by rw [beq_eq_false_iff_ne]; intro e; exact hz h1 (by omega)⟩
    · exact .inl (decide_eq_false (by omega))
  clear hds hh hm hz
  rcases key with hk | ⟨hk, hk2⟩
  all_goals go_enter Tryd.func10, Tryd.ntmps10
  all_goals go_wp2_with fail
  all_goals (
    go_loop [6] (fun j => ∃ i : Nat, i ≤ d.size ∧ j = .int .i64 i ∧ Hid ((d.data.toList.take i).all M.digB = true)) (fun j => d.size - (intOf j).toNat)
    case atStart => exact ⟨0, by omega, rfl, rfl⟩
    case round =>
      obtain ⟨i, hi, rfl, HA⟩ := hrel
      by_cases hlt : i < d.size
      · obtain ⟨c, hc⟩ : ∃ c, c = (d[i]'hlt).toNat := ⟨_, rfl⟩
        have hix : ∀ h : i < d.size, (d[i]'h).toNat = c := fun _ => hc.symm
        have hcl : (d.data.toList[i]'hlt).toNat = c := hc.symm
        clear hc
        by_cases hd : 48 ≤ c ∧ c ≤ 57
        · have HA2 : Hid ((d.data.toList.take (i + 1)).all M.digB = true) := M.all_take_succ _ i hlt HA.out (by rw [M.dig_iff, hcl]; exact hd)
          obtain ⟨hd1, hd2⟩ := hd
          clear hcl HA
          go_wp2_with fail
          go_round
          case rel => exact ⟨i + 1, by omega, by go_num, HA2⟩
          case measure => simp [intOf]; omega
        · have HN := Lib.hid (HF.out (M.all_no _ i hlt (by rw [← Bool.not_eq_true, M.dig_iff, hcl]; exact hd)))
          clear hcl HA
          have hdd : c < 48 ∨ 57 < c := by omega
          clear hd
          rcases hdd with hd1 | hd1
          · go_wp2_with fail
            go_ret2
            exact ⟨readT_eq HN.out, rfl⟩
          · have hd2 : ¬ (c : Int) < 48 := by omega
            go_wp2_with fail
            go_ret2
            exact ⟨readT_eq HN.out, rfl⟩
      · have HAA : Hid (d.data.toList.all M.digB = true) := by
          have h := HA.out
          rwa [List.take_of_length_le (by rw [M.size_list]; omega)] at h
        have HNA := Lib.hid (HNAT.out HAA.out)
        clear HA
        by_cases h19 : 19 < d.size
        · have hbig := M.num_long _ HNA.out (by rw [M.size_list]; exact h19)
          have HR := Lib.hid (HBIG.out HNA.out (by omega))
          clear hbig
          go_wp2_with fail
          go_ret2
          exact ⟨readT_eq HR.out, rfl⟩
        · have key : (((d.size : Int) == 19) = false ∧ Hid (M.numv d.data.toList < 9223372036854775808)) ∨ (((d.size : Int) == 19) = true ∧ Hid (M.numv d.data.toList < 9223372036854775808) ∧ (binOp BinOp.gtr 9 (.string d) (.string ⟨#[57, 50, 50, 51, 51, 55, 50, 48, 51, 54, 56, 53, 52, 55, 55, 53, 56, 48, 55]⟩)).run Tryd.prog w = .ok (.bool false) w) ∨ (((d.size : Int) == 19) = true ∧ Hid (¬ (M.numv d.data.toList < 9223372036854775808)) ∧ (binOp BinOp.gtr 9 (.string d) (.string ⟨#[57, 50, 50, 51, 51, 55, 50, 48, 51, 54, 56, 53, 52, 55, 55, 53, 56, 48, 55]⟩)).run Tryd.prog w = .ok (.bool true) w) := by
            by_cases he : d.size = 19
            · have hg := M.gt_pos _ HNA.out (by rw [M.size_list]; exact he)
              have hrun := run_gtr d ⟨#[57, 50, 50, 51, 51, 55, 50, 48, 51, 54, 56, 53, 52, 55, 55, 53, 56, 48, 55]⟩ w
              have hm : gtL d.toList (⟨#[57, 50, 50, 51, 51, 55, 50, 48, 51, 54, 56, 53, 52, 55, 55, 53, 56, 48, 55]⟩ : ByteArray).toList = M.gtB d.data.toList M.mostP := by rw [toList_data, toList_data]; rfl
              rw [hm, hg] at hrun
              by_cases hs2 : M.numv d.data.toList < 9223372036854775808
              · refine .inr (.inl ⟨by simp [he], hs2, ?_⟩)
                rw [hrun, decide_eq_false (by omega)]
              · refine .inr (.inr ⟨by simp [he], hs2, ?_⟩)
                rw [hrun, decide_eq_true (by omega)]
            · refine .inl ⟨by rw [beq_eq_false_iff_ne]; omega, ?_⟩
              have := M.num_short _ HNA.out (by rw [M.size_list]; omega)
              show M.numv d.data.toList < 9223372036854775808
              omega
          rcases key with ⟨he, HS⟩ | ⟨he, HS, hrun⟩ | ⟨he, HS, hrun⟩
          case inr.inr =>
            have HR := Lib.hid (HBIG.out HNA.out HS.out)
            go_wp2_with fail
            go_ret2
            exact ⟨readT_eq HR.out, rfl⟩
          all_goals (
            go_wp2_with fail
            go_loop [8, 9] (fun nv j => ∃ (i : Nat) (a : Int), i ≤ d.size ∧ j = .int .i64 i ∧ nv = .int .i64 a ∧ Hid (a = (M.numv (d.data.toList.take i) : Int))) (fun _ j => d.size - (intOf j).toNat)
            case atStart => exact ⟨0, 0, by omega, rfl, rfl, rfl⟩
            case round =>
              obtain ⟨i, a, hi, rfl, rfl, HV⟩ := hrel
              by_cases hlt : i < d.size
              · obtain ⟨c, hc⟩ : ∃ c, c = (d[i]'hlt).toNat := ⟨_, rfl⟩
                have hix : ∀ h : i < d.size, (d[i]'h).toNat = c := fun _ => hc.symm
                have hcl : (d.data.toList[i]'hlt).toNat = c := hc.symm
                clear hc
                have hdd := M.all_at _ HAA.out i hlt
                rw [hcl] at hdd
                obtain ⟨hd1, hd2⟩ := hdd
                have hts := M.num_take_succ d.data.toList i hlt
                rw [hcl] at hts
                have htl := M.num_take_le d.data.toList (i + 1)
                have hv := HV.out
                have hsm := HS.out
                have HV2 : Hid (10 * a + ((c : Int) - 48) = (M.numv (d.data.toList.take (i + 1)) : Int)) := by show _ = _; omega
                have hw1 : wrap64 (10 * a) = 10 * a := by unfold wrap64; omega
                have hw2 : wrap64 (10 * a + ((c : Int) - 48)) = 10 * a + ((c : Int) - 48) := by unfold wrap64; omega
                have hw3 : IntKind.i64.wrap (10 * a) = 10 * a := by rw [IntKind.wrap_i64]; omega
                have hw4 : IntKind.i64.wrap (10 * a + ((c : Int) - 48)) = 10 * a + ((c : Int) - 48) := by rw [IntKind.wrap_i64]; omega
                clear hts htl hv hsm hcl HV
                go_wp2_with fail
                go_round
                case rel => exact ⟨i + 1, 10 * a + ((c : Int) - 48), by omega, by go_num, rfl, HV2⟩
                case measure => simp [intOf]; omega
              · have HR : Hid (M.readP s.data.toList = (a, 0)) := by
                  show _ = _
                  rw [HOK.out HNA.out HS.out, HV.out, List.take_of_length_le (by rw [M.size_list]; omega)]
                go_wp2_with fail
                go_ret2
                exact ⟨readT_eq HR.out, rfl⟩))


set_option maxHeartbeats 4000000 in
theorem refRead_neg (s d : ByteArray) (hds : s.extract 1 s.size = d) (hs : s.size ≤ 3000) (h0 : 0 < s.size) (hm : (s[0]'h0).toNat = 45) (hd0 : 0 < d.size) (hz : 1 < d.size → ¬ (d[0]'hd0).toNat = 48) (h48 : ¬ d.data.toList = [48]) (w : World) :
    Calls Tryd.prog 10 #[.string s] w fun e w' => e = .returned (readT s.data.toList) ∧ w = w' := by
  have hm1 : (((s[0]'h0).toNat : Int) == 45) = true := by rw [hm]; rfl
  have hdl : d.data.toList = s.data.toList.drop 1 := by rw [← hds, extract_list, List.take_of_length_le (by rw [M.size_list]; omega)]
  have hcons : s.data.toList = 45 :: d.data.toList := by
    have h := List.drop_eq_getElem_cons (l := s.data.toList) (i := 0) (by rw [M.size_list]; exact h0)
    rw [List.drop_zero] at h
    rw [h, hdl, M.list_at s 0 h0]
    congr 1
    exact UInt8.toNat_inj.1 hm
  have hsz : d.size ≤ 3000 := by
    have := congrArg List.length hcons
    rw [List.length_cons, M.size_list, M.size_list] at this
    omega
  have e1 : ¬ d.toList = [] := by
    intro e
    have := congrArg List.length e
    rw [toList_data, M.size_list] at this
    exact absurd this (by show ¬ d.size = 0; omega)
  have f1 : (!d.toList.isEmpty) = true := by simpa using e1
  have f2 : d.toList.isEmpty = false := by simpa using e1
  have f3 : (d.toList == [48]) = false := by rw [toList_data]; simpa using h48
  have HF : Hid (M.natB d.data.toList = false → M.readP s.data.toList = (0, 4)) := by rw [hcons]; exact M.readP_neg_form
  have HOK : Hid (M.natB d.data.toList = true → M.numv d.data.toList ≤ 9223372036854775808 → M.readP s.data.toList = (-(M.numv d.data.toList : Int), 0)) := by rw [hcons]; exact M.readP_neg_ok h48
  have HBIG : Hid (M.natB d.data.toList = true → ¬ M.numv d.data.toList ≤ 9223372036854775808 → M.readP s.data.toList = (0, 3)) := by rw [hcons]; exact M.readP_neg_big h48
  have HNAT : Hid (d.data.toList.all M.digB = true → M.natB d.data.toList = true) := fun ha => M.nat_of_all (by rw [M.size_list]; exact hd0) ha (fun h => hz h)
  have key : decide ((1 : Int) < (d.size : Int)) = false ∨ (decide ((1 : Int) < (d.size : Int)) = true ∧ (((d[0]'hd0).toNat : Int) == 48) = false) := by
    by_cases h1 : 1 < d.size
    · exact .inr ⟨decide_eq_true (by omega), by rw [beq_eq_false_iff_ne]; intro e; exact hz h1 (by omega)⟩
    · exact .inl (decide_eq_false (by omega))
  clear hm hz hdl hcons h48
  rcases key with hk | ⟨hk, hk2⟩
  all_goals go_enter Tryd.func10, Tryd.ntmps10
  all_goals go_wp2_with fail
  all_goals (
    go_loop [6] (fun j => ∃ i : Nat, i ≤ d.size ∧ j = .int .i64 i ∧ Hid ((d.data.toList.take i).all M.digB = true)) (fun j => d.size - (intOf j).toNat)
    case atStart => exact ⟨0, by omega, rfl, rfl⟩
    case round =>
      obtain ⟨i, hi, rfl, HA⟩ := hrel
      by_cases hlt : i < d.size
      · obtain ⟨c, hc⟩ : ∃ c, c = (d[i]'hlt).toNat := ⟨_, rfl⟩
        have hix : ∀ h : i < d.size, (d[i]'h).toNat = c := fun _ => hc.symm
        have hcl : (d.data.toList[i]'hlt).toNat = c := hc.symm
        clear hc
        by_cases hd : 48 ≤ c ∧ c ≤ 57
        · have HA2 : Hid ((d.data.toList.take (i + 1)).all M.digB = true) := M.all_take_succ _ i hlt HA.out (by rw [M.dig_iff, hcl]; exact hd)
          obtain ⟨hd1, hd2⟩ := hd
          clear hcl HA
          go_wp2_with fail
          go_round
          case rel => exact ⟨i + 1, by omega, by go_num, HA2⟩
          case measure => simp [intOf]; omega
        · have HN := Lib.hid (HF.out (M.all_no _ i hlt (by rw [← Bool.not_eq_true, M.dig_iff, hcl]; exact hd)))
          clear hcl HA
          have hdd : c < 48 ∨ 57 < c := by omega
          clear hd
          rcases hdd with hd1 | hd1
          · go_wp2_with fail
            go_ret2
            exact ⟨readT_eq HN.out, rfl⟩
          · have hd2 : ¬ (c : Int) < 48 := by omega
            go_wp2_with fail
            go_ret2
            exact ⟨readT_eq HN.out, rfl⟩
      · have HAA : Hid (d.data.toList.all M.digB = true) := by
          have h := HA.out
          rwa [List.take_of_length_le (by rw [M.size_list]; omega)] at h
        have HNA := Lib.hid (HNAT.out HAA.out)
        clear HA
        by_cases h19 : 19 < d.size
        · have hbig := M.num_long _ HNA.out (by rw [M.size_list]; exact h19)
          have HR := Lib.hid (HBIG.out HNA.out (by omega))
          clear hbig
          go_wp2_with fail
          go_ret2
          exact ⟨readT_eq HR.out, rfl⟩
        · have key : (((d.size : Int) == 19) = false ∧ Hid (M.numv d.data.toList ≤ 9223372036854775808)) ∨ (((d.size : Int) == 19) = true ∧ Hid (M.numv d.data.toList ≤ 9223372036854775808) ∧ (binOp BinOp.gtr 9 (.string d) (.string ⟨#[57, 50, 50, 51, 51, 55, 50, 48, 51, 54, 56, 53, 52, 55, 55, 53, 56, 48, 56]⟩)).run Tryd.prog w = .ok (.bool false) w) ∨ (((d.size : Int) == 19) = true ∧ Hid (¬ (M.numv d.data.toList ≤ 9223372036854775808)) ∧ (binOp BinOp.gtr 9 (.string d) (.string ⟨#[57, 50, 50, 51, 51, 55, 50, 48, 51, 54, 56, 53, 52, 55, 55, 53, 56, 48, 56]⟩)).run Tryd.prog w = .ok (.bool true) w) := by
            by_cases he : d.size = 19
            · have hg := M.gt_neg _ HNA.out (by rw [M.size_list]; exact he)
              have hrun := run_gtr d ⟨#[57, 50, 50, 51, 51, 55, 50, 48, 51, 54, 56, 53, 52, 55, 55, 53, 56, 48, 56]⟩ w
              have hm : gtL d.toList (⟨#[57, 50, 50, 51, 51, 55, 50, 48, 51, 54, 56, 53, 52, 55, 55, 53, 56, 48, 56]⟩ : ByteArray).toList = M.gtB d.data.toList M.mostN := by rw [toList_data, toList_data]; rfl
              rw [hm, hg] at hrun
              by_cases hs2 : M.numv d.data.toList ≤ 9223372036854775808
              · refine .inr (.inl ⟨by simp [he], hs2, ?_⟩)
                rw [hrun, decide_eq_false (by omega)]
              · refine .inr (.inr ⟨by simp [he], hs2, ?_⟩)
                rw [hrun, decide_eq_true (by omega)]
            · refine .inl ⟨by rw [beq_eq_false_iff_ne]; omega, ?_⟩
              have := M.num_short _ HNA.out (by rw [M.size_list]; omega)
              show M.numv d.data.toList ≤ 9223372036854775808
              omega
          rcases key with ⟨he, HS⟩ | ⟨he, HS, hrun⟩ | ⟨he, HS, hrun⟩
          case inr.inr =>
            have HR := Lib.hid (HBIG.out HNA.out HS.out)
            go_wp2_with fail
            go_ret2
            exact ⟨readT_eq HR.out, rfl⟩
          all_goals (
            go_wp2_with fail
            go_loop [8, 9] (fun nv j => ∃ (i : Nat) (a : Int), i ≤ d.size ∧ j = .int .i64 i ∧ nv = .int .i64 a ∧ Hid (a = -(M.numv (d.data.toList.take i) : Int))) (fun _ j => d.size - (intOf j).toNat)
            case atStart => exact ⟨0, 0, by omega, rfl, rfl, rfl⟩
            case round =>
              obtain ⟨i, a, hi, rfl, rfl, HV⟩ := hrel
              by_cases hlt : i < d.size
              · obtain ⟨c, hc⟩ : ∃ c, c = (d[i]'hlt).toNat := ⟨_, rfl⟩
                have hix : ∀ h : i < d.size, (d[i]'h).toNat = c := fun _ => hc.symm
                have hcl : (d.data.toList[i]'hlt).toNat = c := hc.symm
                clear hc
                have hdd := M.all_at _ HAA.out i hlt
                rw [hcl] at hdd
                obtain ⟨hd1, hd2⟩ := hdd
                have hts := M.num_take_succ d.data.toList i hlt
                rw [hcl] at hts
                have htl := M.num_take_le d.data.toList (i + 1)
                have hv := HV.out
                have hsm := HS.out
                have HV2 : Hid (10 * a - ((c : Int) - 48) = -(M.numv (d.data.toList.take (i + 1)) : Int)) := by show _ = _; omega
                have hw1 : wrap64 (10 * a) = 10 * a := by unfold wrap64; omega
                have hw2 : wrap64 (10 * a - ((c : Int) - 48)) = 10 * a - ((c : Int) - 48) := by unfold wrap64; omega
                have hw3 : IntKind.i64.wrap (10 * a) = 10 * a := by rw [IntKind.wrap_i64]; omega
                have hw4 : IntKind.i64.wrap (10 * a - ((c : Int) - 48)) = 10 * a - ((c : Int) - 48) := by rw [IntKind.wrap_i64]; omega
                clear hts htl hv hsm hcl HV
                go_wp2_with fail
                go_round
                case rel => exact ⟨i + 1, 10 * a - ((c : Int) - 48), by omega, by go_num, rfl, HV2⟩
                case measure => simp [intOf]; omega
              · have HR : Hid (M.readP s.data.toList = (a, 0)) := by
                  show _ = _
                  rw [HOK.out HNA.out HS.out, HV.out, List.take_of_length_le (by rw [M.size_list]; omega)]
                go_wp2_with fail
                go_ret2
                exact ⟨readT_eq HR.out, rfl⟩))
end Go.Proofs.YtanaggahdadejaaDoor
