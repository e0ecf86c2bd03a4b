/-
  Walks over solderref12.Put. The document's records in memory; what its region reads, round.
-/
import Derived.Test.YtfdbfafpcbdbdaaGreatMS
import Derived.Test.YtfdbfafpcbdbdaaGreatMO
import Derived.Test.YtfdbfafpcbdbdaaGreatMI
namespace Go.Proofs.YtfdbfafpcbdbdaaGreat
open Go.RowKit

def M.rlput (r : M.R) (fr mn : Nat) (p : Int) (s : ByteArray) : Int × M.R :=
  if s.size = 0 ∨ s.size % 64 ≠ 0 then (12, r)
  else if p < 0 ∨ (mn : Int) ≤ p ∨ mn < s.size / 64 then (3, r)
  else M.rwr (M.lay12 fr mn p.toNat (s.size / 64) s) r
theorem M.wr_sim : ∀ (L : List (Nat × ByteArray)) (d : M.D) (r : M.R), M.Same d r → (M.rwr L r).1 = (M.wr L d).1 ∧ M.Same (M.wr L d).2 (M.rwr L r).2 := by
  intro L
  induction L with
  | nil => intro d r h; exact ⟨rfl, h⟩
  | cons x L ih =>
    intro d r h
    rw [M.rwr, M.wr, h.writeE]
    by_cases hE : M.writeE d x.1 x.2 = 0
    · rw [if_pos hE, if_pos hE]
      exact ih _ _ (h.write x.1 x.2)
    · rw [if_neg hE, if_neg hE]
      exact ⟨rfl, h.write x.1 x.2⟩
theorem M.lput_sim {d : M.D} {r : M.R} (fr mn : Nat) (p : Int) (s : ByteArray) (h : M.Same d r) : (M.rlput r fr mn p s).1 = (M.lput d fr mn p s).1 ∧ M.Same (M.lput d fr mn p s).2 (M.rlput r fr mn p s).2 := by
  unfold M.rlput M.lput
  split
  · exact ⟨rfl, h⟩
  · split
    · exact ⟨rfl, h⟩
    · exact M.wr_sim _ _ _ h
theorem M.hwrite_one (r : M.R) (fr mn q : Nat) (s : ByteArray) (hq : q < mn) (hs : s.size = 64) : M.hwrite r fr mn (q : Nat) s = (M.rwriteE r ((fr + q : Nat) : Int) s, M.rwriteR r ((fr + q : Nat) : Int) s) := by
  have hw : M.within (q : Int) ((1 : Nat) : Int) (mn : Nat) = true := by unfold M.within; simp; omega
  have hg : M.gsplit fr mn (q : Nat) s = (M.cut 1 (fr + q) s, 0) := by
    unfold M.gsplit
    rw [if_pos (by omega), show s.size / 64 = 1 by omega, if_pos hw, Int.toNat_natCast]
  have hc : M.cut 1 (fr + q) s = [(fr + q, s)] := by
    have e : s.extract 0 64 = s := by rw [← hs]; exact ByteArray.extract_zero_size
    simp [M.cut, M.piece, e]
  unfold M.hwrite
  rw [hg, if_pos rfl, hc]
  show M.rwr [(fr + q, s)] r = _
  rw [M.rwr]
  by_cases h : M.rwriteE r ((fr + q : Nat) : Int) s = 0
  · rw [if_pos h, M.rwr, h]
  · rw [if_neg h]

theorem rlput_size (p : Int) (s : ByteArray) (w : World) (rb : Nat) (h : s.size = 0 ∨ s.size % 64 ≠ 0) : Calls Tryz.prog 9 #[.pointer (some ⟨rb, 0, none⟩), .int .i64 p, .string s] w fun e w' => e = .returned (.int .i64 12) ∧ w' = w := by
  by_cases h0 : s.size = 0
  · rw [M.of_size0 h0]
    go_enter Tryz.func9, Tryz.ntmps9
    go_wp2_with fail
    go_ret
    exact ⟨rfl, rfl⟩
  · have h1 : s.size % 64 ≠ 0 := by omega
    have he : (s.toList == ([] : List UInt8)) = false := by
      rw [← (show (⟨#[]⟩ : ByteArray).toList = [] by rw [ByteArray.toList_eq])]
      exact ne_of_toList (fun e => h0 (by rw [e]; rfl))
    obtain ⟨r, hr⟩ : ∃ r : Int, r = (s.size : Int).tmod 64 := ⟨_, rfl⟩
    have hr0 : (r == 0) = false := by rw [beq_eq_false_iff_ne, hr, Int.tmod_eq_emod_of_nonneg (by omega)]; omega
    have hr' := hr.symm
    clear h0 h1 hr h
    go_enter Tryz.func9, Tryz.ntmps9
    go_wp2_with fail
    go_ret
    exact ⟨rfl, rfl⟩
theorem rlput_no (p : Int) (n : Nat) (s : ByteArray) (w : World) {rb b fr mn : Nat} (hr : RReg w rb b fr mn) (hs : s.size = 64 * n) (hn : 1 ≤ n) (hn9 : n ≤ 1000000) (hp : p ≤ 9223372036854775807) (_ : mn ≤ 1000) (h : p < 0 ∨ (mn : Int) ≤ p ∨ mn < n) :
    Calls Tryz.prog 9 #[.pointer (some ⟨rb, 0, none⟩), .int .i64 p, .string s] w fun e w' => e = .returned (.int .i64 3) ∧ w' = w := by
  have c2 := hr.c2
  have he : (s.toList == ([] : List UInt8)) = false := by
    rw [← (show (⟨#[]⟩ : ByteArray).toList = [] by rw [ByteArray.toList_eq])]
    exact ne_of_toList (fun e => by rw [e] at hs; have : (0 : Nat) = 64 * n := hs; omega)
  have h1 : (s.size : Int).tmod 64 = 0 := by rw [Int.tmod_eq_emod_of_nonneg (by omega)]; omega
  have h2 : (s.size : Int).tdiv 64 = (n : Int) := by rw [Int.tdiv_eq_ediv_of_nonneg (by omega)]; omega
  by_cases h3 : p < 0
  · clear hr hs h
    go_enter Tryz.func9, Tryz.ntmps9
    go_wp2_with fail
    go_ret
    exact ⟨rfl, rfl⟩
  · by_cases h4 : (mn : Int) ≤ p
    · clear hr hs h
      go_enter Tryz.func9, Tryz.ntmps9
      go_wp2_with fail
      go_ret
      exact ⟨rfl, rfl⟩
    · have h5 : decide (mn < n) = true := by simp; omega
      have h6 : (mn : Int) < (n : Int) := by omega
      clear hr hs h
      go_enter Tryz.func9, Tryz.ntmps9
      go_wp2_with fail
      go_ret
      exact ⟨rfl, rfl⟩

set_option maxRecDepth 100000 in
set_option maxHeartbeats 2000000 in
theorem rlput_yes (p n : Nat) (s : ByteArray) (w : World) {rb b fr mn : Nat} {P : Nat → Prop} {r : M.R} (h : Ref w b P r) (hr : RReg w rb b fr mn) (hP : ¬ P rb) (hs : s.size = 64 * n) (hn : 1 ≤ n) (hnm : n ≤ mn) (hf : fr ≤ 1000) (hmn : mn ≤ 1000) (hp : p < mn) (ho : r.ops ≤ 100000000) :
    Calls Tryz.prog 9 #[.pointer (some ⟨rb, 0, none⟩), .int .i64 (p : Nat), .string s] w fun e w' =>
      e = .returned (.int .i64 (M.rwr (M.lay12 fr mn p n s) r).1) ∧ Ref w' b (M.plus P w.heap.size) (M.rwr (M.lay12 fr mn p n s) r).2 ∧ Kept P w w' := by
  have c2 := hr.c2
  have he : (s.toList == ([] : List UInt8)) = false := by
    rw [← (show (⟨#[]⟩ : ByteArray).toList = [] by rw [ByteArray.toList_eq])]
    exact ne_of_toList (fun e => by rw [e] at hs; have : (0 : Nat) = 64 * n := hs; omega)
  have h1 : (s.size : Int).tmod 64 = 0 := by rw [Int.tmod_eq_emod_of_nonneg (by omega)]; omega
  have h2 : (s.size : Int).tdiv 64 = (n : Int) := by rw [Int.tdiv_eq_ediv_of_nonneg (by omega)]; omega
  have h3 : decide (mn < n) = false := by simp; omega
  have h4 : decide (mn ≤ p) = false := by simp; omega
  obtain ⟨B, hB⟩ : ∃ B, B = w.heap.size := ⟨_, rfl⟩
  have hrb := hr.lt
  have HC : Hid (∀ y, Kept P w y → y.cell? ⟨rb, 2, none⟩ = some (.int .i64 (mn : Nat))) := fun y hk => (hr.kept hk hP).c2
  have HWR : Hid (∀ (q : Nat) (t : ByteArray) (y : World) (rk : M.R), q < mn → t.size = 64 → rk.ops ≤ 1000000000 → (Ref y b (M.plus P B) rk ∧ Kept P w y) → Calls Tryz.prog 33 #[.pointer (some ⟨rb, 0, none⟩), .int .i64 (q : Nat), .string t] y fun e y' =>
      e = .returned (.int .i64 (M.rwriteE rk ((fr + q : Nat) : Int) t)) ∧ Ref y' b (M.plus P B) (M.rwriteR rk ((fr + q : Nat) : Int) t) ∧ Kept P w y') := fun q t y rk hq ht hdo ⟨hd, hk⟩ => by
    have hz := hk.size
    have := hwrite_any (q : Nat) t y hd (hr.kept hk hP) (fun e => e.elim hP (fun e => by omega)) (by omega) hf hmn hdo
    rw [M.hwrite_one rk fr mn q t hq ht] at this
    exact this.mono fun _ _ ⟨e1, e2, e3⟩ => ⟨e1, e2.mono (fun k _ e => e.elim id (fun e => Or.inr (by omega))), hk.next e3 (fun k hk' e => e.elim id (fun e => by omega))⟩
  have HA0 : Hid (Ref w b (M.plus P B) r ∧ Kept P w w) := ⟨h.mono (fun _ _ e => Or.inl e), Kept.refl _ _⟩
  obtain ⟨L, hL⟩ : ∃ L, L = M.lay12 fr mn p n s := ⟨_, rfl⟩
  have HL : Hid (∀ k, k < n → L[k]? = some (fr + (p + (k + 1) % n) % mn, M.piece s ((k + 1) % n))) := fun k hk => by rw [hL]; exact M.lay12_at hk
  have HLN : Hid (L.length = n) := by rw [hL]; exact M.lay12_len ..
  rw [← hL, ← hB]
  obtain ⟨R, hR⟩ : ∃ R, R = M.rwr L r := ⟨_, rfl⟩
  have HF := Lib.hid hR
  have HO : Hid (r.ops ≤ 100000000 ∧ n ≤ mn ∧ mn ≤ 1000 ∧ p < mn ∧ 1 ≤ n ∧ s.size = 64 * n) := ⟨ho, hnm, hmn, hp, hn, hs⟩
  have hn1 : (n : Int) ≤ 1000 := by omega
  have hn0 : (0 : Int) < (n : Int) := by omega
  have hn00 : ((n : Int) == 0) = false := by rw [beq_eq_false_iff_ne]; omega
  have hm0 : (0 : Int) < (mn : Int) := by omega
  have hm00 : ((mn : Int) == 0) = false := by rw [beq_eq_false_iff_ne]; omega
  have hm1 : ¬ (mn : Int) = 0 := by omega
  have hm2 : ¬ mn = 0 := by omega
  have hp1 : (p : Int) ≤ 1000 := by omega
  rw [← hR]
  clear h hr hP hs hn hnm hf hmn hp ho hL hR hB hrb
  go_enter Tryz.func9, Tryz.ntmps9
  go_wp2_with fail
  go_loopw [8] (fun j wr => ∃ (k : Nat) (rk : M.R), k ≤ n ∧ j = .int .i64 ((k + 1 : Nat) : Int) ∧ Hid (Ref wr b (M.plus P B) rk ∧ Kept P w wr) ∧ Hid (rk.ops = r.ops + k) ∧ Hid (R = M.rwr (L.drop k) rk)) (fun j _ => n + 1 - (intOf j).toNat)
  case atStart => exact ⟨0, r, Nat.zero_le _, rfl, HA0, rfl, HF.out⟩
  case round =>
    clear HA0 HF he h1 h2 h3 h4 c2
    obtain ⟨k, rk, hk, rfl, HA, HOk, HRk⟩ := hrel
    obtain ⟨k1, hk1⟩ : ∃ k1, k1 = k + 1 := ⟨_, rfl⟩
    rw [← hk1]
    by_cases hlt : k < n
    · have hle : (k1 : Int) ≤ (n : Int) := by omega
      have hk0 : (0 : Int) ≤ (k1 : Int) := by omega
      obtain ⟨i, hi⟩ : ∃ i, i = (k + 1) % n := ⟨_, rfl⟩
      have hin : i < n := by rw [hi]; exact Nat.mod_lt _ (by omega)
      have hrm : (k1 : Int).tmod (n : Int) = (i : Int) := by
        rw [Int.tmod_eq_emod_of_nonneg (by omega), hi, hk1]
        exact (Int.natCast_emod _ _).symm
      obtain ⟨st, hst⟩ : ∃ st, st = 64 * i := ⟨_, rfl⟩
      obtain ⟨i1, hi1⟩ : ∃ i1, i1 = i + 1 := ⟨_, rfl⟩
      obtain ⟨en, hen⟩ : ∃ en, en = 64 * i + 64 := ⟨_, rfl⟩
      obtain ⟨pi, hpi⟩ : ∃ pi, pi = p + i := ⟨_, rfl⟩
      have hs64 := HO.out.2.2.2.2.2
      have a1 : IntKind.i64.wrap ((i : Int) * 64) = (st : Int) := by have := HO.out; rw [IntKind.wrap_i64]; omega
      have a2 : IntKind.i64.wrap ((i1 : Int) * 64) = (en : Int) := by have := HO.out; rw [IntKind.wrap_i64]; omega
      have a3 : IntKind.i64.wrap ((p : Int) + (i : Int)) = (pi : Int) := by have := HO.out; rw [IntKind.wrap_i64]; omega
      have a4 : IntKind.i64.wrap ((i : Int) + 1) = (i1 : Int) := by have := HO.out; rw [IntKind.wrap_i64]; omega
      have b1 : (0 : Int) ≤ (st : Int) := by omega
      have b2 : (st : Int) ≤ (en : Int) := by omega
      have b3 : (en : Int) ≤ (s.size : Int) := by omega
      have b4 : (i : Int) ≤ 1000 := by omega
      obtain ⟨q, hq⟩ : ∃ q, q = pi % mn := ⟨_, rfl⟩
      have hqm : q < mn := by rw [hq]; exact Nat.mod_lt _ (by have := HO.out; omega)
      have hqt : (pi : Int).tmod (mn : Int) = (q : Int) := by
        rw [Int.tmod_eq_emod_of_nonneg (by omega), hq]
        exact (Int.natCast_emod _ _).symm
      have a5 : IntKind.i64.wrap (q : Int) = (q : Int) := by have := HO.out; rw [IntKind.wrap_i64]; omega
      obtain ⟨t, ht⟩ : ∃ t, t = s.extract st en := ⟨_, rfl⟩
      have ht64 : t.size = 64 := by rw [ht, ByteArray.size_extract]; omega
      have ht' := ht.symm
      have hLk : L[k]? = some (fr + q, t) := by rw [HL.out k hlt, hq, hpi, hi, ht, hst, hen, hi]; rfl
      have HRn : Hid (R = M.rwr ((fr + q, t) :: L.drop (k + 1)) rk) := by show R = _; rw [← M.drop_at hLk]; exact HRk.out
      have HC2 : Hid (∀ y, Ref y b (M.plus P B) rk ∧ Kept P w y → _) := fun y hy => HWR.out q t y rk hqm ht64 (by have := HO.out; have := HOk.out; omega) hy
      have HAd : Hid (Ref wr.drew b (M.plus P B) rk ∧ Kept P w wr.drew) := ⟨HA.out.1.kept ((Kept.refl (fun _ => False) wr).drewN 1) (fun _ _ => id), HA.out.2.drew⟩
      have HON : Hid ((M.rwriteR rk ((fr + q : Nat) : Int) t).ops = r.ops + (k + 1)) := by show (M.rwriteR rk _ t).ops = _; rw [M.rwriteR_ops, HOk.out]; omega
      have HKL : Hid (k < n ∧ k1 = k + 1) := ⟨hlt, hk1⟩
      have c2 := HC.out wr HA.out.2
      obtain ⟨E, hEE⟩ : ∃ E, E = M.rwriteE rk ((fr + q : Nat) : Int) t := ⟨_, rfl⟩
      rw [← hEE] at HC2
      have HRm : Hid ((E = 0 → R = M.rwr (L.drop (k + 1)) (M.rwriteR rk ((fr + q : Nat) : Int) t)) ∧ (E ≠ 0 → R = (E, M.rwriteR rk ((fr + q : Nat) : Int) t))) := by
        constructor
        · intro e; rw [HRn.out, M.rwr, if_pos (by rw [← hEE]; exact e)]
        · intro e; rw [HRn.out, M.rwr, if_neg (by rw [← hEE]; exact e), hEE]
      clear hLk hq hi hi1 hst hen hpi ht HRk HOk hk hs64 hqm ht64 hin hEE HRn HL hlt hk1
      by_cases hE : E = 0
      · have HRe := Lib.hid (HRm.out.1 hE)
        clear HRm
        subst hE
        go_wp2_with fail
        go_region_held3 (fun y => y.cell? ⟨rb, 2, none⟩ = some (.int .i64 (mn : Nat))) (first | exact c2 | exact d2) (first
          | (go_at_call 33
             refine (HC2.out _ HAd.out).mono ?_
             rintro e w2 ⟨rfl, h2⟩
             have H2 := Lib.hid h2
             have d2 := HC.out w2 h2.2
             clear h2))
        go_wp2_with fail
        go_roundw
        case rel => exact ⟨k + 1, _, HKL.out.1, by rw [HKL.out.2]; go_num, H2, HON, HRe.out⟩
        case measure => have := HKL.out; simp [intOf]; omega
      · have hE' : (E == 0) = false := by rw [beq_eq_false_iff_ne]; exact hE
        have HRe := Lib.hid (HRm.out.2 hE)
        clear hE
        go_wp2_with fail
        go_region_held3 (fun y => y.cell? ⟨rb, 2, none⟩ = some (.int .i64 (mn : Nat))) (first | exact c2 | exact d2) (first
          | (go_at_call 33
             refine (HC2.out _ HAd.out).mono ?_
             rintro e w2 ⟨rfl, h2⟩
             have H2 := Lib.hid h2
             have d2 := HC.out w2 h2.2
             clear h2))
        go_wp2_with fail
        go_ret
        rw [HRe.out]
        exact ⟨rfl, H2.out⟩
    · have e : k = n := by omega
      subst e
      have hle : ¬ (k1 : Int) ≤ (k : Int) := by omega
      have hle2 : (k : Int) < (k1 : Int) := by omega
      have HRn : Hid (R = (0, rk)) := by
        show R = _
        rw [HRk.out, List.drop_eq_nil_of_le (by rw [HLN.out]; exact Nat.le_refl _), M.rwr]
      clear hlt hk HRk HOk HL hk1
      go_wp2_with fail
      go_ret
      rw [HRn.out]
      exact ⟨rfl, HA.out⟩

theorem rlput_any (p : Int) (s : ByteArray) (w : World) {rb b fr mn : Nat} {P : Nat → Prop} {r : M.R} (h : Ref w b P r) (hr : RReg w rb b fr mn) (hP : ¬ P rb) (hs : s.size ≤ 1000000) (hf : fr ≤ 1000) (hmn : mn ≤ 1000) (hp : p ≤ 9223372036854775807) (ho : r.ops ≤ 100000000) :
    Calls Tryz.prog 9 #[.pointer (some ⟨rb, 0, none⟩), .int .i64 p, .string s] w fun e w' =>
      e = .returned (.int .i64 (M.rlput r fr mn p s).1) ∧ Ref w' b (M.plus P w.heap.size) (M.rlput r fr mn p s).2 ∧ Kept P w w' := by
  unfold M.rlput
  by_cases h0 : s.size = 0 ∨ s.size % 64 ≠ 0
  · rw [if_pos h0]
    refine (rlput_size p s w rb h0).mono ?_
    rintro e w' ⟨rfl, rfl⟩
    exact ⟨rfl, h.mono (fun _ _ e => Or.inl e), Kept.refl _ _⟩
  · rw [if_neg h0]
    obtain ⟨n, hn⟩ : ∃ n, n = s.size / 64 := ⟨_, rfl⟩
    have hsn : s.size = 64 * n := by omega
    rw [← hn]
    by_cases h1 : p < 0 ∨ (mn : Int) ≤ p ∨ mn < n
    · rw [if_pos h1]
      refine (rlput_no p n s w hr hsn (by omega) (by omega) hp hmn h1).mono ?_
      rintro e w' ⟨rfl, rfl⟩
      exact ⟨rfl, h.mono (fun _ _ e => Or.inl e), Kept.refl _ _⟩
    · rw [if_neg h1]
      obtain ⟨k, rfl⟩ : ∃ k : Nat, p = k := ⟨p.toNat, by omega⟩
      rw [Int.toNat_natCast]
      exact rlput_yes k n s w h hr hP hsn (by omega) (by omega) hf hmn (by omega) ho
end Go.Proofs.YtfdbfafpcbdbdaaGreat
namespace Go.Proofs.YtfdbfafpcbdbdaaGreat
open Go.RowKit

theorem M.rrd_rdr (fr mn n : Nat) (r : M.R) (p : Nat) (acc : ByteArray) (h : p + n ≤ mn) : M.rrd n r (fr + p) acc = M.rdr M.rR fr mn n r p acc := by
  induction n generalizing r p acc with
  | zero => rfl
  | succ n ih =>
    have e : p % mn = p := Nat.mod_eq_of_lt (by omega)
    rw [M.rrd, M.rdr, e, show fr + p + 1 = fr + (p + 1) by omega, ih _ (p + 1) _ (by omega)]
    rfl
theorem M.hread_rdr (r : M.R) (fr mn p n : Nat) (h : p + n ≤ mn) : M.hread r fr mn (p : Nat) (n : Nat) = M.rdr M.rR fr mn n r p ⟨#[]⟩ := by
  have hw : M.within (p : Int) ((n : Nat) : Int) (mn : Nat) = true := by unfold M.within; simp; omega
  rw [M.hread, if_pos hw, Int.toNat_natCast, Int.toNat_natCast, M.rrd_rdr fr mn n r p _ h]
theorem M.rR_keeps (fr mn n : Nat) (r : M.R) (p : Nat) (acc : ByteArray) : (M.rdr M.rR fr mn n r p acc).2.2.seen = r.seen ∧ (M.rdr M.rR fr mn n r p acc).2.2.ops ≤ r.ops + n ∧ r.ops ≤ (M.rdr M.rR fr mn n r p acc).2.2.ops := by
  induction n generalizing r p acc with
  | zero => exact ⟨rfl, Nat.le_refl _, Nat.le_refl _⟩
  | succ n ih =>
    have e : (M.rR.B r).ops = r.ops + 1 := rfl
    rw [M.rdr]
    by_cases h : M.rR.E r ((fr + p % mn : Nat) : Int) = 0
    · rw [if_pos h]
      obtain ⟨h1, h2, h3⟩ := ih (M.rR.B r) (p + 1) (acc ++ M.rR.S r ((fr + p % mn : Nat) : Int))
      exact ⟨h1, by omega, by omega⟩
    · rw [if_neg h]
      exact ⟨rfl, by show r.ops + 1 ≤ _; omega, by show _ ≤ r.ops + 1; omega⟩
theorem M.rR_size (fr mn n : Nat) (r : M.R) (p : Nat) (acc : ByteArray) (hq : ∀ s ∈ r.seen, s.size = 64) (h : (M.rdr M.rR fr mn n r p acc).2.1 = 0) : (M.rdr M.rR fr mn n r p acc).1.size = acc.size + 64 * n := by
  induction n generalizing r p acc with
  | zero => rfl
  | succ n ih =>
    rw [M.rdr] at h ⊢
    by_cases hE : M.rR.E r ((fr + p % mn : Nat) : Int) = 0
    · rw [if_pos hE] at h ⊢
      have h1 := ih (M.rR.B r) (p + 1) (acc ++ M.rR.S r ((fr + p % mn : Nat) : Int)) hq h
      have h2 : (M.rR.S r ((fr + p % mn : Nat) : Int)).size = 64 := M.rreadS_size hq hE
      rw [h1, ByteArray.size_append, h2]
      omega
    · rw [if_neg hE] at h
      exact absurd h hE

/-- The document's records lie in y, behind v; all from block N on. -/
structure RRecsAt (N : Nat) (y : World) (v : Value) (l : List M.RecV) : Prop where
  own : y.ownsRow N 96 3 v l.length (M.rcells l)
  secs : ∀ x ∈ l, M.getE x.s = 0 ∧ M.gN x.s ≤ x.c ∧ x.c ≤ maxLen ∧ SecF y x.A (M.gN x.s) (M.gA x.s) (M.gT x.s) ∧ ∀ ad, x.A = some ad → N ≤ ad.block ∧ v.ownBlock ≠ some ad.block
theorem RRecsAt.nil (N : Nat) (y : World) : RRecsAt N y (.slice none 0 0) [] := ⟨World.ownsRow_nil _ _ _ _, fun x h => by cases h⟩
theorem RRecsAt.kept {G : Nat → Prop} {N : Nat} {y z : World} {v : Value} {l : List M.RecV} (h : RRecsAt N y v l) (hk : Kept G y z) (hg : ∀ k, G k → k < N) : RRecsAt N z v l :=
  ⟨hk.owns h.own (fun k e e' => by have := (h.own.lt k e).1; have := hg k e'; omega), fun x hx => by
    obtain ⟨h1, h2, h3, h4, h5⟩ := h.secs x hx
    exact ⟨h1, h2, h3, h4.kept hk (fun ad e e' => by have := (h5 ad e).1; have := hg _ e'; omega), h5⟩⟩
theorem infoRRec : (Tryz.prog.info? 96).map (fun i => (i.zero, i.size, i.bytes)) = some (some (.agg #[.int .i64 0, .int .i64 0, .slice none 0 0]), 3, 40) := by kernel_rfl
/-- One more is laid behind them. -/
theorem RRecsAt.snoc {N : Nat} {y z : World} {v v' : Value} {l : List M.RecV} (h : RRecsAt N y v l) (q : Int) (p : Nat) (s : ByteArray) (A : Option Addr) (c : Nat) (hs : M.getE s = 0) (hV : M.gN s ≤ c ∧ c ≤ maxLen ∧ SecF y A (M.gN s) (M.gA s) (M.gT s)) (hA : ∀ ad, A = some ad → N ≤ ad.block ∧ v.ownBlock ≠ some ad.block)
    {ob : Obj} (hg : (y.alloc ob).grownBy z v.ownBlock) (hb : ∀ k, v'.ownBlock = some k → v.ownBlock = some k ∨ y.heap.size ≤ k)
    (ho : z.ownsRow N 96 3 v' (l.length + 1) (M.rcells l ++ [.int .i64 q, .int .i64 (p : Nat), .slice A (M.gN s) c])) : RRecsAt N z v' (l ++ [⟨q, p, s, A, c⟩]) := by
  have k3 : Kept (fun k => v.ownBlock = some k) y z := ((Kept.refl _ y).alloc ob).grown hg (fun k e _ => e)
  refine ⟨by rw [M.rcells_snoc, List.length_append]; exact ho, fun x hx => ?_⟩
  have hnew : ∀ ad : Addr, ad.block < y.heap.size → v.ownBlock ≠ some ad.block → v'.ownBlock ≠ some ad.block := fun ad h1 h2 e => (hb _ e).elim h2 (fun e => by omega)
  rcases List.mem_append.1 hx with hx | hx
  · obtain ⟨h1, h2, h3, h4, h5⟩ := h.secs x hx
    refine ⟨h1, h2, h3, h4.kept k3 (fun ad e => (h5 ad e).2), fun ad e => ⟨(h5 ad e).1, hnew ad ?_ (h5 ad e).2⟩⟩
    obtain ⟨ad', e', h1', _⟩ := h4 0 (M.get_n h1).1
    rw [e] at e'
    injection e' with e'
    rw [e']; exact h1'
  · have e := List.mem_singleton.1 hx
    subst e
    refine ⟨hs, hV.1, hV.2.1, hV.2.2.kept k3 (fun ad e => (hA ad e).2), fun ad e => ⟨(hA ad e).1, hnew ad ?_ (hA ad e).2⟩⟩
    obtain ⟨ad', e', h1', _⟩ := hV.2.2 0 (M.get_n hs).1
    have e : A = some ad := e
    rw [e] at e'
    injection e' with e'
    rw [e']; exact h1'
end Go.Proofs.YtfdbfafpcbdbdaaGreat
