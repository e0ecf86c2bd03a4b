/-
  Walk over solderref11.Size, all cases.
-/
import Derived.Test.YtnjlkjphkimapaaPRSize
namespace Go.Proofs.Ytnjlkjphkimapaa
open Go.RowKit Go.Deep

theorem M.ex_at (s : ByteArray) (i : Nat) (h : i < s.size) : s.extract i (i + 1) = ⟨#[s[i]'h]⟩ := by
  apply M.ba_ext
  rw [M.ex_list]
  have l : i < s.data.toList.length := h
  rw [List.drop_eq_getElem_cons l]
  show List.take (i + 1 - i) _ = _
  rw [Nat.add_sub_cancel_left]
  rfl
theorem M.hnum_at (s : ByteArray) (i : Nat) (h : i < s.size) : M.hnum s i (i + 1) = ((s[i]'h).toNat : Int) := by
  rw [M.hnum, M.ex_at s i h]
  show ((M.num [s[i]'h] : Nat) : Int) = _
  simp [M.num]
theorem M.hnum_bound (s : ByteArray) (i z : Nat) (h : i + z ≤ s.size) : 0 ≤ M.hnum s i (i + z) ∧ M.hnum s i (i + z) < (256 ^ z : Nat) := by
  have hl : (s.extract i (i + z)).data.toList.length = z := by rw [M.size_list, ByteArray.size_extract]; omega
  have := M.num_lt z _ hl
  unfold M.hnum
  omega
theorem M.bytes_hnum (s : ByteArray) (i z : Nat) (h : i + z ≤ s.size) : M.bytes (M.hnum s i (i + z)).toNat z = s.extract i (i + z) := by
  have hl : (s.extract i (i + z)).data.toList.length = z := by rw [M.size_list, ByteArray.size_extract]; omega
  apply M.ba_ext
  rw [M.hnum, Int.toNat_natCast, M.bytes]
  show M.be _ z = _
  exact M.be_num z _ hl
/-- A sector begins with these seven bytes just where it begins with R and says this number. -/
theorem M.begins7 (s : ByteArray) (q : Int) (hs : s.size = 64) (hq : 0 ≤ q ∧ q < 281474976710656) : s.extract 0 7 = (⟨#[82]⟩ : ByteArray) ++ M.bytes q.toNat 6 ↔ s.extract 0 1 = ⟨#[82]⟩ ∧ M.gQ s = q := by
  have hc := M.ex_cut s 0 1 7 (by omega) (by omega)
  have hb := M.bytes_hnum s 1 6 (by omega)
  constructor
  · intro e
    rw [← hc] at e
    have e' := congrArg (fun x : ByteArray => x.data.toList) e
    simp only [M.app_list] at e'
    have hl : (s.extract 0 1).data.toList.length = (⟨#[82]⟩ : ByteArray).data.toList.length := by rw [M.size_list, M.size_list, ByteArray.size_extract, M.R_size]; omega
    obtain ⟨e1, e2⟩ := List.append_inj e' hl
    refine ⟨M.ba_ext e1, ?_⟩
    rw [M.gQ, M.hnum, e2, M.bytes]
    show ((M.num (M.be q.toNat 6) : Nat) : Int) = q
    rw [M.num_be 6 _ (by omega)]
    omega
  · rintro ⟨e1, e2⟩
    rw [← hc, e1]
    congr 1
    rw [← e2]
    exact hb.symm

set_option maxHeartbeats 1000000 in
theorem rsize11_any (s : ByteArray) (q : Int) (w : World) (hq9 : q ≤ 9223372036854775807) :
    Calls Try.prog 15 #[.string s, .int .i64 q] w fun e w' => e = .returned (.tuple #[.int .i64 (M.szN s q), .int .i64 (M.szE s q)]) ∧ Below w.heap.size w w' := by
  by_cases hs : s.size = 64
  · have h64 : (s.size : Int) = 64 := by omega
    have hlt : 7 < s.size := by omega
    obtain ⟨c, hc⟩ : ∃ c, c = s[7]'hlt := ⟨_, rfl⟩
    have x7 : ∀ h : 7 < s.size, s[7]'h = c := fun _ => hc.symm
    have hm : M.hnum s 7 8 = (c.toNat : Int) := by rw [hc]; exact M.hnum_at s 7 hlt
    have C0 : Hid (∀ x : World, Calls Try.prog 33 #[.int .i64 q, .int .i64 6] x fun e y => e = .returned (.bool (M.fitsB q 6)) ∧ x = y) := fun x => rfits_any q 6 x hq9
    have C1 : Hid (∀ x : World, Calls Try.prog 23 #[.string ⟨#[82]⟩, .int .i64 q, .int .i64 6] x fun e y => e = .returned (.string (M.putS ⟨#[82]⟩ q 6)) ∧ Below x.heap.size x y) := fun x => rput_any ⟨#[82]⟩ q 6 x (by decide) hq9
    have no : M.szE s q = 8 → M.szN s q = 0 := fun e => by rw [M.szN, if_neg (by rw [e]; decide)]
    by_cases hf : q < 0 ∨ 281474976710656 ≤ q
    · have hE : M.szE s q = 8 := by
        unfold M.szE
        rw [if_neg (by simp [hs]), if_neg]
        rintro ⟨_, e⟩
        have : 0 ≤ M.hnum s 1 7 ∧ M.hnum s 1 7 < (256 ^ 6 : Nat) := M.hnum_bound s 1 6 (by omega)
        rw [M.gQ] at e
        omega
      rw [M.fitsQ, decide_eq_false (fun hx => hx hf)] at C0
      rw [no hE, hE]
      exact rsize_nofit s q c w h64 x7 C0
    · rw [M.fitsQ, decide_eq_true hf] at C0
      have hq : 0 ≤ q ∧ q < 281474976710656 := by omega
      have hP : M.putS ⟨#[82]⟩ q 6 = (⟨#[82]⟩ : ByteArray) ++ M.bytes q.toNat 6 := M.putS_ok (by rw [M.fitsQ, decide_eq_true hf])
      have h7 := M.begins7 s q hs hq
      rw [← hP] at h7
      obtain ⟨P, hPP⟩ : ∃ P, P = M.putS ⟨#[82]⟩ q 6 := ⟨_, rfl⟩
      rw [← hPP] at C1 h7
      by_cases hne : s.extract 0 7 = P
      · have hne' : ((s.extract 0 7).toList == P.toList) = true := by rw [hne]; simp
        obtain ⟨g1, g2⟩ := h7.1 hne
        by_cases d1 : (c.toNat : Int) < 1
        · have hE : M.szE s q = 8 := by unfold M.szE; rw [if_neg (by simp [hs]), if_neg (fun x => by have := x.1.2.1; omega)]
          rw [no hE, hE]
          exact rsize_few s P q c w h64 x7 C0 C1 hne' (by simpa using d1)
        · by_cases d2 : (16 : Int) < (c.toNat : Int)
          · have hE : M.szE s q = 8 := by unfold M.szE; rw [if_neg (by simp [hs]), if_neg (fun x => by have := x.1.2.2; omega)]
            rw [no hE, hE]
            exact rsize_many s P q c w h64 x7 C0 C1 hne' (by simpa using d1) (by simpa using d2)
          · have hE : M.szE s q = 0 := by unfold M.szE; rw [if_neg (by simp [hs]), if_pos ⟨⟨g1, by omega, by omega⟩, g2⟩]
            have hN : M.szN s q = (c.toNat : Int) + 1 := by rw [M.szN, if_pos hE, hm]; omega
            rw [hN, hE]
            exact rsize_yes s P q c w h64 x7 C0 C1 hne' (by simpa using d1) (by simpa using d2) (by omega)
      · have hne' := ne_of_toList hne
        have hE : M.szE s q = 8 := by
          unfold M.szE
          rw [if_neg (by simp [hs]), if_neg]
          rintro ⟨⟨e1, _⟩, e2⟩
          exact hne (h7.2 ⟨e1, e2⟩)
        rw [no hE, hE]
        exact rsize_other s P q c w h64 x7 C0 C1 hne'
  · have hd : ((s.size : Int) == 64) = false := by rw [beq_eq_false_iff_ne]; omega
    have hE : M.szE s q = 12 := by unfold M.szE; rw [if_pos hs]
    have hN : M.szN s q = 0 := by rw [M.szN, if_neg (by rw [hE]; decide)]
    rw [hE, hN]
    clear hE hN hs
    go_enter Try.func15, Try.ntmps15
    go_wp2_with fail
    go_ret2
    exact ⟨rfl, Below.refl _ _⟩
end Go.Proofs.Ytnjlkjphkimapaa
