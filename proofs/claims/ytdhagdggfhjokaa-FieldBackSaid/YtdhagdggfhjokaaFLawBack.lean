/-
  Walk over solderlaw02.FieldBack.
-/
import Derived.Test.YtdhagdggfhjokaaFLawPuts
namespace Go.Proofs.Ytdhagdggfhjokaa
open Go.RowKit

theorem M.out_mid (S p m q : ByteArray) (n : Int) (e : S = p ++ m ++ q) (k : Nat) (hk : k = p.size) (hn : n = (m.size : Int)) : M.outB S ⟨k, 0⟩ n = m ∧ M.stB S ⟨k, 0⟩ n = ⟨k + m.size, 0⟩ := by
  subst hk hn e
  have hz : (p ++ m ++ q).size = p.size + m.size + q.size := by simp [ByteArray.size_append]
  constructor
  · rw [M.outB, if_pos ⟨rfl, by omega, by simp only [hz]; omega⟩]
    apply ByteArray.ext
    simp only [ByteArray.data_extract, ByteArray.data_append, Int.toNat_natCast]
    apply Array.ext'
    have h1 : p.size = p.data.toList.length := rfl
    have h2 : m.size = m.data.toList.length := rfl
    rw [Array.toList_extract, List.extract_eq_take_drop, Nat.add_sub_cancel_left, Array.toList_append, Array.toList_append, List.append_assoc, h1, h2, List.drop_left, List.take_left]
  · rw [M.stB, if_neg (by simp), if_neg (by omega), if_neg (by simp only [hz]; omega)]
    simp only [Int.toNat_natCast]
theorem M.num_mid (S p m q : ByteArray) (n : Int) (a z : Nat) (e : S = p ++ m ++ q) (k : Nat) (hk : k = p.size) (hm : m = ⟨(M.be a z).toArray⟩) (hn : n = (z : Int)) (h1 : 1 ≤ z) (h7 : z ≤ 7) (ha : a < 256 ^ z) : M.outN S ⟨k, 0⟩ n = a ∧ M.stN S ⟨k, 0⟩ n = ⟨k + z, 0⟩ := by
  have hs : m.size = z := by rw [hm]; show (M.be a z).toArray.size = z; simp [M.be_len]
  obtain ⟨o1, o2⟩ := M.out_mid S p m q n e k hk (by rw [hs]; exact hn)
  subst hn
  constructor
  · rw [M.outN, if_pos (by omega), o1, hm]
    rw [M.num_be z a ha]
  · rw [M.stN, if_pos (by omega), o2, hs]

set_option maxHeartbeats 2000000 in
theorem fieldBack_yes (a b z : Nat) (s : ByteArray) (w : World) (hs : s.size ≤ 3000) (z1 : 1 ≤ z) (z7 : z ≤ 7) (ha9 : a ≤ 9223372036854775807) (hb9 : b ≤ 9223372036854775807) (hfa : M.fitsB a z = true) (hfb : M.fitsB b 7 = true) (ha : a < 256 ^ z) (hb : b < 256 ^ 7) :
    Calls Try.prog 5 #[.int .i64 a, .int .i64 b, .int .i64 z, .string s] w fun e w' => e = .returned (.bool true) ∧ Below w.heap.size w w' := by
  have hd : decide ((3000 : Int) < (s.size : Int)) = false := by simp; omega
  obtain ⟨A, hA⟩ : ∃ A, A = (⟨(M.be a z).toArray⟩ : ByteArray) := ⟨_, rfl⟩
  obtain ⟨B, hB⟩ : ∃ B, B = (⟨(M.be b 7).toArray⟩ : ByteArray) := ⟨_, rfl⟩
  have zA : A.size = z := by rw [hA]; show (M.be a z).toArray.size = z; simp [M.be_len]
  have zB : B.size = 7 := by rw [hB]; show (M.be b 7).toArray.size = 7; simp [M.be_len]
  obtain ⟨p1, e1⟩ : ∃ p, p = (⟨#[]⟩ : ByteArray) ++ A := ⟨_, rfl⟩
  obtain ⟨p2, e2⟩ : ∃ p, p = p1 ++ B := ⟨_, rfl⟩
  obtain ⟨p3, e3⟩ : ∃ p, p = p2 ++ s := ⟨_, rfl⟩
  obtain ⟨p4, e4⟩ : ∃ p, p = p3 ++ A := ⟨_, rfl⟩
  have hp1 : p1 = A := by rw [e1]; apply ByteArray.ext; simp [ByteArray.data_append]
  have s1 : p1.size = z := by rw [hp1, zA]
  have s2 : p2.size = z + 7 := by rw [e2, ByteArray.size_append, s1, zB]
  have s3 : p3.size = z + 7 + s.size := by rw [e3, ByteArray.size_append, s2]
  have s4 : p4.size = z + 7 + s.size + z := by rw [e4, ByteArray.size_append, s3, zA]
  have nil : ∀ x : ByteArray, (⟨#[]⟩ : ByteArray) ++ x = x := fun x => by apply ByteArray.ext; simp [ByteArray.data_append]
  have lin : ∀ x : ByteArray, x ++ (⟨#[]⟩ : ByteArray) = x := fun x => by apply ByteArray.ext; simp [ByteArray.data_append]
  obtain ⟨o1, t1⟩ := M.num_mid p4 ⟨#[]⟩ A (B ++ s ++ A) z a z (by rw [e4, e3, e2, hp1, nil]; simp only [ByteArray.append_assoc]) 0 rfl hA rfl z1 z7 ha
  obtain ⟨o2, t2⟩ := M.num_mid p4 A B (s ++ A) 7 b 7 (by rw [e4, e3, e2, hp1]; simp only [ByteArray.append_assoc]) z zA.symm hB rfl (by omega) (by omega) hb
  obtain ⟨o3, t3⟩ := M.out_mid p4 p2 s A s.size (by rw [e4, e3]) (z + 7) s2.symm rfl
  obtain ⟨o4, t4⟩ := M.num_mid p4 p3 A ⟨#[]⟩ z a z (by rw [e4, lin]) (z + 7 + s.size) s3.symm hA rfl z1 z7 ha
  have x5 : M.endE p4 ⟨z + 7 + s.size + z, 0⟩ = 0 := by unfold M.endE; simp [s4]
  have o6 : M.outN p4 ⟨z + 7 + s.size + z, 0⟩ 1 = 0 := by
    have : M.outB p4 ⟨z + 7 + s.size + z, 0⟩ 1 = ⟨#[]⟩ := by rw [M.outB, if_neg (by simp [s4])]
    rw [M.outN, if_pos (by omega), this]; rfl
  have t6 : M.stN p4 ⟨z + 7 + s.size + z, 0⟩ 1 = ⟨z + 7 + s.size + z, 1⟩ := by
    rw [M.stN, if_pos (by omega), M.stB, if_neg (by simp), if_neg (by omega), if_pos (by simp only [s4]; omega)]
  have x7 : M.endE p4 ⟨z + 7 + s.size + z, 1⟩ = 1 := by unfold M.endE; simp
  rw [Nat.zero_add] at t1
  have k0 : (⟨0, 0⟩ : M.St).ok p4 := Nat.zero_le _
  have k1 : (⟨z, 0⟩ : M.St).ok p4 := by show z ≤ _; omega
  have k2 : (⟨z + 7, 0⟩ : M.St).ok p4 := by show z + 7 ≤ _; omega
  have k3 : (⟨z + 7 + s.size, 0⟩ : M.St).ok p4 := by show z + 7 + s.size ≤ _; omega
  have k4 : (⟨z + 7 + s.size + z, 0⟩ : M.St).ok p4 := by show z + 7 + s.size + z ≤ _; omega
  have k5 : (⟨z + 7 + s.size + z, 1⟩ : M.St).ok p4 := by show z + 7 + s.size + z ≤ _; omega
  have F1 := Lib.hid (fun w => fits_any a z w (by omega) (by omega))
  have F2 := Lib.hid (fun w => fits_any b 7 w (by omega) (by omega))
  rw [hfa] at F1
  rw [hfb] at F2
  have P1 := Lib.hid (fun w => put_yes ⟨#[]⟩ a z w (by decide) z1 z7 ha9 hfa)
  have P2 := Lib.hid (fun w => put_yes p1 b 7 w (by omega) (by omega) (by omega) hb9 hfb)
  have P3 := Lib.hid (fun w => put_yes p3 a z w (by omega) z1 z7 ha9 hfa)
  rw [← hA, ← e1] at P1
  rw [← hB, ← e2] at P2
  rw [← hA, ← e4] at P3
  have C0 := Lib.hid (fun w => newF p4 w)
  have C1 := Lib.hid (fun b w hR => numF b p4 ⟨0, 0⟩ z (by omega) (by omega) w hR k0)
  have C2 := Lib.hid (fun b w hR => numF b p4 ⟨z, 0⟩ 7 (by omega) (by omega) w hR k1)
  have C3 := Lib.hid (fun b w hR => bytesF b p4 ⟨z + 7, 0⟩ s.size w hR k2)
  have C4 := Lib.hid (fun b w hR => numF b p4 ⟨z + 7 + s.size, 0⟩ z (by omega) (by omega) w hR k3)
  have C5 := Lib.hid (fun b w hR => endF b p4 ⟨z + 7 + s.size + z, 0⟩ w hR k4)
  have C6 := Lib.hid (fun b w hR => numF b p4 ⟨z + 7 + s.size + z, 0⟩ 1 (by omega) (by omega) w hR k4)
  have C7 := Lib.hid (fun b w hR => endF b p4 ⟨z + 7 + s.size + z, 1⟩ w hR k5)
  rw [o1, t1] at C1
  rw [o2, t2] at C2
  rw [o3, t3] at C3
  rw [o4, t4] at C4
  rw [x5] at C5
  rw [o6, t6] at C6
  rw [x7] at C7
  have hsum : p2.size + s.size ≤ 4000 := by omega
  have hz2 : p2.size ≤ 4000 := by omega
  have E3 := Lib.hid e3
  clear o1 t1 o2 t2 o3 t3 o4 t4 x5 o6 t6 x7 k0 k1 k2 k3 k4 k5 nil lin e1 e2 e3 e4 hp1 s1 s2 s3 s4 zA zB hA hB hfa hfb ha hb
  go_enter Try.func5, Try.ntmps5
  go_wp2_with fail
  refine (works_any w).mono ?_
  rintro e w1 ⟨rfl, hb1⟩
  go_wp2_with fail
  refine (F1.out w1).mono ?_
  rintro e w2 ⟨rfl, rfl⟩
  go_wp2_with fail
  refine (F2.out w1).mono ?_
  rintro e w2 ⟨rfl, rfl⟩
  go_wp2_with fail
  refine (P1.out w1).mono ?_
  rintro e w2 ⟨rfl, hb2⟩
  have hb2 := hb1.trans (hb2.mono hb1.size)
  clear hb1
  go_wp2_with fail
  refine (P2.out w2).mono ?_
  rintro e w3 ⟨rfl, hb3⟩
  have hb3 := hb2.trans (hb3.mono hb2.size)
  clear hb2
  go_wp2_with fail
  rw [← E3.out]
  refine (P3.out w3).mono ?_
  rintro e w4 ⟨rfl, hb4⟩
  have hb4 := hb3.trans (hb4.mono hb3.size)
  clear hb3
  go_wp2_with fail
  refine (C0.out w4).mono ?_
  rintro e w5 ⟨rfl, hR5, hb5⟩
  have hz := hb4.size
  have hb5 := hb4.trans (hb5.mono hb4.size)
  have HR5 := Lib.hid hR5
  clear hR5 hb4
  obtain ⟨r, hr⟩ : ∃ r, r = w4.heap.size := ⟨_, rfl⟩
  rw [← hr] at HR5 hz
  rw [← hr]
  clear hr
  go_wp2_with fail
  refine (C1.out r w5 HR5.out).mono ?_
  rintro e w6 ⟨rfl, hR6, hg6⟩
  have hb6 := below_by hb5 hg6 hz hb5.size
  have HR6 := Lib.hid hR6
  clear hb5 HR5 hR6 hg6
  go_wp2_with fail
  refine (C2.out r w6 HR6.out).mono ?_
  rintro e w7 ⟨rfl, hR7, hg7⟩
  have hb7 := below_by hb6 hg7 hz hb6.size
  have HR7 := Lib.hid hR7
  clear hb6 HR6 hR7 hg7
  go_wp2_with fail
  refine (C3.out r w7 HR7.out).mono ?_
  rintro e w8 ⟨rfl, hR8, hg8⟩
  have hb8 := below_by hb7 hg8 hz hb7.size
  have HR8 := Lib.hid hR8
  clear hb7 HR7 hR8 hg8
  go_wp2_with fail
  refine (C4.out r w8 HR8.out).mono ?_
  rintro e w9 ⟨rfl, hR9, hg9⟩
  have hb9 := below_by hb8 hg9 hz hb8.size
  have HR9 := Lib.hid hR9
  clear hb8 HR8 hR9 hg9
  go_wp2_with fail
  refine (C5.out r w9 HR9.out).mono ?_
  rintro e w10 ⟨rfl, rfl⟩
  go_wp2_with fail
  refine (C6.out r w9 HR9.out).mono ?_
  rintro e w10 ⟨rfl, hR10, hg10⟩
  have hb10 := below_by hb9 hg10 hz hb9.size
  have HR10 := Lib.hid hR10
  clear hb9 HR9 hR10 hg10
  go_wp2_with fail
  refine (C7.out r w10 HR10.out).mono ?_
  rintro e w11 ⟨rfl, rfl⟩
  go_wp2_with fail
  go_ret
  exact ⟨rfl, hb10⟩

set_option maxHeartbeats 1000000 in
theorem fieldBack_walk (a : Int) (a0 : -9223372036854775808 ≤ a) (a9 : a ≤ 9223372036854775807) (b : Int) (b0 : -9223372036854775808 ≤ b) (b9 : b ≤ 9223372036854775807) (z : Int) (z0 : -9223372036854775808 ≤ z) (z9 : z ≤ 9223372036854775807) (s : ByteArray) (w : World) :
    Calls Try.prog 5 #[.int .i64 a, .int .i64 b, .int .i64 z, .string s] w fun e w' => e = .returned (.bool true) ∧ Below w.heap.size w w' := by
  by_cases hs : s.size ≤ 3000
  · have hd : decide ((3000 : Int) < (s.size : Int)) = false := by simp; omega
    cases hfa : M.fitsB a z
    · have F1 := Lib.hid (fun w => fits_any a z w z0 z9)
      rw [hfa] at F1
      clear hfa
      go_enter Try.func5, Try.ntmps5
      go_wp2_with fail
      refine (works_any w).mono ?_
      rintro e w1 ⟨rfl, hb1⟩
      go_wp2_with fail
      refine (F1.out w1).mono ?_
      rintro e w2 ⟨rfl, rfl⟩
      go_wp2_with fail
      go_ret
      exact ⟨rfl, hb1⟩
    · cases hfb : M.fitsB b 7
      · have F1 := Lib.hid (fun w => fits_any a z w z0 z9)
        have F2 := Lib.hid (fun w => fits_any b 7 w (by omega) (by omega))
        rw [hfa] at F1
        rw [hfb] at F2
        clear hfa hfb
        go_enter Try.func5, Try.ntmps5
        go_wp2_with fail
        refine (works_any w).mono ?_
        rintro e w1 ⟨rfl, hb1⟩
        go_wp2_with fail
        refine (F1.out w1).mono ?_
        rintro e w2 ⟨rfl, rfl⟩
        go_wp2_with fail
        refine (F2.out w1).mono ?_
        rintro e w2 ⟨rfl, rfl⟩
        go_wp2_with fail
        go_ret
        exact ⟨rfl, hb1⟩
      · obtain ⟨x, y, rfl, rfl, h1, h7, hx⟩ := M.fits_nat hfa
        obtain ⟨u, v, rfl, hv, _, _, hu⟩ := M.fits_nat hfb
        obtain rfl : v = 7 := by omega
        exact fieldBack_yes x u y s w hs h1 h7 (by omega) (by omega) hfa hfb hx hu
  · have hd : decide ((3000 : Int) < (s.size : Int)) = true := by simp; omega
    go_enter Try.func5, Try.ntmps5
    go_wp2_with fail
    refine (works_any w).mono ?_
    rintro e w1 ⟨rfl, hb1⟩
    go_wp2_with fail
    go_ret
    exact ⟨rfl, hb1⟩
end Go.Proofs.Ytdhagdggfhjokaa
