/-
  A walk over the law's works.
-/
import Derived.Test.YtigmcnnplnfakaaGreatDoorPZ
namespace Go.Proofs.YtigmcnnplnfakaaGreatDoor
open Go.RowKit Go.Maps

set_option maxHeartbeats 4000000 in
theorem works14_any (w : World) (hE : Env10 w) (hET : ErrT w) : Calls Tryz.prog 5 #[] w fun e y => e = .returned (.bool true) ∧ Below w.heap.size w y := by
  obtain ⟨t, t63, N0, S0, S1, S2, S3, S4, ⟨ht, h63⟩, hmk, hcv, p1, p2, p3, p4, p5, p6, p7, p8, p9, p10, p11, p12⟩ := works_parts14 w
  have P1 := Lib.hid (p1 hE hET)
  have P2 := Lib.hid p2
  have P3 := Lib.hid p3
  have P4 := Lib.hid p4
  have P5 := Lib.hid p5
  have P6 := Lib.hid (p6 hET)
  have P7 := Lib.hid p7
  have P8 := Lib.hid p8
  have P9 := Lib.hid p9
  have P10 := Lib.hid p10
  have P11 := Lib.hid p11
  have P12 := Lib.hid p12
  clear p1 p2 p3 p4 p5 p6 p7 p8 p9 p10 p11 p12 hE hET
  go_enter Tryz.func5, Tryz.ntmps5
  go_wp2_with fail
  refine P1.out.mono ?_
  rintro e w1 ⟨a, b, rfl, s1⟩
  have HS1 := Lib.hid s1
  clear s1 P1
  have ht' := ht.symm
  clear ht
  go_wp2_with fail
  have HS1' := Lib.hid (P2.out w1 (w1.alloc (.cells N0 5)) b HS1.out (below1 _ _))
  clear hmk hcv HS1 ht' P2 h63
  have hss : (t.toList == t.toList) = true := by simp
  refine (P3.out _ b HS1'.out).mono ?_
  rintro e w2 ⟨rfl, s2⟩
  have HS2 := Lib.hid s2
  clear s2 P3 HS1'
  go_wp2_with fail
  refine (P4.out _ b HS2.out).mono ?_
  rintro e w3 ⟨rfl, s3⟩
  have HS3 := Lib.hid s3
  clear s3 P4 HS2
  go_wp2_with fail
  refine (P5.out _ b HS3.out).mono ?_
  rintro e w4 ⟨rfl, s4⟩
  have HS4 := Lib.hid s4
  clear s4 P5 HS3
  go_wp2_with fail
  refine (P6.out _ b HS4.out).mono ?_
  rintro e w5 ⟨rfl, s5⟩
  have HS5 := Lib.hid s5
  clear s5 P6 HS4
  go_wp2_with fail
  refine (P7.out _ b HS5.out).mono ?_
  rintro e w6 ⟨rfl, rfl⟩
  go_wp2_with fail
  refine (P8.out _ b HS5.out).mono ?_
  rintro e w7 ⟨rfl, s7⟩
  have HS7 := Lib.hid s7
  clear s7 P8 HS5 P7
  go_wp2_with fail
  refine (P9.out _ b HS7.out).mono ?_
  rintro e w8 ⟨rfl, rfl⟩
  go_wp2_with fail
  refine (P10.out _ b HS7.out).mono ?_
  rintro e w9 ⟨rfl, s9⟩
  have HS9 := Lib.hid s9
  clear s9 P10 HS7 P9
  go_wp2_with fail
  refine (P11.out _ b HS9.out).mono ?_
  rintro e w10 ⟨rfl, rfl⟩
  go_wp2_with fail
  go_ret
  exact ⟨rfl, P12.out _ b HS9.out⟩
end Go.Proofs.YtigmcnnplnfakaaGreatDoor
