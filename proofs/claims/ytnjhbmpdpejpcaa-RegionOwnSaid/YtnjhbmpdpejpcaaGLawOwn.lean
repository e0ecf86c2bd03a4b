/-
  A walk over RegionOwn.
-/
import Derived.Test.YtnjhbmpdpejpcaaGOwn
namespace Go.Proofs.Ytnjhbmpdpejpcaa
open Go.RowKit

section
variable {w y : World} {N rb a fr mn : Nat} {d : M.D}
theorem Gk.waits (h : Gk w y N rb a fr mn d) : Calls Try.prog 30 #[.pointer (some ⟨a, 0, none⟩)] y fun e y' => e = .returned (.int .i64 (d.L.length : Nat)) ∧ y' = y := waits_any y h.disk
theorem Gk.dread (h : Gk w y N rb a fr mn d) (hc : M.Calm d) (ho : d.ops ≤ 1000000) (k : Nat) (hk : k < d.S.length) :
    Calls Try.prog 31 #[.pointer (some ⟨a, 0, none⟩), .int .i64 (k : Nat)] y fun e y' => e = .returned (.tuple #[.string (M.seen d.S d.L k), .int .i64 0]) ∧ Gk w y' N rb a fr mn (M.beginD d) := by
  have := read_any k y h.disk (by omega)
  rw [(hc.readE hk).1, (hc.readE hk).2] at this
  exact this.mono fun e y' ⟨h1, h2, h3⟩ => ⟨h1, h.step (h2.mono (fun _ _ e => Or.inl e)) h3⟩
theorem Gk.alloc (h : Gk w y N rb a fr mn d) (o : Obj) : Gk w (y.alloc o) N rb a fr mn d := h.keep ((Below.refl _ y).alloc (Nat.le_refl _) o)
theorem Dk.keep {P : Nat → Prop} {y' : World} (h : Dk w y N a P d) (hb : Below y.heap.size y y') : Dk w y' N a P d :=
  ⟨h.disk.kept (Kept.of_below hb (fun _ => False)) (fun _ _ => id), h.low, fun k hk => h.up k (Nat.le_trans hb.size hk), h.below.trans (hb.mono h.le), Nat.le_trans h.le hb.size⟩
end

set_option maxRecDepth 100000 in
set_option maxHeartbeats 2000000 in
theorem own_out (fr m at_ : Int) (s : ByteArray) (w : World) (hf9 : fr ≤ 9223372036854775807) (hs : s.size ≤ 1500) (hn : M.within fr m 12 = false) : Calls Try.prog 4 #[.int .i64 fr, .int .i64 m, .int .i64 at_, .string s] w fun e w' => e = .returned (.bool true) ∧ Below w.heap.size w w' := by
  obtain ⟨N, hN⟩ : ∃ N, N = w.heap.size := ⟨_, rfl⟩
  have HNW : Hid (∀ y, Below N w y → Calls Try.prog 8 #[.int .i64 12] y fun e y' => ∃ b, e = .returned (.pointer (some ⟨b, 0, none⟩)) ∧ Dk w y' N b (fun k => N ≤ k) (M.new 12)) := fun y hb => by
    rw [hN] at hb ⊢
    exact knew 12 w y hb
  obtain ⟨p, hp⟩ : ∃ p, p = M.pad s := ⟨_, rfl⟩
  have HP : Hid (∀ y : World, Calls Try.prog 28 #[.string s] y fun e w' => e = .returned (.string p) ∧ Below y.heap.size y w') := fun y => by rw [hp]; exact pad_any s (by omega) y
  have HQ : Hid (∀ y : World, Calls Try.prog 29 #[.string s] y fun e w' => e = .returned (.string p) ∧ w' = y) := fun y => by rw [hp]; exact rpad_any s (by omega) y
  have hsz : p.size = s.size + M.lack s.size := by rw [hp, M.pad_size]
  have hwh := M.lack_whole s.size
  have hll := M.lack_le s.size
  have hpp : (p.toList == p.toList) = true := str_eq_self p
  have hss : (s.toList == s.toList) = true := str_eq_self s
  have hps : p.extract 0 s.size = s := by rw [hp]; exact M.pad_head s
  have b1 : (p.size : Int) % 64 = 0 := by omega
  have b2 : (s.size : Int) ≤ (p.size : Int) := by omega
  have b3 : (s.size : Int) ≤ 1500 := by omega
  have HN9 : Hid (M.within fr m ((12 : Nat) : Int) = false ∧ fr ≤ 9223372036854775807) := ⟨hn, hf9⟩
  rw [← hN]
  have HNN := Lib.hid hN
  clear hN hp hsz hwh hll hs hn hf9
  go_enter Try.func4, Try.ntmps4
  go_wp2_with fail
  refine (works_any w).mono ?_
  rintro e w1 ⟨rfl, h1⟩
  rw [← HNN.out] at h1
  have H1 := Lib.hid (HNW.out w1 h1)
  clear h1 HNW
  go_wp2_with fail
  refine H1.out.mono ?_
  rintro e w2 ⟨a, rfl, h2⟩
  have H2 := Lib.hid h2
  clear h2 H1
  go_wp2_with fail
  refine (new9_no fr m w2 H2.out.disk HN9.out.2 HN9.out.1).mono ?_
  rintro e w3 ⟨rfl, rfl⟩
  go_wp2_with fail
  refine (HP.out _).mono ?_
  rintro e w4 ⟨rfl, h4⟩
  have H4 := Lib.hid (H2.out.keep h4)
  clear h4 H2 HP
  go_wp2_with fail
  refine (HQ.out _).mono ?_
  rintro e w5 ⟨rfl, rfl⟩
  go_wp2_with fail
  refine (kwaits H4.out).mono ?_
  rintro e w6 ⟨rfl, rfl⟩
  go_wp2_with fail
  go_ret
  exact ⟨rfl, H4.out.below⟩

set_option maxRecDepth 100000 in
set_option maxHeartbeats 2000000 in
theorem own_in (fr mn : Nat) (at_ : Int) (s : ByteArray) (w : World) (ha9 : at_ ≤ 9223372036854775807) (hs : s.size ≤ 1500) (hfm : fr + mn ≤ 12) : Calls Try.prog 4 #[.int .i64 (fr : Nat), .int .i64 (mn : Nat), .int .i64 at_, .string s] w fun e w' => e = .returned (.bool true) ∧ Below w.heap.size w w' := by
  obtain ⟨N, hN⟩ : ∃ N, N = w.heap.size := ⟨_, rfl⟩
  have HNW : Hid (∀ y, Below N w y → Calls Try.prog 8 #[.int .i64 12] y fun e y' => ∃ b, e = .returned (.pointer (some ⟨b, 0, none⟩)) ∧ Dk w y' N b (fun k => N ≤ k) (M.new 12)) := fun y hb => by
    rw [hN] at hb ⊢
    exact knew 12 w y hb
  obtain ⟨p, hp⟩ : ∃ p, p = M.pad s := ⟨_, rfl⟩
  have HP : Hid (∀ y : World, Calls Try.prog 28 #[.string s] y fun e w' => e = .returned (.string p) ∧ Below y.heap.size y w') := fun y => by rw [hp]; exact pad_any s (by omega) y
  have HQ : Hid (∀ y : World, Calls Try.prog 29 #[.string s] y fun e w' => e = .returned (.string p) ∧ w' = y) := fun y => by rw [hp]; exact rpad_any s (by omega) y
  have hsz : p.size = s.size + M.lack s.size := by rw [hp, M.pad_size]
  have hwh := M.lack_whole s.size
  have hll := M.lack_le s.size
  have hpp : (p.toList == p.toList) = true := str_eq_self p
  have hss : (s.toList == s.toList) = true := str_eq_self s
  have hps : p.extract 0 s.size = s := by rw [hp]; exact M.pad_head s
  have b1 : (p.size : Int) % 64 = 0 := by omega
  have b2 : (s.size : Int) ≤ (p.size : Int) := by omega
  have b3 : (s.size : Int) ≤ 1500 := by omega
  obtain ⟨n, hn⟩ : ∃ n, n = p.size / 64 := ⟨_, rfl⟩
  have hpn : p.size = 64 * n := by omega
  have hn1 : (n : Int) ≤ 1000 := by omega
  have hdv : (p.size : Int).tdiv 64 = (n : Int) := by rw [Int.tdiv_eq_ediv_of_nonneg (by omega)]; omega
  have hdv' : (p.size : Int) / 64 = (n : Int) := by omega
  have HNR : Hid (∀ (y : World) (a : Nat), Dk w y N a (fun k => N ≤ k) (M.new 12) → Calls Try.prog 10 #[.pointer (some ⟨a, 0, none⟩), .int .i64 (fr : Nat), .int .i64 (mn : Nat)] y fun e w' => ∃ rb, e = .returned (.tuple #[.pointer (some ⟨rb, 0, none⟩), .int .i64 0]) ∧ Gk w w' N rb a fr mn (M.new 12)) := fun y a h =>
    (new9_yes (fr : Nat) (mn : Nat) y h.disk (by omega) (by show M.within (fr : Int) (mn : Int) ((12 : Nat) : Int) = true; unfold M.within; simp; omega)).mono fun _ _ ⟨h1, h2⟩ => ⟨_, h1, h2 ▸ h.part _ (Box.new _ _ _)⟩
  have HWR : Hid (∀ (y : World) (rb a : Nat), Gk w y N rb a fr mn (M.new 12) → Calls Try.prog 17 #[.pointer (some ⟨rb, 0, none⟩), .int .i64 at_, .string p] y fun e y' => e = .returned (.int .i64 (M.gwrite (M.new 12) fr mn at_ p).1) ∧ Gk w y' N rb a fr mn (M.gwrite (M.new 12) fr mn at_ p).2) := fun y rb a h =>
    h.write at_ p ha9 (by omega) (by omega) (by omega) (by show 0 ≤ _; omega)
  rw [← hN]
  have HNN := Lib.hid hN
  have HB := Lib.hid (And.intro hfm (And.intro hpn ha9))
  clear hN hp hsz hwh hll hs hn ha9 hfm hpn
  go_enter Try.func4, Try.ntmps4
  go_wp2_with fail
  refine (works_any w).mono ?_
  rintro e w1 ⟨rfl, h1⟩
  rw [← HNN.out] at h1
  have H1 := Lib.hid (HNW.out w1 h1)
  clear h1 HNW
  go_wp2_with fail
  refine H1.out.mono ?_
  rintro e w2 ⟨a, rfl, h2⟩
  have H2 := Lib.hid (HNR.out _ _ h2)
  clear h2 H1 HNR
  go_wp2_with fail
  refine H2.out.mono ?_
  rintro e w3 ⟨rb, rfl, h3⟩
  have H3 := Lib.hid h3
  clear h3 H2
  go_wp2_with fail
  refine (HP.out _).mono ?_
  rintro e w4 ⟨rfl, h4⟩
  have H4 := Lib.hid (HWR.out _ _ _ (H3.out.keep h4))
  clear h4 H3 HP HWR
  go_wp2_with fail
  refine (HQ.out _).mono ?_
  rintro e w5 ⟨rfl, rfl⟩
  clear HQ
  by_cases hw : M.within at_ (n : Nat) (mn : Nat) = true
  · obtain ⟨i0, i1, i2⟩ := M.within_yes hw
    obtain ⟨i, rfl⟩ : ∃ k : Nat, at_ = k := ⟨at_.toNat, by omega⟩
    obtain ⟨hfm, hpn, _⟩ := HB.out
    obtain ⟨hE, hH⟩ := M.own_yes (fr := fr) (mn := mn) (a := i) (n := n) (s := p) hfm (by omega) hpn
    rw [hE] at H4
    obtain ⟨d1, hd1⟩ : ∃ d, d = (M.gwrite (M.new 12) fr mn (i : Nat) p).2 := ⟨_, rfl⟩
    rw [← hd1] at H4 hH
    obtain ⟨r1, r2, r3⟩ := M.own_read (fr := fr) (mn := mn) (a := i) (n := n) (s := p) hfm (by omega) hpn hH
    have HH := Lib.hid hH
    have HRD : Hid (∀ y, Gk w y N rb a fr mn d1 → Calls Try.prog 12 #[.pointer (some ⟨rb, 0, none⟩), .int .i64 (i : Nat), .int .i64 (n : Nat)] y fun e y' => e = .returned (.tuple #[.string p, .int .i64 0]) ∧ ∃ d2, Gk w y' N rb a fr mn d2 ∧ M.Holds d2 (M.cut n (fr + i) p) (n + n)) := fun y h => by
      have := h.read (i : Nat) (n : Nat) (by omega) (by omega) (by omega) (by rw [hH.ops]; omega)
      rw [r1, r2] at this
      exact this.mono fun _ _ ⟨q1, q2⟩ => ⟨q1, _, q2, r3⟩
    have HB2 : Hid (i + n ≤ mn ∧ fr + mn ≤ 12) := ⟨by omega, hfm⟩
    have bi : (i : Int) ≤ 12 := by omega
    have bf : (fr : Int) ≤ 12 := by omega
    clear hH r1 r2 r3 hd1 hE hw i0 i1 i2 hfm hpn HB
    go_wp2_with fail
    refine H4.out.mono ?_
    rintro e w6 ⟨rfl, h6⟩
    have H6 := Lib.hid (HRD.out _ h6)
    clear h6 H4 HRD
    go_wp2_with fail
    refine H6.out.mono ?_
    rintro e w7 ⟨rfl, d2, h7, h8⟩
    have H7 := Lib.hid h7
    have H8 := Lib.hid h8
    clear h7 h8 H6
    go_wp2_with fail
    go_loopw [16] (fun j wr => ∃ (k : Nat) (dk : M.D), k ≤ 12 ∧ j = .int .i64 k ∧ Hid (Gk w wr N rb a fr mn dk) ∧ Hid (M.Holds dk (M.cut n (fr + i) p) (n + n + k))) (fun j _ => 12 - (intOf j).toNat)
    case atStart => exact ⟨0, d2, by omega, rfl, H7, H8⟩
    case round =>
      clear H7 H8
      obtain ⟨k, dk, hk, rfl, HA, HD⟩ := hrel
      by_cases hlt : k < 12
      · have hlt' : (k : Int) < 12 := by omega
        have hk0 : (0 : Int) ≤ (k : Int) := by omega
        have hR := HA.out.dread HD.out.calm (by rw [HD.out.ops]; omega) k (by rw [HD.out.len]; exact hlt)
        have HDn := Lib.hid HD.out.begin
        by_cases hown : fr + i ≤ k ∧ k < fr + i + n
        · have o1 : (i : Int) ≤ (k : Int) - (fr : Int) := by omega
          have o2 : (k : Int) - (fr : Int) - (i : Int) < (n : Int) := by omega
          obtain ⟨x, hx⟩ : ∃ x, x = M.seen dk.S dk.L k := ⟨_, rfl⟩
          rw [← hx] at hR
          have HR := Lib.hid hR
          clear hR hx hown
          go_wp2_with fail
          refine HR.out.mono ?_
          rintro e w8 ⟨rfl, h8⟩
          have H8 := Lib.hid h8
          clear h8 HR
          go_wp2_with fail
          go_roundw
          case rel => exact ⟨k + 1, _, by omega, by go_num, H8, HDn⟩
          case measure => simp [intOf]; omega
        · have hz := HD.out.other hlt hown
          rw [hz] at hR
          obtain ⟨zz, hzz⟩ : ∃ z, z = M.zero := ⟨_, rfl⟩
          rw [← hzz] at hR
          have HR := Lib.hid hR
          have hze : (zz.toList == zz.toList) = true := str_eq_self zz
          obtain ⟨R, hRR⟩ : ∃ R, R = M.nils 64 := ⟨_, rfl⟩
          have hmk : ∀ W : World, (Instr.makeSlice 60 (.int .i64 64) (.int .i64 64)).run Try.prog W = .ok (.slice (some ⟨W.heap.size, 0, none⟩) 64 64) (W.alloc (.cells R 5)) := fun W => by rw [hRR]; exact make_nils 64 (by omega) W
          have hcv : ∀ W : World, Sem.run Try.prog (convert 60 9 (.slice (some ⟨W.heap.size, 0, none⟩) 64 64)) (W.alloc (.cells R 5)) = .ok (.string zz) (W.alloc (.cells R 5)) := fun W => by rw [hzz, ← M.zeros64]; exact conv_nils 64 _ _ (by rw [hRR]; exact Box.new _ _ _)
          have HO : Hid (fr + i ≤ k → ¬ k < fr + i + n) := fun h1 h2 => hown ⟨h1, h2⟩
          clear hR hz hzz hRR hown
          by_cases o1 : (i : Int) ≤ (k : Int) - (fr : Int)
          · have o2 : ¬ (k : Int) - (fr : Int) - (i : Int) < (n : Int) := by have := HO.out; omega
            go_wp2_with fail
            refine HR.out.mono ?_
            rintro e w8 ⟨rfl, h8⟩
            have H8 := Lib.hid (h8.alloc (.cells R 5))
            clear h8 HR
            go_wp2_with fail
            go_roundw
            case rel => exact ⟨k + 1, _, by omega, by go_num, H8, HDn⟩
            case measure => simp [intOf]; omega
          · go_wp2_with fail
            refine HR.out.mono ?_
            rintro e w8 ⟨rfl, h8⟩
            have H8 := Lib.hid (h8.alloc (.cells R 5))
            clear h8 HR
            go_wp2_with fail
            go_roundw
            case rel => exact ⟨k + 1, _, by omega, by go_num, H8, HDn⟩
            case measure => simp [intOf]; omega
      · have e : k = 12 := by omega
        subst e
        go_wp2_with fail
        go_ret
        exact ⟨rfl, HA.out.below⟩
  · have hg := M.own_no (fr := fr) (mn := mn) (n := n) (i := at_) (s := p) HB.out.2.1 (by simpa using hw)
    rw [hg] at H4
    clear hg hw HB
    go_wp2_with fail
    refine H4.out.mono ?_
    rintro e w6 ⟨rfl, h6⟩
    have H6 := Lib.hid h6
    clear h6 H4
    go_wp2_with fail
    refine H6.out.waits.mono ?_
    rintro e w7 ⟨rfl, rfl⟩
    go_wp2_with fail
    go_ret
    exact ⟨rfl, H6.out.below⟩

set_option maxRecDepth 100000 in
theorem regionOwn_walk (fr : Int) (_ : -9223372036854775808 ≤ fr) (f9 : fr ≤ 9223372036854775807) (m : Int) (_ : -9223372036854775808 ≤ m) (_ : m ≤ 9223372036854775807) (at_ : Int) (_ : -9223372036854775808 ≤ at_) (a9 : at_ ≤ 9223372036854775807) (s : ByteArray) (w : World) :
    Calls Try.prog 4 #[.int .i64 fr, .int .i64 m, .int .i64 at_, .string s] w fun e w' => e = .returned (.bool true) ∧ Below w.heap.size w w' := by
  by_cases hs : s.size ≤ 1500
  · by_cases hn : M.within fr m 12 = true
    · obtain ⟨h0, h1, h2⟩ := M.within_yes hn
      obtain ⟨k, rfl⟩ : ∃ k : Nat, fr = k := ⟨fr.toNat, by omega⟩
      obtain ⟨n, rfl⟩ : ∃ k : Nat, m = k := ⟨m.toNat, by omega⟩
      exact own_in k n at_ s w a9 hs (by omega)
    · exact own_out fr m at_ s w f9 hs (by simpa using hn)
  · have hs' : (1500 : Int) < (s.size : Int) := by omega
    go_enter Try.func4, Try.ntmps4
    go_wp2_with fail
    refine (works_any w).mono ?_
    rintro e w1 ⟨rfl, h1⟩
    have H1 := Lib.hid h1
    clear h1
    go_wp2_with fail
    go_ret
    exact ⟨rfl, H1.out⟩
end Go.Proofs.Ytnjhbmpdpejpcaa
