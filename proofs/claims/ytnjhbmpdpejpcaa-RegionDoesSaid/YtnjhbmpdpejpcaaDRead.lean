/-
  Walks over disk.Read.
-/
import Derived.Test.YtnjhbmpdpejpcaaDFlush
namespace Go.Proofs.Ytnjhbmpdpejpcaa
open Go.RowKit Go.Maps

theorem zeroI (w : World) : (zeroValue 3).run Try.prog w = .ok (.int .i64 0) w := by kernel_rfl

theorem read_nil (i : Int) (w : World) : Calls Try.prog 31 #[.pointer none, .int .i64 i] w fun e w' => e = .returned (.tuple #[.string ⟨#[]⟩, .int .i64 10]) ∧ w' = w := by
  go_enter Try.func31, Try.ntmps31
  go_wp2_with fail
  refine (begin_nil w).mono ?_
  rintro e w1 ⟨rfl, rfl⟩
  go_wp2_with fail
  go_ret2
  exact ⟨rfl, rfl⟩

/-- What a read comes to. -/
def M.readE (d : M.D) (i : Int) : Int := if M.beginE d = 0 then (if M.hasB d.S.length i = true then 0 else 3) else M.beginE d
def M.readS (d : M.D) (i : Int) : ByteArray := if M.beginE d = 0 then (if M.hasB d.S.length i = true then M.seen d.S d.L i.toNat else ⟨#[]⟩) else ⟨#[]⟩

set_option maxHeartbeats 1000000 in
theorem read_at (i : Int) (w : World) {b sb mb : Nat} {WV FV : Value} {d : M.D} (h : DiskAt w b sb mb WV FV d) (ho : d.ops ≤ 1099511627776) :
    Calls Try.prog 31 #[.pointer (some ⟨b, 0, none⟩), .int .i64 i] w fun e w' => e = .returned (.tuple #[.string (M.readS d i), .int .i64 (M.readE d i)]) ∧
      ∃ FV', DiskAt w' b sb mb WV FV' (M.beginD d) ∧ FV'.ownBlock = FV.ownBlock ∧ Kept (fun k => k = b ∨ FV.ownBlock = some k) w w' := by
  have HB := Lib.hid (begin_at w h ho)
  have HH : Hid (∀ y FV', DiskAt y b sb mb WV FV' (M.beginD d) → Calls Try.prog 48 #[.pointer (some ⟨b, 0, none⟩), .int .i64 i] y fun e w' => e = .returned (.bool (M.hasB d.S.length i)) ∧ w' = y) :=
    fun y FV' hy => dhas_any (d := M.beginD d) i y hy.disk
  have hsome := h.inv.some_
  have hmany := h.inv.many
  unfold M.readS M.readE
  by_cases hE : M.beginE d = 0
  · rw [if_pos hE, if_pos hE]
    rw [hE] at HB
    clear hE
    cases hb : M.hasB d.S.length i with
    | false =>
      rw [hb] at HH
      rw [if_neg (by simp), if_neg (by simp)]
      clear hb h
      go_enter Try.func31, Try.ntmps31
      go_wp2_with fail
      refine HB.out.mono ?_
      rintro e w1 ⟨rfl, FV', hA, hf, hk⟩
      have HA := Lib.hid hA
      have HF := Lib.hid hf
      have HK := Lib.hid hk
      clear hA hf hk
      go_wp2_with fail
      refine (HH.out _ _ HA.out).mono ?_
      rintro e w2 ⟨rfl, rfl⟩
      go_wp2_with fail
      go_ret2
      exact ⟨rfl, FV', HA.out, HF.out, HK.out⟩
    | true =>
      rw [hb] at HH
      rw [if_pos rfl, if_pos rfl]
      obtain ⟨k, rfl, hkn⟩ : ∃ k : Nat, i = k ∧ k < d.S.length := by
        unfold M.hasB at hb
        simp at hb
        exact ⟨i.toNat, by omega, by omega⟩
      rw [Int.toNat_natCast]
      have hk0 : (0 : Int) ≤ (k : Int) := by omega
      have hwf : (Lit.int .i64 (k : Int)).wf = true := WalkArith.wf_i64 (by omega)
      obtain ⟨n, hn⟩ : ∃ n, n = d.L.length := ⟨_, rfl⟩
      obtain ⟨zz, hzz⟩ : ∃ zz, zz = d.S.length := ⟨_, rfl⟩
      have HC : Hid (∀ y FV', DiskAt y b sb mb WV FV' (M.beginD d) → ∃ m : DataW Unit, y.cell? ⟨b, 0, none⟩ = some (.slice (some ⟨sb, 0, none⟩) zz zz) ∧ y.cell? ⟨b, 1, none⟩ = some WV ∧ y.cell? ⟨b, 2, none⟩ = some (.map (some mb)) ∧ Hid (y.ownsMap Try.prog 3 (plainElem Try.prog 3) mb n m) ∧ Hid (M.MapIs m d.L) ∧
          y.cell? ⟨sb, k, none⟩ = some (.string (d.S[k]'hkn)) ∧ Hid (y.ownsRow 0 80 2 WV n (M.cells d.L))) := by
        intro y FV' hy
        obtain ⟨m, h1, h2⟩ := hy.map
        refine ⟨m, by rw [hzz]; exact hy.c0, hy.c1, hy.c2, by rw [hn]; exact h1, h2, ?_, by rw [hn]; exact hy.writes⟩
        rw [hy.sure.cell k]
        show ((d.S.map Value.string).toArray)[k]? = _
        simp [hkn]
      have hkz : (k : Int) < (zz : Int) := by omega
      have HKN := Lib.hid hkn
      obtain ⟨o, hoo⟩ : ∃ o, o = M.seen d.S d.L k := ⟨_, rfl⟩
      rw [← hoo]
      have HOO := Lib.hid hoo
      clear hoo
      have HN := Lib.hid hn
      have hn40 : (n : Int) ≤ 1099511627777 := by omega
      clear hb h hn hzz
      go_enter Try.func31, Try.ntmps31
      go_wp2_with fail
      refine HB.out.mono ?_
      rintro e w1 ⟨rfl, FV', hA, hf, hk⟩
      have HA := Lib.hid hA
      have HF := Lib.hid hf
      have HK := Lib.hid hk
      clear hA hf hk HB
      go_wp2_with fail
      refine (HH.out _ _ HA.out).mono ?_
      rintro e w2 ⟨rfl, rfl⟩
      obtain ⟨m, y0, y1, y2, HM, HI, y3, HW⟩ := HC.out _ _ HA.out
      clear HC HH
      rcases HI.out.2 k with ⟨hh, hs⟩ | ⟨j, p, hh, hat, hp, hs⟩
      · have HSS : Hid (M.seen d.S d.L k = d.S[k]'HKN.out) := by
          show M.seen _ _ _ = _
          unfold M.seen
          rw [hs]
          simp [HKN.out]
        obtain ⟨s, hss⟩ : ∃ s, s = d.S[k]'HKN.out := ⟨_, rfl⟩
        rw [← hss] at y3
        have HSO : Hid (o = s) := HOO.out.trans (HSS.out.trans hss.symm)
        clear hs hss HSS HOO
        go_wp2_with (at_lookup; refine wpList_lookup_own_ok_int _ rfl _ _ 65 rfl 3 3 .i64 keyI Try.underlying65 Try.underlying3 (zeroI _) mb n m rfl HM.out _ _ rfl (keyOf_int_mk Try.underlying3 hwf) ?_; intro c _ _; rw [hh])
        go_ret2
        exact ⟨by rw [HSO.out]; rfl, FV', HA.out, HF.out, HK.out⟩
      · have HSS : Hid (M.seen d.S d.L k = p.2) := by
          show M.seen _ _ _ = _
          unfold M.seen
          rw [hs]
          rfl
        obtain ⟨a, s⟩ := p
        have HSO : Hid (o = s) := HOO.out.trans HSS.out
        have hjn : j < n := by rw [HN.out]; exact (List.getElem?_eq_some_iff.1 hp).1
        have hjn' : (j : Int) < (n : Int) := by omega
        have hj0 : (0 : Int) ≤ (j : Int) := by omega
        rcases HW.out.2 with ⟨_, e⟩ | ⟨g, cap, cur, rfl, _⟩
        · omega
        · obtain ⟨_, x1⟩ := owned_writes HW.out hp
          simp only at x1
          clear hs HSS hp HOO
          go_wp2_with (at_lookup; refine wpList_lookup_own_ok_int _ rfl _ _ 65 rfl 3 3 .i64 keyI Try.underlying65 Try.underlying3 (zeroI _) mb n m rfl HM.out _ _ rfl (keyOf_int_mk Try.underlying3 hwf) ?_; intro c hat2 _; rw [hh]; obtain rfl : c = (j : Int) := (by rw [hat] at hat2; injection hat2 with e; injection e with _ e; exact e.symm))
          go_ret2
          exact ⟨by rw [HSO.out]; rfl, FV', HA.out, HF.out, HK.out⟩
  · rw [if_neg hE, if_neg hE]
    obtain ⟨E, hEE⟩ : ∃ E, E = M.beginE d := ⟨_, rfl⟩
    rw [← hEE] at HB hE ⊢
    have hE' : (E == 0) = false := by rw [beq_eq_false_iff_ne]; exact hE
    clear hEE h
    go_enter Try.func31, Try.ntmps31
    go_wp2_with fail
    refine HB.out.mono ?_
    rintro e w1 ⟨rfl, FV', hA, hf, hk⟩
    have HA := Lib.hid hA
    have HF := Lib.hid hf
    have HK := Lib.hid hk
    clear hA hf hk
    go_wp2_with fail
    go_ret2
    exact ⟨rfl, FV', HA.out, HF.out, HK.out⟩

theorem read_any (i : Int) (w : World) {b : Nat} {P : Nat → Prop} {d : M.D} (h : Disk w b P d) (ho : d.ops ≤ 1099511627776) :
    Calls Try.prog 31 #[.pointer (some ⟨b, 0, none⟩), .int .i64 i] w fun e w' => e = .returned (.tuple #[.string (M.readS d i), .int .i64 (M.readE d i)]) ∧ Disk w' b P (M.beginD d) ∧ Kept P w w' := by
  obtain ⟨sb, mb, WV, FV, h, p1, p2, p3, p4, p5⟩ := h
  refine (read_at i w h ho).mono ?_
  rintro e w' ⟨rfl, FV', hA, hf, hk⟩
  exact ⟨rfl, ⟨sb, mb, WV, FV', hA, p1, p2, p3, p4, fun k e => p5 k (hf ▸ e)⟩, hk.mono (fun k _ e => e.elim (fun e => e ▸ p1) (p5 k))⟩
end Go.Proofs.Ytnjhbmpdpejpcaa
