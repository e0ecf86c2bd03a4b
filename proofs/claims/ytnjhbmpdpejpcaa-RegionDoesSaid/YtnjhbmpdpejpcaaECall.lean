/-
  Walks over solderref08's call, may, Read, and over disk.Fail and DownAt.
-/
import Derived.Test.YtnjhbmpdpejpcaaEBase
import Derived.Test.YtnjhbmpdpejpcaaDRead
namespace Go.Proofs.Ytnjhbmpdpejpcaa
open Go.RowKit

/-- What a call comes to ahead of what it does, and whether the disk goes down at it. -/
def M.callE (r : M.R) : Int := if r.off = true then 31 else if r.at_ = (r.ops + 1 : Nat) then 31 else if ((r.ops + 1 : Nat) : Int) ∈ r.fails then 30 else 0
def M.callL (r : M.R) : Bool := !r.off && decide (r.at_ = (r.ops + 1 : Nat))
def M.callR (r : M.R) : M.R := { r with ops := r.ops + 1, off := r.off || decide (r.at_ = (r.ops + 1 : Nat)) }

theorem RefAt.poke {w : World} {b : Nat} {SV EV WV FV : Value} {r r' : M.R} (h : RefAt w b SV EV WV FV r) {i : Nat} {u : Value} (h1 : r'.sure = r.sure) (h2 : r'.seen = r.seen) (h3 : r'.wait = r.wait) (h4 : r'.fails = r.fails) (ho : r.ops ≤ r'.ops)
    (hb : (#[SV, EV, WV, .int .i64 (r.ops : Nat), FV, .int .i64 r.at_, .bool r.off] : Array Value).setIfInBounds i u = #[SV, EV, WV, .int .i64 (r'.ops : Nat), FV, .int .i64 r'.at_, .bool r'.off]) : RefAt (w.setCell ⟨b, i, none⟩ u) b SV EV WV FV r' := by
  have hk : Kept (fun k => k = b) w (w.setCell ⟨b, i, none⟩ u) := Kept.set' (P := fun k => k = b) rfl i u
  refine ⟨?_, ?_, ?_, ?_, ?_, by rw [h1, h2]; exact h.len, by rw [h1]; exact h.many, by rw [h1, h3]; exact h.lies, by rw [h3]; exact Nat.le_trans h.some_ ho, by rw [h4]; exact h.few, h.ns, h.ne, h.nw, h.nf⟩
  · rw [← hb]
    exact h.box.set i u
  · rw [h1]
    exact hk.owns h.sure h.ns
  · rw [h2]
    exact hk.owns h.seen h.ne
  · rw [h3]
    exact hk.owns h.wait h.nw
  · rw [h4]
    exact hk.owns h.fails h.nf
theorem RefAt.counted {w : World} {b : Nat} {SV EV WV FV : Value} {r : M.R} (h : RefAt w b SV EV WV FV r) (n : Nat) (hn : n = r.ops + 1) : RefAt (w.setCell ⟨b, 3, none⟩ (.int .i64 (n : Nat))) b SV EV WV FV { r with ops := n } :=
  h.poke rfl rfl rfl rfl (by subst hn; exact Nat.le_succ _) rfl
theorem RefAt.downed {w : World} {b : Nat} {SV EV WV FV : Value} {r : M.R} (h : RefAt w b SV EV WV FV r) : RefAt (w.setCell ⟨b, 6, none⟩ (.bool true)) b SV EV WV FV { r with off := true } :=
  h.poke rfl rfl rfl rfl (Nat.le_refl _) rfl

set_option maxHeartbeats 1000000 in
theorem rcall_at (w : World) {b : Nat} {SV EV WV FV : Value} {r : M.R} (h : RefAt w b SV EV WV FV r) (ho : r.ops ≤ 1099511627776) :
    Calls Try.prog 42 #[.pointer (some ⟨b, 0, none⟩)] w fun e w' => e = .returned (.tuple #[.int .i64 (M.callE r), .bool (M.callL r)]) ∧ RefAt w' b SV EV WV FV (M.callR r) ∧ Kept (fun k => k = b) w w' := by
  obtain ⟨FA, fc, rfl, _⟩ := owns_shape h.fails
  have c3 := h.c3
  have f3 := h.box.frozen 3
  obtain ⟨n, hn⟩ : ∃ n, n = r.ops + 1 := ⟨_, rfl⟩
  have hni : (r.ops : Int) + 1 = (n : Int) := by omega
  have hn63 : (n : Int) ≤ 9223372036854775807 := by omega
  have hnw : wrap64 (n : Int) = (n : Int) := by unfold wrap64; omega
  have hc := h.counted n hn
  have HE : Hid (M.callE r = if r.off = true then 31 else if r.at_ = (n : Nat) then 31 else if (n : Int) ∈ r.fails then 30 else 0) := by rw [hn]; exact rfl
  have HL : Hid (M.callL r = (!r.off && decide (r.at_ = (n : Nat)))) := by rw [hn]; exact rfl
  have HR : Hid (M.callR r = { r with ops := n, off := r.off || decide (r.at_ = (n : Nat)) }) := by rw [hn]; exact rfl
  rw [HE.out, HL.out, HR.out]
  have HK1 : Hid (Kept (fun k => k = b) w (w.setCell ⟨b, 3, none⟩ (.int .i64 (n : Nat)))) := Kept.set' (P := fun k => k = b) rfl 3 _
  have hfl := h.few
  have c6s := hc.c6
  simp only at c6s
  clear HE HL HR hn h ho
  obtain ⟨w0, hw0⟩ : ∃ x, x = w.setCell ⟨b, 3, none⟩ (.int .i64 (n : Nat)) := ⟨_, rfl⟩
  rw [← hw0] at hc HK1
  have d3 := hc.c3
  have d4 := hc.c4
  have d5 := hc.c5
  have d6 := hc.c6
  have g6 := hc.box.frozen 6
  simp only at d3 d4 d5 d6
  have HH : Hid (∀ q m, Calls Try.prog 44 #[.slice FA r.fails.length fc, .int .i64 (n : Int)] ((w0.drewN q).drewN m) fun e w' => e = .returned (.bool (decide ((n : Int) ∈ r.fails))) ∧ w' = (w0.drewN q).drewN m) :=
    fun q m => rhas_any r.fails n _ _ ((hc.drewN q).drewN m).fails (by omega)
  have HA := Lib.hid hc
  have HW0 := Lib.hid hw0
  clear hw0 hc hfl
  cases hoff : r.off with
  | true =>
    rw [if_pos rfl, Bool.true_or, Bool.not_true, Bool.false_and]
    rw [hoff] at d6 c6s
    have HO := Lib.hid hoff
    clear hoff
    go_enter Try.func42, Try.ntmps42
    go_wp2_with fail
    rw [← HW0.out]
    go_ret2
    exact ⟨rfl, by have := HA.out; rw [HO.out] at this; exact this, HK1.out⟩
  | false =>
    rw [if_neg (by simp), Bool.false_or, Bool.not_false, Bool.true_and]
    rw [hoff] at d6 c6s
    have HO := Lib.hid hoff
    clear hoff
    by_cases hda : r.at_ = (n : Int)
    · rw [if_pos hda, decide_eq_true hda]
      have HDA := Lib.hid hda
      rw [hda] at d5
      have HX : Hid (∀ m, RefAt ((w0.drewN m).setCell ⟨b, 6, none⟩ (.bool true)) b SV EV WV (.slice FA r.fails.length fc) { r with ops := n, off := true } ∧ Kept (fun k => k = b) w ((w0.drewN m).setCell ⟨b, 6, none⟩ (.bool true))) :=
        fun m => ⟨(HA.out.drewN m).downed, (HK1.out.drewN m).trans (Kept.set' (P := fun k => k = b) rfl 6 _)⟩
      clear hda
      go_enter Try.func42, Try.ntmps42
      go_wp2_with fail
      rw [← HW0.out]
      go_quiet (fail)
      go_wp2_with fail
      go_ret2
      exact ⟨rfl, (HX.out _).1, (HX.out _).2⟩
    · rw [if_neg hda, decide_eq_false hda]
      have hdb : (r.at_ == (n : Int)) = false := by rw [beq_eq_false_iff_ne]; exact hda
      have HAA : Hid (RefAt w0 b SV EV WV (.slice FA r.fails.length fc) { r with ops := n, off := false }) := by have := HA.out; rw [HO.out] at this; exact this
      clear hda
      by_cases hff : (n : Int) ∈ r.fails
      · rw [if_pos hff]
        rw [decide_eq_true hff] at HH
        clear hff
        go_enter Try.func42, Try.ntmps42
        go_wp2_with fail
        rw [← HW0.out]
        go_quiet (fail)
        go_wp2_with fail
        obtain ⟨x, hx⟩ : ∃ x, x = w0.drewN nq := ⟨_, rfl⟩
        have e3 : x.cell? ⟨b, 3, none⟩ = some (.int .i64 (n : Nat)) := by rw [hx]; exact d3
        have e4 : x.cell? ⟨b, 4, none⟩ = some (.slice FA r.fails.length fc) := by rw [hx]; exact d4
        have HHx := Lib.hid (HH.out nq)
        rw [← hx] at HHx
        have HXA : Hid (∀ m, RefAt (x.drewN m) b SV EV WV (.slice FA r.fails.length fc) { r with ops := n, off := false }) := by rw [hx]; exact fun m => (HAA.out.drewN nq).drewN m
        have HXK : Hid (∀ m, Kept (fun k => k = b) w (x.drewN m)) := by rw [hx]; exact fun m => (HK1.out.drewN nq).drewN m
        rw [← hx]
        clear hx d3 d4 d5 d6 g6 HH HAA HK1
        go_quiet ((go_at_call 44; exact quiet_same (HHx.out _)))
        go_wp2_with fail
        go_ret2
        exact ⟨rfl, HXA.out _, HXK.out _⟩
      · rw [if_neg hff]
        rw [decide_eq_false hff] at HH
        clear hff
        go_enter Try.func42, Try.ntmps42
        go_wp2_with fail
        rw [← HW0.out]
        go_quiet (fail)
        go_wp2_with fail
        obtain ⟨x, hx⟩ : ∃ x, x = w0.drewN nq := ⟨_, rfl⟩
        have e3 : x.cell? ⟨b, 3, none⟩ = some (.int .i64 (n : Nat)) := by rw [hx]; exact d3
        have e4 : x.cell? ⟨b, 4, none⟩ = some (.slice FA r.fails.length fc) := by rw [hx]; exact d4
        have HHx := Lib.hid (HH.out nq)
        rw [← hx] at HHx
        have HXA : Hid (∀ m, RefAt (x.drewN m) b SV EV WV (.slice FA r.fails.length fc) { r with ops := n, off := false }) := by rw [hx]; exact fun m => (HAA.out.drewN nq).drewN m
        have HXK : Hid (∀ m, Kept (fun k => k = b) w (x.drewN m)) := by rw [hx]; exact fun m => (HK1.out.drewN nq).drewN m
        rw [← hx]
        clear hx d3 d4 d5 d6 g6 HH HAA HK1
        go_quiet ((go_at_call 44; exact quiet_same (HHx.out _)))
        go_wp2_with fail
        go_ret2
        exact ⟨rfl, HXA.out _, HXK.out _⟩

theorem rmay_at (i : Int) (s : ByteArray) (w : World) {b : Nat} {SV EV WV FV : Value} {r : M.R} (h : RefAt w b SV EV WV FV r) :
    Calls Try.prog 58 #[.pointer (some ⟨b, 0, none⟩), .int .i64 i, .string s] w fun e w' => e = .returned (.int .i64 (M.wrong r.seen.length i s)) ∧ w' = w := by
  obtain ⟨EA, ec, rfl, _⟩ := owns_shape h.seen
  have c1 := h.c1
  have hmany := h.many
  have hlen := h.len
  clear h
  obtain ⟨n, hn⟩ : ∃ n, n = r.seen.length := ⟨_, rfl⟩
  rw [← hn] at c1 ⊢
  clear hn hlen hmany
  unfold M.wrong M.hasB
  by_cases h0 : i < 0
  · have e : (decide (0 ≤ i) && decide (i < (n : Int))) = false := by simp; omega
    have hd : decide (i < 0) = true := by simpa using h0
    rw [e, if_neg (by simp)]
    clear e h0
    go_enter Try.func58, Try.ntmps58
    go_wp2_with fail
    go_ret
    exact ⟨rfl, rfl⟩
  · have hd : decide (i < 0) = false := by simpa using h0
    by_cases h1 : i < (n : Int)
    · have e : (decide (0 ≤ i) && decide (i < (n : Int))) = true := by simp; omega
      have hd1 : decide ((n : Int) ≤ i) = false := by simp; omega
      rw [e, if_pos rfl]
      clear e h0 h1
      by_cases h64 : s.size = 64
      · rw [if_pos h64]
        go_enter Try.func58, Try.ntmps58
        go_wp2_with fail
        go_ret
        exact ⟨rfl, rfl⟩
      · rw [if_neg h64]
        have h64' : ((s.size : Int) == 64) = false := by rw [beq_eq_false_iff_ne]; omega
        clear h64
        go_enter Try.func58, Try.ntmps58
        go_wp2_with fail
        go_ret
        exact ⟨rfl, rfl⟩
    · have e : (decide (0 ≤ i) && decide (i < (n : Int))) = false := by simp; omega
      have hd1 : decide ((n : Int) ≤ i) = true := by simp; omega
      rw [e, if_neg (by simp)]
      clear e h0 h1
      go_enter Try.func58, Try.ntmps58
      go_wp2_with fail
      go_ret
      exact ⟨rfl, rfl⟩

/-- What a read of the document's disk comes to. -/
def M.rreadE (r : M.R) (i : Int) : Int := if M.callE r = 0 then (if M.hasB r.seen.length i = true then 0 else 3) else M.callE r
def M.rreadS (r : M.R) (i : Int) : ByteArray := if M.callE r = 0 then (if M.hasB r.seen.length i = true then r.seen.getD i.toNat ByteArray.empty else ⟨#[]⟩) else ⟨#[]⟩
/-- The cells of an owned row of texts. -/
theorem owned_strs {w : World} {B g n cap : Nat} {L : List ByteArray} (h : w.ownsRow B 9 1 (.slice (some ⟨g, 0, none⟩) n cap) n (L.map Value.string)) {j : Nat} {s : ByteArray} (hj : L[j]? = some s) : w.cell? ⟨g, j, none⟩ = some (.string s) := by
  have := h.cells (g := g) rfl j (.string s) (by simp [hj])
  rwa [blk_add] at this

set_option maxHeartbeats 1000000 in
theorem rread_at (i : Int) (w : World) {b : Nat} {SV EV WV FV : Value} {r : M.R} (h : RefAt w b SV EV WV FV r) (ho : r.ops ≤ 1099511627776) :
    Calls Try.prog 38 #[.pointer (some ⟨b, 0, none⟩), .int .i64 i] w fun e w' => e = .returned (.tuple #[.string (M.rreadS r i), .int .i64 (M.rreadE r i)]) ∧ RefAt w' b SV EV WV FV (M.callR r) ∧ Kept (fun k => k = b) w w' := by
  have HC := Lib.hid (rcall_at w h ho)
  obtain ⟨EA, ec, hEA, _⟩ := owns_shape h.seen
  obtain ⟨n, hn⟩ : ∃ n, n = r.seen.length := ⟨_, rfl⟩
  have HV : Hid (∀ y, RefAt y b SV EV WV FV (M.callR r) → y.cell? ⟨b, 1, none⟩ = some (.slice EA n ec)) := fun y hy => by rw [hn, ← hEA]; exact hy.c1
  have HX : Hid (∀ y, RefAt y b SV EV WV FV (M.callR r) → ∀ k s, r.seen[k]? = some s → ∃ g, EA = some ⟨g, 0, none⟩ ∧ y.cell? ⟨g, k, none⟩ = some (.string s)) := fun y hy k s hk => by
    have hs : y.ownsRow 0 9 1 EV r.seen.length (r.seen.map Value.string) := hy.seen
    have hkl := (List.getElem?_eq_some_iff.1 hk).1
    rcases hs.2 with ⟨_, e⟩ | ⟨g, cap, cur, e, _⟩
    · omega
    · refine ⟨g, ?_, ?_⟩
      · rw [hEA] at e
        injection e with e
      · rw [e] at hs
        exact owned_strs hs hk
  unfold M.rreadS M.rreadE
  rw [← hn]
  have hmany : n ≤ 1000 := by rw [hn, h.len]; exact h.many
  by_cases hE : M.callE r = 0
  · rw [if_pos hE, if_pos hE]
    rw [hE] at HC
    clear hE
    unfold M.hasB
    by_cases h0 : i < 0
    · have e : (decide (0 ≤ i) && decide (i < (n : Int))) = false := by simp; omega
      have hd : decide (i < 0) = true := by simpa using h0
      rw [e, if_neg (by simp), if_neg (by simp)]
      clear e h0 h hn hEA
      go_enter Try.func38, Try.ntmps38
      go_wp2_with fail
      refine HC.out.mono ?_
      rintro e w1 ⟨rfl, hA, hk⟩
      have HA := Lib.hid hA
      have HK := Lib.hid hk
      clear hA hk
      go_wp2_with fail
      go_ret2
      exact ⟨rfl, HA.out, HK.out⟩
    · have hd : decide (i < 0) = false := by simpa using h0
      by_cases h1 : i < (n : Int)
      · have e : (decide (0 ≤ i) && decide (i < (n : Int))) = true := by simp; omega
        have hd1 : decide ((n : Int) ≤ i) = false := by simp; omega
        rw [e, if_pos rfl, if_pos rfl]
        obtain ⟨k, rfl⟩ : ∃ k : Nat, i = k := ⟨i.toNat, by omega⟩
        rw [Int.toNat_natCast]
        have hkn : k < r.seen.length := by omega
        have hg : r.seen.getD k ByteArray.empty = r.seen[k]'hkn := by simp [hkn]
        rw [hg]
        have hk? : r.seen[k]? = some (r.seen[k]'hkn) := List.getElem?_eq_getElem hkn
        obtain ⟨s, hs⟩ : ∃ s, s = r.seen[k]'hkn := ⟨_, rfl⟩
        rw [← hs] at hk? ⊢
        have HK? := Lib.hid hk?
        have hk0 : (0 : Int) ≤ (k : Int) := by omega
        clear e h0 h hn hEA hg hs hk? hkn
        go_enter Try.func38, Try.ntmps38
        go_wp2_with fail
        refine HC.out.mono ?_
        rintro e w1 ⟨rfl, hA, hk⟩
        have x1 := HV.out w1 hA
        obtain ⟨g, rfl, x2⟩ := HX.out w1 hA k s HK?.out
        have HA := Lib.hid hA
        have HK := Lib.hid hk
        clear hA hk HV HX HC
        go_wp2_with fail
        go_ret2
        exact ⟨rfl, HA.out, HK.out⟩
      · have e : (decide (0 ≤ i) && decide (i < (n : Int))) = false := by simp; omega
        have hd1 : decide ((n : Int) ≤ i) = true := by simp; omega
        rw [e, if_neg (by simp), if_neg (by simp)]
        clear e h0 h1 h hn hEA
        go_enter Try.func38, Try.ntmps38
        go_wp2_with fail
        refine HC.out.mono ?_
        rintro e w1 ⟨rfl, hA, hk⟩
        have x1 := HV.out w1 hA
        have HA := Lib.hid hA
        have HK := Lib.hid hk
        clear hA hk
        go_wp2_with fail
        go_ret2
        exact ⟨rfl, HA.out, HK.out⟩
  · rw [if_neg hE, if_neg hE]
    obtain ⟨E, hEE⟩ : ∃ E, E = M.callE r := ⟨_, rfl⟩
    rw [← hEE] at HC hE ⊢
    have hE' : (E == 0) = false := by rw [beq_eq_false_iff_ne]; exact hE
    clear hEE h hn hEA
    go_enter Try.func38, Try.ntmps38
    go_wp2_with fail
    refine HC.out.mono ?_
    rintro e w1 ⟨rfl, hA, hk⟩
    have HA := Lib.hid hA
    have HK := Lib.hid hk
    clear hA hk
    go_wp2_with fail
    go_ret2
    exact ⟨rfl, HA.out, HK.out⟩
end Go.Proofs.Ytnjhbmpdpejpcaa
