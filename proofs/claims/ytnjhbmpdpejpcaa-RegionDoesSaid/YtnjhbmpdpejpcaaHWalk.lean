/-
  A walk over RegionDoes, wherever the part is.
-/
import Derived.Test.YtnjhbmpdpejpcaaHLawDoes
namespace Go.Proofs.Ytnjhbmpdpejpcaa
open Go.RowKit Go.ChangeShapes Go.WideShapes Go.ChangeAt Go.Deep

set_option maxRecDepth 100000 in
set_option maxHeartbeats 2000000 in
theorem does_out (fr m : Int) (A : Option Addr) (len cap : Nat) (f : Nat → M.Op) (w : World) (hf9 : fr ≤ 9223372036854775807) (hn : M.within fr m 12 = false) (hA : OpF w A len f) (hlen : len ≤ maxLen) :
    Calls Try.prog 3 #[.int .i64 fr, .int .i64 m, .slice A len cap] w fun e w' => e = .returned (.bool true) ∧ Below w.heap.size w w' := by
  obtain ⟨N, hN⟩ : ∃ N, N = w.heap.size := ⟨_, rfl⟩
  have HGR : Hid (∀ y, Below N w y → Calls Try.prog 7 #[.slice A len cap] y fun e y' => (e = .returned (.bool true) ∧ y' = y) ∨ (e = .returned (.bool false) ∧ y' = y ∧ Hid (len ≤ 100 ∧ ∀ i, i < len → (f i).data.size ≤ 5000))) := fun y hb => great_any A len cap f w y hA (by rw [← hN]; exact hb) hlen
  have HNW : Hid (∀ y, Below N w y → Calls Try.prog 8 #[.int .i64 12] y fun e y' => ∃ a, e = .returned (.pointer (some ⟨a, 0, none⟩)) ∧ Dk w y' N a (fun k => N ≤ k) (M.new 12)) := fun y hb => by
    rw [hN] at hb ⊢
    exact tnew 12 w y hb
  have HNR : Hid (∀ y a, Dk w y N a (fun k => N ≤ k) (M.new 12) → Calls Try.prog 9 #[.int .i64 12] y fun e y' => ∃ b, e = .returned (.pointer (some ⟨b, 0, none⟩)) ∧ Two w y' N a b (fun _ => False) (M.new 12) (M.newR 12)) := fun y a h => by
    rw [hN] at h ⊢
    exact urnew 12 h
  have HNS : Hid (∀ y a b, Two w y N a b (fun _ => False) (M.new 12) (M.newR 12) → (Calls Try.prog 10 #[.pointer (some ⟨a, 0, none⟩), .int .i64 fr, .int .i64 m] y fun e y' => e = .returned (.tuple #[.pointer none, .int .i64 3]) ∧ y' = y) ∧
    (Calls Try.prog 11 #[.pointer (some ⟨b, 0, none⟩), .int .i64 fr, .int .i64 m] y fun e y' => e = .returned (.tuple #[.pointer none, .int .i64 3]) ∧ y' = y)) := fun y a b h => h.none_ fr m hf9 hn rfl
  rw [← hN]
  have HNN := Lib.hid hN
  clear hN hA hlen hn hf9
  go_enter Try.func3, Try.ntmps3
  go_wp2_with fail
  refine (works_any w).mono ?_
  rintro e w1 ⟨rfl, h1⟩
  rw [← HNN.out] at h1
  have H1 := Lib.hid h1
  have H2 := Lib.hid (HGR.out w1 h1)
  have H3 := Lib.hid (HNW.out w1 h1)
  clear h1 HGR HNW
  go_wp2_with fail
  refine H2.out.mono ?_
  rintro e w2 (⟨rfl, rfl⟩ | ⟨rfl, rfl, HG⟩)
  · go_wp2_with fail
    go_ret
    exact ⟨rfl, H1.out⟩
  clear H2
  go_wp2_with fail
  refine H3.out.mono ?_
  rintro e w3 ⟨a, rfl, h4⟩
  have H4 := Lib.hid (HNR.out _ _ h4)
  clear h4 H3 HNR
  go_wp2_with fail
  refine H4.out.mono ?_
  rintro e w4 ⟨b, rfl, h5⟩
  have H5 := Lib.hid (HNS.out _ _ _ h5)
  have HBL := Lib.hid h5.below
  clear h5 H4 HNS
  go_wp2_with fail
  refine H5.out.1.mono ?_
  rintro e w5 ⟨rfl, rfl⟩
  go_wp2_with fail
  refine H5.out.2.mono ?_
  rintro e w6 ⟨rfl, rfl⟩
  clear H5 H1 HG
  go_wp2_with fail
  go_loopw [13] (fun j wr => j = .int .i64 0 ∧ wr = w6) (fun j _ => 0)
  case atStart => exact ⟨rfl, rfl⟩
  case round =>
    obtain ⟨rfl, rfl⟩ := hrel
    by_cases hl : 0 < len
    · have hd : decide (0 < len) = true := by simpa using hl
      clear hl
      go_wp2_with fail
      go_quiet (fail)
      go_wp2_with fail
      go_ret
      exact ⟨rfl, below_drewN HBL.out _⟩
    · have e : len = 0 := by omega
      subst e
      clear hl
      go_wp2_with fail
      go_quiet (fail)
      go_wp2_with fail
      go_ret
      exact ⟨rfl, below_drewN HBL.out _⟩

/-- v is a slice of steps, of a length that a slice may have. -/
def OpsIn (w : World) (v : Value) : Prop := ∃ (A : Option Addr) (len cap : Nat), v = .slice A len cap ∧ len ≤ maxLen ∧ OpsAt w v
set_option maxRecDepth 100000 in
theorem regionDoes_open {H : Type} {enc : TypeId × Value → H} {W : World} {r : Reach} {b0 : Nat} {v : Value} {d : DataW H} {p : List MemPlace} (hval : Value.okWide Try.prog W r b0 22 v)
    (h : DataW.Trod enc Try.prog W 0 (fun _ => true) true 22 v d p) : OpsIn W v := by
  have h1 := regionDoes_open2 hval h
  obtain ⟨A, len, cap, rfl⟩ := okWide_slice Try.underlying22 hval
  obtain ⟨fuel, hf⟩ := h
  rcases open_slice Try.underlying22 hf with ⟨hc, _⟩ | ⟨a, l, c, m, k, D, Pl, hc, _, hl, hm, _⟩
  · simp [Value.cells] at hc
    obtain ⟨rfl, rfl, rfl⟩ := hc
    exact ⟨none, 0, 0, rfl, Nat.zero_le _, h1⟩
  · simp [Value.cells] at hc
    obtain ⟨rfl, rfl, rfl⟩ := hc
    exact ⟨some a, len, cap, rfl, Nat.le_trans hl hm, h1⟩

theorem regionDoes_walk (fr : Int) (_ : -9223372036854775808 ≤ fr) (f9 : fr ≤ 9223372036854775807) (m : Int) (_ : -9223372036854775808 ≤ m) (_ : m ≤ 9223372036854775807) (v : Value) (w : World) (hv : OpsIn w v) :
    Calls Try.prog 3 #[.int .i64 fr, .int .i64 m, v] w fun e w' => e = .returned (.bool true) ∧ Below w.heap.size w w' := by
  obtain ⟨A, len, cap, rfl, hl, A', len', cap', e, hop⟩ := hv
  injection e with e1 e2 e3
  subst e1 e2 e3
  obtain ⟨f, hf⟩ := OpF.of hop
  by_cases hn : M.within fr m 12 = true
  · obtain ⟨h0, h1, h2⟩ := M.within_yes hn
    obtain ⟨k, rfl⟩ : ∃ k : Nat, fr = k := ⟨fr.toNat, by omega⟩
    obtain ⟨n, rfl⟩ : ∃ k : Nat, m = k := ⟨m.toNat, by omega⟩
    exact does_in k n A len cap f w (by omega) hf hl
  · exact does_out fr m A len cap f w f9 (by simpa using hn) hf hl
end Go.Proofs.Ytnjhbmpdpejpcaa
