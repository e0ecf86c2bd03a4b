/-
  Rings in memory. Walks over ring.New, Len, Room, slotOf and At, at things that are strings.
-/
import Derived.Test.YtlpcjfjjfnnbcaaRBase
import Derived.Deep.LoopGhost
import Derived.BigQuiet
import Derived.Deep.QuietTactic
import Derived.Handy
namespace Go.Proofs.Ytlpcjfjjfnnbcaa.Q
open Go.RowKit

/-- A ring in block b of w, its slots in block g. -/
structure Ring (w : World) (b g most : Nat) (A : Option Addr) (ss : List ByteArray) (f : Nat) (L : List ByteArray) : Prop where
  box : Box w b 59 #[.slice A ss.length ss.length, .int .i64 f, .int .i64 L.length, .int .i64 most]
  slots : (A = none ∧ ss.length = 0) ∨ (A = some ⟨g, 0, none⟩ ∧ Box w g 9 (ss.map Value.string).toArray)
  lies : M.Lies ss f L
  le : ss.length ≤ most
  most : most ≤ 1000
  ne : 0 < ss.length → b ≠ g
theorem Ring.drewN {w : World} {b g most : Nat} {A : Option Addr} {ss : List ByteArray} {f : Nat} {L : List ByteArray} (h : Ring w b g most A ss f L) (n : Nat) : Ring (w.drewN n) b g most A ss f L := ⟨h.box, h.slots, h.lies, h.le, h.most, h.ne⟩
theorem Ring.drew {w : World} {b g most : Nat} {A : Option Addr} {ss : List ByteArray} {f : Nat} {L : List ByteArray} (h : Ring w b g most A ss f L) : Ring w.drew b g most A ss f L := ⟨h.box, h.slots, h.lies, h.le, h.most, h.ne⟩
theorem Ring.kept {P : Nat → Prop} {w w' : World} {b g most : Nat} {A : Option Addr} {ss : List ByteArray} {f : Nat} {L : List ByteArray} (h : Ring w b g most A ss f L) (hk : Kept P w w') (hb : ¬ P b) (hg : ¬ P g) : Ring w' b g most A ss f L :=
  ⟨hk.box h.box hb, h.slots.imp id (fun e => ⟨e.1, hk.box e.2 hg⟩), h.lies, h.le, h.most, h.ne⟩
theorem Ring.cell {w : World} {b g most : Nat} {A : Option Addr} {ss : List ByteArray} {f : Nat} {L : List ByteArray} (h : Ring w b g most A ss f L) (hA : A = some ⟨g, 0, none⟩) (i : Nat) (hi : i < ss.length) : w.cell? ⟨g, i, none⟩ = some (.string (ss[i]'hi)) := by
  rcases h.slots with ⟨e, _⟩ | ⟨_, hB⟩
  · rw [hA] at e; cases e
  · rw [hB.cell i]
    simp [hi]
theorem Ring.full {w : World} {b g most : Nat} {A : Option Addr} {ss : List ByteArray} {f : Nat} {L : List ByteArray} (h : Ring w b g most A ss f L) (hs : 0 < ss.length) : A = some ⟨g, 0, none⟩ ∧ Box w g 9 (ss.map Value.string).toArray := by
  rcases h.slots with ⟨_, e⟩ | e
  · omega
  · exact e

theorem new_any (n : Int) (w : World) :
    Calls Try.prog 20 #[.int .i64 n] w fun e w' => e = .returned (.pointer (some ⟨w.heap.size, 0, none⟩)) ∧ w' = w.alloc (.cells #[.slice none 0 0, .int .i64 0, .int .i64 0, .int .i64 (M.most n : Nat)] 59) := by
  by_cases h0 : n < 0
  · rw [M.most, if_pos h0]
    go_enter Try.func20, Try.ntmps20
    go_wp2_with fail
    go_ret
    exact ⟨rfl, rfl⟩
  · by_cases h1 : 1000 < n
    · rw [M.most, if_neg h0, if_pos h1]
      have h0' : 0 ≤ n := by omega
      clear h0
      go_enter Try.func20, Try.ntmps20
      go_wp2_with fail
      go_ret
      exact ⟨rfl, rfl⟩
    · rw [M.most, if_neg h0, if_neg h1]
      obtain ⟨m, rfl⟩ : ∃ m : Nat, n = m := ⟨n.toNat, by omega⟩
      have h0' : (0 : Int) ≤ (m : Int) := by omega
      have h1' : (m : Int) ≤ 1000 := by omega
      rw [Int.toNat_natCast]
      clear h0 h1
      go_enter Try.func20, Try.ntmps20
      go_wp2_with fail
      go_ret
      exact ⟨rfl, rfl⟩

theorem Ring.new (w : World) (m : Nat) (hm : m ≤ 1000) : Ring (w.alloc (.cells #[.slice none 0 0, .int .i64 0, .int .i64 0, .int .i64 (m : Nat)] 59)) w.heap.size w.heap.size m none [] 0 [] :=
  ⟨Box.new _ _ _, Or.inl ⟨rfl, rfl⟩, M.Lies.nil, Nat.zero_le _, hm, fun h => absurd h (by simp)⟩

theorem len_nil (w : World) : Calls Try.prog 35 #[.pointer none] w fun e w' => e = .returned (.int .i64 0) ∧ w' = w := by
  go_enter Try.func35, Try.ntmps35
  go_wp2_with fail
  go_ret
  exact ⟨rfl, rfl⟩
theorem len_any (w : World) {b g most : Nat} {A : Option Addr} {ss : List ByteArray} {f : Nat} {L : List ByteArray} (h : Ring w b g most A ss f L) :
    Calls Try.prog 35 #[.pointer (some ⟨b, 0, none⟩)] w fun e w' => e = .returned (.int .i64 (L.length : Nat)) ∧ w' = w := by
  have h2 := h.box.cell 2
  simp at h2
  clear h
  go_enter Try.func35, Try.ntmps35
  go_wp2_with fail
  go_ret
  exact ⟨rfl, rfl⟩
theorem room_nil (w : World) : Calls Try.prog 30 #[.pointer none] w fun e w' => e = .returned (.int .i64 0) ∧ w' = w := by
  go_enter Try.func30, Try.ntmps30
  go_wp2_with fail
  go_ret
  exact ⟨rfl, rfl⟩
theorem room_any (w : World) {b g most : Nat} {A : Option Addr} {ss : List ByteArray} {f : Nat} {L : List ByteArray} (h : Ring w b g most A ss f L) :
    Calls Try.prog 30 #[.pointer (some ⟨b, 0, none⟩)] w fun e w' => e = .returned (.int .i64 ((most - L.length : Nat) : Int)) ∧ ∃ n, w' = w.drewN n := by
  have h2 := h.box.cell 2
  have h3 := h.box.cell 3
  simp at h2 h3
  have hl := h.lies.le
  have hm := h.most
  have hs := h.le
  have e : ((most - L.length : Nat) : Int) = (most : Int) - (L.length : Int) := by omega
  rw [e]
  clear e h
  go_enter Try.func30, Try.ntmps30
  go_wp2_with fail
  go_quiet (fail)
  go_wp2_with fail
  go_ret
  refine ⟨?_, _, rfl⟩
  go_num

theorem slotOf_box (w : World) {b n f : Nat} {A : Option Addr} {v u : Value} (h : Box w b 59 #[.slice A n n, .int .i64 f, v, u]) (hs : 0 < n) (hf : f < n) (hl : n ≤ 1000) (p : Nat) (hp : p ≤ 1000) :
    Calls Try.prog 32 #[.pointer (some ⟨b, 0, none⟩), .int .i64 p] w fun e w' => e = .returned (.int .i64 (((f + p) % n : Nat) : Int)) ∧ ∃ n, w' = w.drewN n := by
  have h0 := h.cell 0
  have h1 := h.cell 1
  simp at h0 h1
  clear h
  have hne : ((n : Int) == 0) = false := by rw [beq_eq_false_iff_ne]; omega
  have hmod : ((f : Int) + (p : Int)).tmod (n : Int) = (((f + p) % n : Nat) : Int) := by
    rw [← Int.natCast_add, Int.tmod_eq_emod_of_nonneg (by omega), Int.natCast_emod]
  have hb : (f + p) % n < n := Nat.mod_lt _ hs
  obtain ⟨q, hq⟩ : ∃ q, q = (f + p) % n := ⟨_, rfl⟩
  rw [← hq] at hmod hb
  rw [← hq]
  clear hq
  go_enter Try.func32, Try.ntmps32
  go_wp2_with fail
  go_quiet (fail)
  go_wp2_with fail
  go_ret
  exact ⟨rfl, _, rfl⟩
theorem slotOf_any (w : World) {b g most : Nat} {A : Option Addr} {ss : List ByteArray} {f : Nat} {L : List ByteArray} (h : Ring w b g most A ss f L) (hs : 0 < ss.length) (p : Nat) (hp : p ≤ 1000) :
    Calls Try.prog 32 #[.pointer (some ⟨b, 0, none⟩), .int .i64 p] w fun e w' => e = .returned (.int .i64 (((f + p) % ss.length : Nat) : Int)) ∧ ∃ n, w' = w.drewN n :=
  slotOf_box w h.box hs (h.lies.f1 hs) (by have := h.le; have := h.most; omega) p hp

theorem quiet_more {P : Program} {f : FuncId} {args : Array Value} {w : World} {n : Nat} {v : Value}
    (h : Calls P f args (w.drewN n) fun e w' => e = .returned v ∧ ∃ m, w' = (w.drewN n).drewN m) : Calls P f args (w.drewN n) fun e w'' => e = .returned v ∧ ∃ m, w'' = w.drewN m :=
  h.mono fun _ _ ⟨he, m, hm⟩ => ⟨he, n + m, by rw [hm]; simp [World.drewN, Nat.add_assoc]⟩
theorem at_nil (i : Int) (w : World) : Calls Try.prog 36 #[.pointer none, .int .i64 i] w fun e w' => e = .returned (.tuple #[.string ⟨#[]⟩, .bool false]) ∧ w' = w := by
  by_cases h0 : i < 0
  · have hd : decide (i < 0) = true := by simpa using h0
    clear h0
    go_enter Try.func36, Try.ntmps36
    go_wp2_with fail
    go_ret2
    exact ⟨rfl, rfl⟩
  · have hd : decide (i < 0) = false := by simpa using h0
    have h1 : 0 ≤ i := by omega
    clear h0
    go_enter Try.func36, Try.ntmps36
    go_wp2_with fail
    refine (len_nil w).mono ?_
    rintro e w1 ⟨rfl, rfl⟩
    go_wp2_with fail
    go_ret2
    exact ⟨rfl, rfl⟩
theorem at_none (i : Int) (w : World) {b g most : Nat} {A : Option Addr} {ss : List ByteArray} {f : Nat} {L : List ByteArray} (h : Ring w b g most A ss f L) (hi : i < 0 ∨ (L.length : Int) ≤ i) :
    Calls Try.prog 36 #[.pointer (some ⟨b, 0, none⟩), .int .i64 i] w fun e w' => e = .returned (.tuple #[.string ⟨#[]⟩, .bool false]) ∧ ∃ n, w' = w.drewN n := by
  have HC := Lib.hid (len_any w h)
  clear h
  by_cases h0 : i < 0
  · have hd : decide (i < 0) = true := by simpa using h0
    clear h0 hi HC
    go_enter Try.func36, Try.ntmps36
    go_wp2_with fail
    go_ret2
    exact ⟨rfl, 0, rfl⟩
  · have hd : decide (i < 0) = false := by simpa using h0
    have hd2 : decide ((L.length : Int) ≤ i) = true := by simpa using hi.resolve_left h0
    clear h0 hi
    go_enter Try.func36, Try.ntmps36
    go_wp2_with fail
    refine HC.out.mono ?_
    rintro e w1 ⟨rfl, rfl⟩
    go_wp2_with fail
    go_ret2
    exact ⟨rfl, 0, rfl⟩
theorem at_some (i : Nat) (w : World) {b g most : Nat} {A : Option Addr} {ss : List ByteArray} {f : Nat} {L : List ByteArray} (h : Ring w b g most A ss f L) (hi : i < L.length) :
    Calls Try.prog 36 #[.pointer (some ⟨b, 0, none⟩), .int .i64 i] w fun e w' => e = .returned (.tuple #[.string (L[i]'hi), .bool true]) ∧ ∃ n, w' = w.drewN n := by
  have HC := Lib.hid (len_any w h)
  have hl := h.lies.le
  have hm := h.most
  have hle := h.le
  have hs : 0 < ss.length := by omega
  have HS := Lib.hid (fun n => slotOf_any (w.drewN n) (h.drewN n) hs i (by omega))
  have hq : (f + i) % ss.length < ss.length := Nat.mod_lt _ hs
  have hx : ss[(f + i) % ss.length]'hq = L[i]'hi := by
    have := h.lies.at_ i hi
    rw [List.getElem?_eq_getElem hq] at this
    injection this
  have hc := h.cell (h.full hs).1 _ hq
  rw [hx] at hc
  have h0 := h.box.cell 0
  simp at h0
  rw [(h.full hs).1] at h0
  obtain ⟨x, hx'⟩ : ∃ x, x = L[i]'hi := ⟨_, rfl⟩
  rw [← hx'] at hc
  rw [← hx']
  clear hx hx'
  obtain ⟨q, hq'⟩ : ∃ q, q = (f + i) % ss.length := ⟨_, rfl⟩
  rw [← hq'] at hc hq HS
  obtain ⟨n, hn⟩ : ∃ n, n = ss.length := ⟨_, rfl⟩
  rw [← hn] at h0 hq hl hle
  obtain ⟨m, hm'⟩ : ∃ m, m = L.length := ⟨_, rfl⟩
  rw [← hm'] at HC
  have hlt : i < m := by rw [hm']; exact hi
  have hlt' : (i : Int) < (m : Int) := by omega
  have hq0 : (0 : Int) ≤ (q : Int) := by omega
  have hq1 : (q : Int) < (n : Int) := by omega
  clear h hs hq' hn hm' hi
  go_enter Try.func36, Try.ntmps36
  go_wp2_with fail
  refine HC.out.mono ?_
  rintro e w1 ⟨rfl, rfl⟩
  go_wp2_with fail
  go_quiet ((go_at_call 32; exact quiet_more (HS.out _)))
  go_wp2_with fail
  go_ret2
  exact ⟨rfl, _, rfl⟩
end Go.Proofs.Ytlpcjfjjfnnbcaa.Q
