/-
  Disks in memory. Walks over disk.Sectors, Ops, Waits, Down, has, refuses and cmp.Or; what Fail, DownAt, Restart, Read, Write and Flush do of a disk that is none.
-/
import Derived.Test.YtnjhbmpdpejpcaaKept
import Derived.Test.YtnjhbmpdpejpcaaDMath
import Derived.Deep.LoopGhost
import Derived.BigQuiet
import Derived.Deep.QuietTactic
import Derived.Handy
namespace Go.Proofs.Ytnjhbmpdpejpcaa
open Go.RowKit Go.Maps

theorem keyI : Keyed Try.prog 3 := int_keyed Try.underlying3

/-- An owned row is kept with its block. -/
theorem Kept.owns {P : Nat → Prop} {w w' : World} (hk : Kept P w w') {B : Nat} {t : TypeId} {z n : Nat} {v : Value} {xs : List Value} (h : w.ownsRow B t z v n xs) (hp : ∀ k, v.ownBlock = some k → ¬ P k) : w'.ownsRow B t z v n xs := by
  refine ⟨h.1, ?_⟩
  rcases h.2 with h | ⟨g, cap, cur, e, h1, h2, h3⟩
  · exact Or.inl h
  · exact Or.inr ⟨g, cap, cur, e, h1, (hk.block g (lt_of_block h2) (hp g (by rw [e]; rfl))).trans h2, h3⟩
theorem Kept.map {P : Nat → Prop} {w w' : World} (hk : Kept P w w') {b n : Nat} {m : DataW Unit} {pr : Program} {K : TypeId} {R : Value → Option (DataW Unit × List MemPlace)} (h : w.ownsMap pr K R b n m) (hp : ¬ P b) : w'.ownsMap pr K R b n m := by
  have hlt := h.lt
  obtain ⟨es, clock, hb, F, hs, hD⟩ := h
  exact ⟨es, clock, (hk.block b hlt hp).trans hb, F, hs, hD⟩

/-- A disk in block b of w: what is sure lies in block sb, the map in block mb, the writes as WV, the numbers that fail as FV. -/
structure DiskAt (w : World) (b sb mb : Nat) (WV FV : Value) (d : M.D) : Prop where
  box : Box w b 67 #[.slice (some ⟨sb, 0, none⟩) d.S.length d.S.length, WV, .map (some mb), .int .i64 (d.ops : Nat), FV, .int .i64 d.da, .bool d.dn]
  sure : Box w sb 9 (d.S.map Value.string).toArray
  map : ∃ m : DataW Unit, w.ownsMap Try.prog 3 (plainElem Try.prog 3) mb d.L.length m ∧ M.MapIs m d.L
  writes : w.ownsRow 0 80 2 WV d.L.length (M.cells d.L)
  fails : w.ownsRow 0 3 1 FV d.fails.length (d.fails.map (Value.int .i64))
  inv : M.Inv d
  bs : b ≠ sb
  bm : b ≠ mb
  sm : sb ≠ mb
  wn : ∀ k, WV.ownBlock = some k → k ≠ b ∧ k ≠ sb ∧ k ≠ mb
  fn : ∀ k, FV.ownBlock = some k → k ≠ b ∧ k ≠ sb ∧ k ≠ mb ∧ WV.ownBlock ≠ some k
theorem DiskAt.mlt {w : World} {b sb mb : Nat} {WV FV : Value} {d : M.D} (h : DiskAt w b sb mb WV FV d) : mb < w.heap.size := let ⟨_, h, _⟩ := h.map; h.lt
theorem DiskAt.kept {P : Nat → Prop} {w w' : World} {b sb mb : Nat} {WV FV : Value} {d : M.D} (h : DiskAt w b sb mb WV FV d) (hk : Kept P w w') (hb : ¬ P b) (hs : ¬ P sb) (hm : ¬ P mb) (hw : ∀ k, WV.ownBlock = some k → ¬ P k) (hf : ∀ k, FV.ownBlock = some k → ¬ P k) : DiskAt w' b sb mb WV FV d :=
  ⟨hk.box h.box hb, hk.box h.sure hs, let ⟨m, h1, h2⟩ := h.map; ⟨m, hk.map h1 hm, h2⟩, hk.owns h.writes hw, hk.owns h.fails hf, h.inv, h.bs, h.bm, h.sm, h.wn, h.fn⟩
theorem DiskAt.drewN {w : World} {b sb mb : Nat} {WV FV : Value} {d : M.D} (h : DiskAt w b sb mb WV FV d) (n : Nat) : DiskAt (w.drewN n) b sb mb WV FV d :=
  h.kept ((Kept.refl (fun _ => False) w).drewN n) id id id (fun _ _ => id) (fun _ _ => id)

/-- A disk in block b of w; all its blocks are among P. -/
def Disk (w : World) (b : Nat) (P : Nat → Prop) (d : M.D) : Prop :=
  ∃ sb mb WV FV, DiskAt w b sb mb WV FV d ∧ P b ∧ P sb ∧ P mb ∧ (∀ k, WV.ownBlock = some k → P k) ∧ ∀ k, FV.ownBlock = some k → P k
theorem Disk.kept {P Q : Nat → Prop} {w w' : World} {b : Nat} {d : M.D} (h : Disk w b P d) (hk : Kept Q w w') (hpq : ∀ k, P k → ¬ Q k) : Disk w' b P d := by
  obtain ⟨sb, mb, WV, FV, h, p1, p2, p3, p4, p5⟩ := h
  exact ⟨sb, mb, WV, FV, h.kept hk (hpq _ p1) (hpq _ p2) (hpq _ p3) (fun k e => hpq _ (p4 k e)) (fun k e => hpq _ (p5 k e)), p1, p2, p3, p4, p5⟩
theorem Disk.mono {P Q : Nat → Prop} {w : World} {b : Nat} {d : M.D} (h : Disk w b P d) (hpq : ∀ k, k < w.heap.size → P k → Q k) : Disk w b Q d := by
  obtain ⟨sb, mb, WV, FV, h, p1, p2, p3, p4, p5⟩ := h
  exact ⟨sb, mb, WV, FV, h, hpq _ h.box.lt p1, hpq _ h.sure.lt p2, hpq _ h.mlt p3, fun k e => hpq _ (h.writes.lt k e).2 (p4 k e), fun k e => hpq _ (h.fails.lt k e).2 (p5 k e)⟩
theorem Disk.inv {P : Nat → Prop} {w : World} {b : Nat} {d : M.D} (h : Disk w b P d) : M.Inv d := let ⟨_, _, _, _, h, _⟩ := h; h.inv
theorem Disk.lt {P : Nat → Prop} {w : World} {b : Nat} {d : M.D} (h : Disk w b P d) : b < w.heap.size := let ⟨_, _, _, _, h, _⟩ := h; h.box.lt
theorem Disk.drewN {P : Nat → Prop} {w : World} {b : Nat} {d : M.D} (h : Disk w b P d) (n : Nat) : Disk (w.drewN n) b P d := h.kept ((Kept.refl (fun _ => False) w).drewN n) (fun _ _ => id)

section
variable {w : World} {b sb mb : Nat} {WV FV : Value} {d : M.D}
theorem DiskAt.c0 (h : DiskAt w b sb mb WV FV d) : w.cell? ⟨b, 0, none⟩ = some (.slice (some ⟨sb, 0, none⟩) d.S.length d.S.length) := by simpa using h.box.cell 0
theorem DiskAt.c1 (h : DiskAt w b sb mb WV FV d) : w.cell? ⟨b, 1, none⟩ = some WV := by simpa using h.box.cell 1
theorem DiskAt.c2 (h : DiskAt w b sb mb WV FV d) : w.cell? ⟨b, 2, none⟩ = some (.map (some mb)) := by simpa using h.box.cell 2
theorem DiskAt.c3 (h : DiskAt w b sb mb WV FV d) : w.cell? ⟨b, 3, none⟩ = some (.int .i64 (d.ops : Nat)) := by simpa using h.box.cell 3
theorem DiskAt.c4 (h : DiskAt w b sb mb WV FV d) : w.cell? ⟨b, 4, none⟩ = some FV := by simpa using h.box.cell 4
theorem DiskAt.c5 (h : DiskAt w b sb mb WV FV d) : w.cell? ⟨b, 5, none⟩ = some (.int .i64 d.da) := by simpa using h.box.cell 5
theorem DiskAt.c6 (h : DiskAt w b sb mb WV FV d) : w.cell? ⟨b, 6, none⟩ = some (.bool d.dn) := by simpa using h.box.cell 6
/-- How an owned slice is spelled. -/
theorem owns_shape {w : World} {B : Nat} {t : TypeId} {z n : Nat} {v : Value} {xs : List Value} (h : w.ownsRow B t z v n xs) : ∃ (A : Option Addr) (c : Nat), v = .slice A n c ∧ n ≤ c := by
  rcases h.2 with ⟨e, hn⟩ | ⟨g, cap, cur, e, _, _, h3, _⟩
  · exact ⟨none, 0, by rw [e, hn], by omega⟩
  · exact ⟨_, cap, e, h3⟩
end

section
variable {b : Nat} {P : Nat → Prop} {d : M.D}
theorem sectors_nil (w : World) : Calls Try.prog 35 #[.pointer none] w fun e w' => e = .returned (.int .i64 0) ∧ w' = w := by
  go_enter Try.func35, Try.ntmps35
  go_wp2_with fail
  go_ret
  exact ⟨rfl, rfl⟩
theorem sectors_any (w : World) (h : Disk w b P d) : Calls Try.prog 35 #[.pointer (some ⟨b, 0, none⟩)] w fun e w' => e = .returned (.int .i64 (d.S.length : Nat)) ∧ w' = w := by
  obtain ⟨sb, mb, WV, FV, h, _⟩ := h
  have c0 := h.c0
  clear h
  go_enter Try.func35, Try.ntmps35
  go_wp2_with fail
  go_ret
  exact ⟨rfl, rfl⟩
theorem ops_nil (w : World) : Calls Try.prog 22 #[.pointer none] w fun e w' => e = .returned (.int .i64 0) ∧ w' = w := by
  go_enter Try.func22, Try.ntmps22
  go_wp2_with fail
  go_ret
  exact ⟨rfl, rfl⟩
theorem ops_any (w : World) (h : Disk w b P d) : Calls Try.prog 22 #[.pointer (some ⟨b, 0, none⟩)] w fun e w' => e = .returned (.int .i64 (d.ops : Nat)) ∧ w' = w := by
  obtain ⟨sb, mb, WV, FV, h, _⟩ := h
  have c3 := h.c3
  clear h
  go_enter Try.func22, Try.ntmps22
  go_wp2_with fail
  go_ret
  exact ⟨rfl, rfl⟩
theorem waits_nil (w : World) : Calls Try.prog 30 #[.pointer none] w fun e w' => e = .returned (.int .i64 0) ∧ w' = w := by
  go_enter Try.func30, Try.ntmps30
  go_wp2_with fail
  go_ret
  exact ⟨rfl, rfl⟩
theorem waits_any (w : World) (h : Disk w b P d) : Calls Try.prog 30 #[.pointer (some ⟨b, 0, none⟩)] w fun e w' => e = .returned (.int .i64 (d.L.length : Nat)) ∧ w' = w := by
  obtain ⟨sb, mb, WV, FV, h, _⟩ := h
  have c1 := h.c1
  obtain ⟨A, c, e, _⟩ := owns_shape h.writes
  rw [e] at c1
  clear h e
  go_enter Try.func30, Try.ntmps30
  go_wp2_with fail
  go_ret
  exact ⟨rfl, rfl⟩
theorem down_nil (w : World) : Calls Try.prog 54 #[.pointer none] w fun e w' => e = .returned (.bool true) ∧ w' = w := by
  go_enter Try.func54, Try.ntmps54
  go_wp2_with fail
  go_ret
  exact ⟨rfl, rfl⟩
theorem down_any (w : World) (h : Disk w b P d) : Calls Try.prog 54 #[.pointer (some ⟨b, 0, none⟩)] w fun e w' => e = .returned (.bool d.dn) ∧ w' = w := by
  obtain ⟨sb, mb, WV, FV, h, _⟩ := h
  have c6 := h.c6
  clear h
  go_enter Try.func54, Try.ntmps54
  go_wp2_with fail
  go_ret
  exact ⟨rfl, rfl⟩

/-- Is there such a sector? -/
def M.hasB (n : Nat) (i : Int) : Bool := decide (0 ≤ i) && decide (i < (n : Int))
theorem has_nil (i : Int) (w : World) : Calls Try.prog 48 #[.pointer none, .int .i64 i] w fun e w' => e = .returned (.bool false) ∧ w' = w := by
  by_cases h0 : 0 ≤ i
  · have hd : decide (0 ≤ i) = true := by simpa using h0
    have hd2 : decide (i < 0) = false := by simpa using h0
    go_enter Try.func48, Try.ntmps48
    go_wp2_with fail
    refine (sectors_nil w).mono ?_
    rintro e w1 ⟨rfl, rfl⟩
    go_wp2_with fail
    go_ret
    exact ⟨rfl, rfl⟩
  · have hd : decide (0 ≤ i) = false := by simpa using h0
    clear h0
    go_enter Try.func48, Try.ntmps48
    go_wp2_with fail
    go_ret
    exact ⟨rfl, rfl⟩
theorem dhas_any (i : Int) (w : World) (h : Disk w b P d) : Calls Try.prog 48 #[.pointer (some ⟨b, 0, none⟩), .int .i64 i] w fun e w' => e = .returned (.bool (M.hasB d.S.length i)) ∧ w' = w := by
  have HC := Lib.hid (sectors_any w h)
  clear h
  obtain ⟨n, hn⟩ : ∃ n, n = d.S.length := ⟨_, rfl⟩
  rw [← hn] at HC
  rw [← hn]
  clear hn
  by_cases h0 : 0 ≤ i
  · have hd : decide (0 ≤ i) = true := by simpa using h0
    rw [M.hasB, hd, Bool.true_and]
    go_enter Try.func48, Try.ntmps48
    go_wp2_with fail
    refine HC.out.mono ?_
    rintro e w1 ⟨rfl, rfl⟩
    go_wp2_with fail
    go_ret
    exact ⟨rfl, rfl⟩
  · have hd : decide (0 ≤ i) = false := by simpa using h0
    rw [M.hasB, hd, Bool.false_and]
    clear h0
    go_enter Try.func48, Try.ntmps48
    go_wp2_with fail
    go_ret
    exact ⟨rfl, rfl⟩

/-- What is wrong with a write. -/
def M.wrong (n : Nat) (i : Int) (s : ByteArray) : Int := if M.hasB n i = true then (if s.size = 64 then 0 else 12) else 3
theorem refuses_nil (i : Int) (s : ByteArray) (w : World) : Calls Try.prog 55 #[.pointer none, .int .i64 i, .string s] w fun e w' => e = .returned (.int .i64 3) ∧ w' = w := by
  go_enter Try.func55, Try.ntmps55
  go_wp2_with fail
  refine (has_nil i w).mono ?_
  rintro e w1 ⟨rfl, rfl⟩
  go_wp2_with fail
  go_ret
  exact ⟨rfl, rfl⟩
theorem refuses_any (i : Int) (s : ByteArray) (w : World) (h : Disk w b P d) : Calls Try.prog 55 #[.pointer (some ⟨b, 0, none⟩), .int .i64 i, .string s] w fun e w' => e = .returned (.int .i64 (M.wrong d.S.length i s)) ∧ w' = w := by
  have HC := Lib.hid (dhas_any i w h)
  unfold M.wrong
  cases hb : M.hasB d.S.length i with
  | false =>
    rw [hb] at HC
    rw [if_neg (by simp)]
    clear h hb
    go_enter Try.func55, Try.ntmps55
    go_wp2_with fail
    refine HC.out.mono ?_
    rintro e w1 ⟨rfl, rfl⟩
    go_wp2_with fail
    go_ret
    exact ⟨rfl, rfl⟩
  | true =>
    rw [hb] at HC
    rw [if_pos rfl]
    clear h hb
    by_cases h64 : s.size = 64
    · rw [if_pos h64]
      go_enter Try.func55, Try.ntmps55
      go_wp2_with fail
      refine HC.out.mono ?_
      rintro e w1 ⟨rfl, rfl⟩
      go_wp2_with fail
      go_ret
      exact ⟨rfl, rfl⟩
    · rw [if_neg h64]
      have h64' : ((s.size : Int) == 64) = false := by rw [beq_eq_false_iff_ne]; omega
      clear h64
      go_enter Try.func55, Try.ntmps55
      go_wp2_with fail
      refine HC.out.mono ?_
      rintro e w1 ⟨rfl, rfl⟩
      go_wp2_with fail
      go_ret
      exact ⟨rfl, rfl⟩
end

/-- The first of two that is not 0. -/
def M.or2 (x y : Int) : Int := if x = 0 then y else x
theorem or_any (w : World) {g : Nat} {x y : Int} (h0 : w.cell? ⟨g, 0, none⟩ = some (.int .i64 x)) (h1 : w.cell? ⟨g, 1, none⟩ = some (.int .i64 y)) :
    Calls Try.prog 57 #[.slice (some ⟨g, 0, none⟩) 2 2] w fun e w' => e = .returned (.int .i64 (M.or2 x y)) ∧ w' = w := by
  obtain ⟨o, ho⟩ : ∃ o, o = M.or2 x y := ⟨_, rfl⟩
  rw [← ho]
  have HO := Lib.hid ho
  clear ho
  go_enter Try.func57, Try.ntmps57
  go_wp2_with fail
  go_loopw [8] (fun i wr => wr = w ∧ (i = .int .i64 0 ∨ (i = .int .i64 1 ∧ x = 0) ∨ (i = .int .i64 2 ∧ x = 0 ∧ y = 0))) (fun i _ => 2 - (intOf i).toNat)
  case atStart => exact ⟨rfl, Or.inl rfl⟩
  case round =>
    obtain ⟨rfl, rfl | ⟨rfl, hx⟩ | ⟨rfl, hx, hy⟩⟩ := hrel
    · by_cases hx : x = 0
      · go_wp2_with fail
        go_roundw
        case rel => exact ⟨by simp, Or.inr (Or.inl ⟨by simp, by simp [hx]⟩)⟩
        case measure => simp [intOf]
      · have hx' : (x == 0) = false := by rw [beq_eq_false_iff_ne]; exact hx
        go_wp2_with fail
        go_ret
        exact ⟨by rw [HO.out, M.or2, if_neg hx]; rfl, rfl⟩
    · by_cases hy : y = 0
      · go_wp2_with fail
        go_roundw
        case rel => exact ⟨by simp, Or.inr (Or.inr ⟨by simp, by simp [hx], by simp [hy]⟩)⟩
        case measure => simp [intOf]
      · have hy' : (y == 0) = false := by rw [beq_eq_false_iff_ne]; exact hy
        go_wp2_with fail
        go_ret
        exact ⟨by rw [HO.out, M.or2, if_pos hx]; rfl, rfl⟩
    · go_wp2_with fail
      go_ret
      exact ⟨by rw [HO.out, M.or2, if_pos hx, hy]; rfl, rfl⟩
end Go.Proofs.Ytnjhbmpdpejpcaa
