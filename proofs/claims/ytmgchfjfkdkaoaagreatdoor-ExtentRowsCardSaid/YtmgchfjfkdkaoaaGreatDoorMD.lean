/-
  Disks in memory. Walks over disk.Sectors, Ops, Waits, Down, has, refuses and cmp.Or; what Fail, DownAt, Restart, Read, Write and Flush do of a disk that is none. Walks over slices.Repeat of one string, and over disk.New. Walks over disk.takeFail and disk.begin. Walks over disk.lay and disk.Write.
-/
import Derived.Test.YtmgchfjfkdkaoaaGreatDoorMA
import Derived.Test.YtmgchfjfkdkaoaaGreatDoorShelf
import Derived.Deep.LoopGhost
import Derived.BigQuiet
import Derived.Deep.QuietTactic
import Derived.Handy
import Derived.Maps.AppendAt
import Derived.Laws.CopyOwn
import Derived.StillTailTactics
import Derived.OwnWalk
import Derived.Deep.OwnRows
import Derived.Sort.Row
import Derived.Lib.Slices
import Derived.Maps.OwnOps
import Derived.Deep.AppendLies
namespace Go.Proofs.YtmgchfjfkdkaoaaGreatDoor
open Go.RowKit Go.Maps

theorem keyI : Keyed Tryz.prog 3 := int_keyed Tryz.underlying3

/-- An owned row is kept with its block. -/
theorem Kept.owns {P : Nat → Prop} {w w' : World} (hk : Kept P w w') {B : Nat} {t : TypeId} {z n : Nat} {v : Value} {xs : List Value} (h : w.ownsRow B t z v n xs) (hp : ∀ k, v.ownBlock = some k → ¬ P k) : w'.ownsRow B t z v n xs := by
  refine ⟨h.1, ?_⟩
  rcases h.2 with h | ⟨g, cap, cur, e, h1, h2, h3⟩
  · exact Or.inl h
  · exact Or.inr ⟨g, cap, cur, e, h1, (hk.block g (lt_of_block h2) (hp g (by rw [e]; rfl))).trans h2, h3⟩
theorem Kept.map {P : Nat → Prop} {w w' : World} (hk : Kept P w w') {b n : Nat} {m : DataW Unit} {pr : Program} {K : TypeId} {R : Value → Option (DataW Unit × List MemPlace)} (h : w.ownsMap pr K R b n m) (hp : ¬ P b) : w'.ownsMap pr K R b n m := by
  have hlt := h.lt
  obtain ⟨es, clock, hb, F, hs, hD⟩ := h
  exact ⟨es, clock, (hk.block b hlt hp).trans hb, F, hs, hD⟩

/-- A disk in block b of w: what is sure lies in block sb, the map in block mb, the writes as WV, the numbers that fail as FV. -/
structure DiskAt (w : World) (b sb mb : Nat) (WV FV : Value) (d : M.D) : Prop where
  box : Box w b 69 #[.slice (some ⟨sb, 0, none⟩) d.S.length d.S.length, WV, .map (some mb), .int .i64 (d.ops : Nat), FV, .int .i64 d.da, .bool d.dn]
  sure : Box w sb 9 (d.S.map Value.string).toArray
  map : ∃ m : DataW Unit, w.ownsMap Tryz.prog 3 (plainElem Tryz.prog 3) mb d.L.length m ∧ M.MapIs m d.L
  writes : w.ownsRow 0 111 2 WV d.L.length (M.cells d.L)
  fails : w.ownsRow 0 3 1 FV d.fails.length (d.fails.map (Value.int .i64))
  inv : M.Inv d
  bs : b ≠ sb
  bm : b ≠ mb
  sm : sb ≠ mb
  wn : ∀ k, WV.ownBlock = some k → k ≠ b ∧ k ≠ sb ∧ k ≠ mb
  fn : ∀ k, FV.ownBlock = some k → k ≠ b ∧ k ≠ sb ∧ k ≠ mb ∧ WV.ownBlock ≠ some k
theorem DiskAt.mlt {w : World} {b sb mb : Nat} {WV FV : Value} {d : M.D} (h : DiskAt w b sb mb WV FV d) : mb < w.heap.size := let ⟨_, h, _⟩ := h.map; h.lt
theorem DiskAt.kept {P : Nat → Prop} {w w' : World} {b sb mb : Nat} {WV FV : Value} {d : M.D} (h : DiskAt w b sb mb WV FV d) (hk : Kept P w w') (hb : ¬ P b) (hs : ¬ P sb) (hm : ¬ P mb) (hw : ∀ k, WV.ownBlock = some k → ¬ P k) (hf : ∀ k, FV.ownBlock = some k → ¬ P k) : DiskAt w' b sb mb WV FV d :=
  ⟨hk.box h.box hb, hk.box h.sure hs, let ⟨m, h1, h2⟩ := h.map; ⟨m, hk.map h1 hm, h2⟩, hk.owns h.writes hw, hk.owns h.fails hf, h.inv, h.bs, h.bm, h.sm, h.wn, h.fn⟩
theorem DiskAt.drewN {w : World} {b sb mb : Nat} {WV FV : Value} {d : M.D} (h : DiskAt w b sb mb WV FV d) (n : Nat) : DiskAt (w.drewN n) b sb mb WV FV d :=
  h.kept ((Kept.refl (fun _ => False) w).drewN n) id id id (fun _ _ => id) (fun _ _ => id)

/-- A disk in block b of w; all its blocks are among P. -/
def Disk (w : World) (b : Nat) (P : Nat → Prop) (d : M.D) : Prop :=
  ∃ sb mb WV FV, DiskAt w b sb mb WV FV d ∧ P b ∧ P sb ∧ P mb ∧ (∀ k, WV.ownBlock = some k → P k) ∧ ∀ k, FV.ownBlock = some k → P k
theorem Disk.kept {P Q : Nat → Prop} {w w' : World} {b : Nat} {d : M.D} (h : Disk w b P d) (hk : Kept Q w w') (hpq : ∀ k, P k → ¬ Q k) : Disk w' b P d := by
  obtain ⟨sb, mb, WV, FV, h, p1, p2, p3, p4, p5⟩ := h
  exact ⟨sb, mb, WV, FV, h.kept hk (hpq _ p1) (hpq _ p2) (hpq _ p3) (fun k e => hpq _ (p4 k e)) (fun k e => hpq _ (p5 k e)), p1, p2, p3, p4, p5⟩
theorem Disk.mono {P Q : Nat → Prop} {w : World} {b : Nat} {d : M.D} (h : Disk w b P d) (hpq : ∀ k, k < w.heap.size → P k → Q k) : Disk w b Q d := by
  obtain ⟨sb, mb, WV, FV, h, p1, p2, p3, p4, p5⟩ := h
  exact ⟨sb, mb, WV, FV, h, hpq _ h.box.lt p1, hpq _ h.sure.lt p2, hpq _ h.mlt p3, fun k e => hpq _ (h.writes.lt k e).2 (p4 k e), fun k e => hpq _ (h.fails.lt k e).2 (p5 k e)⟩
theorem Disk.inv {P : Nat → Prop} {w : World} {b : Nat} {d : M.D} (h : Disk w b P d) : M.Inv d := let ⟨_, _, _, _, h, _⟩ := h; h.inv
theorem Disk.lt {P : Nat → Prop} {w : World} {b : Nat} {d : M.D} (h : Disk w b P d) : b < w.heap.size := let ⟨_, _, _, _, h, _⟩ := h; h.box.lt
theorem Disk.drewN {P : Nat → Prop} {w : World} {b : Nat} {d : M.D} (h : Disk w b P d) (n : Nat) : Disk (w.drewN n) b P d := h.kept ((Kept.refl (fun _ => False) w).drewN n) (fun _ _ => id)

section
variable {w : World} {b sb mb : Nat} {WV FV : Value} {d : M.D}
theorem DiskAt.c0 (h : DiskAt w b sb mb WV FV d) : w.cell? ⟨b, 0, none⟩ = some (.slice (some ⟨sb, 0, none⟩) d.S.length d.S.length) := by simpa using h.box.cell 0
theorem DiskAt.c1 (h : DiskAt w b sb mb WV FV d) : w.cell? ⟨b, 1, none⟩ = some WV := by simpa using h.box.cell 1
theorem DiskAt.c2 (h : DiskAt w b sb mb WV FV d) : w.cell? ⟨b, 2, none⟩ = some (.map (some mb)) := by simpa using h.box.cell 2
theorem DiskAt.c3 (h : DiskAt w b sb mb WV FV d) : w.cell? ⟨b, 3, none⟩ = some (.int .i64 (d.ops : Nat)) := by simpa using h.box.cell 3
theorem DiskAt.c4 (h : DiskAt w b sb mb WV FV d) : w.cell? ⟨b, 4, none⟩ = some FV := by simpa using h.box.cell 4
theorem DiskAt.c5 (h : DiskAt w b sb mb WV FV d) : w.cell? ⟨b, 5, none⟩ = some (.int .i64 d.da) := by simpa using h.box.cell 5
theorem DiskAt.c6 (h : DiskAt w b sb mb WV FV d) : w.cell? ⟨b, 6, none⟩ = some (.bool d.dn) := by simpa using h.box.cell 6
/-- How an owned slice is spelled. -/
theorem owns_shape {w : World} {B : Nat} {t : TypeId} {z n : Nat} {v : Value} {xs : List Value} (h : w.ownsRow B t z v n xs) : ∃ (A : Option Addr) (c : Nat), v = .slice A n c ∧ n ≤ c := by
  rcases h.2 with ⟨e, hn⟩ | ⟨g, cap, cur, e, _, _, h3, _⟩
  · exact ⟨none, 0, by rw [e, hn], by omega⟩
  · exact ⟨_, cap, e, h3⟩
end

section
variable {b : Nat} {P : Nat → Prop} {d : M.D}
theorem sectors_nil (w : World) : Calls Tryz.prog 103 #[.pointer none] w fun e w' => e = .returned (.int .i64 0) ∧ w' = w := by
  go_enter Tryz.func103, Tryz.ntmps103
  go_wp2_with fail
  go_ret
  exact ⟨rfl, rfl⟩
theorem sectors_any (w : World) (h : Disk w b P d) : Calls Tryz.prog 103 #[.pointer (some ⟨b, 0, none⟩)] w fun e w' => e = .returned (.int .i64 (d.S.length : Nat)) ∧ w' = w := by
  obtain ⟨sb, mb, WV, FV, h, _⟩ := h
  have c0 := h.c0
  clear h
  go_enter Tryz.func103, Tryz.ntmps103
  go_wp2_with fail
  go_ret
  exact ⟨rfl, rfl⟩
theorem down_nil (w : World) : Calls Tryz.prog 124 #[.pointer none] w fun e w' => e = .returned (.bool true) ∧ w' = w := by
  go_enter Tryz.func124, Tryz.ntmps124
  go_wp2_with fail
  go_ret
  exact ⟨rfl, rfl⟩
theorem down_any (w : World) (h : Disk w b P d) : Calls Tryz.prog 124 #[.pointer (some ⟨b, 0, none⟩)] w fun e w' => e = .returned (.bool d.dn) ∧ w' = w := by
  obtain ⟨sb, mb, WV, FV, h, _⟩ := h
  have c6 := h.c6
  clear h
  go_enter Tryz.func124, Tryz.ntmps124
  go_wp2_with fail
  go_ret
  exact ⟨rfl, rfl⟩

/-- Is there such a sector? -/
def M.hasB (n : Nat) (i : Int) : Bool := decide (0 ≤ i) && decide (i < (n : Int))
theorem has_nil (i : Int) (w : World) : Calls Tryz.prog 114 #[.pointer none, .int .i64 i] w fun e w' => e = .returned (.bool false) ∧ w' = w := by
  by_cases h0 : 0 ≤ i
  · have hd : decide (0 ≤ i) = true := by simpa using h0
    have hd2 : decide (i < 0) = false := by simpa using h0
    go_enter Tryz.func114, Tryz.ntmps114
    go_wp2_with fail
    refine (sectors_nil w).mono ?_
    rintro e w1 ⟨rfl, rfl⟩
    go_wp2_with fail
    go_ret
    exact ⟨rfl, rfl⟩
  · have hd : decide (0 ≤ i) = false := by simpa using h0
    clear h0
    go_enter Tryz.func114, Tryz.ntmps114
    go_wp2_with fail
    go_ret
    exact ⟨rfl, rfl⟩
theorem dhas_any (i : Int) (w : World) (h : Disk w b P d) : Calls Tryz.prog 114 #[.pointer (some ⟨b, 0, none⟩), .int .i64 i] w fun e w' => e = .returned (.bool (M.hasB d.S.length i)) ∧ w' = w := by
  have HC := Lib.hid (sectors_any w h)
  clear h
  obtain ⟨n, hn⟩ : ∃ n, n = d.S.length := ⟨_, rfl⟩
  rw [← hn] at HC
  rw [← hn]
  clear hn
  by_cases h0 : 0 ≤ i
  · have hd : decide (0 ≤ i) = true := by simpa using h0
    rw [M.hasB, hd, Bool.true_and]
    go_enter Tryz.func114, Tryz.ntmps114
    go_wp2_with fail
    refine HC.out.mono ?_
    rintro e w1 ⟨rfl, rfl⟩
    go_wp2_with fail
    go_ret
    exact ⟨rfl, rfl⟩
  · have hd : decide (0 ≤ i) = false := by simpa using h0
    rw [M.hasB, hd, Bool.false_and]
    clear h0
    go_enter Tryz.func114, Tryz.ntmps114
    go_wp2_with fail
    go_ret
    exact ⟨rfl, rfl⟩

/-- What is wrong with a write. -/
def M.wrong (n : Nat) (i : Int) (s : ByteArray) : Int := if M.hasB n i = true then (if s.size = 64 then 0 else 12) else 3
theorem refuses_nil (i : Int) (s : ByteArray) (w : World) : Calls Tryz.prog 125 #[.pointer none, .int .i64 i, .string s] w fun e w' => e = .returned (.int .i64 3) ∧ w' = w := by
  go_enter Tryz.func125, Tryz.ntmps125
  go_wp2_with fail
  refine (has_nil i w).mono ?_
  rintro e w1 ⟨rfl, rfl⟩
  go_wp2_with fail
  go_ret
  exact ⟨rfl, rfl⟩
theorem refuses_any (i : Int) (s : ByteArray) (w : World) (h : Disk w b P d) : Calls Tryz.prog 125 #[.pointer (some ⟨b, 0, none⟩), .int .i64 i, .string s] w fun e w' => e = .returned (.int .i64 (M.wrong d.S.length i s)) ∧ w' = w := by
  have HC := Lib.hid (dhas_any i w h)
  unfold M.wrong
  cases hb : M.hasB d.S.length i with
  | false =>
    rw [hb] at HC
    rw [if_neg (by simp)]
    clear h hb
    go_enter Tryz.func125, Tryz.ntmps125
    go_wp2_with fail
    refine HC.out.mono ?_
    rintro e w1 ⟨rfl, rfl⟩
    go_wp2_with fail
    go_ret
    exact ⟨rfl, rfl⟩
  | true =>
    rw [hb] at HC
    rw [if_pos rfl]
    clear h hb
    by_cases h64 : s.size = 64
    · rw [if_pos h64]
      go_enter Tryz.func125, Tryz.ntmps125
      go_wp2_with fail
      refine HC.out.mono ?_
      rintro e w1 ⟨rfl, rfl⟩
      go_wp2_with fail
      go_ret
      exact ⟨rfl, rfl⟩
    · rw [if_neg h64]
      have h64' : ((s.size : Int) == 64) = false := by rw [beq_eq_false_iff_ne]; omega
      clear h64
      go_enter Tryz.func125, Tryz.ntmps125
      go_wp2_with fail
      refine HC.out.mono ?_
      rintro e w1 ⟨rfl, rfl⟩
      go_wp2_with fail
      go_ret
      exact ⟨rfl, rfl⟩
end

/-- The first of two that is not 0. -/
def M.or2 (x y : Int) : Int := if x = 0 then y else x
theorem or_any (w : World) {g : Nat} {x y : Int} (h0 : w.cell? ⟨g, 0, none⟩ = some (.int .i64 x)) (h1 : w.cell? ⟨g, 1, none⟩ = some (.int .i64 y)) :
    Calls Tryz.prog 127 #[.slice (some ⟨g, 0, none⟩) 2 2] w fun e w' => e = .returned (.int .i64 (M.or2 x y)) ∧ w' = w := by
  obtain ⟨o, ho⟩ : ∃ o, o = M.or2 x y := ⟨_, rfl⟩
  rw [← ho]
  have HO := Lib.hid ho
  clear ho
  go_enter Tryz.func127, Tryz.ntmps127
  go_wp2_with fail
  go_loopw [8] (fun i wr => wr = w ∧ (i = .int .i64 0 ∨ (i = .int .i64 1 ∧ x = 0) ∨ (i = .int .i64 2 ∧ x = 0 ∧ y = 0))) (fun i _ => 2 - (intOf i).toNat)
  case atStart => exact ⟨rfl, Or.inl rfl⟩
  case round =>
    obtain ⟨rfl, rfl | ⟨rfl, hx⟩ | ⟨rfl, hx, hy⟩⟩ := hrel
    · by_cases hx : x = 0
      · go_wp2_with fail
        go_roundw
        case rel => exact ⟨by simp, Or.inr (Or.inl ⟨by simp, by simp [hx]⟩)⟩
        case measure => simp [intOf]
      · have hx' : (x == 0) = false := by rw [beq_eq_false_iff_ne]; exact hx
        go_wp2_with fail
        go_ret
        exact ⟨by rw [HO.out, M.or2, if_neg hx]; rfl, rfl⟩
    · by_cases hy : y = 0
      · go_wp2_with fail
        go_roundw
        case rel => exact ⟨by simp, Or.inr (Or.inr ⟨by simp, by simp [hx], by simp [hy]⟩)⟩
        case measure => simp [intOf]
      · have hy' : (y == 0) = false := by rw [beq_eq_false_iff_ne]; exact hy
        go_wp2_with fail
        go_ret
        exact ⟨by rw [HO.out, M.or2, if_pos hx]; rfl, rfl⟩
    · go_wp2_with fail
      go_ret
      exact ⟨by rw [HO.out, M.or2, if_pos hx, hy]; rfl, rfl⟩
end Go.Proofs.YtmgchfjfkdkaoaaGreatDoor
namespace Go.Proofs.YtmgchfjfkdkaoaaGreatDoor
open Go.RowKit Go.Maps

/-- A row of c strings of which the first k are s. -/
def M.part (s : ByteArray) (c k : Nat) : List Value := List.replicate k (.string s) ++ List.replicate (c - k) (.string ⟨#[]⟩)
theorem M.part_len (s : ByteArray) (c k : Nat) (h : k ≤ c) : (M.part s c k).length = c := by simp [M.part]; omega
theorem M.part_at (s : ByteArray) (c k j : Nat) (h : j < k) : (M.part s c k)[j]? = some (.string s) := by
  rw [M.part, List.getElem?_append_left (by simpa using h)]
  simp [h]
theorem M.part_splice (s : ByteArray) (c k m : Nat) : splice (M.part s c k) k (List.replicate m (.string s)) = M.part s c (k + m) := by
  unfold splice M.part
  rw [List.take_left' (by simp), List.length_replicate, List.drop_append, List.drop_eq_nil_of_le (by simp), List.nil_append, List.drop_replicate, ← List.append_assoc, List.replicate_append_replicate]
  congr 2
  simp
  omega
theorem M.part_full (s : ByteArray) (c : Nat) : M.part s c c = (List.replicate c s).map Value.string := by simp [M.part]
theorem M.part_made (s : ByteArray) (c : Nat) : (madeCells #[Value.string ⟨#[]⟩] c) = (M.part s c 0).toArray := by
  apply Array.ext
  · simp [madeCells, M.part]
  · intro i h1 h2
    simp [madeCells, Nat.mod_one, M.part]
theorem infoS : (Tryz.prog.info? 9).map (fun i => (i.zero, i.size, i.bytes)) = some (some (.string ⟨#[]⟩), 1, 16) := by kernel_rfl
theorem sizeS : (Tryz.prog.info? 9).map (·.size) = some 1 := by kernel_rfl

theorem copy_part (s : ByteArray) (w w1 : World) (B c k m : Nat) (hk : k ≤ c) (hmk : m ≤ k) (hmc : k + m ≤ c) (hB : w1.heap.size ≤ B) (hm : m = Nat.min k (c - k)) (hg : w.heap[B]? = some (.cells (M.part s c k).toArray 9 (0, 0))) (hb : Below w1.heap.size w1 w) :
    ∃ w4, (Builtin.copy_ #[36, 36] 3 #[.slice (some ⟨B, k, none⟩) (c - k) (c - k), .slice (some ⟨B, 0, none⟩) k c]).run Tryz.prog w = .ok (.int .i64 (m : Nat)) w4 ∧
      w4.heap[B]? = some (.cells (M.part s c (k + m)).toArray 9 (0, 0)) ∧ Below w1.heap.size w1 w4 := by
  have hrun := run_copy_row (P := Tryz.prog) w 36 36 3 9 B k (c - k) (c - k) ⟨B, 0, none⟩ k c (M.part s c k).toArray 9 (List.replicate m (Value.string s)) Tryz.underlying36 sizeS hg (by rw [List.length_replicate]; exact hm) (fun j v hj => by
      have hj1 := (List.getElem?_eq_some_iff.1 hj).1
      simp at hj1
      rw [List.getElem?_replicate, if_pos hj1] at hj
      rw [← hj, blk_add, cell_of_row _ _ _ _ _ _ hg]
      simpa using M.part_at s c k j (by omega)) (by rw [List.length_replicate, List.size_toArray, M.part_len _ _ _ hk]; omega) (fun v hv => by rw [List.eq_of_mem_replicate hv]; rfl)
  rw [List.length_replicate] at hrun
  refine ⟨_, hrun, ?_, below_setRow hb hB _⟩
  rw [setRow_heap w B _ _ _ _ hg, ← M.part_splice]
  simp [splice]

theorem mul1 (c : Nat) (hc : c ≤ 1000) (w : World) : Calls Tryz.prog 86 #[.int .u64 1, .int .u64 c] w fun e w' => e = .returned (.tuple #[.int .u64 0, .int .u64 c]) ∧ w' = w := by
  have h := Tryz.bits_Mul 1 c (by omega) (by omega) w
  have e1 : 1 * c / 18446744073709551616 = 0 := by omega
  have e2 : 1 * c % 18446744073709551616 = c := by omega
  rw [e1, e2] at h
  exact h

set_option maxRecDepth 100000 in
set_option maxHeartbeats 1000000 in
theorem repeat_any (s : ByteArray) (g c : Nat) (hc : c ≤ 1000) (w : World) (hg : w.cell? ⟨g, 0, none⟩ = some (.string s)) :
    Calls Tryz.prog 47 #[.slice (some ⟨g, 0, none⟩) 1 1, .int .i64 c] w fun e w' => e = .returned (.slice (some ⟨w.heap.size, 0, none⟩) c c) ∧
      Box w' w.heap.size 9 ((List.replicate c s).map Value.string).toArray ∧ Below w.heap.size w w' := by
  have HM := Lib.hid (mul1 c hc w)
  have hmk : ∀ W : World, (Instr.makeSlice 36 (.int .i64 (c : Int)) (.int .i64 (c : Int))).run Tryz.prog W = .ok (.slice (some ⟨W.heap.size, 0, none⟩) c c) (W.alloc (.cells (madeCells #[Value.string ⟨#[]⟩] c) 9)) :=
    fun W => run_make_row' 36 9 (.string ⟨#[]⟩) 16 Tryz.underlying36 infoS rfl .i64 .i64 c (by omega) (by omega) W
  have hc' : (c : Int) ≤ 1000 := by omega
  have hglt : g < w.heap.size := World.block_lt_of_cell? w _ hg
  obtain ⟨k1, hk1⟩ : ∃ k, k = Nat.min 1 c := ⟨_, rfl⟩
  have hk1c : k1 ≤ c := by rw [hk1]; exact Nat.min_le_right _ _
  have hk1p : 0 < c → 0 < k1 := fun h => by rw [hk1]; show 0 < min 1 c; omega
  have hk11 : k1 ≤ 1 := by rw [hk1]; exact Nat.min_le_left _ _
  have HG : Hid ((w.alloc (.cells (madeCells #[Value.string ⟨#[]⟩] c) 9)).heap[w.heap.size]? = some (.cells (M.part s c 0).toArray 9 (0, 0))) := by
    rw [← M.part_made s c]
    exact heap_alloc_new w _
  have HB : Hid (Below w.heap.size w (w.alloc (.cells (madeCells #[Value.string ⟨#[]⟩] c) 9))) := (Below.refl _ w).alloc (Nat.le_refl _) _
  have HC : Hid (∀ j v, (List.replicate k1 (Value.string s))[j]? = some v → (w.alloc (.cells (madeCells #[Value.string ⟨#[]⟩] c) 9)).cell? ((⟨g, 0, none⟩ : Addr).add j) = some v) := by
    intro j v hj
    have hj1 := (List.getElem?_eq_some_iff.1 hj).1
    simp at hj1
    have : j = 0 := by omega
    subst this
    rw [List.getElem?_replicate, if_pos hj1] at hj
    injection hj with hj
    rw [← hj, blk_add]
    exact (World.cell?_of_block (Below.heap_alloc _ _ _ hglt)).trans hg
  have HE0 : Hid (splice (M.part s c 0) 0 (List.replicate k1 (.string s)) = M.part s c k1) := by
    have := M.part_splice s c 0 k1
    rwa [Nat.zero_add] at this
  have HK1 := Lib.hid hk1
  clear hk1 hg
  go_enter Tryz.func47, Tryz.ntmps47
  go_wp2_with fail
  refine HM.out.mono ?_
  rintro e w1 ⟨rfl, rfl⟩
  go_wp2_with (refine wpList_copy_splice rfl _ _ 36 36 rfl 9 Tryz.underlying36 sizeS _ _ _ _ _ _ rfl rfl w1.heap.size 0 (M.part s c 0) 9 HG.out (List.replicate k1 (.string s)) (by rw [List.length_replicate]; exact HK1.out) (fun _ => ⟨rfl, _, rfl, HC.out⟩) (by rw [List.length_replicate, M.part_len _ _ _ (Nat.zero_le _)]; omega) (fun v hv => by rw [List.eq_of_mem_replicate hv]; rfl) w1.heap.size w1 HB.out (Nat.le_refl _) ?_
               intro w2 HG2 hB2
               rw [HE0.out] at HG2
               have HB2 := Lib.hid hB2
               clear hB2 HG HB HC HE0)
  go_loopw [8] (fun i wr => ∃ k : Nat, k ≤ c ∧ (0 < c → 0 < k) ∧ i = .int .i64 k ∧ wr.heap[w1.heap.size]? = some (.cells (M.part s c k).toArray 9 (0, 0)) ∧ Below w1.heap.size w1 wr) (fun i _ => c - (intOf i).toNat)
  case atStart => exact ⟨k1, hk1c, hk1p, by simp, HG2.out, HB2.out⟩
  case round =>
    obtain ⟨k, hk, hkp, rfl, hGk, hBk⟩ := hrel
    have HGk := Lib.hid hGk
    have HBk := Lib.hid hBk
    clear hGk hBk
    by_cases hlt : k < c
    · have hlt' : (k : Int) < (c : Int) := by omega
      have hk0 : (0 : Int) ≤ (k : Int) := by omega
      have hk0' : 0 < k := hkp (by omega)
      obtain ⟨m, hm⟩ : ∃ m, m = Nat.min k (c - k) := ⟨_, rfl⟩
      have hm0 : 0 < m := by rw [hm]; show 0 < min k (c - k); omega
      have hmc : k + m ≤ c := by
        have : m ≤ c - k := by rw [hm]; exact Nat.min_le_right _ _
        omega
      have hmk' : m ≤ k := by rw [hm]; exact Nat.min_le_left _ _
      have HMM := Lib.hid hm
      obtain ⟨q, hq⟩ : ∃ q, q = k + m := ⟨_, rfl⟩
      have hqi : IntKind.i64.wrap ((k : Int) + (m : Int)) = (q : Int) := by rw [IntKind.wrap_i64]; omega
      have HQ := Lib.hid hq
      clear hm hq hkp HM
      have hck : ¬ c = k := by omega
      obtain ⟨w4, hrun, hg4, hb4⟩ := copy_part s wr.drew w1 w1.heap.size c k m hk hmk' hmc (Nat.le_refl _) HMM.out HGk.out HBk.out.drew
      have HG4 := Lib.hid hg4
      have HB4 := Lib.hid hb4
      clear hg4 hb4
      clear HGk HBk
      go_wp2_with fail
      go_region
      go_wp2_with fail
      go_roundw
      case rel => exact ⟨q, by have := HQ.out; omega, fun _ => by have := HQ.out; omega, by go_num, by rw [HQ.out]; exact HG4.out, HB4.out⟩
      case measure => have := HQ.out; simp [intOf]; omega
    · have e : k = c := by omega
      subst e
      have HX : Hid (Box wr w1.heap.size 9 ((List.replicate k s).map Value.string).toArray) := by rw [← M.part_full]; exact HGk.out
      go_wp2_with fail
      go_ret
      exact ⟨rfl, HX.out, HBk.out⟩

/-- How many sectors a disk has. -/
def M.held (n : Int) : Nat := if n < 0 then 0 else if 1000 < n then 1000 else n.toNat
theorem M.held_le (n : Int) : M.held n ≤ 1000 := by unfold M.held; split; omega; split <;> omega
/-- A new disk. -/
def M.new (c : Nat) : M.D := ⟨List.replicate c M.zero, [], 0, [], 0, false⟩
theorem M.new_inv (c : Nat) (hc : c ≤ 1000) : M.Inv (M.new c) :=
  ⟨by simp [M.new, hc], fun s hs => by rw [List.eq_of_mem_replicate hs]; rfl, fun p hp => (by cases hp), fun p hp => (by cases hp), Nat.zero_le _⟩
theorem zeros_is : (⟨(Lib.repeatL (⟨#[0]⟩ : ByteArray).data.toList 64).toArray⟩ : ByteArray) = M.zero := by decide
theorem zeros_any (w : World) : Calls Tryz.prog 46 #[.string ⟨#[0]⟩, .int .i64 64] w fun e w' => e = .returned (.string M.zero) ∧ Below w.heap.size w w' := by
  have h := Tryz.strings_Repeat_main ⟨#[0]⟩ 64 w (by omega) (by omega) (by decide) (by decide)
  rw [zeros_is] at h
  exact h

theorem Disk.new_of {w w2 : World} {c : Nat} (hc : c ≤ 1000) {sb : Nat} (hs : w.heap.size ≤ sb) (hB : Box w2 sb 9 ((List.replicate c M.zero).map Value.string).toArray) (hb : Below w.heap.size w w2) :
    Disk ((w2.alloc (.map #[] 0)).alloc (.cells #[.slice (some ⟨sb, 0, none⟩) c c, .slice none 0 0, .map (some w2.heap.size), .int .i64 0, .slice none 0 0, .int .i64 0, .bool false] 69)) (w2.heap.size + 1) (fun k => w.heap.size ≤ k) (M.new c) ∧
      Below w.heap.size w ((w2.alloc (.map #[] 0)).alloc (.cells #[.slice (some ⟨sb, 0, none⟩) c c, .slice none 0 0, .map (some w2.heap.size), .int .i64 0, .slice none 0 0, .int .i64 0, .bool false] 69)) := by
  have hz := hb.size
  have hsl := hB.lt
  have hm : (w2.alloc (.map #[] 0)).ownsMap Tryz.prog 3 (plainElem (H := Unit) Tryz.prog 3) w2.heap.size 0 (.map []) := World.ownsMap_made w2 _ _ _
  have hbx : Box ((w2.alloc (.map #[] 0)).alloc (.cells #[.slice (some ⟨sb, 0, none⟩) c c, .slice none 0 0, .map (some w2.heap.size), .int .i64 0, .slice none 0 0, .int .i64 0, .bool false] 69)) (w2.heap.size + 1) 69 #[.slice (some ⟨sb, 0, none⟩) c c, .slice none 0 0, .map (some w2.heap.size), .int .i64 0, .slice none 0 0, .int .i64 0, .bool false] := by
    have := heap_alloc_new (w2.alloc (.map #[] 0)) (.cells #[.slice (some ⟨sb, 0, none⟩) c c, .slice none 0 0, .map (some w2.heap.size), .int .i64 0, .slice none 0 0, .int .i64 0, .bool false] 69)
    rwa [World.size_alloc] at this
  refine ⟨⟨sb, w2.heap.size, .slice none 0 0, .slice none 0 0, ⟨?_, ?_, ⟨_, hm.alloc _, M.MapIs.nil⟩, World.ownsRow_nil _ _ _ _, World.ownsRow_nil _ _ _ _, M.new_inv c hc, by omega, by omega, by omega, fun k h => (by cases h), fun k h => (by cases h)⟩, ?_, ?_, ?_, fun k h => (by cases h), fun k h => (by cases h)⟩, ?_⟩
  · simpa [M.new] using hbx
  · exact (Below.heap_alloc _ _ _ (by rw [World.size_alloc]; omega)).trans ((Below.heap_alloc _ _ _ hsl).trans hB)
  · show w.heap.size ≤ w2.heap.size + 1
    omega
  · exact hs
  · exact hz
  · exact (hb.alloc hz _).alloc (by rw [World.size_alloc]; omega) _

set_option maxRecDepth 100000 in
theorem new_any (n : Int) (w : World) : Calls Tryz.prog 22 #[.int .i64 n] w fun e w' => ∃ b, e = .returned (.pointer (some ⟨b, 0, none⟩)) ∧ Disk w' b (fun k => w.heap.size ≤ k) (M.new (M.held n)) ∧ Below w.heap.size w w' := by
  have HZ := Lib.hid (zeros_any w)
  have hmm := @run_makeMap Tryz.prog
  have hmx : min (max n 0) 1000 = ((M.held n : Nat) : Int) := by
    unfold M.held
    split
    · omega
    · split <;> omega
  have hcl := M.held_le n
  obtain ⟨c, hc⟩ : ∃ c, c = M.held n := ⟨_, rfl⟩
  rw [← hc] at hmx hcl
  rw [← hc]
  have HMX := Lib.hid hmx
  clear hc hmx
  go_enter Tryz.func22, Tryz.ntmps22
  go_wp2_with fail
  refine HZ.out.mono ?_
  rintro e w1 ⟨rfl, hb1⟩
  have HB1 := Lib.hid hb1
  clear hb1 HZ
  go_wp2_with fail
  rw [HMX.out]
  refine (repeat_any M.zero w1.heap.size c hcl _ (cell_one_new w1 (.string M.zero) 9 0 _ rfl)).mono ?_
  rintro e w2 ⟨rfl, hB2, hb2⟩
  rw [World.size_alloc] at hB2
  have HX := Lib.hid (Disk.new_of (w := w) hcl (by have := HB1.out.size; omega) hB2 ((HB1.out.alloc HB1.out.size _).trans (hb2.mono (by rw [World.size_alloc]; have := HB1.out.size; omega))))
  clear hB2 hb2 HB1
  go_wp2_with fail
  go_ret
  exact ⟨_, rfl, HX.out.1, HX.out.2⟩
end Go.Proofs.YtmgchfjfkdkaoaaGreatDoor
namespace Go.Proofs.YtmgchfjfkdkaoaaGreatDoor
open Go.RowKit Go.Maps Go.Sort

/-- Where the first one of a number stands. -/
theorem M.idx_cases (zs : List Int) (x : Int) : (x ∉ zs ∧ Lib.idxOf zs x = -1) ∨ ∃ i : Nat, x ∈ zs ∧ i < zs.length ∧ Lib.idxOf zs x = (i : Int) ∧ zs.take i ++ zs.drop (i + 1) = zs.erase x := by
  have gen : ∀ (zs : List Int) (k : Nat), (x ∉ zs ∧ Lib.idxFrom zs x k = -1) ∨ ∃ i : Nat, x ∈ zs ∧ i < zs.length ∧ Lib.idxFrom zs x k = ((k + i : Nat) : Int) ∧ zs.take i ++ zs.drop (i + 1) = zs.erase x := by
    intro zs
    induction zs with
    | nil => intro k; exact Or.inl ⟨by simp, rfl⟩
    | cons z zs ih =>
      intro k
      by_cases hz : z = x
      · subst hz
        exact Or.inr ⟨0, by simp, by simp, by simp [Lib.idxFrom], by simp⟩
      · rcases ih (k + 1) with ⟨h1, h2⟩ | ⟨i, h1, h2, h3, h4⟩
        · exact Or.inl ⟨by simp [h1, Ne.symm hz], by simp [Lib.idxFrom, hz, h2]⟩
        · refine Or.inr ⟨i + 1, by simp [h1], by simp [h2], ?_, ?_⟩
          · rw [Lib.idxFrom, if_neg hz, h3]
            congr 1
            omega
          · rw [List.erase_cons_tail (by simpa using hz), ← h4]
            simp
  rcases gen zs 0 with h | ⟨i, h1, h2, h3, h4⟩
  · exact Or.inl h
  · exact Or.inr ⟨i, h1, h2, by rw [Lib.idxOf, h3, Nat.zero_add], h4⟩

/-- What an owned row of numbers holds. -/
theorem owned_ints {w : World} {B : Nat} {v : Value} {zs : List Int} (h : w.ownsRow B 3 1 v zs.length (zs.map (Value.int .i64))) :
    (v = .slice none 0 0 ∧ zs = []) ∨ ∃ g cap, v = .slice (some ⟨g, 0, none⟩) zs.length cap ∧ zs.length ≤ cap ∧ cap ≤ maxLen ∧ g < w.heap.size ∧ (∀ j, j < zs.length → w.cell? ⟨g, 0 + j, none⟩ = some (.int .i64 (zs.getD j 0))) ∧ Holds (Value.int .i64) w g 0 zs.toArray := by
  rcases h.2 with ⟨e, hn⟩ | ⟨g, cap, cur, e, h1, h2, h3, h4, h5, h6⟩
  · exact Or.inl ⟨e, List.eq_nil_of_length_eq_zero hn⟩
  · have hc : ∀ j, j < zs.length → w.cell? ⟨g, 0 + j, none⟩ = some (.int .i64 (zs.getD j 0)) := by
      intro j hj
      rw [Nat.zero_add, cell_of_row w g j cur _ _ h2]
      have : (cur.toList.take (zs.length * 1))[j]? = some (.int .i64 (zs.getD j 0)) := by
        rw [h6, List.getElem?_map, List.getElem?_eq_getElem hj]
        simp [hj]
      rw [List.getElem?_take_of_lt (by omega)] at this
      simpa using this
    refine Or.inr ⟨g, cap, e, h3, h4, lt_of_block h2, hc, fun j hj => ⟨?_, ?_⟩⟩
    · have hj' : j < zs.length := by simpa using hj
      rw [hc j hj']
      simp [hj']
    · rw [Nat.zero_add]
      have h2' : Box w g 3 cur := h2
      exact h2'.frozen j

theorem putRow_kept (w : World) (q g off : Nat) (d : Array Int) : Kept (fun k => k = g) w (putRow (Value.int .i64) (Sort.ahead w q) g off d) :=
  ⟨rfl, rfl, rfl, by simp, fun k _ hp => by
    show ((Sort.ahead w q).heap.modify g _)[k]? = w.heap[k]?
    rw [Array.getElem?_modify, if_neg (fun e => hp e.symm)]
    rfl⟩
/-- What is left of an owned row of numbers once one was deleted. -/
theorem owned_deleted {w : World} {B g cap i : Nat} {zs : List Int} (q : Nat) (h : w.ownsRow B 3 1 (.slice (some ⟨g, 0, none⟩) zs.length cap) zs.length (zs.map (Value.int .i64))) (hi : i < zs.length) :
    (putRow (Value.int .i64) (Sort.ahead w q) g 0 (zs.take i ++ zs.drop (i + 1) ++ List.replicate (i + 1 - i) 0).toArray).ownsRow B 3 1 (.slice (some ⟨g, 0, none⟩) (zs.length - (i + 1 - i)) cap) (zs.take i ++ zs.drop (i + 1)).length ((zs.take i ++ zs.drop (i + 1)).map (Value.int .i64)) := by
  rcases h.2 with ⟨e, _⟩ | ⟨g', cap', cur, e, h1, h2, h3, h4, h5, h6⟩
  · cases e
  · injection e with e1 e2 e3
    injection e1 with e1
    injection e1 with e1
    subst e1
    subst e3
    have hl : (zs.take i ++ zs.drop (i + 1)).length = zs.length - 1 := by simp; omega
    have hsz : (zs.take i ++ zs.drop (i + 1) ++ List.replicate (i + 1 - i) (0 : Int)).toArray.size = zs.length := by simp; omega
    refine ⟨by simp, Or.inr ⟨g, cap, putCells (Value.int .i64) 0 (zs.take i ++ zs.drop (i + 1) ++ List.replicate (i + 1 - i) 0).toArray cur, by rw [hl]; congr 1; omega, h1, ?_, by omega, h4, by simpa [putCells] using h5, ?_⟩⟩
    · show ((Sort.ahead w q).heap.modify g _)[g]? = _
      have h2' : (Sort.ahead w q).heap[g]? = some (.cells cur 3 (0, 0)) := h2
      rw [Array.getElem?_modify, if_pos rfl, h2']
      rfl
    · apply List.ext_getElem?
      intro j
      by_cases hj : j < (zs.take i ++ zs.drop (i + 1)).length
      · have hjc : j < cur.size := by omega
        rw [List.getElem?_take_of_lt (by omega), List.getElem?_map, List.getElem?_eq_getElem hj, Array.getElem?_toList]
        simp only [putCells, Array.getElem?_mapIdx, Array.getElem?_eq_getElem hjc, Option.map_some]
        rw [if_pos ⟨Nat.zero_le _, by rw [hsz]; omega⟩, Nat.sub_zero, getElem!_pos _ j (by rw [hsz]; omega)]
        congr 2
        rw [List.getElem_toArray, List.getElem_append_left hj]
      · rw [List.getElem?_eq_none (by rw [List.length_take]; omega), List.getElem?_eq_none (by rw [List.length_map]; omega)]

theorem Kept.set' {P : Nat → Prop} {w : World} {g : Nat} (hg : P g) (i : Nat) (u : Value) : Kept P w (w.setCell ⟨g, i, none⟩ u) := (Kept.refl P w).set (fun _ => hg) i u

/-- A cell of the disk's own block is written. -/
theorem DiskAt.poke {w : World} {b sb mb : Nat} {WV FV : Value} {d d' : M.D} (h : DiskAt w b sb mb WV FV d) {i : Nat} {u : Value} (hS : d'.S = d.S) (hL : d'.L = d.L) (hF : d'.fails = d.fails) (ho : d.ops ≤ d'.ops)
    (hb : (#[.slice (some ⟨sb, 0, none⟩) d.S.length d.S.length, WV, .map (some mb), .int .i64 (d.ops : Nat), FV, .int .i64 d.da, .bool d.dn] : Array Value).setIfInBounds i u = #[.slice (some ⟨sb, 0, none⟩) d.S.length d.S.length, WV, .map (some mb), .int .i64 (d'.ops : Nat), FV, .int .i64 d'.da, .bool d'.dn]) :
    DiskAt (w.setCell ⟨b, i, none⟩ u) b sb mb WV FV d' := by
  have hk : Kept (fun k => k = b) w (w.setCell ⟨b, i, none⟩ u) := Kept.set' (P := fun k => k = b) rfl i u
  obtain ⟨m, hm1, hm2⟩ := h.map
  refine ⟨?_, ?_, ⟨m, ?_, ?_⟩, ?_, ?_, ?_, h.bs, h.bm, h.sm, h.wn, h.fn⟩
  · rw [hS, ← hb]
    exact h.box.set i u
  · rw [hS]
    exact hk.box h.sure (Ne.symm h.bs)
  · rw [hL]
    exact hk.map hm1 (Ne.symm h.bm)
  · rw [hL]
    exact hm2
  · rw [hL]
    exact hk.owns h.writes (fun k e => (h.wn k e).1)
  · rw [hF]
    exact hk.owns h.fails (fun k e => (h.fn k e).1)
  · exact ⟨by rw [hS]; exact h.inv.many, by rw [hS]; exact h.inv.sure, by rw [hS, hL]; exact h.inv.lies, by rw [hL]; exact h.inv.wide, by rw [hL]; exact Nat.le_trans h.inv.some_ ho⟩

theorem DiskAt.deleted {w w1 : World} {b sb mb g cap i j : Nat} {WV : Value} {d : M.D} {x : Int} (h : DiskAt w b sb mb WV (.slice (some ⟨g, 0, none⟩) d.fails.length cap) d) (hj : j = i + 1) (hi : i < d.fails.length) (he : d.fails.take i ++ d.fails.drop (i + 1) = d.fails.erase x) (q : Nat)
    (hw : w1 = putRow (Value.int .i64) (Sort.ahead w q) g 0 (d.fails.take i ++ d.fails.drop j ++ List.replicate (j - i) 0).toArray) :
    w1.cell? ⟨b, 4, none⟩ = some (.slice (some ⟨g, 0, none⟩) d.fails.length cap) ∧ w1.frozen? ⟨b, 4, none⟩ = false ∧
      Hid (DiskAt (w1.setCell ⟨b, 4, none⟩ (.slice (some ⟨g, 0, none⟩) (d.fails.length - (j - i)) cap)) b sb mb WV (.slice (some ⟨g, 0, none⟩) (d.fails.length - (j - i)) cap) { d with fails := d.fails.erase x } ∧
        Kept (fun k => k = b ∨ k = g) w (w1.setCell ⟨b, 4, none⟩ (.slice (some ⟨g, 0, none⟩) (d.fails.length - (j - i)) cap))) := by
  subst hj
  have hk1 : Kept (fun k => k = g) w w1 := by rw [hw]; exact putRow_kept w q g 0 _
  have hg := h.fn g rfl
  have hB1 := hk1.box h.box (Ne.symm hg.1)
  have hk2 : Kept (fun k => k = b) w1 (w1.setCell ⟨b, 4, none⟩ (.slice (some ⟨g, 0, none⟩) (d.fails.length - (i + 1 - i)) cap)) := Kept.set' (P := fun k => k = b) rfl 4 _
  have hk : Kept (fun k => k = b ∨ k = g) w (w1.setCell ⟨b, 4, none⟩ (.slice (some ⟨g, 0, none⟩) (d.fails.length - (i + 1 - i)) cap)) :=
    (hk1.mono (fun _ _ h => Or.inr h)).trans (hk2.mono (fun _ _ h => Or.inl h))
  have ho := owned_deleted q h.fails hi
  rw [← hw, he] at ho
  refine ⟨by simpa using hB1.cell 4, hB1.frozen 4, ⟨?_, ?_, ?_, ?_, ?_, ⟨h.inv.many, h.inv.sure, h.inv.lies, h.inv.wide, h.inv.some_⟩, h.bs, h.bm, h.sm, h.wn, ?_⟩, hk⟩
  · simpa using hB1.set 4 (.slice (some ⟨g, 0, none⟩) (d.fails.length - (i + 1 - i)) cap)
  · exact hk.box h.sure (fun e => e.elim (fun e => h.bs e.symm) (fun e => hg.2.1 e.symm))
  · obtain ⟨m, hm1, hm2⟩ := h.map
    exact ⟨m, hk.map hm1 (fun e => e.elim (fun e => h.bm e.symm) (fun e => hg.2.2.1 e.symm)), hm2⟩
  · exact hk.owns h.writes (fun k e e' => e'.elim (fun e' => (h.wn k e).1 e') (fun e' => hg.2.2.2 (by rw [← e']; exact e)))
  · exact hk2.owns ho (fun k e => by
      have : g = k := by simpa [Value.ownBlock] using e
      rw [← this]
      exact hg.1)
  · intro k e
    have : g = k := by simpa [Value.ownBlock] using e
    rw [← this]
    exact hg

set_option maxHeartbeats 1000000 in
theorem takeFail_at (x : Int) (w : World) {b sb mb : Nat} {WV FV : Value} {d : M.D} (h : DiskAt w b sb mb WV FV d) :
    Calls Tryz.prog 101 #[.pointer (some ⟨b, 0, none⟩), .int .i64 x] w fun e w' => e = .returned (.bool (decide (x ∈ d.fails))) ∧
      ∃ FV', DiskAt w' b sb mb WV FV' { d with fails := d.fails.erase x } ∧ FV'.ownBlock = FV.ownBlock ∧ Kept (fun k => k = b ∨ FV.ownBlock = some k) w w' := by
  have c4 := h.c4
  rcases M.idx_cases d.fails x with ⟨hx, hix⟩ | ⟨i, hx, hil, hix, he⟩
  · have HI : Hid (Calls Tryz.prog 137 #[FV, .int .i64 x] w fun e w' => e = .returned (.int .i64 (-1)) ∧ w' = w) := by
      rcases owned_ints h.fails with ⟨e, hf⟩ | ⟨g, cap, e, h1, h2, _, h3, _⟩
      · rw [e, ← hix, hf]
        exact Tryz.slices_Index_int_empty none 0 x w
      · rw [e, ← hix]
        have := Tryz.slices_Index_int g 0 d.fails.length cap d.fails x w (Nat.le_refl _) (by unfold maxLen at h2; omega) h3
        rwa [List.take_length] at this
    have HE : Hid (DiskAt w b sb mb WV FV { d with fails := d.fails.erase x }) := by
      rw [List.erase_of_not_mem hx]
      exact h
    have hd : decide (x ∈ d.fails) = false := by simpa using hx
    rw [hd]
    clear h hx hix hd
    go_enter Tryz.func101, Tryz.ntmps101
    go_wp2_with fail
    refine HI.out.mono ?_
    rintro e w1 ⟨rfl, rfl⟩
    go_wp2_with fail
    go_ret
    exact ⟨rfl, FV, HE.out, rfl, Kept.refl _ _⟩
  · rcases owned_ints h.fails with ⟨_, hf⟩ | ⟨g, cap, rfl, h1, h2, _, h3, h4⟩
    · rw [hf] at hil
      simp at hil
    · have hil' : i < d.fails.length := hil
      have HI : Hid (Calls Tryz.prog 137 #[.slice (some ⟨g, 0, none⟩) d.fails.length cap, .int .i64 x] w fun e w' => e = .returned (.int .i64 (i : Nat)) ∧ w' = w) := by
        rw [← hix]
        have := Tryz.slices_Index_int g 0 d.fails.length cap d.fails x w (Nat.le_refl _) (by unfold maxLen at h2; omega) h3
        rwa [List.take_length] at this
      have HD := Lib.hid (Tryz.slices_Delete_int g 0 cap i (i + 1) d.fails w h4 h1 (by unfold maxLen at h2; omega) (by omega) (by omega))
      have hd : decide (x ∈ d.fails) = true := by simpa using hx
      rw [hd]
      have hi63 : (i : Int) + 1 ≤ 9223372036854775807 := by unfold maxLen at h2; omega
      have hi0 : (0 : Int) ≤ (i : Int) := by omega
      have hi0' : decide ((i : Int) < 0) = false := by simp
      obtain ⟨j, hj⟩ : ∃ j, j = i + 1 := ⟨_, rfl⟩
      have hji : (i : Int) + 1 = (j : Int) := by omega
      have hj63 : (j : Int) ≤ 9223372036854775807 := by omega
      have hwj : IntKind.i64.wrap ((i : Int) + 1) = (j : Int) := by rw [IntKind.wrap_i64]; omega
      rw [← hj] at HD
      have HX := Lib.hid (fun q w1 => h.deleted (w1 := w1) hj hil he q)
      have HJ := Lib.hid hj
      clear h hx hix hd h1 h2 h3 h4 hil hil' he hj hi63
      go_enter Tryz.func101, Tryz.ntmps101
      go_wp2_with fail
      refine HI.out.mono ?_
      rintro e w1 ⟨rfl, rfl⟩
      go_wp2_with fail
      refine HD.out.mono ?_
      rintro e w2 ⟨rfl, q, hw2⟩
      obtain ⟨k4, f4, HY⟩ := HX.out q w2 hw2
      clear hw2 HX HD HI
      go_wp2_with fail
      go_ret
      exact ⟨rfl, _, HY.out.1, rfl, HY.out.2.mono (fun k _ e => e.imp id (fun e => by rw [e]; rfl))⟩

/-- What a call comes to ahead of what it does. -/
def M.beginE (d : M.D) : Int := if d.dn = true then 31 else if d.da = (d.ops + 1 : Nat) then 31 else if ((d.ops + 1 : Nat) : Int) ∈ d.fails then 30 else 0
/-- The disk behind it. -/
def M.beginD (d : M.D) : M.D := ⟨d.S, d.L, d.ops + 1, d.fails.erase ((d.ops + 1 : Nat) : Int), d.da, d.dn || decide (d.da = (d.ops + 1 : Nat))⟩

theorem begin_nil (w : World) : Calls Tryz.prog 64 #[.pointer none] w fun e w' => e = .returned (.int .i64 10) ∧ w' = w := by
  go_enter Tryz.func64, Tryz.ntmps64
  go_wp2_with fail
  go_ret
  exact ⟨rfl, rfl⟩

theorem DiskAt.counted {w : World} {b sb mb : Nat} {WV FV : Value} {d : M.D} (h : DiskAt w b sb mb WV FV d) (n : Nat) (hn : n = d.ops + 1) : DiskAt (w.setCell ⟨b, 3, none⟩ (.int .i64 (n : Nat))) b sb mb WV FV { d with ops := n } :=
  h.poke rfl rfl rfl (by subst hn; exact Nat.le_succ _) rfl
theorem DiskAt.downed {w : World} {b sb mb : Nat} {WV FV : Value} {d : M.D} (h : DiskAt w b sb mb WV FV d) : DiskAt (w.setCell ⟨b, 6, none⟩ (.bool true)) b sb mb WV FV { d with dn := true } :=
  h.poke rfl rfl rfl (Nat.le_refl _) rfl

set_option maxHeartbeats 1000000 in
theorem begin_at (w : World) {b sb mb : Nat} {WV FV : Value} {d : M.D} (h : DiskAt w b sb mb WV FV d) (ho : d.ops ≤ 1099511627776) :
    Calls Tryz.prog 64 #[.pointer (some ⟨b, 0, none⟩)] w fun e w' => e = .returned (.int .i64 (M.beginE d)) ∧
      ∃ FV', DiskAt w' b sb mb WV FV' (M.beginD d) ∧ FV'.ownBlock = FV.ownBlock ∧ Kept (fun k => k = b ∨ FV.ownBlock = some k) w w' := by
  have c3 := h.c3
  have f3 := h.box.frozen 3
  obtain ⟨n, hn⟩ : ∃ n, n = d.ops + 1 := ⟨_, rfl⟩
  have hni : (d.ops : Int) + 1 = (n : Int) := by omega
  have hn63 : (n : Int) ≤ 9223372036854775807 := by omega
  have hnw : wrap64 (n : Int) = (n : Int) := by unfold wrap64; omega
  have hc := h.counted n hn
  have HT := Lib.hid (takeFail_at (n : Int) _ hc)
  have c3' := hc.c3
  simp only at c3'
  have HK1 : Hid (Kept (fun k => k = b ∨ FV.ownBlock = some k) w (w.setCell ⟨b, 3, none⟩ (.int .i64 (n : Nat)))) := Kept.set' (P := fun k => k = b ∨ FV.ownBlock = some k) (Or.inl rfl) 3 _
  have HE : Hid (M.beginE d = if d.dn = true then 31 else if d.da = (n : Nat) then 31 else if (n : Int) ∈ d.fails then 30 else 0) := by rw [hn]; exact rfl
  have HD : Hid (M.beginD d = ⟨d.S, d.L, n, d.fails.erase (n : Int), d.da, d.dn || decide (d.da = (n : Nat))⟩) := by rw [hn]; exact rfl
  rw [HE.out, HD.out]
  clear HE HD hn hc h ho
  obtain ⟨w0, hw0⟩ : ∃ x, x = w.setCell ⟨b, 3, none⟩ (.int .i64 (n : Nat)) := ⟨_, rfl⟩
  obtain ⟨fl, hfl⟩ : ∃ fl : Bool, fl = decide ((n : Int) ∈ d.fails) := ⟨_, rfl⟩
  rw [← hw0] at HT HK1 c3'
  rw [← hfl] at HT
  have HW0 := Lib.hid hw0
  have HF := Lib.hid hfl
  clear hw0 hfl
  have HB : Hid (∀ y FV', DiskAt y b sb mb WV FV' ⟨d.S, d.L, n, d.fails.erase (n : Int), d.da, d.dn⟩ → Kept (fun k => k = b ∨ FV.ownBlock = some k) w0 y → FV'.ownBlock = FV.ownBlock →
      y.cell? ⟨b, 3, none⟩ = some (.int .i64 (n : Nat)) ∧ y.cell? ⟨b, 5, none⟩ = some (.int .i64 d.da) ∧ y.cell? ⟨b, 6, none⟩ = some (.bool d.dn) ∧ y.frozen? ⟨b, 6, none⟩ = false ∧ Hid (Kept (fun k => k = b ∨ FV.ownBlock = some k) w y)) :=
    fun y FV' hy hk _ => ⟨hy.c3, hy.c5, hy.c6, hy.box.frozen 6, HK1.out.trans hk⟩
  clear HK1
  cases hdn : d.dn with
  | true =>
    rw [if_pos rfl, Bool.true_or]
    rw [hdn] at HB
    have HH := Lib.hid hdn
    clear hdn
    go_enter Tryz.func64, Tryz.ntmps64
    go_wp2_with fail
    rw [← HW0.out]
    refine HT.out.mono ?_
    rintro e w2 ⟨rfl, FV', hA, hfv, hk⟩
    rw [HH.out] at hA
    obtain ⟨d3, d5, d6, g6, HK2⟩ := HB.out w2 FV' hA hk hfv
    have HA := Lib.hid hA
    have HV := Lib.hid hfv
    clear hA hfv hk HT HB c3 f3 c3'
    go_wp2_with fail
    go_ret
    exact ⟨rfl, FV', HA.out, HV.out, HK2.out⟩
  | false =>
    rw [if_neg (by simp), Bool.false_or]
    rw [hdn] at HB
    have HH := Lib.hid hdn
    clear hdn
    by_cases hda : d.da = (n : Int)
    · rw [if_pos hda]
      have HDA := Lib.hid hda
      clear hda
      go_enter Tryz.func64, Tryz.ntmps64
      go_wp2_with fail
      rw [← HW0.out]
      refine HT.out.mono ?_
      rintro e w2 ⟨rfl, FV', hA, hfv, hk⟩
      rw [HH.out] at hA
      obtain ⟨d3, d5, d6, g6, HK2⟩ := HB.out w2 FV' hA hk hfv
      have HX : Hid (∀ m, DiskAt ((w2.drewN m).setCell ⟨b, 6, none⟩ (.bool true)) b sb mb WV FV' ⟨d.S, d.L, n, d.fails.erase (n : Int), d.da, true⟩ ∧ Kept (fun k => k = b ∨ FV.ownBlock = some k) w ((w2.drewN m).setCell ⟨b, 6, none⟩ (.bool true))) :=
        fun m => ⟨(hA.drewN m).downed, (HK2.out.drewN m).trans (Kept.set' (P := fun k => k = b ∨ FV.ownBlock = some k) (Or.inl rfl) 6 _)⟩
      have HV := Lib.hid hfv
      rw [HDA.out] at d5
      clear hA hfv hk HT HB c3 f3 c3'
      go_wp2_with fail
      go_quiet (fail)
      go_wp2_with fail
      go_ret
      exact ⟨rfl, FV', by rw [decide_eq_true HDA.out]; exact (HX.out _).1, HV.out, (HX.out _).2⟩
    · rw [if_neg hda]
      have HDA := Lib.hid hda
      have hdb : ((n : Int) == d.da) = false := by rw [beq_eq_false_iff_ne]; exact fun e => hda e.symm
      clear hda
      have hff : (fl = true ∧ (n : Int) ∈ d.fails) ∨ (fl = false ∧ ¬ (n : Int) ∈ d.fails) := by
        have := HF.out
        by_cases h : (n : Int) ∈ d.fails
        · exact Or.inl ⟨by rw [this]; simpa using h, h⟩
        · exact Or.inr ⟨by rw [this]; simpa using h, h⟩
      rcases hff with ⟨rfl, hff⟩ | ⟨rfl, hff⟩
      · rw [if_pos hff]
        clear hff HF
        go_enter Tryz.func64, Tryz.ntmps64
        go_wp2_with fail
        rw [← HW0.out]
        refine HT.out.mono ?_
        rintro e w2 ⟨rfl, FV', hA, hfv, hk⟩
        rw [HH.out] at hA
        obtain ⟨d3, d5, d6, g6, HK2⟩ := HB.out w2 FV' hA hk hfv
        have HA := Lib.hid hA
        have HV := Lib.hid hfv
        clear hA hfv hk HT HB c3 f3 c3'
        go_wp2_with fail
        go_quiet (fail)
        go_wp2_with fail
        go_ret
        exact ⟨rfl, FV', by rw [decide_eq_false HDA.out]; exact HA.out.drewN _, HV.out, HK2.out.drewN _⟩
      · rw [if_neg hff]
        clear hff HF
        go_enter Tryz.func64, Tryz.ntmps64
        go_wp2_with fail
        rw [← HW0.out]
        refine HT.out.mono ?_
        rintro e w2 ⟨rfl, FV', hA, hfv, hk⟩
        rw [HH.out] at hA
        obtain ⟨d3, d5, d6, g6, HK2⟩ := HB.out w2 FV' hA hk hfv
        have HA := Lib.hid hA
        have HV := Lib.hid hfv
        clear hA hfv hk HT HB c3 f3 c3'
        go_wp2_with fail
        go_quiet (fail)
        go_wp2_with fail
        go_ret
        exact ⟨rfl, FV', by rw [decide_eq_false HDA.out]; exact HA.out.drewN _, HV.out, HK2.out.drewN _⟩
end Go.Proofs.YtmgchfjfkdkaoaaGreatDoor
namespace Go.Proofs.YtmgchfjfkdkaoaaGreatDoor
open Go.RowKit Go.Maps

theorem infoSec : (Tryz.prog.info? 111).map (fun i => (i.zero, i.size, i.bytes)) = some (some (.agg #[.int .i64 0, .string ⟨#[]⟩]), 2, 24) := by kernel_rfl
theorem cell2_new (w : World) (x y : Value) (t : TypeId) : ∀ j u, [x, y][j]? = some u → (w.alloc (.cells #[x, y] t)).cell? ((⟨w.heap.size, 0, none⟩ : Addr).add j) = some u := by
  intro j u hj
  rw [blk_add, (Box.new w t #[x, y]).cell]
  simpa using hj

/-- A write lies behind the others. -/
theorem DiskAt.laid {w w1 w3 : World} {b sb mb g cap k : Nat} {WV FV : Value} {d : M.D} {m : DataW Unit} {s : ByteArray} {o : Obj} (h : DiskAt w b sb mb WV FV d) (hm : M.MapIs m d.L) (hkS : k < d.S.length) (hs : s.size = 64) (hlt : d.L.length < d.ops)
    (hown1 : w1.ownsMap Tryz.prog 3 (plainElem Tryz.prog 3) mb (d.L.length + 1) (m.put (.int .i64 k) (.lit (.int .i64 (d.L.length : Nat))))) (hk1 : Kept (fun k => k = mb) w w1)
    (hown3 : w3.ownsRow 0 111 2 (.slice (some ⟨g, 0, none⟩) (d.L.length + 1) cap) (d.L.length + 1) (M.cells d.L ++ [.int .i64 (k : Nat), .string s])) (hg3 : (w1.alloc o).grownBy w3 WV.ownBlock) (hat : WV.ownBlock = some g ∨ g = w1.heap.size + 1) :
    w3.cell? ⟨b, 1, none⟩ = some WV ∧ w3.frozen? ⟨b, 1, none⟩ = false ∧
      Hid (DiskAt (w3.setCell ⟨b, 1, none⟩ (.slice (some ⟨g, 0, none⟩) (d.L.length + 1) cap)) b sb mb (.slice (some ⟨g, 0, none⟩) (d.L.length + 1) cap) FV { d with L := d.L ++ [(k, s)] } ∧ (WV.ownBlock = some g ∨ w.heap.size ≤ g) ∧
        Kept (fun j => j = b ∨ j = mb ∨ WV.ownBlock = some j) w (w3.setCell ⟨b, 1, none⟩ (.slice (some ⟨g, 0, none⟩) (d.L.length + 1) cap))) := by
  have hz1 := hk1.size
  have hwb := h.writes.lt
  have hfb := h.fails.lt
  have hsl := h.sure.lt
  have hbl := h.box.lt
  have hml := h.mlt
  have hk3 : Kept (fun j => j = mb ∨ WV.ownBlock = some j) w w3 := Kept.grown (Kept.alloc (hk1.mono (fun _ _ h => Or.inl h)) o) hg3 (fun j e _ => Or.inr e)
  have hnb : b ≠ g := fun e => hat.elim (fun e' => (h.wn g e').1 e.symm) (fun e' => by omega)
  have hns : sb ≠ g := fun e => hat.elim (fun e' => (h.wn g e').2.1 e.symm) (fun e' => by omega)
  have hnm : mb ≠ g := fun e => hat.elim (fun e' => (h.wn g e').2.2 e.symm) (fun e' => by omega)
  have hB3 : Box w3 b 69 _ := hk3.box h.box (fun e => e.elim (fun e => h.bm e) (fun e => (h.wn b e).1 rfl))
  have hk4 : Kept (fun j => j = b) w3 (w3.setCell ⟨b, 1, none⟩ (.slice (some ⟨g, 0, none⟩) (d.L.length + 1) cap)) := Kept.set' (P := fun j => j = b) rfl 1 _
  have hk : Kept (fun j => j = b ∨ j = mb ∨ WV.ownBlock = some j) w (w3.setCell ⟨b, 1, none⟩ (.slice (some ⟨g, 0, none⟩) (d.L.length + 1) cap)) :=
    (hk3.mono (fun _ _ h => Or.inr h)).trans (hk4.mono (fun _ _ h => Or.inl h))
  have hown1' : w3.ownsMap Tryz.prog 3 (plainElem Tryz.prog 3) mb (d.L.length + 1) (m.put (.int .i64 k) (.lit (.int .i64 (d.L.length : Nat)))) :=
    (hown1.alloc o).kept hg3 (fun e => (h.wn mb e.symm).2.2 rfl)
  have hll : (d.L ++ [(k, s)]).length = d.L.length + 1 := by simp
  refine ⟨by simpa using hB3.cell 1, hB3.frozen 1, ⟨?_, ?_, ⟨_, ?_, hm.put k s⟩, ?_, ?_, ?_, h.bs, h.bm, h.sm, ?_, ?_⟩, hat.imp id (fun e => by omega), hk⟩
  · simpa using hB3.set 1 (.slice (some ⟨g, 0, none⟩) (d.L.length + 1) cap)
  · exact hk.box h.sure (fun e => e.elim (fun e => h.bs e.symm) (fun e => e.elim (fun e => h.sm e) (fun e => (h.wn sb e).2.1 rfl)))
  · show World.ownsMap _ _ _ _ _ (d.L ++ [(k, s)]).length _
    rw [hll]
    exact hk4.map hown1' (Ne.symm h.bm)
  · show World.ownsRow _ _ _ _ _ (d.L ++ [(k, s)]).length (M.cells (d.L ++ [(k, s)]))
    rw [hll, M.cells_snoc]
    exact hk4.owns hown3 (fun j e => by
      have : g = j := by simpa [Value.ownBlock] using e
      rw [← this]
      exact Ne.symm hnb)
  · exact hk.owns h.fails (fun j e e' => e'.elim (fun e' => (h.fn j e).1 e') (fun e' => e'.elim (fun e' => (h.fn j e).2.2.1 e') (fun e' => (h.fn j e).2.2.2 e')))
  · refine ⟨h.inv.many, h.inv.sure, fun p hp => ?_, fun p hp => ?_, by show (d.L ++ [(k, s)]).length ≤ d.ops; rw [hll]; omega⟩
    · rcases List.mem_append.1 hp with hp | hp
      · exact h.inv.lies p hp
      · rw [List.mem_singleton.1 hp]; exact hkS
    · rcases List.mem_append.1 hp with hp | hp
      · exact h.inv.wide p hp
      · rw [List.mem_singleton.1 hp]; exact hs
  · intro j e
    have : g = j := by simpa [Value.ownBlock] using e
    rw [← this]
    exact ⟨Ne.symm hnb, Ne.symm hns, Ne.symm hnm⟩
  · intro j e
    refine ⟨(h.fn j e).1, (h.fn j e).2.1, (h.fn j e).2.2.1, fun e' => ?_⟩
    have : g = j := by simpa [Value.ownBlock] using e'
    rw [← this] at e
    rcases hat with e2 | e2
    · exact (h.fn g e).2.2.2 e2
    · have := (hfb g e).2
      omega

set_option maxRecDepth 100000 in
set_option maxHeartbeats 1000000 in
theorem lay_at (k : Nat) (s : ByteArray) (w : World) {b sb mb : Nat} {WV FV : Value} {d : M.D} (h : DiskAt w b sb mb WV FV d) (hk : k < d.S.length) (hs : s.size = 64) (hlt : d.L.length < d.ops) (ho : d.ops ≤ 1099511627777) :
    Calls Tryz.prog 126 #[.pointer (some ⟨b, 0, none⟩), .int .i64 k, .string s] w fun e w' => e = .returned (.tuple #[]) ∧
      ∃ WV', DiskAt w' b sb mb WV' FV { d with L := d.L ++ [(k, s)] } ∧ (∀ g, WV'.ownBlock = some g → WV.ownBlock = some g ∨ w.heap.size ≤ g) ∧ Kept (fun j => j = b ∨ j = mb ∨ WV.ownBlock = some j) w w' := by
  obtain ⟨i0, hi, hz0, hz1, hz2⟩ := info_parts infoSec
  have hmany := h.inv.many
  obtain ⟨m, hm1, hm2⟩ := h.map
  have c1 := h.c1
  have c2 := h.c2
  have f1 := h.box.frozen 1
  obtain ⟨A, cp, hA, hcp⟩ := owns_shape h.writes
  have HL : Hid (∀ w1 w3 g cap, w1.ownsMap Tryz.prog 3 (plainElem Tryz.prog 3) mb (d.L.length + 1) (m.put (.int .i64 k) (.lit (.int .i64 (d.L.length : Nat)))) → w.drew.grownBy w1 (some mb) →
      w3.ownsRow 0 111 2 (.slice (some ⟨g, 0, none⟩) (d.L.length + 1) cap) (d.L.length + 1) (M.cells d.L ++ [.int .i64 (k : Nat), .string s]) → (w1.alloc (.cells #[.int .i64 (k : Nat), .string s] 111)).grownBy w3 WV.ownBlock → (WV.ownBlock = some g ∨ g = w1.heap.size + 1) →
      w3.cell? ⟨b, 1, none⟩ = some WV ∧ w3.frozen? ⟨b, 1, none⟩ = false ∧
        Hid (DiskAt (w3.setCell ⟨b, 1, none⟩ (.slice (some ⟨g, 0, none⟩) (d.L.length + 1) cap)) b sb mb (.slice (some ⟨g, 0, none⟩) (d.L.length + 1) cap) FV { d with L := d.L ++ [(k, s)] } ∧ (WV.ownBlock = some g ∨ w.heap.size ≤ g) ∧
          Kept (fun j => j = b ∨ j = mb ∨ WV.ownBlock = some j) w (w3.setCell ⟨b, 1, none⟩ (.slice (some ⟨g, 0, none⟩) (d.L.length + 1) cap)))) :=
    fun w1 w3 g cap h1 h2 h3 h4 h5 => h.laid hm2 hk hs hlt h1 ((Kept.refl (fun k => k = mb) w).drew.grown h2 (fun j e _ => by injection e with e; exact e.symm)) h3 h4 h5
  have H1 : Hid (∀ w1, w.drew.grownBy w1 (some mb) → w1.cell? ⟨b, 1, none⟩ = some WV ∧ w1.frozen? ⟨b, 1, none⟩ = false ∧ Hid (w1.ownsRow 0 111 2 WV d.L.length (M.cells d.L))) := by
    intro w1 hg
    have hk1 : Kept (fun k => k = mb) w w1 := (Kept.refl (fun k => k = mb) w).drew.grown hg (fun j e _ => by injection e with e; exact e.symm)
    have hB := hk1.box h.box h.bm
    exact ⟨by simpa using hB.cell 1, hB.frozen 1, hk1.owns h.writes (fun j e => (h.wn j e).2.2)⟩
  have HO := Lib.hid hm1
  obtain ⟨n, hn⟩ : ∃ n, n = d.L.length := ⟨_, rfl⟩
  rw [← hn] at HL H1 HO hA hlt hcp
  obtain ⟨xs, hxs⟩ : ∃ xs, xs = M.cells d.L := ⟨_, rfl⟩
  rw [← hxs] at HL H1
  have hk63 : (k : Int) ≤ 9223372036854775807 := by omega
  have hwf : (Lit.int .i64 (k : Int)).wf = true := WalkArith.wf_i64 (by omega)
  have hwn : (Lit.int .i64 (n : Int)).wf = true := WalkArith.wf_i64 (by omega)
  subst hA
  have HN : Hid (n + 1 ≤ maxLen ∧ (n + 1) * 24 ≤ 140737488355328 ∧ n < maxLen) := by refine ⟨?_, ?_, ?_⟩ <;> (try unfold maxLen) <;> omega
  clear h hm1 hm2 hn hxs hk hs
  go_enter Tryz.func126, Tryz.ntmps126
  go_wp2_with fail
  go_still_tail 10, (by kernel_rfl)
  change wpList _ _ _ _ _ w.drew
  go_wp2_with (first
    | (at_mapUpdate
       refine wpList_mapUpdate_own _ rfl _ _ _ 67 rfl 3 3 keyI Tryz.underlying67 _ mb n m rfl HO.out.drew HN.out.2.2 _ _ _ rfl rfl (keyOf_int_mk Tryz.underlying3 hwf) _ [] (plainElem_int Tryz.underlying3 hwn) ?_
       intro w1 hown1 hgrow1
       obtain ⟨d1, g1, HW1⟩ := H1.out w1 hgrow1
       have HM1 := Lib.hid (And.intro hown1 hgrow1)
       clear hown1 hgrow1 H1 HO c1 c2 f1)
    | (at_builtin
       refine wpList_append_lies _ rfl _ _ 66 rfl 0 111 i0 (.agg #[.int .i64 0, .string ⟨#[]⟩]) 2 24 Tryz.underlying66 hi hz0 hz1 hz2 rfl (by decide) _ _ _ rfl (HW1.out.alloc _) ⟨w1.heap.size, 0, none⟩ 1 1 [.int .i64 (k : Nat), .string s] rfl rfl (cell2_new _ _ _ _) (fun x hx => by simp at hx; rcases hx with rfl | rfl <;> rfl) (by omega) HN.out.1 HN.out.2.1 (Nat.zero_le _) _ rfl ?_
       intro g3 c3 w3 hown3 hgrow3 hat3 _
       obtain ⟨p1, p2, HX⟩ := HL.out w1 w3 g3 c3 HM1.out.1 HM1.out.2 hown3 hgrow3 (hat3.imp id (fun e => by rw [e, World.size_alloc]))
       clear hown3 hgrow3 hat3 HM1 HW1 d1 g1 HL))
  go_end0
  exact ⟨rfl, _, HX.out.1, fun g e => by
    have : g3 = g := by simpa [Value.ownBlock] using e
    rw [← this]
    exact HX.out.2.1, HX.out.2.2⟩
end Go.Proofs.YtmgchfjfkdkaoaaGreatDoor
