/-
  Walks over slices.Repeat of one string, and over disk.New.
-/
import Derived.Test.YtnjhbmpdpejpcaaDBase
import Derived.Test.YtnjhbmpdpejpcaaShelf
import Derived.Maps.AppendAt
import Derived.Laws.CopyOwn
import Derived.StillTailTactics
import Derived.OwnWalk
import Derived.Deep.OwnRows
namespace Go.Proofs.Ytnjhbmpdpejpcaa
open Go.RowKit Go.Maps

/-- A row of c strings of which the first k are s. -/
def M.part (s : ByteArray) (c k : Nat) : List Value := List.replicate k (.string s) ++ List.replicate (c - k) (.string ⟨#[]⟩)
theorem M.part_len (s : ByteArray) (c k : Nat) (h : k ≤ c) : (M.part s c k).length = c := by simp [M.part]; omega
theorem M.part_at (s : ByteArray) (c k j : Nat) (h : j < k) : (M.part s c k)[j]? = some (.string s) := by
  rw [M.part, List.getElem?_append_left (by simpa using h)]
  simp [h]
theorem M.part_splice (s : ByteArray) (c k m : Nat) : splice (M.part s c k) k (List.replicate m (.string s)) = M.part s c (k + m) := by
  unfold splice M.part
  rw [List.take_left' (by simp), List.length_replicate, List.drop_append, List.drop_eq_nil_of_le (by simp), List.nil_append, List.drop_replicate, ← List.append_assoc, List.replicate_append_replicate]
  congr 2
  simp
  omega
theorem M.part_full (s : ByteArray) (c : Nat) : M.part s c c = (List.replicate c s).map Value.string := by simp [M.part]
theorem M.part_made (s : ByteArray) (c : Nat) : (madeCells #[Value.string ⟨#[]⟩] c) = (M.part s c 0).toArray := by
  apply Array.ext
  · simp [madeCells, M.part]
  · intro i h1 h2
    simp [madeCells, Nat.mod_one, M.part]
theorem infoS : (Try.prog.info? 9).map (fun i => (i.zero, i.size, i.bytes)) = some (some (.string ⟨#[]⟩), 1, 16) := by kernel_rfl
theorem sizeS : (Try.prog.info? 9).map (·.size) = some 1 := by kernel_rfl

theorem copy_part (s : ByteArray) (w w1 : World) (B c k m : Nat) (hk : k ≤ c) (hmk : m ≤ k) (hmc : k + m ≤ c) (hB : w1.heap.size ≤ B) (hm : m = Nat.min k (c - k)) (hg : w.heap[B]? = some (.cells (M.part s c k).toArray 9 (0, 0))) (hb : Below w1.heap.size w1 w) :
    ∃ w4, (Builtin.copy_ #[48, 48] 3 #[.slice (some ⟨B, k, none⟩) (c - k) (c - k), .slice (some ⟨B, 0, none⟩) k c]).run Try.prog w = .ok (.int .i64 (m : Nat)) w4 ∧
      w4.heap[B]? = some (.cells (M.part s c (k + m)).toArray 9 (0, 0)) ∧ Below w1.heap.size w1 w4 := by
  have hrun := run_copy_row (P := Try.prog) w 48 48 3 9 B k (c - k) (c - k) ⟨B, 0, none⟩ k c (M.part s c k).toArray 9 (List.replicate m (Value.string s)) Try.underlying48 sizeS hg (by rw [List.length_replicate]; exact hm) (fun j v hj => by
      have hj1 := (List.getElem?_eq_some_iff.1 hj).1
      simp at hj1
      rw [List.getElem?_replicate, if_pos hj1] at hj
      rw [← hj, blk_add, cell_of_row _ _ _ _ _ _ hg]
      simpa using M.part_at s c k j (by omega)) (by rw [List.length_replicate, List.size_toArray, M.part_len _ _ _ hk]; omega) (fun v hv => by rw [List.eq_of_mem_replicate hv]; rfl)
  rw [List.length_replicate] at hrun
  refine ⟨_, hrun, ?_, below_setRow hb hB _⟩
  rw [setRow_heap w B _ _ _ _ hg, ← M.part_splice]
  simp [splice]

theorem mul1 (c : Nat) (hc : c ≤ 1000) (w : World) : Calls Try.prog 49 #[.int .u64 1, .int .u64 c] w fun e w' => e = .returned (.tuple #[.int .u64 0, .int .u64 c]) ∧ w' = w := by
  have h := Try.bits_Mul 1 c (by omega) (by omega) w
  have e1 : 1 * c / 18446744073709551616 = 0 := by omega
  have e2 : 1 * c % 18446744073709551616 = c := by omega
  rw [e1, e2] at h
  exact h

set_option maxRecDepth 100000 in
set_option maxHeartbeats 1000000 in
theorem repeat_any (s : ByteArray) (g c : Nat) (hc : c ≤ 1000) (w : World) (hg : w.cell? ⟨g, 0, none⟩ = some (.string s)) :
    Calls Try.prog 33 #[.slice (some ⟨g, 0, none⟩) 1 1, .int .i64 c] w fun e w' => e = .returned (.slice (some ⟨w.heap.size, 0, none⟩) c c) ∧
      Box w' w.heap.size 9 ((List.replicate c s).map Value.string).toArray ∧ Below w.heap.size w w' := by
  have HM := Lib.hid (mul1 c hc w)
  have hmk : ∀ W : World, (Instr.makeSlice 48 (.int .i64 (c : Int)) (.int .i64 (c : Int))).run Try.prog W = .ok (.slice (some ⟨W.heap.size, 0, none⟩) c c) (W.alloc (.cells (madeCells #[Value.string ⟨#[]⟩] c) 9)) :=
    fun W => run_make_row' 48 9 (.string ⟨#[]⟩) 16 Try.underlying48 infoS rfl .i64 .i64 c (by omega) (by omega) W
  have hc' : (c : Int) ≤ 1000 := by omega
  have hglt : g < w.heap.size := World.block_lt_of_cell? w _ hg
  obtain ⟨k1, hk1⟩ : ∃ k, k = Nat.min 1 c := ⟨_, rfl⟩
  have hk1c : k1 ≤ c := by rw [hk1]; exact Nat.min_le_right _ _
  have hk1p : 0 < c → 0 < k1 := fun h => by rw [hk1]; show 0 < min 1 c; omega
  have hk11 : k1 ≤ 1 := by rw [hk1]; exact Nat.min_le_left _ _
  have HG : Hid ((w.alloc (.cells (madeCells #[Value.string ⟨#[]⟩] c) 9)).heap[w.heap.size]? = some (.cells (M.part s c 0).toArray 9 (0, 0))) := by
    rw [← M.part_made s c]
    exact heap_alloc_new w _
  have HB : Hid (Below w.heap.size w (w.alloc (.cells (madeCells #[Value.string ⟨#[]⟩] c) 9))) := (Below.refl _ w).alloc (Nat.le_refl _) _
  have HC : Hid (∀ j v, (List.replicate k1 (Value.string s))[j]? = some v → (w.alloc (.cells (madeCells #[Value.string ⟨#[]⟩] c) 9)).cell? ((⟨g, 0, none⟩ : Addr).add j) = some v) := by
    intro j v hj
    have hj1 := (List.getElem?_eq_some_iff.1 hj).1
    simp at hj1
    have : j = 0 := by omega
    subst this
    rw [List.getElem?_replicate, if_pos hj1] at hj
    injection hj with hj
    rw [← hj, blk_add]
    exact (World.cell?_of_block (Below.heap_alloc _ _ _ hglt)).trans hg
  have HE0 : Hid (splice (M.part s c 0) 0 (List.replicate k1 (.string s)) = M.part s c k1) := by
    have := M.part_splice s c 0 k1
    rwa [Nat.zero_add] at this
  have HK1 := Lib.hid hk1
  clear hk1 hg
  go_enter Try.func33, Try.ntmps33
  go_wp2_with fail
  refine HM.out.mono ?_
  rintro e w1 ⟨rfl, rfl⟩
  go_wp2_with (refine wpList_copy_splice rfl _ _ 48 48 rfl 9 Try.underlying48 sizeS _ _ _ _ _ _ rfl rfl w1.heap.size 0 (M.part s c 0) 9 HG.out (List.replicate k1 (.string s)) (by rw [List.length_replicate]; exact HK1.out) (fun _ => ⟨rfl, _, rfl, HC.out⟩) (by rw [List.length_replicate, M.part_len _ _ _ (Nat.zero_le _)]; omega) (fun v hv => by rw [List.eq_of_mem_replicate hv]; rfl) w1.heap.size w1 HB.out (Nat.le_refl _) ?_
               intro w2 HG2 hB2
               rw [HE0.out] at HG2
               have HB2 := Lib.hid hB2
               clear hB2 HG HB HC HE0)
  go_loopw [8] (fun i wr => ∃ k : Nat, k ≤ c ∧ (0 < c → 0 < k) ∧ i = .int .i64 k ∧ wr.heap[w1.heap.size]? = some (.cells (M.part s c k).toArray 9 (0, 0)) ∧ Below w1.heap.size w1 wr) (fun i _ => c - (intOf i).toNat)
  case atStart => exact ⟨k1, hk1c, hk1p, by simp, HG2.out, HB2.out⟩
  case round =>
    obtain ⟨k, hk, hkp, rfl, hGk, hBk⟩ := hrel
    have HGk := Lib.hid hGk
    have HBk := Lib.hid hBk
    clear hGk hBk
    by_cases hlt : k < c
    · have hlt' : (k : Int) < (c : Int) := by omega
      have hk0 : (0 : Int) ≤ (k : Int) := by omega
      have hk0' : 0 < k := hkp (by omega)
      obtain ⟨m, hm⟩ : ∃ m, m = Nat.min k (c - k) := ⟨_, rfl⟩
      have hm0 : 0 < m := by rw [hm]; show 0 < min k (c - k); omega
      have hmc : k + m ≤ c := by
        have : m ≤ c - k := by rw [hm]; exact Nat.min_le_right _ _
        omega
      have hmk' : m ≤ k := by rw [hm]; exact Nat.min_le_left _ _
      have HMM := Lib.hid hm
      obtain ⟨q, hq⟩ : ∃ q, q = k + m := ⟨_, rfl⟩
      have hqi : IntKind.i64.wrap ((k : Int) + (m : Int)) = (q : Int) := by rw [IntKind.wrap_i64]; omega
      have HQ := Lib.hid hq
      clear hm hq hkp HM
      have hck : ¬ c = k := by omega
      obtain ⟨w4, hrun, hg4, hb4⟩ := copy_part s wr.drew w1 w1.heap.size c k m hk hmk' hmc (Nat.le_refl _) HMM.out HGk.out HBk.out.drew
      have HG4 := Lib.hid hg4
      have HB4 := Lib.hid hb4
      clear hg4 hb4
      clear HGk HBk
      go_wp2_with fail
      go_region
      go_wp2_with fail
      go_roundw
      case rel => exact ⟨q, by have := HQ.out; omega, fun _ => by have := HQ.out; omega, by go_num, by rw [HQ.out]; exact HG4.out, HB4.out⟩
      case measure => have := HQ.out; simp [intOf]; omega
    · have e : k = c := by omega
      subst e
      have HX : Hid (Box wr w1.heap.size 9 ((List.replicate k s).map Value.string).toArray) := by rw [← M.part_full]; exact HGk.out
      go_wp2_with fail
      go_ret
      exact ⟨rfl, HX.out, HBk.out⟩

/-- How many sectors a disk has. -/
def M.held (n : Int) : Nat := if n < 0 then 0 else if 1000 < n then 1000 else n.toNat
theorem M.held_le (n : Int) : M.held n ≤ 1000 := by unfold M.held; split; omega; split <;> omega
/-- A new disk. -/
def M.new (c : Nat) : M.D := ⟨List.replicate c M.zero, [], 0, [], 0, false⟩
theorem M.new_inv (c : Nat) (hc : c ≤ 1000) : M.Inv (M.new c) :=
  ⟨by simp [M.new, hc], fun s hs => by rw [List.eq_of_mem_replicate hs]; rfl, fun p hp => (by cases hp), fun p hp => (by cases hp), Nat.zero_le _⟩
theorem zeros_is : (⟨(Lib.repeatL (⟨#[0]⟩ : ByteArray).data.toList 64).toArray⟩ : ByteArray) = M.zero := by decide
theorem zeros_any (w : World) : Calls Try.prog 32 #[.string ⟨#[0]⟩, .int .i64 64] w fun e w' => e = .returned (.string M.zero) ∧ Below w.heap.size w w' := by
  have h := Try.strings_Repeat_main ⟨#[0]⟩ 64 w (by omega) (by omega) (by decide) (by decide)
  rw [zeros_is] at h
  exact h

theorem Disk.new_of {w w2 : World} {c : Nat} (hc : c ≤ 1000) {sb : Nat} (hs : w.heap.size ≤ sb) (hB : Box w2 sb 9 ((List.replicate c M.zero).map Value.string).toArray) (hb : Below w.heap.size w w2) :
    Disk ((w2.alloc (.map #[] 0)).alloc (.cells #[.slice (some ⟨sb, 0, none⟩) c c, .slice none 0 0, .map (some w2.heap.size), .int .i64 0, .slice none 0 0, .int .i64 0, .bool false] 67)) (w2.heap.size + 1) (fun k => w.heap.size ≤ k) (M.new c) ∧
      Below w.heap.size w ((w2.alloc (.map #[] 0)).alloc (.cells #[.slice (some ⟨sb, 0, none⟩) c c, .slice none 0 0, .map (some w2.heap.size), .int .i64 0, .slice none 0 0, .int .i64 0, .bool false] 67)) := by
  have hz := hb.size
  have hsl := hB.lt
  have hm : (w2.alloc (.map #[] 0)).ownsMap Try.prog 3 (plainElem (H := Unit) Try.prog 3) w2.heap.size 0 (.map []) := World.ownsMap_made w2 _ _ _
  have hbx : Box ((w2.alloc (.map #[] 0)).alloc (.cells #[.slice (some ⟨sb, 0, none⟩) c c, .slice none 0 0, .map (some w2.heap.size), .int .i64 0, .slice none 0 0, .int .i64 0, .bool false] 67)) (w2.heap.size + 1) 67 #[.slice (some ⟨sb, 0, none⟩) c c, .slice none 0 0, .map (some w2.heap.size), .int .i64 0, .slice none 0 0, .int .i64 0, .bool false] := by
    have := heap_alloc_new (w2.alloc (.map #[] 0)) (.cells #[.slice (some ⟨sb, 0, none⟩) c c, .slice none 0 0, .map (some w2.heap.size), .int .i64 0, .slice none 0 0, .int .i64 0, .bool false] 67)
    rwa [World.size_alloc] at this
  refine ⟨⟨sb, w2.heap.size, .slice none 0 0, .slice none 0 0, ⟨?_, ?_, ⟨_, hm.alloc _, M.MapIs.nil⟩, World.ownsRow_nil _ _ _ _, World.ownsRow_nil _ _ _ _, M.new_inv c hc, by omega, by omega, by omega, fun k h => (by cases h), fun k h => (by cases h)⟩, ?_, ?_, ?_, fun k h => (by cases h), fun k h => (by cases h)⟩, ?_⟩
  · simpa [M.new] using hbx
  · exact (Below.heap_alloc _ _ _ (by rw [World.size_alloc]; omega)).trans ((Below.heap_alloc _ _ _ hsl).trans hB)
  · show w.heap.size ≤ w2.heap.size + 1
    omega
  · exact hs
  · exact hz
  · exact (hb.alloc hz _).alloc (by rw [World.size_alloc]; omega) _

set_option maxRecDepth 100000 in
theorem new_any (n : Int) (w : World) : Calls Try.prog 8 #[.int .i64 n] w fun e w' => ∃ b, e = .returned (.pointer (some ⟨b, 0, none⟩)) ∧ Disk w' b (fun k => w.heap.size ≤ k) (M.new (M.held n)) ∧ Below w.heap.size w w' := by
  have HZ := Lib.hid (zeros_any w)
  have hmm := @run_makeMap Try.prog
  have hmx : min (max n 0) 1000 = ((M.held n : Nat) : Int) := by
    unfold M.held
    split
    · omega
    · split <;> omega
  have hcl := M.held_le n
  obtain ⟨c, hc⟩ : ∃ c, c = M.held n := ⟨_, rfl⟩
  rw [← hc] at hmx hcl
  rw [← hc]
  have HMX := Lib.hid hmx
  clear hc hmx
  go_enter Try.func8, Try.ntmps8
  go_wp2_with fail
  refine HZ.out.mono ?_
  rintro e w1 ⟨rfl, hb1⟩
  have HB1 := Lib.hid hb1
  clear hb1 HZ
  go_wp2_with fail
  rw [HMX.out]
  refine (repeat_any M.zero w1.heap.size c hcl _ (cell_one_new w1 (.string M.zero) 9 0 _ rfl)).mono ?_
  rintro e w2 ⟨rfl, hB2, hb2⟩
  rw [World.size_alloc] at hB2
  have HX := Lib.hid (Disk.new_of (w := w) hcl (by have := HB1.out.size; omega) hB2 ((HB1.out.alloc HB1.out.size _).trans (hb2.mono (by rw [World.size_alloc]; have := HB1.out.size; omega))))
  clear hB2 hb2 HB1
  go_wp2_with fail
  go_ret
  exact ⟨_, rfl, HX.out.1, HX.out.2⟩
end Go.Proofs.Ytnjhbmpdpejpcaa
