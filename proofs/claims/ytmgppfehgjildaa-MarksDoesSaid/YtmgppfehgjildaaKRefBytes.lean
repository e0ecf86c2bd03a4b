/-
  Walk over solderref07.Bytes.
-/
import Derived.Test.YtmgppfehgjildaaKRef
import Derived.Laws.IdiomStrings
namespace Go.Proofs.Ytmgppfehgjildaa
open Go.RowKit

theorem infoU : (Try.prog.info? 5).map (fun i => (i.zero, i.size, i.bytes)) = some (some (.int .u8 0), 1, 1) := by kernel_rfl
/-- The numbers below k of a set. -/
def M.upf (f : Nat → Bool) (k : Nat) : Nat → Bool := fun i => decide (i < k) && f i
theorem M.upf_in (f : Nat → Bool) (k : Nat) (h : f k = true) : M.upf f (k + 1) = M.put (M.upf f k) k true := by
  funext i
  unfold M.upf M.put
  by_cases e : i = k
  · subst e; simp [h]
  · rw [if_neg e]
    have : decide (i < k + 1) = decide (i < k) := by simp; omega
    rw [this]
theorem M.upf_out (f : Nat → Bool) (k : Nat) (h : f k = false) : M.upf f (k + 1) = M.upf f k := by
  funext i
  unfold M.upf
  by_cases e : i = k
  · subst e; simp [h]
  · have : decide (i < k + 1) = decide (i < k) := by simp; omega
    rw [this]
theorem M.upf_all {m : Nat} {f : Nat → Bool} (h : M.Below m f) : M.upf f m = f := by
  funext i
  unfold M.upf
  by_cases e : i < m
  · simp [e]
  · rw [h i (by omega)]; simp
theorem M.upf_zero (f : Nat → Bool) : M.upf f 0 = fun _ => false := by funext i; simp [M.upf]
/-- The cells of a row of bytes. -/
def M.row (q : Nat) (f : Nat → Bool) : Array Value := ((List.range q).map (fun j => Value.int .u8 (M.byte f j : Nat))).toArray
theorem M.row_at (q : Nat) (f : Nat → Bool) (j : Nat) (h : j < q) : (M.row q f)[j]? = some (.int .u8 (M.byte f j : Nat)) := by simp [M.row, h]
theorem M.row_size (q : Nat) (f : Nat → Bool) : (M.row q f).size = q := by simp [M.row]
theorem M.row_put (q : Nat) (f : Nat → Bool) (i : Nat) (v : Bool) (h : i / 8 < q) : (M.row q f).setIfInBounds (i / 8) (.int .u8 (M.byte (M.put f i v) (i / 8) : Nat)) = M.row q (M.put f i v) := by
  apply Array.ext_getElem?
  intro k
  rw [Array.getElem?_setIfInBounds]
  by_cases e : i / 8 = k
  · subst e
    rw [if_pos rfl, if_pos (by rw [M.row_size]; exact h), M.row_at _ _ _ h]
  · rw [if_neg e]
    by_cases hk : k < q
    · rw [M.row_at _ _ _ hk, M.row_at _ _ _ hk, M.byte_other f i v k (by omega)]
    · rw [Array.getElem?_eq_none (by rw [M.row_size]; omega), Array.getElem?_eq_none (by rw [M.row_size]; omega)]
theorem madeU (q : Nat) : madeCells #[Value.int .u8 0] q = M.row q (fun _ => false) := by
  apply Array.ext
  · simp [madeCells, M.row]
  · intro i h1 h2
    have : M.byte (fun _ => false) i = 0 := by unfold M.byte; rfl
    simp [madeCells, M.row, Nat.mod_one, this]

section
variable {b g c m : Nat} {f : Nat → Bool}
set_option maxHeartbeats 2000000 in
theorem refBytes_any (w : World) (h : RSet w b g c m f) :
    Calls Try.prog 25 #[.pointer (some ⟨b, 0, none⟩)] w fun e w' => e = .returned (.string ⟨(M.bytes m f).toArray⟩) ∧ Below w.heap.size w w' := by
  have hm := h.le
  have h0 := h.c0
  have hqd : M.wide m ≤ 125 ∧ m ≤ 8 * M.wide m := by unfold M.wide; omega
  have hwd : ((m : Int) + 7) / 8 = (M.wide m : Nat) := by unfold M.wide; omega
  have hmk : ∀ W : World, (Instr.makeSlice 58 (.int .i64 (M.wide m : Nat)) (.int .i64 (M.wide m : Nat))).run Try.prog W = .ok (.slice (some ⟨W.heap.size, 0, none⟩) (M.wide m) (M.wide m)) (W.alloc (.cells (madeCells #[.int .u8 0] (M.wide m)) 5)) :=
    fun W => run_make_row' 58 5 (.int .u8 0) 1 Try.underlying58 infoU rfl .i64 .i64 (M.wide m) (by omega) (by omega) W
  rw [madeU] at hmk
  have HF : Hid (∀ x B, Box x B 5 (M.row (M.wide m) f) → Sem.run Try.prog (convert 58 9 (.slice (some ⟨B, 0, none⟩) (M.wide m) (M.wide m))) x = .ok (.string ⟨(M.bytes m f).toArray⟩) x) := fun x B hB => by
    have := run_convert_bytes_back (P := Try.prog) x 58 9 5 ⟨B, 0, none⟩ (M.wide m) (M.bytes m f) Try.underlying58 Try.underlying5 Try.underlying9 (fun j hj => by
      rw [blk_add, M.bytes_at m f j hj]
      rw [M.bytes_len] at hj
      exact (hB.cell j).trans (M.row_at _ _ _ hj))
    rw [M.bytes_len] at this
    exact this
  have HR := Lib.hid (fun (x : World) (hx : Below w.heap.size w x) => h.below hx)
  have HLow := Lib.hid h.low
  clear h
  obtain ⟨q, hq⟩ : ∃ q, q = M.wide m := ⟨_, rfl⟩
  rw [← hq] at hqd hwd hmk HF
  obtain ⟨s, hs⟩ : ∃ s : ByteArray, s = ⟨(M.bytes m f).toArray⟩ := ⟨_, rfl⟩
  rw [← hs] at HF
  rw [← hs]
  clear hq hs
  have HB0 : Hid (Below w.heap.size w (w.alloc (.cells (M.row q (fun _ => false)) 5))) := (Below.refl _ w).alloc (Nat.le_refl _) _
  have HX0 : Hid (Box (w.alloc (.cells (M.row q (fun _ => false)) 5)) w.heap.size 5 (M.row q (fun _ => false))) := Box.new _ _ _
  go_enter Try.func25, Try.ntmps25
  go_wp2_with fail
  obtain ⟨w0, hw0⟩ : ∃ x, x = w.alloc (.cells (M.row q (fun _ => false)) 5) := ⟨_, rfl⟩
  rw [← hw0] at HB0 HX0
  rw [← hw0]
  clear hw0 hmk h0
  obtain ⟨B, hB⟩ : ∃ B, B = w.heap.size := ⟨_, rfl⟩
  rw [← hB] at HX0
  rw [← hB]
  have hBw : w.heap.size ≤ B := by omega
  have HBw := Lib.hid hB
  clear hB
  go_loopw [4] (fun i wr => ∃ k : Nat, k ≤ m ∧ i = .int .i64 k ∧ Box wr B 5 (M.row q (M.upf f k)) ∧ Below w.heap.size w wr) (fun i _ => m - (intOf i).toNat)
  case atStart => exact ⟨0, Nat.zero_le _, rfl, by rw [M.upf_zero]; exact HX0.out, HB0.out⟩
  case round =>
    obtain ⟨k, hk, rfl, hX, hB⟩ := hrel
    have HX := Lib.hid hX
    have HB := Lib.hid hB
    have h0 := (HR.out wr hB).c0
    by_cases hlt : k < m
    · have hlt' : (k : Int) < (m : Int) := by omega
      have hk0 : (0 : Int) ≤ (k : Int) := by omega
      have hc := (HR.out wr hB).c1 k hlt
      clear hX hB
      by_cases hf : f k = true
      · rw [hf] at hc
        have HE : Hid (M.upf f (k + 1) = M.put (M.upf f k) k true) := M.upf_in f k hf
        have hor : bits .or .u8 (M.byte (M.upf f k) (k / 8) : Nat) ((2 ^ (k % 8) : Nat) : Int) = (M.byte (M.put (M.upf f k) k true) (k / 8) : Nat) := by
          rw [← M.byte_in]
          exact u8_or_nat _ _ (M.byte_lt _ _) (Nat.pow_lt_pow_right (by omega) (by omega : k % 8 < 8))
        have hp8 : ∀ j, j < 8 → (2 : Int) ^ j % 256 = ((2 ^ j : Nat) : Int) := by decide
        have hpw := hp8 (k % 8) (by omega)
        clear hp8
        have hkq : k / 8 < q := by omega
        have hcb : wr.cell? ⟨B, k / 8, none⟩ = some (.int .u8 (M.byte (M.upf f k) (k / 8) : Nat)) := (HX.out.cell _).trans (M.row_at _ _ _ hkq)
        have hfz := HX.out.frozen (k / 8)
        have HX2 : Hid (Box (wr.setCell ⟨B, k / 8, none⟩ (.int .u8 (M.byte (M.put (M.upf f k) k true) (k / 8) : Nat))).drew B 5 (M.row q (M.upf f (k + 1))) ∧ Below w.heap.size w (wr.setCell ⟨B, k / 8, none⟩ (.int .u8 (M.byte (M.put (M.upf f k) k true) (k / 8) : Nat))).drew) := by
          rw [HE.out]
          have := HX.out.set (k / 8) (.int .u8 (M.byte (M.put (M.upf f k) k true) (k / 8) : Nat))
          rw [M.row_put q _ k true hkq] at this
          exact ⟨this, (HB.out.setCell (p := ⟨B, k / 8, none⟩) hBw _).drew⟩
        obtain ⟨x, hx⟩ : ∃ x : Nat, x = M.byte (M.put (M.upf f k) k true) (k / 8) := ⟨_, rfl⟩
        rw [← hx] at hor HX2
        obtain ⟨y, hy⟩ : ∃ y, y = 2 ^ (k % 8) := ⟨_, rfl⟩
        rw [← hy] at hor hpw
        obtain ⟨z, hz⟩ : ∃ z, z = M.byte (M.upf f k) (k / 8) := ⟨_, rfl⟩
        rw [← hz] at hor hcb
        obtain ⟨t, ht⟩ : ∃ t, t = k / 8 := ⟨_, rfl⟩
        have hq : (k : Int) / 8 = (t : Int) := by omega
        rw [← ht] at hcb hfz HX2 hkq
        have hq0 : (0 : Int) ≤ (t : Int) := by omega
        have hq1 : (t : Int) < (q : Int) := by omega
        clear hf hx hy hz ht HE
        go_wp2_with fail
        go_region
        obtain ⟨W, hW⟩ : ∃ W, W = (wr.setCell ⟨B, t, none⟩ (.int .u8 (x : Nat))).drew := ⟨_, rfl⟩
        rw [← hW] at HX2
        rw [← hW]
        clear hW hcb hfz hc h0
        go_wp2_with fail
        go_roundw
        case rel => exact ⟨k + 1, by omega, by go_num, HX2.out.1, HX2.out.2⟩
        case measure => simp [intOf]; omega
      · have hf' : f k = false := by simpa using hf
        rw [hf'] at hc
        have HE : Hid (M.upf f (k + 1) = M.upf f k) := M.upf_out f k hf'
        clear hf hf'
        go_wp2_with fail
        go_roundw
        case rel => exact ⟨k + 1, by omega, by go_num, by rw [HE.out]; exact HX.out, HB.out⟩
        case measure => simp [intOf]; omega
    · have e : k = m := by omega
      subst e
      rw [M.upf_all HLow.out] at hX
      have hcv := HF.out wr B hX
      clear hX hB
      go_wp2_with fail
      go_ret
      exact ⟨rfl, HB.out⟩
end
end Go.Proofs.Ytmgppfehgjildaa
