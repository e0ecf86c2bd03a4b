/-
  Walks over cyclic.Tail, solderref03.Of, solderref03.Tail and solderlaw03.works.
-/
import Derived.Test.YtoljggleekbbbaaCOf
import Derived.Test.YtoljggleekbbbaaBox
import Derived.Lib.UnsafeStr
import Derived.Laws.IdiomStrings
namespace Go.Proofs.Ytoljggleekbbbaa
open Go.RowKit

/-- Cells that hold bytes, made a string. -/
theorem bytes_back (w : World) (cs : Array Value) (n : Nat) (l : List UInt8) (hn : l.length = n) (h : ∀ i (hi : i < l.length), cs[i]? = some (Value.int .u8 ((l[i]'hi).toNat : Int))) :
    Sem.run Try.prog (convert 37 9 (.slice (some ⟨w.heap.size, 0, none⟩) n n)) (w.alloc (.cells cs 5)) = .ok (.string ⟨l.toArray⟩) (w.alloc (.cells cs 5)) := by
  have hcv := run_convert_bytes_back (P := Try.prog) (w.alloc (.cells cs 5)) 37 9 5 ⟨w.heap.size, 0, none⟩ n l Try.underlying37 Try.underlying5 Try.underlying9 (fun j hj => by
    rw [blk_add, (Box.new w 5 cs).cell j]
    exact h j hj)
  rw [hn] at hcv
  exact hcv
theorem tl_at (q : Nat) (h : q < 4294967296) (cs : Array Value) (hcs : cs = #[.int .u8 ((q : Int) % 256), .int .u8 ((q : Int) / 256 % 256), .int .u8 ((q : Int) / 65536 % 256), .int .u8 ((q : Int) / 16777216)])
    (i : Nat) (hi : i < (M.tl q).length) : cs[i]? = some (Value.int .u8 (((M.tl q)[i]'hi).toNat : Int)) := by
  subst hcs
  have hi' : i < 4 := hi
  have hc : i = 0 ∨ i = 1 ∨ i = 2 ∨ i = 3 := by omega
  rcases hc with rfl | rfl | rfl | rfl <;> simp [M.tl]
  omega

theorem tail_any (s : ByteArray) (w : World) (hs : s.size ≤ 9223372036854775807) :
    Calls Try.prog 16 #[.string s] w fun e w' => e = .returned (.string ⟨(M.tl (M.of s.data.toList)).toArray⟩) ∧ Below w.heap.size w w' := by
  have HC := Lib.hid (of_any s w hs)
  have hl := M.of_lt s.data.toList
  obtain ⟨q, hq⟩ : ∃ q, q = M.of s.data.toList := ⟨_, rfl⟩
  rw [← hq] at HC hl
  rw [← hq]
  clear hq
  have hcv := bytes_back w _ 4 (M.tl q) rfl (tl_at q hl _ rfl)
  have hb := Lib.hid ((Below.refl w.heap.size w).alloc (Nat.le_refl _) (.cells #[.int .u8 ((q : Int) % 256), .int .u8 ((q : Int) / 256 % 256), .int .u8 ((q : Int) / 65536 % 256), .int .u8 ((q : Int) / 16777216)] 5))
  obtain ⟨b, hb'⟩ : ∃ b, b = M.tl q := ⟨_, rfl⟩
  rw [← hb'] at hcv
  rw [← hb']
  clear hb'
  go_enter Try.func16, Try.ntmps16
  go_wp2_with fail
  refine HC.out.mono ?_
  rintro e w1 ⟨rfl, rfl⟩
  go_wp2_with fail
  go_ret
  exact ⟨rfl, hb.out⟩

theorem i64_xor (a b : Nat) (ha : a < 4294967296) (hb : b < 4294967296) : bits .xor .i64 (a : Int) (b : Int) = ((a ^^^ b : Nat) : Int) := by
  have hx : a ^^^ b < 4294967296 := M.xor_lt ha hb
  show IntKind.i64.wrap ((BitVec.ofInt 64 (a : Int) ^^^ BitVec.ofInt 64 (b : Int)).toNat : Int) = _
  rw [BitVec.toNat_xor, ofInt_u64 a (by omega), ofInt_u64 b (by omega)]
  simp only [IntKind.wrap, IntKind.bits, IntKind.signed]
  simp
  omega
theorem i64_xor_c (q : Nat) (c : UInt8) (h : q < 4294967296) : bits .xor .i64 (q : Int) (wrap64 (c.toNat : Int)) = ((q ^^^ c.toNat : Nat) : Int) := by
  have := c.toNat_lt
  have e : wrap64 (c.toNat : Int) = (c.toNat : Int) := by unfold wrap64; omega
  rw [e]
  exact i64_xor q c.toNat h (by omega)
theorem i64_xor_p (q : Nat) (h : q < 4294967296) : bits .xor .i64 ((q : Int) / 2) 3988292384 = (((q / 2) ^^^ 3988292384 : Nat) : Int) := i64_xor (q / 2) 3988292384 (by omega) (by omega)
theorem i64_xor_all (q : Nat) (h : q < 4294967296) : bits .xor .i64 (q : Int) 4294967295 = ((q ^^^ 4294967295 : Nat) : Int) := i64_xor q 4294967295 h (by omega)
set_option maxHeartbeats 400000 in
theorem rof_any (s : ByteArray) (w : World) (hs : s.size ≤ 9223372036854775807) :
    Calls Try.prog 32 #[.string s] w fun e w' => e = .returned (.int .i64 (M.of s.data.toList)) ∧ w = w' := by
  go_enter Try.func32, Try.ntmps32
  go_wp2_with fail
  go_loop [3, 4] (fun v j => ∃ k : Nat, k ≤ s.size ∧ j = .int .i64 k ∧ v = .int .i64 (M.run 4294967295 (s.data.toList.take k))) (fun _ j => s.size - (intOf j).toNat)
  case atStart => exact ⟨0, Nat.zero_le _, rfl, rfl⟩
  case round =>
    obtain ⟨k, hk, rfl, rfl⟩ := hrel
    have hq := M.run_lt (by omega : 4294967295 < 4294967296) (s.data.toList.take k)
    by_cases hlt : k < s.size
    · have HT := Lib.hid (run_take s k hlt 4294967295)
      obtain ⟨c, hc⟩ : ∃ c, c = (s[k]'hlt) := ⟨_, rfl⟩
      have hix : ∀ h : k < s.size, s[k]'h = c := fun _ => hc.symm
      rw [← hc] at HT
      clear hc
      obtain ⟨q, hq'⟩ : ∃ q, q = M.run 4294967295 (s.data.toList.take k) := ⟨_, rfl⟩
      rw [← hq'] at HT hq
      rw [← hq']
      clear hq'
      have hx := M.xor_lt hq (by have := c.toNat_lt; omega : c.toNat < 4294967296)
      have a2 := i64_xor_c q c hq
      rw [M.absorb] at HT
      obtain ⟨m, hm⟩ : ∃ m, m = q ^^^ c.toNat := ⟨_, rfl⟩
      rw [← hm] at HT hx a2
      clear hm
      go_wp2_with fail
      clear a2
      go_loop [3, 5] (fun v j => ∃ i : Nat, i ≤ 8 ∧ j = .int .i64 i ∧ v = .int .i64 (M.steps i m)) (fun _ j => 8 - (intOf j).toNat)
      case atStart => exact ⟨0, Nat.zero_le _, rfl, rfl⟩
      case round =>
        obtain ⟨i, hi, rfl, rfl⟩ := hrel
        have hp := M.steps_lt hx i
        have HS : Hid (M.steps (i + 1) m = M.step (M.steps i m)) := by show _ = _; rfl
        obtain ⟨p, hp'⟩ : ∃ p, p = M.steps i m := ⟨_, rfl⟩
        rw [← hp'] at HS hp
        rw [← hp']
        have HQ := Lib.hid hp'
        clear hp'
        by_cases hl8 : i < 8
        · by_cases ho : p % 2 = 1
          · have a2 := i64_xor_p p hp
            have e : M.step p = (p / 2) ^^^ 3988292384 := by rw [M.step, if_pos ho]
            rw [e] at HS
            clear e
            go_wp2_with fail
            go_round
            case rel => exact ⟨i + 1, by omega, by go_num, by rw [HS.out]⟩
            case measure => simp [intOf]; omega
          · have ho' : p % 2 = 0 := by omega
            have e : M.step p = p / 2 := by rw [M.step, if_neg ho]
            rw [e] at HS
            clear e
            go_wp2_with fail
            go_round
            case rel => exact ⟨i + 1, by omega, by go_num, by rw [HS.out]; go_num⟩
            case measure => simp [intOf]; omega
        · have hge : decide ((i : Int) < 8) = false := by simp; omega
          have e : i = 8 := by omega
          rw [e] at HQ
          have E := Lib.hid e
          clear e
          rw [← HQ.out] at HT
          go_wp2_with fail
          go_round
          case rel => exact ⟨k + 1, by omega, by go_num, by rw [HT.out]⟩
          case measure => simp [intOf]; omega
    · have e : s.data.toList.take k = s.data.toList := List.take_of_length_le (by rw [Array.length_toList]; exact Nat.not_lt.mp hlt)
      rw [e] at hq
      rw [e]
      have a2 := i64_xor_all _ hq
      clear e
      go_wp2_with fail
      go_ret
      exact ⟨rfl, rfl⟩

theorem rtail_any (s : ByteArray) (w : World) (hs : s.size ≤ 9223372036854775807) :
    Calls Try.prog 20 #[.string s] w fun e w' => e = .returned (.string ⟨(M.tl (M.of s.data.toList)).toArray⟩) ∧ Below w.heap.size w w' := by
  have HC := Lib.hid (rof_any s w hs)
  have hl := M.of_lt s.data.toList
  obtain ⟨q, hq⟩ : ∃ q, q = M.of s.data.toList := ⟨_, rfl⟩
  rw [← hq] at HC hl
  rw [← hq]
  clear hq
  have hcv := bytes_back w _ 4 (M.tl q) rfl (tl_at q hl _ rfl)
  have hb := Lib.hid ((Below.refl w.heap.size w).alloc (Nat.le_refl _) (.cells #[.int .u8 ((q : Int) % 256), .int .u8 ((q : Int) / 256 % 256), .int .u8 ((q : Int) / 65536 % 256), .int .u8 ((q : Int) / 16777216)] 5))
  obtain ⟨b, hb'⟩ : ∃ b, b = M.tl q := ⟨_, rfl⟩
  rw [← hb'] at hcv
  rw [← hb']
  clear hb'
  have e3 : (q : Int) / 16777216 % 256 = (q : Int) / 16777216 := by omega
  go_enter Try.func20, Try.ntmps20
  go_wp2_with fail
  refine HC.out.mono ?_
  rintro e w1 ⟨rfl, rfl⟩
  go_wp2_with fail
  go_ret
  exact ⟨rfl, hb.out⟩
end Go.Proofs.Ytoljggleekbbbaa
