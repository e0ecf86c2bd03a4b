/-
  A walk over wal.Format, on any disk. (Written by wip/gen_bsteps.py.)
-/
import Derived.Test.YtmgchfjfkdkaoaaGreatDoorPD
namespace Go.Proofs.YtmgchfjfkdkaoaaGreatDoor
open Go.RowKit

/-- The steps of Format. -/
def M.fmF (fr mn : Nat) : List (M.D → Int × M.D) := [fun d => M.headW d fr mn 281474976710655 0 0, M.fl14, fun d => M.gwrite d fr mn 0 (M.zeros 64), fun d => M.gwrite d (fr + 2) (mn - 2) 0 (M.zeros (64 * (mn - 2))), M.fl14, fun d => M.headW d fr mn 1 1 0, M.fl14]
set_option maxRecDepth 100000 in
set_option maxHeartbeats 4000000 in
theorem format_order (fr mn : Nat) (w x : World) {a lb ra rr : Nat} {P : Nat → Prop} {d : M.D} (h : Disk w a P d) (hbx : Below w.heap.size w x) (hL : LogB x lb a fr ra rr) (hlb : w.heap.size ≤ lb) (hr1 : Reg x ra a fr mn) (hra : w.heap.size ≤ ra) (hr2 : Reg x rr a (fr + 2) (mn - 2)) (hrr : w.heap.size ≤ rr) (hm2 : 2 ≤ mn) (hf : fr ≤ 980) (hmn : mn ≤ 900) (ho : d.ops ≤ 10000000)
    {R : Int × M.D} (hR : M.steps14 (M.fmF fr mn) d = R) (hET : R.1 ≠ 0 → ErrT w ∧ ¬ P 1) :
    Calls Tryz.prog 49 #[.slice (some ⟨x.heap.size, 0, none⟩) 7 7] (x.alloc (.cells #[.string (⟨#[108, 101, 116, 32, 116, 104, 101, 114, 101, 32, 98, 101, 32, 110, 111, 32, 108, 111, 103]⟩ : ByteArray), .func (.func 50) #[] #[.pointer (some ⟨lb, 0, none⟩)], .string (⟨#[109, 97, 107, 101, 32, 115, 117, 114, 101, 32, 111, 102, 32, 116, 104, 97, 116]⟩ : ByteArray), .func (.func 28) #[.pointer (some ⟨a, 0, none⟩)] #[], .string (⟨#[99, 108, 101, 97, 114, 32, 116, 104, 101, 32, 111, 116, 104, 101, 114, 32, 104, 101, 97, 100]⟩ : ByteArray), .func (.func 52) #[] #[.pointer (some ⟨lb, 0, none⟩)], .string (⟨#[99, 108, 101, 97, 114, 32, 116, 104, 101, 32, 114, 101, 99, 111, 114, 100, 115]⟩ : ByteArray), .func (.func 55) #[] #[.pointer (some ⟨lb, 0, none⟩)], .string (⟨#[109, 97, 107, 101, 32, 115, 117, 114, 101, 32, 111, 102, 32, 116, 104, 97, 116]⟩ : ByteArray), .func (.func 28) #[.pointer (some ⟨a, 0, none⟩)] #[], .string (⟨#[119, 114, 105, 116, 101, 32, 116, 104, 101, 32, 104, 101, 97, 100]⟩ : ByteArray), .func (.func 57) #[] #[.pointer (some ⟨lb, 0, none⟩)], .string (⟨#[109, 97, 107, 101, 32, 115, 117, 114, 101, 32, 111, 102, 32, 116, 104, 101, 32, 104, 101, 97, 100]⟩ : ByteArray), .func (.func 28) #[.pointer (some ⟨a, 0, none⟩)] #[]] 82)) fun e w' => ∃ v, e = .returned v ∧ Hid (Calls Tryz.prog 48 #[v] w' fun e w3 => e = .returned (.int .i64 R.1) ∧ Hid (Disk w3 a (M.plus P w.heap.size) R.2 ∧ Kept P w w3)) := by
  obtain ⟨W, hW⟩ : ∃ X, X = x.alloc (.cells #[.string (⟨#[108, 101, 116, 32, 116, 104, 101, 114, 101, 32, 98, 101, 32, 110, 111, 32, 108, 111, 103]⟩ : ByteArray), .func (.func 50) #[] #[.pointer (some ⟨lb, 0, none⟩)], .string (⟨#[109, 97, 107, 101, 32, 115, 117, 114, 101, 32, 111, 102, 32, 116, 104, 97, 116]⟩ : ByteArray), .func (.func 28) #[.pointer (some ⟨a, 0, none⟩)] #[], .string (⟨#[99, 108, 101, 97, 114, 32, 116, 104, 101, 32, 111, 116, 104, 101, 114, 32, 104, 101, 97, 100]⟩ : ByteArray), .func (.func 52) #[] #[.pointer (some ⟨lb, 0, none⟩)], .string (⟨#[99, 108, 101, 97, 114, 32, 116, 104, 101, 32, 114, 101, 99, 111, 114, 100, 115]⟩ : ByteArray), .func (.func 55) #[] #[.pointer (some ⟨lb, 0, none⟩)], .string (⟨#[109, 97, 107, 101, 32, 115, 117, 114, 101, 32, 111, 102, 32, 116, 104, 97, 116]⟩ : ByteArray), .func (.func 28) #[.pointer (some ⟨a, 0, none⟩)] #[], .string (⟨#[119, 114, 105, 116, 101, 32, 116, 104, 101, 32, 104, 101, 97, 100]⟩ : ByteArray), .func (.func 57) #[] #[.pointer (some ⟨lb, 0, none⟩)], .string (⟨#[109, 97, 107, 101, 32, 115, 117, 114, 101, 32, 111, 102, 32, 116, 104, 101, 32, 104, 101, 97, 100]⟩ : ByteArray), .func (.func 28) #[.pointer (some ⟨a, 0, none⟩)] #[]] 82) := ⟨_, rfl⟩
  have hbw : Below x.heap.size x W := by rw [hW]; exact below1 _ _
  have hB : Box W x.heap.size 82 #[.string (⟨#[108, 101, 116, 32, 116, 104, 101, 114, 101, 32, 98, 101, 32, 110, 111, 32, 108, 111, 103]⟩ : ByteArray), .func (.func 50) #[] #[.pointer (some ⟨lb, 0, none⟩)], .string (⟨#[109, 97, 107, 101, 32, 115, 117, 114, 101, 32, 111, 102, 32, 116, 104, 97, 116]⟩ : ByteArray), .func (.func 28) #[.pointer (some ⟨a, 0, none⟩)] #[], .string (⟨#[99, 108, 101, 97, 114, 32, 116, 104, 101, 32, 111, 116, 104, 101, 114, 32, 104, 101, 97, 100]⟩ : ByteArray), .func (.func 52) #[] #[.pointer (some ⟨lb, 0, none⟩)], .string (⟨#[99, 108, 101, 97, 114, 32, 116, 104, 101, 32, 114, 101, 99, 111, 114, 100, 115]⟩ : ByteArray), .func (.func 55) #[] #[.pointer (some ⟨lb, 0, none⟩)], .string (⟨#[109, 97, 107, 101, 32, 115, 117, 114, 101, 32, 111, 102, 32, 116, 104, 97, 116]⟩ : ByteArray), .func (.func 28) #[.pointer (some ⟨a, 0, none⟩)] #[], .string (⟨#[119, 114, 105, 116, 101, 32, 116, 104, 101, 32, 104, 101, 97, 100]⟩ : ByteArray), .func (.func 57) #[] #[.pointer (some ⟨lb, 0, none⟩)], .string (⟨#[109, 97, 107, 101, 32, 115, 117, 114, 101, 32, 111, 102, 32, 116, 104, 101, 32, 104, 101, 97, 100]⟩ : ByteArray), .func (.func 28) #[.pointer (some ⟨a, 0, none⟩)] #[]] := by rw [hW]; exact Box.new _ _ _
  have hb : Below w.heap.size w W := hbx.trans (hbw.mono hbx.size)
  have hs := hbx.size
  have fl : FF P w W lb := FF.new hlb (Nat.lt_of_lt_of_le hL.lt hbw.size)
  have fr1 : FF P w W ra := FF.new hra (Nat.lt_of_lt_of_le hr1.lt hbw.size)
  have fr2 : FF P w W rr := FF.new hrr (Nat.lt_of_lt_of_le hr2.lt hbw.size)
  have m0 := hL.below hbw hL.lt
  have mr : Reg W ra a fr mn := hr1.beside hbw
  have ms : Reg W rr a (fr + 2) (mn - 2) := hr2.beside hbw
  rw [← hW]
  exact order_cause [⟨(⟨#[108, 101, 116, 32, 116, 104, 101, 114, 101, 32, 98, 101, 32, 110, 111, 32, 108, 111, 103]⟩ : ByteArray), 50, #[], #[.pointer (some ⟨lb, 0, none⟩)], fun d => M.headW d fr mn 281474976710655 0 0⟩, ⟨(⟨#[109, 97, 107, 101, 32, 115, 117, 114, 101, 32, 111, 102, 32, 116, 104, 97, 116]⟩ : ByteArray), 28, #[.pointer (some ⟨a, 0, none⟩)], #[], M.fl14⟩, ⟨(⟨#[99, 108, 101, 97, 114, 32, 116, 104, 101, 32, 111, 116, 104, 101, 114, 32, 104, 101, 97, 100]⟩ : ByteArray), 52, #[], #[.pointer (some ⟨lb, 0, none⟩)], fun d => M.gwrite d fr mn 0 (M.zeros 64)⟩, ⟨(⟨#[99, 108, 101, 97, 114, 32, 116, 104, 101, 32, 114, 101, 99, 111, 114, 100, 115]⟩ : ByteArray), 55, #[], #[.pointer (some ⟨lb, 0, none⟩)], fun d => M.gwrite d (fr + 2) (mn - 2) 0 (M.zeros (64 * (mn - 2)))⟩, ⟨(⟨#[109, 97, 107, 101, 32, 115, 117, 114, 101, 32, 111, 102, 32, 116, 104, 97, 116]⟩ : ByteArray), 28, #[.pointer (some ⟨a, 0, none⟩)], #[], M.fl14⟩, ⟨(⟨#[119, 114, 105, 116, 101, 32, 116, 104, 101, 32, 104, 101, 97, 100]⟩ : ByteArray), 57, #[], #[.pointer (some ⟨lb, 0, none⟩)], fun d => M.headW d fr mn 1 1 0⟩, ⟨(⟨#[109, 97, 107, 101, 32, 115, 117, 114, 101, 32, 111, 102, 32, 116, 104, 101, 32, 104, 101, 97, 100]⟩ : ByteArray), 28, #[.pointer (some ⟨a, 0, none⟩)], #[], M.fl14⟩] (by simp) x.heap.size 7 h hb
    (by
      intro k s hs
      have hk : k = 0 ∨ k = 1 ∨ k = 2 ∨ k = 3 ∨ k = 4 ∨ k = 5 ∨ k = 6 := by have := (List.getElem?_eq_some_iff.1 hs).1; simp only [List.length_cons, List.length_nil] at this; omega
      rcases hk with rfl | rfl | rfl | rfl | rfl | rfl | rfl <;> (simp at hs; subst hs; exact ⟨(hB.cell _).trans rfl, (hB.cell _).trans rfl⟩))
    (FF.new hs hB.lt)
    (by
      intro s hs args y
      simp only [List.mem_cons, List.not_mem_nil, or_false] at hs
      rcases hs with rfl | rfl | rfl | rfl | rfl | rfl | rfl
      · exact enters_of Tryz.func50 (by kernel_rfl) rfl args y
      · exact enters_of Tryz.func28 (by kernel_rfl) rfl args y
      · exact enters_of Tryz.func52 (by kernel_rfl) rfl args y
      · exact enters_of Tryz.func55 (by kernel_rfl) rfl args y
      · exact enters_of Tryz.func28 (by kernel_rfl) rfl args y
      · exact enters_of Tryz.func57 (by kernel_rfl) rfl args y
      · exact enters_of Tryz.func28 (by kernel_rfl) rfl args y
      )
    (by
      intro s hs dk
      simp only [List.mem_cons, List.not_mem_nil, or_false] at hs
      rcases hs with rfl | rfl | rfl | rfl | rfl | rfl | rfl
      · exact M.headW_ops15 fr mn _ _ _ hm2 dk
      · exact M.fl14_ops dk
      · exact M.gwrite_ops15 _ _ _ _ (by rw [M.zeros_size]; omega) dk
      · exact M.gwrite_ops15 _ _ _ _ (by rw [M.zeros_size]; omega) dk
      · exact M.fl14_ops dk
      · exact M.headW_ops15 fr mn _ _ _ hm2 dk
      · exact M.fl14_ops dk
      )
    (by
      intro s hs 
      simp only [List.mem_cons, List.not_mem_nil, or_false] at hs
      rcases hs with rfl | rfl | rfl | rfl | rfl | rfl | rfl
      · intro dk hdk y' Q hkq hQ hq
        exact format1_any lb y' hq (FF.box hkq m0 fl) (FF.box hkq mr fr1) (fun e => (hQ _ e).2 fr1) (by omega) (by omega) (by omega)
      · intro dk hdk y' Q _ _ hq
        exact flush_stp y' hq (by omega)
      · intro dk hdk y' Q hkq hQ hq
        exact format2_any lb y' hq (FF.box hkq m0 fl) (fun e => (hQ _ e).2 fl) (FF.box hkq mr fr1) (fun e => (hQ _ e).2 fr1) (by omega) (by omega) (by omega)
      · intro dk hdk y' Q hkq hQ hq
        exact format3_any lb y' hq (FF.box hkq m0 fl) (fun e => (hQ _ e).2 fl) (FF.box hkq ms fr2) (fun e => (hQ _ e).2 fr2) (by omega) (by omega) (by omega)
      · intro dk hdk y' Q _ _ hq
        exact flush_stp y' hq (by omega)
      · intro dk hdk y' Q hkq hQ hq
        exact format4_any lb y' hq (FF.box hkq m0 fl) (FF.box hkq mr fr1) (fun e => (hQ _ e).2 fr1) (by omega) (by omega) (by omega)
      · intro dk hdk y' Q _ _ hq
        exact flush_stp y' hq (by omega)
      ) hR hET

set_option maxHeartbeats 4000000 in
theorem format_any (fr mn : Nat) (w : World) {a : Nat} {P : Nat → Prop} {d : M.D} (h : Disk w a P d) (h1 : 24 ≤ mn) (h2 : mn ≤ 200) (hin : fr + mn ≤ d.S.length) (ho : d.ops ≤ 10000000)
    {R : Int × M.D} (hR : M.steps14 (M.fmF fr mn) d = R) (hET : R.1 ≠ 0 → ErrT w ∧ ¬ P 1) :
    Calls Tryz.prog 24 #[.pointer (some ⟨a, 0, none⟩), .int .i64 (fr : Nat), .int .i64 (mn : Nat)] w fun e w' => e = .returned (.int .i64 R.1) ∧ Disk w' a (M.plus P w.heap.size) R.2 ∧ Kept P w w' := by
  have hS := h.inv.many
  have C1 := Lib.hid (logOn_yes fr mn w h h1 h2 hin)
  unfold M.logv at C1
  have CO : Hid (∀ w1, Reg w1 (w.heap.size + 1) a fr mn → Reg w1 (w.heap.size + 2) a (fr + 2) (mn - 2) → Below w.heap.size w w1 → Calls Tryz.prog 49 #[.slice (some ⟨w1.heap.size + 1, 0, none⟩) 7 7] ((w1.alloc (.cells #[.pointer (some ⟨a, 0, none⟩), .int .i64 (fr : Nat), .pointer (some ⟨w.heap.size + 1, 0, none⟩), .pointer (some ⟨w.heap.size + 2, 0, none⟩)] 59)).alloc (.cells #[.string (⟨#[108, 101, 116, 32, 116, 104, 101, 114, 101, 32, 98, 101, 32, 110, 111, 32, 108, 111, 103]⟩ : ByteArray), .func (.func 50) #[] #[.pointer (some ⟨w1.heap.size, 0, none⟩)], .string (⟨#[109, 97, 107, 101, 32, 115, 117, 114, 101, 32, 111, 102, 32, 116, 104, 97, 116]⟩ : ByteArray), .func (.func 28) #[.pointer (some ⟨a, 0, none⟩)] #[], .string (⟨#[99, 108, 101, 97, 114, 32, 116, 104, 101, 32, 111, 116, 104, 101, 114, 32, 104, 101, 97, 100]⟩ : ByteArray), .func (.func 52) #[] #[.pointer (some ⟨w1.heap.size, 0, none⟩)], .string (⟨#[99, 108, 101, 97, 114, 32, 116, 104, 101, 32, 114, 101, 99, 111, 114, 100, 115]⟩ : ByteArray), .func (.func 55) #[] #[.pointer (some ⟨w1.heap.size, 0, none⟩)], .string (⟨#[109, 97, 107, 101, 32, 115, 117, 114, 101, 32, 111, 102, 32, 116, 104, 97, 116]⟩ : ByteArray), .func (.func 28) #[.pointer (some ⟨a, 0, none⟩)] #[], .string (⟨#[119, 114, 105, 116, 101, 32, 116, 104, 101, 32, 104, 101, 97, 100]⟩ : ByteArray), .func (.func 57) #[] #[.pointer (some ⟨w1.heap.size, 0, none⟩)], .string (⟨#[109, 97, 107, 101, 32, 115, 117, 114, 101, 32, 111, 102, 32, 116, 104, 101, 32, 104, 101, 97, 100]⟩ : ByteArray), .func (.func 28) #[.pointer (some ⟨a, 0, none⟩)] #[]] 82)) fun e w' => ∃ v, e = .returned v ∧ Hid (Calls Tryz.prog 48 #[v] w' fun e w3 => e = .returned (.int .i64 R.1) ∧ Hid (Disk w3 a (M.plus P w.heap.size) R.2 ∧ Kept P w w3))) := by
    intro w1 hr1 hr2 hb1
    have hbl : Below w1.heap.size w1 (w1.alloc (.cells #[.pointer (some ⟨a, 0, none⟩), .int .i64 (fr : Nat), .pointer (some ⟨w.heap.size + 1, 0, none⟩), .pointer (some ⟨w.heap.size + 2, 0, none⟩)] 59)) := below1 _ _
    have := format_order fr mn w (w1.alloc (.cells #[.pointer (some ⟨a, 0, none⟩), .int .i64 (fr : Nat), .pointer (some ⟨w.heap.size + 1, 0, none⟩), .pointer (some ⟨w.heap.size + 2, 0, none⟩)] 59)) h (hb1.trans (hbl.mono hb1.size)) (LogB.new w1 a fr (w.heap.size + 1) (w.heap.size + 2)) hb1.size (hr1.beside hbl) (by omega) (hr2.beside hbl) (by omega) (by omega) (by omega) (by omega) ho hR hET
    rw [World.size_alloc] at this
    exact this
  clear h h1 h2 hin ho hS hR hET
  go_enter Tryz.func24, Tryz.ntmps24
  go_wp2_with fail
  refine C1.out.mono ?_
  rintro e w1 ⟨rfl, hr1, hr2, hb1⟩
  have CO1 := Lib.hid (CO.out w1 hr1 hr2 hb1)
  clear hr1 hr2 hb1 C1 CO
  go_wp2_with fail
  refine CO1.out.mono ?_
  rintro e w3 ⟨v, rfl, hc⟩
  clear CO1
  go_wp2_with fail
  refine hc.out.mono ?_
  rintro e w4 ⟨rfl, hr4⟩
  clear hc
  go_wp2_with fail
  go_ret
  exact ⟨rfl, hr4.out⟩
end Go.Proofs.YtmgchfjfkdkaoaaGreatDoor
