/-
  Walks over wal.makeReady and the step of Open that calls it, on any disk. (Written by wip/gen_bsteps.py.)
-/
import Derived.Test.YtmgchfjfkdkaoaaGreatDoorPD
import Derived.Test.YtmgchfjfkdkaoaaGreatDoorNJ
import Derived.Test.YtmgchfjfkdkaoaaGreatDoorMC
import Derived.Test.YtmgchfjfkdkaoaaGreatDoorMI
namespace Go.Proofs.YtmgchfjfkdkaoaaGreatDoor
open Go.RowKit

theorem M.gread_ops14 (d : M.D) (fr mn : Nat) (i : Nat) : (M.gread d fr mn (i : Nat) 1).2.2.ops ≤ d.ops + 1 := by
  unfold M.gread
  split
  · show (M.rd 1 d _ ⟨#[]⟩).2.2.ops ≤ _
    rw [M.rd]
    split
    · show (M.beginD d).ops ≤ _
      exact Nat.le_refl _
    · exact Nat.le_refl _
  · show d.ops ≤ _
    omega
theorem M.readyF_ops (fr m2 k a q : Nat) (d : M.D) : (M.readyF fr m2 k a q d).2.ops ≤ d.ops + 1000 := by
  have h1 := M.gread_ops14 d fr m2 a
  unfold M.readyF
  split
  · show (M.gread d fr m2 (a : Nat) 1).2.2.ops ≤ _; omega
  · split
    · show (M.gread d fr m2 (a : Nat) 1).2.2.ops ≤ _; omega
    · obtain ⟨d1, e1⟩ : ∃ x, x = (M.gread d fr m2 (a : Nat) 1).2.2 := ⟨_, rfl⟩
      rw [← e1] at h1 ⊢
      have w1 : ∀ (i : Nat) (dk : M.D), (M.gwrite dk fr m2 (i : Nat) (M.zeros 64)).2.ops ≤ dk.ops + 1 := fun i dk => by
        unfold M.gwrite
        split
        · refine Nat.le_trans (M.wr_ops14 _ dk) ?_
          unfold M.gsplit
          split
          · split
            · rw [M.cut_len, M.zeros_size]; omega
            · simp
          · simp
        · show dk.ops ≤ _; omega
      have f1 : ∀ dk : M.D, (M.fl14 dk).2.ops ≤ dk.ops + 1 := fun dk => by show (M.flushD dk).ops ≤ _; rw [M.flushD_ops14]; exact Nat.le_refl _
      have := M.steps14_ops 1 [fun d => M.gwrite d fr m2 (k : Nat) (M.zeros 64), M.fl14, fun d => M.gwrite d fr m2 (a : Nat) (M.zeros 64), M.fl14] d1 (by
        intro f hf dk
        simp only [List.mem_cons, List.not_mem_nil, or_false] at hf
        rcases hf with rfl | rfl | rfl | rfl
        · exact w1 k dk
        · exact f1 dk
        · exact w1 a dk
        · exact f1 dk)
      simp only [List.length_cons, List.length_nil] at this
      omega

set_option maxHeartbeats 4000000 in
theorem makeReady_any (g q k g1 q1 k1 : Nat) (w : World) {a fr ra rr m2 : Nat} {P : Nat → Prop} {d : M.D} (h : Disk w a P d) (hlow : ∀ j, P j → j < w.heap.size) (hr : Reg w rr a (fr + 2) m2) (hp : ¬ P rr) (hk : k ≤ 1000) (hk1 : k1 ≤ 1000) (hf : fr + 2 ≤ 1000) (hmn : m2 ≤ 1000) (ho : d.ops ≤ 20000000)
    (hET : (M.readyF (fr + 2) m2 k k1 q1 d).1 ≠ 0 → ErrT w ∧ ¬ P 1) :
    Calls Tryz.prog 37 #[M.logv a fr ra rr, .agg #[.int .i64 (g : Nat), .int .i64 (q : Nat), .int .i64 (k : Nat)], .agg #[.int .i64 (g1 : Nat), .int .i64 (q1 : Nat), .int .i64 (k1 : Nat)]] w fun e w' => e = .returned (.int .i64 (M.readyF (fr + 2) m2 k k1 q1 d).1) ∧ Disk w' a (M.plus P w.heap.size) (M.readyF (fr + 2) m2 k k1 q1 d).2 ∧ Kept P w w' := by
  obtain ⟨W, hW⟩ : ∃ x, x = ((w.alloc (.cells #[.pointer (some ⟨a, 0, none⟩), .int .i64 (fr : Nat), .pointer (some ⟨ra, 0, none⟩), .pointer (some ⟨rr, 0, none⟩)] 59)).alloc (.cells #[.int .i64 (g : Nat), .int .i64 (q : Nat), .int .i64 (k : Nat)] 73)).alloc (.cells #[.int .i64 (g1 : Nat), .int .i64 (q1 : Nat), .int .i64 (k1 : Nat)] 73) := ⟨_, rfl⟩
  have hb : Below w.heap.size w W := by rw [hW]; exact (((Below.refl _ w).alloc (Nat.le_refl _) _).alloc (by simp) _).alloc (by simp <;> omega) _
  have hz : W.heap.size = w.heap.size + 3 := by rw [hW]; simp
  have b0 : LogB W w.heap.size a fr ra rr := by
    rw [hW]
    exact ((LogB.new w a fr ra rr).below (below1 _ _) (by simp)).below (below1 _ _) (by simp <;> omega)
  have b1 : B3 W (w.heap.size + 1) 73 (g : Nat) (q : Nat) (k : Nat) := by
    rw [hW]
    have := B3.new (w.alloc (.cells #[.pointer (some ⟨a, 0, none⟩), .int .i64 (fr : Nat), .pointer (some ⟨ra, 0, none⟩), .pointer (some ⟨rr, 0, none⟩)] 59)) 73 (g : Nat) (q : Nat) (k : Nat)
    rw [World.size_alloc] at this
    exact this.below (below1 _ _) (by simp)
  have b2 : B3 W (w.heap.size + 2) 73 (g1 : Nat) (q1 : Nat) (k1 : Nat) := by
    rw [hW]
    have := B3.new ((w.alloc (.cells #[.pointer (some ⟨a, 0, none⟩), .int .i64 (fr : Nat), .pointer (some ⟨ra, 0, none⟩), .pointer (some ⟨rr, 0, none⟩)] 59)).alloc (.cells #[.int .i64 (g : Nat), .int .i64 (q : Nat), .int .i64 (k : Nat)] 73)) 73 (g1 : Nat) (q1 : Nat) (k1 : Nat)
    rwa [World.size_alloc, World.size_alloc] at this
  have hP : ∀ j, w.heap.size ≤ j → ¬ P j := fun j hj e => by have := hlow j e; omega
  have C1 := Lib.hid (gread_any (k1 : Nat) 1 W (h.beside hb) (hr.beside hb) hp (by omega) (by omega) hmn (by omega))
  obtain ⟨RD, hRD⟩ : ∃ x, x = M.gread d (fr + 2) m2 (k1 : Nat) 1 := ⟨_, rfl⟩
  rw [← hRD] at C1
  have hRF : M.readyF (fr + 2) m2 k k1 q1 d = if RD.2.1 ≠ 0 then (RD.2.1, RD.2.2) else if M.szE RD.1 (q1 : Nat) ≠ 0 then (0, RD.2.2) else M.steps14 ([⟨(⟨#[99, 108, 101, 97, 114, 32, 116, 104, 101, 32, 102, 105, 114, 115, 116, 32, 114, 101, 99, 111, 114, 100]⟩ : ByteArray), 76, #[], #[.pointer (some ⟨w.heap.size, 0, none⟩), .pointer (some ⟨w.heap.size + 1, 0, none⟩)], fun d => M.gwrite d (fr + 2) m2 (k : Nat) (M.zeros 64)⟩, ⟨(⟨#[109, 97, 107, 101, 32, 115, 117, 114, 101, 32, 111, 102, 32, 116, 104, 97, 116]⟩ : ByteArray), 28, #[.pointer (some ⟨a, 0, none⟩)], #[], M.fl14⟩, ⟨(⟨#[99, 108, 101, 97, 114, 32, 116, 104, 101, 32, 110, 101, 120, 116, 32, 104, 101, 97, 100, 39, 115, 32, 112, 108, 97, 99, 101]⟩ : ByteArray), 77, #[], #[.pointer (some ⟨w.heap.size, 0, none⟩), .pointer (some ⟨w.heap.size + 2, 0, none⟩)], fun d => M.gwrite d (fr + 2) m2 (k1 : Nat) (M.zeros 64)⟩, ⟨(⟨#[109, 97, 107, 101, 32, 115, 117, 114, 101, 32, 111, 102, 32, 116, 104, 97, 116]⟩ : ByteArray), 28, #[.pointer (some ⟨a, 0, none⟩)], #[], M.fl14⟩].map Stp.F) RD.2.2 := by rw [hRD]; rfl
  have hro : RD.2.2.ops ≤ 20000002 := by
    rw [hRD]
    unfold M.gread
    split
    · show (M.rd 1 d _ ⟨#[]⟩).2.2.ops ≤ _
      rw [M.rd]
      split
      · show (M.beginD d).ops ≤ _
        show d.ops + 1 ≤ _
        omega
      · show d.ops + 1 ≤ _
        omega
    · show d.ops ≤ _
      omega
  obtain ⟨S1, E1, D1⟩ := RD
  simp only at C1 hRF hro
  have HFIN : Hid (∀ y, Disk y a P D1 → Kept P W y → Disk y a (M.plus P w.heap.size) D1 ∧ Kept P w y) := fun y hd hk => ⟨hd.mono (fun _ _ e => Or.inl e), (Kept.of_below hb P).trans hk⟩
  have HB0 := Lib.hid hb
  obtain ⟨c0, c1, c2, c3⟩ := b0.cells
  obtain ⟨h0, h1, h2⟩ := b2.cells
  have HLB := Lib.hid b0
  have HH1 := Lib.hid b1
  have HH2 := Lib.hid b2
  have HPP := Lib.hid hP
  by_cases hE : E1 = 0
  · subst hE
    rw [if_neg (fun e => e rfl)] at hRF
    have C2 := Lib.hid (fun y => size11_any S1 (q1 : Nat) y)
    by_cases hz1 : M.szE S1 (q1 : Nat) = 0
    · rw [if_neg (fun e => e hz1)] at hRF
      rw [hz1] at C2
      have CO : Hid (∀ y row, Disk y a P D1 → Kept P W y → row = y.alloc (.cells #[.string (⟨#[99, 108, 101, 97, 114, 32, 116, 104, 101, 32, 102, 105, 114, 115, 116, 32, 114, 101, 99, 111, 114, 100]⟩ : ByteArray), .func (.func 76) #[] #[.pointer (some ⟨w.heap.size, 0, none⟩), .pointer (some ⟨w.heap.size + 1, 0, none⟩)], .string (⟨#[109, 97, 107, 101, 32, 115, 117, 114, 101, 32, 111, 102, 32, 116, 104, 97, 116]⟩ : ByteArray), .func (.func 28) #[.pointer (some ⟨a, 0, none⟩)] #[], .string (⟨#[99, 108, 101, 97, 114, 32, 116, 104, 101, 32, 110, 101, 120, 116, 32, 104, 101, 97, 100, 39, 115, 32, 112, 108, 97, 99, 101]⟩ : ByteArray), .func (.func 77) #[] #[.pointer (some ⟨w.heap.size, 0, none⟩), .pointer (some ⟨w.heap.size + 2, 0, none⟩)], .string (⟨#[109, 97, 107, 101, 32, 115, 117, 114, 101, 32, 111, 102, 32, 116, 104, 97, 116]⟩ : ByteArray), .func (.func 28) #[.pointer (some ⟨a, 0, none⟩)] #[]] 82) → Calls Tryz.prog 49 #[.slice (some ⟨y.heap.size, 0, none⟩) 4 4] row fun e w' => ∃ v, e = .returned v ∧ Hid (Calls Tryz.prog 48 #[v] w' fun e w3 => e = .returned (.int .i64 (M.readyF (fr + 2) m2 k k1 q1 d).1) ∧ Hid (Disk w3 a (M.plus P w.heap.size) (M.readyF (fr + 2) m2 k k1 q1 d).2 ∧ Kept P w w3))) := by
        rintro y row hd hky rfl
        have hs := hky.size
        have hwy : w.heap.size ≤ y.heap.size := by omega
        have hB := Box.new y 82 #[.string (⟨#[99, 108, 101, 97, 114, 32, 116, 104, 101, 32, 102, 105, 114, 115, 116, 32, 114, 101, 99, 111, 114, 100]⟩ : ByteArray), .func (.func 76) #[] #[.pointer (some ⟨w.heap.size, 0, none⟩), .pointer (some ⟨w.heap.size + 1, 0, none⟩)], .string (⟨#[109, 97, 107, 101, 32, 115, 117, 114, 101, 32, 111, 102, 32, 116, 104, 97, 116]⟩ : ByteArray), .func (.func 28) #[.pointer (some ⟨a, 0, none⟩)] #[], .string (⟨#[99, 108, 101, 97, 114, 32, 116, 104, 101, 32, 110, 101, 120, 116, 32, 104, 101, 97, 100, 39, 115, 32, 112, 108, 97, 99, 101]⟩ : ByteArray), .func (.func 77) #[] #[.pointer (some ⟨w.heap.size, 0, none⟩), .pointer (some ⟨w.heap.size + 2, 0, none⟩)], .string (⟨#[109, 97, 107, 101, 32, 115, 117, 114, 101, 32, 111, 102, 32, 116, 104, 97, 116]⟩ : ByteArray), .func (.func 28) #[.pointer (some ⟨a, 0, none⟩)] #[]]
        have hbr : Below y.heap.size y (y.alloc (.cells #[.string (⟨#[99, 108, 101, 97, 114, 32, 116, 104, 101, 32, 102, 105, 114, 115, 116, 32, 114, 101, 99, 111, 114, 100]⟩ : ByteArray), .func (.func 76) #[] #[.pointer (some ⟨w.heap.size, 0, none⟩), .pointer (some ⟨w.heap.size + 1, 0, none⟩)], .string (⟨#[109, 97, 107, 101, 32, 115, 117, 114, 101, 32, 111, 102, 32, 116, 104, 97, 116]⟩ : ByteArray), .func (.func 28) #[.pointer (some ⟨a, 0, none⟩)] #[], .string (⟨#[99, 108, 101, 97, 114, 32, 116, 104, 101, 32, 110, 101, 120, 116, 32, 104, 101, 97, 100, 39, 115, 32, 112, 108, 97, 99, 101]⟩ : ByteArray), .func (.func 77) #[] #[.pointer (some ⟨w.heap.size, 0, none⟩), .pointer (some ⟨w.heap.size + 2, 0, none⟩)], .string (⟨#[109, 97, 107, 101, 32, 115, 117, 114, 101, 32, 111, 102, 32, 116, 104, 97, 116]⟩ : ByteArray), .func (.func 28) #[.pointer (some ⟨a, 0, none⟩)] #[]] 82)) := below1 _ _
        have fo : ∀ j, w.heap.size ≤ j → j < W.heap.size → FF P y (y.alloc (.cells #[.string (⟨#[99, 108, 101, 97, 114, 32, 116, 104, 101, 32, 102, 105, 114, 115, 116, 32, 114, 101, 99, 111, 114, 100]⟩ : ByteArray), .func (.func 76) #[] #[.pointer (some ⟨w.heap.size, 0, none⟩), .pointer (some ⟨w.heap.size + 1, 0, none⟩)], .string (⟨#[109, 97, 107, 101, 32, 115, 117, 114, 101, 32, 111, 102, 32, 116, 104, 97, 116]⟩ : ByteArray), .func (.func 28) #[.pointer (some ⟨a, 0, none⟩)] #[], .string (⟨#[99, 108, 101, 97, 114, 32, 116, 104, 101, 32, 110, 101, 120, 116, 32, 104, 101, 97, 100, 39, 115, 32, 112, 108, 97, 99, 101]⟩ : ByteArray), .func (.func 77) #[] #[.pointer (some ⟨w.heap.size, 0, none⟩), .pointer (some ⟨w.heap.size + 2, 0, none⟩)], .string (⟨#[109, 97, 107, 101, 32, 115, 117, 114, 101, 32, 111, 102, 32, 116, 104, 97, 116]⟩ : ByteArray), .func (.func 28) #[.pointer (some ⟨a, 0, none⟩)] #[]] 82)) j := fun j h1 h2 => FF.old (by omega) (hP j h1)
        have l0 := hky.box b0 (hP _ (Nat.le_refl _))
        have l1 : B3 y (w.heap.size + 1) 73 (g : Nat) (q : Nat) (k : Nat) := hky.box b1 (hP _ (by omega))
        have l2 : B3 y (w.heap.size + 2) 73 (g1 : Nat) (q1 : Nat) (k1 : Nat) := hky.box b2 (hP _ (by omega))
        have m0 := l0.below hbr l0.lt
        have m1 := l1.below hbr l1.lt
        have m2' := l2.below hbr l2.lt
        have mr := (hr.beside hb).kept hky hp
        have fr1 : FF P y (y.alloc (.cells #[.string (⟨#[99, 108, 101, 97, 114, 32, 116, 104, 101, 32, 102, 105, 114, 115, 116, 32, 114, 101, 99, 111, 114, 100]⟩ : ByteArray), .func (.func 76) #[] #[.pointer (some ⟨w.heap.size, 0, none⟩), .pointer (some ⟨w.heap.size + 1, 0, none⟩)], .string (⟨#[109, 97, 107, 101, 32, 115, 117, 114, 101, 32, 111, 102, 32, 116, 104, 97, 116]⟩ : ByteArray), .func (.func 28) #[.pointer (some ⟨a, 0, none⟩)] #[], .string (⟨#[99, 108, 101, 97, 114, 32, 116, 104, 101, 32, 110, 101, 120, 116, 32, 104, 101, 97, 100, 39, 115, 32, 112, 108, 97, 99, 101]⟩ : ByteArray), .func (.func 77) #[] #[.pointer (some ⟨w.heap.size, 0, none⟩), .pointer (some ⟨w.heap.size + 2, 0, none⟩)], .string (⟨#[109, 97, 107, 101, 32, 115, 117, 114, 101, 32, 111, 102, 32, 116, 104, 97, 116]⟩ : ByteArray), .func (.func 28) #[.pointer (some ⟨a, 0, none⟩)] #[]] 82)) rr := FF.old mr.lt hp
        refine (order_cause [⟨(⟨#[99, 108, 101, 97, 114, 32, 116, 104, 101, 32, 102, 105, 114, 115, 116, 32, 114, 101, 99, 111, 114, 100]⟩ : ByteArray), 76, #[], #[.pointer (some ⟨w.heap.size, 0, none⟩), .pointer (some ⟨w.heap.size + 1, 0, none⟩)], fun d => M.gwrite d (fr + 2) m2 (k : Nat) (M.zeros 64)⟩, ⟨(⟨#[109, 97, 107, 101, 32, 115, 117, 114, 101, 32, 111, 102, 32, 116, 104, 97, 116]⟩ : ByteArray), 28, #[.pointer (some ⟨a, 0, none⟩)], #[], M.fl14⟩, ⟨(⟨#[99, 108, 101, 97, 114, 32, 116, 104, 101, 32, 110, 101, 120, 116, 32, 104, 101, 97, 100, 39, 115, 32, 112, 108, 97, 99, 101]⟩ : ByteArray), 77, #[], #[.pointer (some ⟨w.heap.size, 0, none⟩), .pointer (some ⟨w.heap.size + 2, 0, none⟩)], fun d => M.gwrite d (fr + 2) m2 (k1 : Nat) (M.zeros 64)⟩, ⟨(⟨#[109, 97, 107, 101, 32, 115, 117, 114, 101, 32, 111, 102, 32, 116, 104, 97, 116]⟩ : ByteArray), 28, #[.pointer (some ⟨a, 0, none⟩)], #[], M.fl14⟩] (by simp) y.heap.size 4 hd hbr
    (by
      intro k s hs
      have hk : k = 0 ∨ k = 1 ∨ k = 2 ∨ k = 3 := by have := (List.getElem?_eq_some_iff.1 hs).1; simp only [List.length_cons, List.length_nil] at this; omega
      rcases hk with rfl | rfl | rfl | rfl <;> (simp at hs; subst hs; exact ⟨(hB.cell _).trans rfl, (hB.cell _).trans rfl⟩))
    (FF.new (Nat.le_refl _) (by simp))
    (by
      intro s hs args y
      simp only [List.mem_cons, List.not_mem_nil, or_false] at hs
      rcases hs with rfl | rfl | rfl | rfl
      · exact enters_of Tryz.func76 (by kernel_rfl) rfl args y
      · exact enters_of Tryz.func28 (by kernel_rfl) rfl args y
      · exact enters_of Tryz.func77 (by kernel_rfl) rfl args y
      · exact enters_of Tryz.func28 (by kernel_rfl) rfl args y
      )
    (by
      intro s hs dk
      simp only [List.mem_cons, List.not_mem_nil, or_false] at hs
      rcases hs with rfl | rfl | rfl | rfl
      · exact M.gwrite_ops15 _ _ _ _ (by rw [M.zeros_size]; omega) dk
      · exact M.fl14_ops dk
      · exact M.gwrite_ops15 _ _ _ _ (by rw [M.zeros_size]; omega) dk
      · exact M.fl14_ops dk
      )
    (by
      intro s hs 
      simp only [List.mem_cons, List.not_mem_nil, or_false] at hs
      rcases hs with rfl | rfl | rfl | rfl
      · intro dk hdk y' Q hkq hQ hq
        have z0 := FF.box hkq m0 (fo _ (Nat.le_refl _) (by omega))
        have z1 : B3 y' (w.heap.size + 1) 73 (g : Nat) (q : Nat) (k : Nat) := FF.box hkq m1 (fo _ (by omega) (by omega))
        have zr : Reg y' rr a (fr + 2) m2 := FF.box hkq (mr.beside hbr) fr1
        exact ready1_any _ _ g q k y' hq z0 (fun e => (hQ _ e).2 (fo _ (Nat.le_refl _) (by omega))) z1 (fun e => (hQ _ e).2 (fo _ (by omega) (by omega))) zr (fun e => (hQ _ e).2 fr1) hf hmn hk (by omega)
      · intro dk hdk y' Q _ _ hq
        exact flush_stp y' hq (by omega)
      · intro dk hdk y' Q hkq hQ hq
        have z0 := FF.box hkq m0 (fo _ (Nat.le_refl _) (by omega))
        have z1 : B3 y' (w.heap.size + 2) 73 (g1 : Nat) (q1 : Nat) (k1 : Nat) := FF.box hkq m2' (fo _ (by omega) (by omega))
        have zr : Reg y' rr a (fr + 2) m2 := FF.box hkq (mr.beside hbr) fr1
        exact ready2_any _ _ g1 q1 k1 y' hq z0 (fun e => (hQ _ e).2 (fo _ (Nat.le_refl _) (by omega))) z1 (fun e => (hQ _ e).2 (fo _ (by omega) (by omega))) zr (fun e => (hQ _ e).2 fr1) hf hmn hk1 (by omega)
      · intro dk hdk y' Q _ _ hq
        exact flush_stp y' hq (by omega)
      ) hRF.symm (fun e => ⟨(((Kept.of_below hb P).trans hky).cell (hET e).1 (hET e).2), (hET e).2⟩)).mono ?_
        rintro e w' ⟨v, rfl, hc⟩
        refine ⟨v, rfl, ?_⟩
        show Calls _ _ _ _ _
        refine Calls.mono hc ?_
        rintro e w3 ⟨rfl, h5⟩
        exact ⟨rfl, h5.out.1.mono (fun j _ e => e.imp id (fun e => Nat.le_trans hwy e)), ((Kept.of_below hb P).trans hky).trans h5.out.2⟩
      have HKB : Hid (∀ y z, Disk y a P D1 → Kept P W y → Below y.heap.size y z → Disk z a P D1 ∧ Kept P W z ∧ LogB z w.heap.size a fr ra rr ∧ B3 z (w.heap.size + 1) 73 (g : Nat) (q : Nat) (k : Nat)) := fun y z hd hk hb2 => by
        have hkz := hk.trans (Kept.of_below hb2 P)
        exact ⟨hd.beside hb2, hkz, hkz.box b0 (hP _ (Nat.le_refl _)), hkz.box b1 (hP _ (by omega))⟩
      obtain ⟨RR, hRR⟩ : ∃ x, x = M.readyF (fr + 2) m2 k k1 q1 d := ⟨_, rfl⟩
      rw [← hRR] at CO ⊢
      have HK1 : Hid (∀ y, Kept P W y → B3 y (w.heap.size + 2) 73 (g1 : Nat) (q1 : Nat) (k1 : Nat)) := fun y hk => hk.box b2 (hP _ (by omega))
      clear h hlow hr hp hk hk1 hf hmn ho hET hb hz b0 b1 b2 hP hRF hro hz1 hRD hRR HFIN HPP HLB HH1 HH2
      unfold M.logv
      go_enter Tryz.func37, Tryz.ntmps37
      go_wp2_with fail
      simp only [Nat.add_assoc, Nat.reduceAdd]
      rw [← hW]
      clear hW
      refine C1.out.mono ?_
      rintro e w1 ⟨rfl, hd1, hk1⟩
      have HD1 := Lib.hid hd1
      have HKK := Lib.hid hk1
      obtain ⟨n0, n1, n2⟩ := (HK1.out _ hk1).cells
      clear hd1 hk1 C1 c0 c1 c2 c3 h0 h1 h2
      go_wp2_with fail
      refine (C2.out _).mono ?_
      rintro e w2 ⟨rfl, hb2⟩
      obtain ⟨hd2, hk2, hl2, hh2⟩ := HKB.out _ _ HD1.out HKK.out hb2
      have CC := Lib.hid (CO.out w2 _ hd2 hk2 rfl)
      obtain ⟨c0, c1, c2, c3⟩ := hl2.cells
      clear hd2 hk2 hl2 hh2 hb2 HD1 HKK n0 n1 n2 CO HKB HK1 C2
      go_wp2_with fail
      refine CC.out.mono ?_
      rintro e w3 ⟨v, rfl, hc⟩
      clear CC
      go_wp2_with fail
      refine hc.out.mono ?_
      rintro e w4 ⟨rfl, hr4⟩
      clear hc
      go_wp2_with fail
      go_ret
      exact ⟨rfl, hr4.out⟩
    · have hz1' : (M.szE S1 (q1 : Nat) == 0) = false := by rw [beq_eq_false_iff_ne]; exact hz1
      rw [if_pos hz1] at hRF
      rw [hRF]
      obtain ⟨E2, hE2⟩ : ∃ x, x = M.szE S1 (q1 : Nat) := ⟨_, rfl⟩
      rw [← hE2] at C2 hz1' hz1
      have HK1 : Hid (∀ y, Kept P W y → B3 y (w.heap.size + 2) 73 (g1 : Nat) (q1 : Nat) (k1 : Nat)) := fun y hk => hk.box b2 (hP _ (by omega))
      have HFB : Hid (∀ y z, Disk y a P D1 → Kept P W y → Below y.heap.size y z → Disk z a (M.plus P w.heap.size) D1 ∧ Kept P w z) := fun y z hd hk hb2 => HFIN.out z (hd.beside hb2) (hk.trans (Kept.of_below hb2 P))
      clear h hlow hr hp hk hk1 hf hmn ho hET hb hz b0 b1 b2 hP hRF hro hRD HPP HLB HH1 HH2 hE2 HFIN
      unfold M.logv
      go_enter Tryz.func37, Tryz.ntmps37
      go_wp2_with fail
      simp only [Nat.add_assoc, Nat.reduceAdd]
      rw [← hW]
      clear hW
      refine C1.out.mono ?_
      rintro e w1 ⟨rfl, hd1, hk1⟩
      have HD1 := Lib.hid hd1
      have HKK := Lib.hid hk1
      obtain ⟨n0, n1, n2⟩ := (HK1.out _ hk1).cells
      clear hd1 hk1 C1 c0 c1 c2 c3 h0 h1 h2
      go_wp2_with fail
      refine (C2.out _).mono ?_
      rintro e w2 ⟨rfl, hb2⟩
      have HR := Lib.hid (HFB.out _ _ HD1.out HKK.out hb2)
      clear hb2 HD1 HKK n0 n1 n2 HFB HK1 C2
      go_wp2_with fail
      go_ret
      exact ⟨rfl, HR.out⟩
  · have hE' : (E1 == 0) = false := by rw [beq_eq_false_iff_ne]; exact hE
    rw [if_pos hE] at hRF
    rw [hRF]
    clear h hlow hr hp hk hk1 hf hmn ho hET hb hz b0 b1 b2 hP hRF hro hRD HPP HLB HH1 HH2 
    unfold M.logv
    go_enter Tryz.func37, Tryz.ntmps37
    go_wp2_with fail
    simp only [Nat.add_assoc, Nat.reduceAdd]
    rw [← hW]
    clear hW
    refine C1.out.mono ?_
    rintro e w1 ⟨rfl, hd1, hk1⟩
    have HR := Lib.hid (HFIN.out _ hd1 hk1)
    clear hd1 hk1 C1 c0 c1 c2 c3 h0 h1 h2
    go_wp2_with fail
    go_ret
    exact ⟨rfl, HR.out⟩

set_option maxHeartbeats 1000000 in
/-- The step of Open. -/
theorem openStep_any (lb hb nb g q k g1 q1 k1 : Nat) (w : World) {a fr ra rr m2 : Nat} {P : Nat → Prop} {d : M.D} (h : Disk w a P d) (hlow : ∀ j, P j → j < w.heap.size) (hL : LogB w lb a fr ra rr) (hH : B3 w hb 73 (g : Nat) (q : Nat) (k : Nat)) (hN : B3 w nb 73 (g1 : Nat) (q1 : Nat) (k1 : Nat)) (hr : Reg w rr a (fr + 2) m2) (hp : ¬ P rr) (hk : k ≤ 1000) (hk1 : k1 ≤ 1000) (hf : fr + 2 ≤ 1000) (hmn : m2 ≤ 1000) (ho : d.ops ≤ 20000000)
    (hET : (M.readyF (fr + 2) m2 k k1 q1 d).1 ≠ 0 → ErrT w ∧ ¬ P 1) :
    Calls Tryz.prog 36 #[.pointer (some ⟨lb, 0, none⟩), .pointer (some ⟨hb, 0, none⟩), .pointer (some ⟨nb, 0, none⟩)] w fun e w' => e = .returned (.int .i64 (M.readyF (fr + 2) m2 k k1 q1 d).1) ∧ Disk w' a (M.plus P w.heap.size) (M.readyF (fr + 2) m2 k k1 q1 d).2 ∧ Kept P w w' := by
  have C1 := Lib.hid (makeReady_any g q k g1 q1 k1 w h hlow hr hp hk hk1 hf hmn ho hET (ra := ra))
  unfold M.logv at C1
  obtain ⟨c0, c1, c2, c3⟩ := hL.cells
  obtain ⟨h0, h1, h2⟩ := hH.cells
  obtain ⟨n0, n1, n2⟩ := hN.cells
  obtain ⟨RR, hRR⟩ : ∃ x, x = M.readyF (fr + 2) m2 k k1 q1 d := ⟨_, rfl⟩
  rw [← hRR] at C1 ⊢
  clear h hlow hL hH hN hr hp hk hk1 hf hmn ho hET hRR
  go_enter Tryz.func36, Tryz.ntmps36
  go_wp2_with fail
  refine C1.out.mono ?_
  rintro e w1 ⟨rfl, h1, h2⟩
  have HR := Lib.hid (And.intro h1 h2)
  clear h1 h2 C1
  go_wp2_with fail
  go_ret
  exact ⟨rfl, HR.out⟩
end Go.Proofs.YtmgchfjfkdkaoaaGreatDoor
