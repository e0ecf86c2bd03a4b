/-
  Walks over wal.moveOn and wal.Format where no call of the disk fails. (Written by wip/gen_bmov.py.)
-/
import Derived.Test.YtncbbejmibddcaaGreatDoorNH
import Derived.Test.YtncbbejmibddcaaGreatDoorNG
import Derived.Test.YtncbbejmibddcaaGreatDoorMI
namespace Go.Proofs.YtncbbejmibddcaaGreatDoor
open Go.RowKit

section
variable {y0 y z : World} {a : Nat} {P F : Nat → Prop} {d : M.D}
theorem One.beside14 (h : One y0 y a P F d) (hb : Below y.heap.size y z) : One y0 z a P F d := h.kept (Kept.of_below hb (fun _ => False)) (fun _ e => e.elim)
end
/-- What a step of a log leans on. -/
structure At14 (w W y : World) (a : Nat) (P F : Nat → Prop) (d : M.D) : Prop where
  one : One w y a P F d
  kept : Kept (fun j => ¬ F j) W y
theorem At14.beside {w W y z : World} {a : Nat} {P F : Nat → Prop} {d : M.D} (h : At14 w W y a P F d) (hb : Below y.heap.size y z) : At14 w W z a P F d := ⟨h.one.beside14 hb, h.kept.trans (Kept.of_below hb _)⟩
theorem At14.call {w W y : World} {a : Nat} {P F : Nat → Prop} {d d' : M.D} {f : FuncId} {args : Array Value} {v : Value} (h : At14 w W y a P F d) (C : ∀ Q, (∀ k, Q k → k < y.heap.size ∧ ¬ F k) → Disk y a Q d → Calls Tryz.prog f args y fun e y' => e = .returned v ∧ Disk y' a (M.plus Q y.heap.size) d' ∧ Kept Q y y') :
    Calls Tryz.prog f args y fun e y' => e = .returned v ∧ At14 w W y' a P F d' := (h.one.call C).mono fun _ _ ⟨h1, h2, h3⟩ => ⟨h1, h2, h.kept.trans h3⟩
theorem At14.flush {w W y : World} {a : Nat} {P F : Nat → Prop} {d d' : M.D} (h : At14 w W y a P F d) (he : M.beginE d = 0) (hd : d' = M.flushD d) (ho : d.ops ≤ 1099511627776) :
    Calls Tryz.prog 63 #[.pointer (some ⟨a, 0, none⟩)] y fun e y' => e = .returned (.int .i64 0) ∧ At14 w W y' a P F d' := by
  rw [← he, hd]
  exact h.call (fun Q _ hq => flush14_any y hq ho)
theorem At14.box {w W y : World} {a : Nat} {P F : Nat → Prop} {d : M.D} (h : At14 w W y a P F d) {g : Nat} {t : TypeId} {cs : Array Value} (hB : Box W g t cs) (hg : F g) : Box y g t cs := h.kept.box hB (fun e => e hg)

set_option maxHeartbeats 4000000 in
/-- A log is moved on: all its calls go well. -/
theorem moveOn_ok (g q k : Nat) (hmay : M.hmay ⟨(g : Nat), (q : Nat), (k : Nat)⟩ = true) (A : Option Addr) (c : Nat) (L : List (Nat × ByteArray)) (hl : L.length ≤ 100000) (w : World) {a fr ra rr mn : Nat} {P : Nat → Prop} {d d1 d2 d3 d4 d5 : M.D} (h : Disk w a P d)
    (hr : Reg w ra a fr mn) (hp : ¬ P ra) (hf : fr ≤ 1000) (hmn : mn ≤ 1000) (x : Nat → Int) (t : Nat → ByteArray) (hS : SecF w A L.length x t) (hx : ∀ k p, L[k]? = some p → x k = (p.1 : Nat) ∧ t k = p.2) (hP : ∀ ad, A = some ad → ad.block < w.heap.size ∧ ¬ P ad.block)
    (hM : M.Mv14 d d1 d2 d3 d4 d5 L fr mn g q k) (ho : d.ops ≤ 10000000) :
    Calls Tryz.prog 39 #[M.logv a fr ra rr, .slice A L.length c, .agg #[.int .i64 (g : Nat), .int .i64 (q : Nat), .int .i64 (k : Nat)]] w fun e w' => e = .returned (.int .i64 0) ∧ Disk w' a (M.plus P w.heap.size) d5 ∧ Kept P w w' := by
  obtain ⟨W, hW⟩ : ∃ x, x = ((((w.alloc (.cells #[.pointer (some ⟨a, 0, none⟩), .int .i64 (fr : Nat), .pointer (some ⟨ra, 0, none⟩), .pointer (some ⟨rr, 0, none⟩)] 65)).alloc (.cells #[.slice A L.length c] 40)).alloc (.cells #[.int .i64 (g : Nat), .int .i64 (q : Nat), .int .i64 (k : Nat)] 69)).alloc (.cells #[.string (⟨#[109, 97, 107, 101, 32, 115, 117, 114, 101, 32, 111, 102, 32, 116, 104, 101, 32, 114, 101, 99, 111, 114, 100, 115]⟩ : ByteArray), .func (.func 63) #[.pointer (some ⟨a, 0, none⟩)] #[], .string (⟨#[108, 97, 121, 32, 100, 111, 119, 110, 32, 119, 104, 97, 116, 32, 116, 104, 101, 121, 32, 115, 97, 121]⟩ : ByteArray), .func (.func 76) #[] #[.pointer (some ⟨w.heap.size, 0, none⟩), .pointer (some ⟨w.heap.size + 1, 0, none⟩)], .string (⟨#[109, 97, 107, 101, 32, 115, 117, 114, 101, 32, 111, 102, 32, 116, 104, 97, 116]⟩ : ByteArray), .func (.func 63) #[.pointer (some ⟨a, 0, none⟩)] #[], .string (⟨#[119, 114, 105, 116, 101, 32, 116, 104, 101, 32, 104, 101, 97, 100]⟩ : ByteArray), .func (.func 78) #[] #[.pointer (some ⟨w.heap.size, 0, none⟩), .pointer (some ⟨w.heap.size + 2, 0, none⟩)], .string (⟨#[109, 97, 107, 101, 32, 115, 117, 114, 101, 32, 111, 102, 32, 116, 104, 101, 32, 104, 101, 97, 100]⟩ : ByteArray), .func (.func 63) #[.pointer (some ⟨a, 0, none⟩)] #[]] 97)) := ⟨_, rfl⟩
  have hb : Below w.heap.size w W := by rw [hW]; exact ((((Below.refl _ w).alloc (Nat.le_refl _) _).alloc (by simp) _).alloc (by simp <;> omega) _).alloc (by simp <;> omega) _
  have hz : W.heap.size = w.heap.size + 4 := by rw [hW]; simp
  have b0 : LogB W w.heap.size a fr ra rr := by
    rw [hW]
    exact ((((LogB.new w a fr ra rr).below (below1 _ _) (by simp)).below (below1 _ _) (by simp <;> omega)).below (below1 _ _) (by simp <;> omega))
  have b1 : Box W (w.heap.size + 1) 40 #[.slice A L.length c] := by
    rw [hW]
    have := Box.new (w.alloc (.cells #[.pointer (some ⟨a, 0, none⟩), .int .i64 (fr : Nat), .pointer (some ⟨ra, 0, none⟩), .pointer (some ⟨rr, 0, none⟩)] 65)) 40 #[.slice A L.length c]
    rw [World.size_alloc] at this
    exact ((this.below (below1 _ _) (by simp)).below (below1 _ _) (by simp <;> omega))
  have b2 : B3 W (w.heap.size + 2) 69 (g : Nat) (q : Nat) (k : Nat) := by
    rw [hW]
    have := B3.new ((w.alloc (.cells #[.pointer (some ⟨a, 0, none⟩), .int .i64 (fr : Nat), .pointer (some ⟨ra, 0, none⟩), .pointer (some ⟨rr, 0, none⟩)] 65)).alloc (.cells #[.slice A L.length c] 40)) 69 (g : Nat) (q : Nat) (k : Nat)
    rw [World.size_alloc, World.size_alloc] at this
    exact this.below (below1 _ _) (by simp)
  have hr4 : Box W (w.heap.size + 3) 97 #[.string (⟨#[109, 97, 107, 101, 32, 115, 117, 114, 101, 32, 111, 102, 32, 116, 104, 101, 32, 114, 101, 99, 111, 114, 100, 115]⟩ : ByteArray), .func (.func 63) #[.pointer (some ⟨a, 0, none⟩)] #[], .string (⟨#[108, 97, 121, 32, 100, 111, 119, 110, 32, 119, 104, 97, 116, 32, 116, 104, 101, 121, 32, 115, 97, 121]⟩ : ByteArray), .func (.func 76) #[] #[.pointer (some ⟨w.heap.size, 0, none⟩), .pointer (some ⟨w.heap.size + 1, 0, none⟩)], .string (⟨#[109, 97, 107, 101, 32, 115, 117, 114, 101, 32, 111, 102, 32, 116, 104, 97, 116]⟩ : ByteArray), .func (.func 63) #[.pointer (some ⟨a, 0, none⟩)] #[], .string (⟨#[119, 114, 105, 116, 101, 32, 116, 104, 101, 32, 104, 101, 97, 100]⟩ : ByteArray), .func (.func 78) #[] #[.pointer (some ⟨w.heap.size, 0, none⟩), .pointer (some ⟨w.heap.size + 2, 0, none⟩)], .string (⟨#[109, 97, 107, 101, 32, 115, 117, 114, 101, 32, 111, 102, 32, 116, 104, 101, 32, 104, 101, 97, 100]⟩ : ByteArray), .func (.func 63) #[.pointer (some ⟨a, 0, none⟩)] #[]] := by
    rw [hW]
    have := Box.new (((w.alloc (.cells #[.pointer (some ⟨a, 0, none⟩), .int .i64 (fr : Nat), .pointer (some ⟨ra, 0, none⟩), .pointer (some ⟨rr, 0, none⟩)] 65)).alloc (.cells #[.slice A L.length c] 40)).alloc (.cells #[.int .i64 (g : Nat), .int .i64 (q : Nat), .int .i64 (k : Nat)] 69)) 97 #[.string (⟨#[109, 97, 107, 101, 32, 115, 117, 114, 101, 32, 111, 102, 32, 116, 104, 101, 32, 114, 101, 99, 111, 114, 100, 115]⟩ : ByteArray), .func (.func 63) #[.pointer (some ⟨a, 0, none⟩)] #[], .string (⟨#[108, 97, 121, 32, 100, 111, 119, 110, 32, 119, 104, 97, 116, 32, 116, 104, 101, 121, 32, 115, 97, 121]⟩ : ByteArray), .func (.func 76) #[] #[.pointer (some ⟨w.heap.size, 0, none⟩), .pointer (some ⟨w.heap.size + 1, 0, none⟩)], .string (⟨#[109, 97, 107, 101, 32, 115, 117, 114, 101, 32, 111, 102, 32, 116, 104, 97, 116]⟩ : ByteArray), .func (.func 63) #[.pointer (some ⟨a, 0, none⟩)] #[], .string (⟨#[119, 114, 105, 116, 101, 32, 116, 104, 101, 32, 104, 101, 97, 100]⟩ : ByteArray), .func (.func 78) #[] #[.pointer (some ⟨w.heap.size, 0, none⟩), .pointer (some ⟨w.heap.size + 2, 0, none⟩)], .string (⟨#[109, 97, 107, 101, 32, 115, 117, 114, 101, 32, 111, 102, 32, 116, 104, 101, 32, 104, 101, 97, 100]⟩ : ByteArray), .func (.func 63) #[.pointer (some ⟨a, 0, none⟩)] #[]]
    rwa [World.size_alloc, World.size_alloc, World.size_alloc] at this
  obtain ⟨F, hF⟩ : ∃ F : Nat → Prop, F = fun j => (j < w.heap.size ∧ ¬ P j) ∨ (w.heap.size ≤ j ∧ j < W.heap.size) := ⟨_, rfl⟩
  have h0 : At14 w W W a P F d := ⟨by rw [hF]; exact (One.start h).beside (Kept.of_below hb _), Kept.refl _ _⟩
  have f0 : F w.heap.size := by rw [hF]; exact Or.inr ⟨by omega, by omega⟩
  have f1 : F (w.heap.size + 1) := by rw [hF]; exact Or.inr ⟨by omega, by omega⟩
  have f2 : F (w.heap.size + 2) := by rw [hF]; exact Or.inr ⟨by omega, by omega⟩
  have f3 : F (w.heap.size + 3) := by rw [hF]; exact Or.inr ⟨by omega, by omega⟩
  have fra : F ra := by rw [hF]; exact Or.inl ⟨hr.lt, hp⟩
  have hSW : SecF W A L.length x t := hS.below (Nat.le_refl _) hb
  have hrW : Reg W ra a fr mn := hr.beside hb
  have hPA : ∀ ad, A = some ad → F ad.block := by
    intro ad e
    obtain ⟨e2, e3⟩ := hP ad e
    rw [hF]
    exact Or.inl ⟨e2, e3⟩
  obtain ⟨m1, m2, m3, m4, m5, z0, z1, z2, z3, z4, o1, o2, o3, o4, o5, -, -⟩ := hM
  have HO := Lib.hid (inOrder_ok (w.heap.size + 3) 5 5 (by omega) (fun k : Nat => if k = 0 then (⟨#[109, 97, 107, 101, 32, 115, 117, 114, 101, 32, 111, 102, 32, 116, 104, 101, 32, 114, 101, 99, 111, 114, 100, 115]⟩ : ByteArray) else if k = 1 then (⟨#[108, 97, 121, 32, 100, 111, 119, 110, 32, 119, 104, 97, 116, 32, 116, 104, 101, 121, 32, 115, 97, 121]⟩ : ByteArray) else if k = 2 then (⟨#[109, 97, 107, 101, 32, 115, 117, 114, 101, 32, 111, 102, 32, 116, 104, 97, 116]⟩ : ByteArray) else if k = 3 then (⟨#[119, 114, 105, 116, 101, 32, 116, 104, 101, 32, 104, 101, 97, 100]⟩ : ByteArray) else (⟨#[109, 97, 107, 101, 32, 115, 117, 114, 101, 32, 111, 102, 32, 116, 104, 101, 32, 104, 101, 97, 100]⟩ : ByteArray)) (fun k : Nat => if k = 0 then 63 else if k = 1 then 76 else if k = 2 then 63 else if k = 3 then 78 else 63) (fun k : Nat => if k = 0 then #[.pointer (some ⟨a, 0, none⟩)] else if k = 1 then #[] else if k = 2 then #[.pointer (some ⟨a, 0, none⟩)] else if k = 3 then #[] else #[.pointer (some ⟨a, 0, none⟩)]) (fun k : Nat => if k = 0 then #[] else if k = 1 then #[.pointer (some ⟨w.heap.size, 0, none⟩), .pointer (some ⟨w.heap.size + 1, 0, none⟩)] else if k = 2 then #[] else if k = 3 then #[.pointer (some ⟨w.heap.size, 0, none⟩), .pointer (some ⟨w.heap.size + 2, 0, none⟩)] else #[])
    (fun k y => At14 w W y a P F ((fun k : Nat => if k = 0 then d else if k = 1 then d1 else if k = 2 then d2 else if k = 3 then d3 else if k = 4 then d4 else d5) k)) W h0
    (by
      intro k y hk hJ
      have hr := hJ.box hr4 f3
      have hk' : k = 0 ∨ k = 1 ∨ k = 2 ∨ k = 3 ∨ k = 4 := by omega
      rcases hk' with rfl | rfl | rfl | rfl | rfl
      · exact ⟨(hr.cell 0).trans rfl, (hr.cell 1).trans rfl⟩
      · exact ⟨(hr.cell 2).trans rfl, (hr.cell 3).trans rfl⟩
      · exact ⟨(hr.cell 4).trans rfl, (hr.cell 5).trans rfl⟩
      · exact ⟨(hr.cell 6).trans rfl, (hr.cell 7).trans rfl⟩
      · exact ⟨(hr.cell 8).trans rfl, (hr.cell 9).trans rfl⟩
      )
    (by
      intro k y y' hJ hb
      exact hJ.beside hb)
    (by
      intro k hk args y
      have hk' : k = 0 ∨ k = 1 ∨ k = 2 ∨ k = 3 ∨ k = 4 := by omega
      rcases hk' with rfl | rfl | rfl | rfl | rfl
      · exact enters_of Tryz.func63 (by kernel_rfl) rfl args y
      · exact enters_of Tryz.func76 (by kernel_rfl) rfl args y
      · exact enters_of Tryz.func63 (by kernel_rfl) rfl args y
      · exact enters_of Tryz.func78 (by kernel_rfl) rfl args y
      · exact enters_of Tryz.func63 (by kernel_rfl) rfl args y
      )
    (by
      intro k hk y hJ
      have hk' : k = 0 ∨ k = 1 ∨ k = 2 ∨ k = 3 ∨ k = 4 := by omega
      rcases hk' with rfl | rfl | rfl | rfl | rfl
      · exact At14.flush (show At14 w W y a P F d from hJ) z0 m1 (by omega)
      · have hJ' : At14 w W y a P F d1 := hJ
        show Calls Tryz.prog 76 #[.pointer (some ⟨w.heap.size, 0, none⟩), .pointer (some ⟨w.heap.size + 1, 0, none⟩)] y fun e y' => e = .returned (.int .i64 0) ∧ At14 w W y' a P F d2
        rw [← z1, m2]
        exact hJ'.call (fun Q hQ hq => moveOn1_any _ _ A c L hl y hq (hJ'.box b0 f0) (hJ'.box b1 f1) x t (fun i hi => hSW.kept hJ'.kept (fun ad e e' => e' (hPA ad e)) i hi) hx (fun ad e e' => (hQ _ e').2 (hPA ad e)) (by omega))
      · exact At14.flush (show At14 w W y a P F d2 from hJ) z2 m3 (by omega)
      · have hJ' : At14 w W y a P F d3 := hJ
        show Calls Tryz.prog 78 #[.pointer (some ⟨w.heap.size, 0, none⟩), .pointer (some ⟨w.heap.size + 2, 0, none⟩)] y fun e y' => e = .returned (.int .i64 0) ∧ At14 w W y' a P F d4
        rw [← z3, m4]
        exact hJ'.call (fun Q hQ hq => moveOn2_any _ _ g q k hmay y hq (hJ'.box b0 f0) (hJ'.box b2 f2) (hJ'.box hrW fra) (fun e => (hQ _ e).2 fra) hf hmn (by omega))
      · exact At14.flush (show At14 w W y a P F d4 from hJ) z4 m5 (by omega)))
  clear h hr hp hf hmn hS hx hP ho hSW hrW hPA h0 f0 f1 f2 f3 fra b0 b1 b2 hr4 hb hz hF m1 m2 m3 m4 m5 z0 z1 z2 z3 z4 o1 o2 o3 o4 o5 hmay hl
  unfold M.logv
  go_enter Tryz.func39, Tryz.ntmps39
  go_wp2_with fail
  simp only [Nat.add_assoc, Nat.reduceAdd]
  rw [← hW]
  refine HO.out.mono ?_
  rintro e w2 ⟨rfl, hJ⟩
  have HJ : Hid (At14 w W w2 a P F d5) := hJ
  clear hJ HO
  go_wp2_with fail
  refine (cause_nil _).mono ?_
  rintro e w3 ⟨rfl, hb3⟩
  have HR := Lib.hid ((HJ.out.beside hb3).one.out)
  clear hb3 HJ
  go_wp2_with fail
  go_ret
  exact ⟨rfl, HR.out⟩
/-- The steps of Format, in a world that holds them. -/
theorem format_steps (lb sb gb : Nat) (w W : World) {a fr ra rr mn : Nat} {P F : Nat → Prop} {d d1 d2 d3 d4 : M.D} (hF : M.Fm14 d d1 d2 d3 d4 fr mn) (h0 : At14 w W W a P F d) (b0 : LogB W lb a fr ra rr) (b1 : Box W sb 9 #[.string (M.zeros (64 * mn))]) (hrW : Reg W ra a fr mn)
    (hr4 : Box W gb 97 #[.string (⟨#[99, 108, 101, 97, 114, 32, 116, 104, 101, 32, 108, 111, 103]⟩ : ByteArray), .func (.func 61) #[] #[.pointer (some ⟨lb, 0, none⟩), .pointer (some ⟨sb, 0, none⟩)], .string (⟨#[109, 97, 107, 101, 32, 115, 117, 114, 101, 32, 111, 102, 32, 116, 104, 97, 116]⟩ : ByteArray), .func (.func 63) #[.pointer (some ⟨a, 0, none⟩)] #[], .string (⟨#[119, 114, 105, 116, 101, 32, 116, 104, 101, 32, 104, 101, 97, 100]⟩ : ByteArray), .func (.func 64) #[] #[.pointer (some ⟨lb, 0, none⟩)], .string (⟨#[109, 97, 107, 101, 32, 115, 117, 114, 101, 32, 111, 102, 32, 116, 104, 101, 32, 104, 101, 97, 100]⟩ : ByteArray), .func (.func 63) #[.pointer (some ⟨a, 0, none⟩)] #[]]) (f0 : F lb) (f1 : F sb) (f3 : F gb) (fra : F ra) (hf : fr ≤ 1000) (hmn : mn ≤ 1000) (ho : d.ops ≤ 10000000) :
    Calls Tryz.prog 60 #[.slice (some ⟨gb, 0, none⟩) 4 4] W fun e w' => e = .returned .nilIface ∧ At14 w W w' a P F d4 := by
  obtain ⟨m1, m2, m3, m4, z0, z1, z2, z3, o1, o2, o3, o4, -, -, -⟩ := hF
  exact inOrder_ok gb 4 4 (by omega) (fun k : Nat => if k = 0 then (⟨#[99, 108, 101, 97, 114, 32, 116, 104, 101, 32, 108, 111, 103]⟩ : ByteArray) else if k = 1 then (⟨#[109, 97, 107, 101, 32, 115, 117, 114, 101, 32, 111, 102, 32, 116, 104, 97, 116]⟩ : ByteArray) else if k = 2 then (⟨#[119, 114, 105, 116, 101, 32, 116, 104, 101, 32, 104, 101, 97, 100]⟩ : ByteArray) else (⟨#[109, 97, 107, 101, 32, 115, 117, 114, 101, 32, 111, 102, 32, 116, 104, 101, 32, 104, 101, 97, 100]⟩ : ByteArray)) (fun k : Nat => if k = 0 then 61 else if k = 1 then 63 else if k = 2 then 64 else 63) (fun k : Nat => if k = 0 then #[] else if k = 1 then #[.pointer (some ⟨a, 0, none⟩)] else if k = 2 then #[] else #[.pointer (some ⟨a, 0, none⟩)]) (fun k : Nat => if k = 0 then #[.pointer (some ⟨lb, 0, none⟩), .pointer (some ⟨sb, 0, none⟩)] else if k = 1 then #[] else if k = 2 then #[.pointer (some ⟨lb, 0, none⟩)] else #[])
    (fun k y => At14 w W y a P F ((fun k : Nat => if k = 0 then d else if k = 1 then d1 else if k = 2 then d2 else if k = 3 then d3 else d4) k)) W h0
    (by
      intro k y hk hJ
      have hr := hJ.box hr4 f3
      have hk' : k = 0 ∨ k = 1 ∨ k = 2 ∨ k = 3 := by omega
      rcases hk' with rfl | rfl | rfl | rfl
      · exact ⟨(hr.cell 0).trans rfl, (hr.cell 1).trans rfl⟩
      · exact ⟨(hr.cell 2).trans rfl, (hr.cell 3).trans rfl⟩
      · exact ⟨(hr.cell 4).trans rfl, (hr.cell 5).trans rfl⟩
      · exact ⟨(hr.cell 6).trans rfl, (hr.cell 7).trans rfl⟩
      )
    (by
      intro k y y' hJ hb
      exact hJ.beside hb)
    (by
      intro k hk args y
      have hk' : k = 0 ∨ k = 1 ∨ k = 2 ∨ k = 3 := by omega
      rcases hk' with rfl | rfl | rfl | rfl
      · exact enters_of Tryz.func61 (by kernel_rfl) rfl args y
      · exact enters_of Tryz.func63 (by kernel_rfl) rfl args y
      · exact enters_of Tryz.func64 (by kernel_rfl) rfl args y
      · exact enters_of Tryz.func63 (by kernel_rfl) rfl args y
      )
    (by
      intro k hk y hJ
      have hk' : k = 0 ∨ k = 1 ∨ k = 2 ∨ k = 3 := by omega
      rcases hk' with rfl | rfl | rfl | rfl
      · have hJ' : At14 w W y a P F d := hJ
        show Calls Tryz.prog 61 #[.pointer (some ⟨lb, 0, none⟩), .pointer (some ⟨sb, 0, none⟩)] y fun e y' => e = .returned (.int .i64 0) ∧ At14 w W y' a P F d1
        rw [← z0, m1]
        exact hJ'.call (fun Q hQ hq => format1_any _ _ (M.zeros (64 * mn)) y hq (hJ'.box b0 f0) (hJ'.box hrW fra) (fun e => (hQ _ e).2 fra) (hJ'.box b1 f1) (by rw [M.zeros_size]; omega) hf hmn (by omega))
      · exact At14.flush (show At14 w W y a P F d1 from hJ) z1 m2 (by omega)
      · have hJ' : At14 w W y a P F d2 := hJ
        show Calls Tryz.prog 64 #[.pointer (some ⟨lb, 0, none⟩)] y fun e y' => e = .returned (.int .i64 0) ∧ At14 w W y' a P F d3
        rw [← z2, m3]
        exact hJ'.call (fun Q hQ hq => format2_any _ y hq (hJ'.box b0 f0) (hJ'.box hrW fra) (fun e => (hQ _ e).2 fra) hf hmn (by omega))
      · exact At14.flush (show At14 w W y a P F d3 from hJ) z3 m4 (by omega))

theorem zeros14_any (c : Nat) (hc : c ≤ 100000) (w : World) : Calls Tryz.prog 58 #[.string ⟨#[0]⟩, .int .i64 (c : Nat)] w fun e w' => e = .returned (.string (M.zeros c)) ∧ Below w.heap.size w w' := by
  have h := Tryz.strings_Repeat ⟨#[0]⟩ c w (by omega) (by show 1 * c ≤ _; omega)
  rw [M.repeat_zero] at h
  exact h

set_option maxHeartbeats 4000000 in
theorem format_ok (fr mn : Nat) (w : World) {a : Nat} {P : Nat → Prop} {d d1 d2 d3 d4 : M.D} (h : Disk w a P d) (h1 : 24 ≤ mn) (h2 : mn ≤ 200) (hin : fr + mn ≤ d.S.length) (hF : M.Fm14 d d1 d2 d3 d4 fr mn) (ho : d.ops ≤ 10000000) :
    Calls Tryz.prog 30 #[.pointer (some ⟨a, 0, none⟩), .int .i64 (fr : Nat), .int .i64 (mn : Nat)] w fun e w' => e = .returned (.int .i64 0) ∧ Disk w' a (M.plus P w.heap.size) d4 ∧ Kept P w w' := by
  have hS := h.inv.many
  have C1 := Lib.hid (logOn_yes fr mn w h h1 h2 hin)
  unfold M.logv at C1
  have b1 : (mn : Int) ≤ 200 := by omega
  have b2 : (0 : Int) ≤ (mn : Int) := by omega
  have e1 : (mn : Int) * 64 = ((64 * mn : Nat) : Int) := by omega
  obtain ⟨z, hz⟩ : ∃ z, z = 64 * mn := ⟨_, rfl⟩
  rw [← hz] at e1
  have C2 := Lib.hid (fun y => zeros14_any z (by omega) y)
  have HZ : Hid (M.zeros z = M.zeros (64 * mn)) := by rw [hz]; rfl
  have hz9 : (z : Int) ≤ 12800 := by omega
  obtain ⟨s, hs⟩ : ∃ s, s = M.zeros z := ⟨_, rfl⟩
  rw [← hs] at C2 HZ
  have HH := Lib.hid h
  have HFM := Lib.hid hF
  have HBN : Hid (fr ≤ 1000 ∧ mn ≤ 1000 ∧ d.ops ≤ 10000000) := ⟨by omega, by omega, ho⟩
  clear h h1 h2 hin hF ho hS hs hz
  go_enter Tryz.func30, Tryz.ntmps30
  go_wp2_with fail
  refine C1.out.mono ?_
  rintro e w1 ⟨rfl, hr1, hr2, hb1⟩
  have HR1 := Lib.hid hr1
  have HB1 := Lib.hid hb1
  clear hr1 hr2 hb1 C1
  have HL := Lib.hid (LogB.new w1 a fr (w.heap.size + 1) (w.heap.size + 2))
  have HBL := Lib.hid (below1 w1 (.cells #[.pointer (some ⟨a, 0, none⟩), .int .i64 (fr : Nat), .pointer (some ⟨w.heap.size + 1, 0, none⟩), .pointer (some ⟨w.heap.size + 2, 0, none⟩)] 65))
  obtain ⟨W1, hW1⟩ : ∃ x, x = w1.alloc (.cells #[.pointer (some ⟨a, 0, none⟩), .int .i64 (fr : Nat), .pointer (some ⟨w.heap.size + 1, 0, none⟩), .pointer (some ⟨w.heap.size + 2, 0, none⟩)] 65) := ⟨_, rfl⟩
  rw [← hW1] at HL HBL
  have HW1 := Lib.hid hW1
  clear hW1
  go_wp2_with fail
  rw [← HW1.out]
  refine (C2.out _).mono ?_
  rintro e w2 ⟨rfl, hb2⟩
  have HB2 := Lib.hid hb2
  clear hb2
  go_wp2_with fail
  obtain ⟨W3, hW3⟩ : ∃ x, x = (w2.alloc (.cells #[.string s] 9)).alloc (.cells #[.string (⟨#[99, 108, 101, 97, 114, 32, 116, 104, 101, 32, 108, 111, 103]⟩ : ByteArray), .func (.func 61) #[] #[.pointer (some ⟨w1.heap.size, 0, none⟩), .pointer (some ⟨w2.heap.size, 0, none⟩)], .string (⟨#[109, 97, 107, 101, 32, 115, 117, 114, 101, 32, 111, 102, 32, 116, 104, 97, 116]⟩ : ByteArray), .func (.func 63) #[.pointer (some ⟨a, 0, none⟩)] #[], .string (⟨#[119, 114, 105, 116, 101, 32, 116, 104, 101, 32, 104, 101, 97, 100]⟩ : ByteArray), .func (.func 64) #[] #[.pointer (some ⟨w1.heap.size, 0, none⟩)], .string (⟨#[109, 97, 107, 101, 32, 115, 117, 114, 101, 32, 111, 102, 32, 116, 104, 101, 32, 104, 101, 97, 100]⟩ : ByteArray), .func (.func 63) #[.pointer (some ⟨a, 0, none⟩)] #[]] 97) := ⟨_, rfl⟩
  have hb3 : Below w2.heap.size w2 W3 := by rw [hW3]; exact ((Below.refl _ w2).alloc (Nat.le_refl _) _).alloc (by simp) _
  have hbs : Box W3 w2.heap.size 9 #[.string (M.zeros (64 * mn))] := by
    rw [hW3, ← HZ.out]
    exact (Box.new w2 9 #[.string s]).below (below1 _ _) (by simp)
  have hr4 : Box W3 (w2.heap.size + 1) 97 #[.string (⟨#[99, 108, 101, 97, 114, 32, 116, 104, 101, 32, 108, 111, 103]⟩ : ByteArray), .func (.func 61) #[] #[.pointer (some ⟨w1.heap.size, 0, none⟩), .pointer (some ⟨w2.heap.size, 0, none⟩)], .string (⟨#[109, 97, 107, 101, 32, 115, 117, 114, 101, 32, 111, 102, 32, 116, 104, 97, 116]⟩ : ByteArray), .func (.func 63) #[.pointer (some ⟨a, 0, none⟩)] #[], .string (⟨#[119, 114, 105, 116, 101, 32, 116, 104, 101, 32, 104, 101, 97, 100]⟩ : ByteArray), .func (.func 64) #[] #[.pointer (some ⟨w1.heap.size, 0, none⟩)], .string (⟨#[109, 97, 107, 101, 32, 115, 117, 114, 101, 32, 111, 102, 32, 116, 104, 101, 32, 104, 101, 97, 100]⟩ : ByteArray), .func (.func 63) #[.pointer (some ⟨a, 0, none⟩)] #[]] := by
    rw [hW3]
    have := Box.new (w2.alloc (.cells #[.string s] 9)) 97 #[.string (⟨#[99, 108, 101, 97, 114, 32, 116, 104, 101, 32, 108, 111, 103]⟩ : ByteArray), .func (.func 61) #[] #[.pointer (some ⟨w1.heap.size, 0, none⟩), .pointer (some ⟨w2.heap.size, 0, none⟩)], .string (⟨#[109, 97, 107, 101, 32, 115, 117, 114, 101, 32, 111, 102, 32, 116, 104, 97, 116]⟩ : ByteArray), .func (.func 63) #[.pointer (some ⟨a, 0, none⟩)] #[], .string (⟨#[119, 114, 105, 116, 101, 32, 116, 104, 101, 32, 104, 101, 97, 100]⟩ : ByteArray), .func (.func 64) #[] #[.pointer (some ⟨w1.heap.size, 0, none⟩)], .string (⟨#[109, 97, 107, 101, 32, 115, 117, 114, 101, 32, 111, 102, 32, 116, 104, 101, 32, 104, 101, 97, 100]⟩ : ByteArray), .func (.func 63) #[.pointer (some ⟨a, 0, none⟩)] #[]]
    rwa [World.size_alloc] at this
  have hz3 : W3.heap.size = w2.heap.size + 2 := by rw [hW3]; simp
  have s1 := HB1.out.size
  have s2 := HBL.out.size
  have s3 := HB2.out.size
  have hb12 : Below w1.heap.size w1 W3 := HBL.out.trans ((HB2.out.mono s2).trans (hb3.mono (Nat.le_trans s2 s3)))
  have hbw : Below w.heap.size w W3 := HB1.out.trans (hb12.mono s1)
  have hW1L : W3.heap.size = w2.heap.size + 2 := hz3
  have b0 : LogB W3 w1.heap.size a fr (w.heap.size + 1) (w.heap.size + 2) := HL.out.below ((HB2.out.mono (Nat.le_refl _)).trans (hb3.mono s3)) HL.out.lt
  have hrW : Reg W3 (w.heap.size + 1) a fr mn := HR1.out.beside hb12
  obtain ⟨F, hF⟩ : ∃ F : Nat → Prop, F = fun j => (j < w.heap.size ∧ ¬ P j) ∨ (w.heap.size ≤ j ∧ j < W3.heap.size) := ⟨_, rfl⟩
  have h0 : At14 w W3 W3 a P F d := ⟨by rw [hF]; exact (One.start HH.out).beside (Kept.of_below hbw _), Kept.refl _ _⟩
  have hl1 := HL.out.lt
  have C3 := Lib.hid (format_steps w1.heap.size w2.heap.size (w2.heap.size + 1) w W3 HFM.out h0 b0 hbs hrW hr4 (by rw [hF]; exact Or.inr ⟨by omega, by omega⟩) (by rw [hF]; exact Or.inr ⟨by omega, by omega⟩) (by rw [hF]; exact Or.inr ⟨by omega, by omega⟩) (by rw [hF]; exact Or.inr ⟨by omega, by have := HR1.out.lt; omega⟩) HBN.out.1 HBN.out.2.1 HBN.out.2.2)
  clear hb3 hbs hr4 hz3 s1 s2 s3 hb12 hbw hW1L b0 hrW hF h0 hl1 HFM HBN HH HB1 HB2 HL HBL HR1 HZ
  rw [← hW3]
  clear hW3
  refine C3.out.mono ?_
  rintro e w3 ⟨rfl, hJ⟩
  have HJ := Lib.hid hJ
  clear hJ C3
  go_wp2_with fail
  refine (cause_nil _).mono ?_
  rintro e w4 ⟨rfl, hb4⟩
  have HR := Lib.hid ((HJ.out.beside hb4).one.out)
  clear hb4 HJ
  go_wp2_with fail
  go_ret
  exact ⟨rfl, HR.out⟩
end Go.Proofs.YtncbbejmibddcaaGreatDoor
