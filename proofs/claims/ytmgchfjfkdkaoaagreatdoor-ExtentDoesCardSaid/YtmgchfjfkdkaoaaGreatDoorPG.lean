/-
  A walk over wal.putBehind, on any disk. (Written by wip/gen_bsteps.py.)
-/
import Derived.Test.YtmgchfjfkdkaoaaGreatDoorPD
import Derived.Test.YtmgchfjfkdkaoaaGreatDoorNJ
import Derived.Test.YtmgchfjfkdkaoaaGreatDoorMC
namespace Go.Proofs.YtmgchfjfkdkaoaaGreatDoor
open Go.RowKit

/-- What is laid of a record ahead of its first sector. -/
def M.pbO (r : ByteArray) (left : Int) : ByteArray := if 0 < left then r.extract 64 r.size ++ M.zeros 64 else r.extract 64 r.size
/-- The steps by which a record is put behind the others. -/
def M.pbF (fr2 m2 p : Nat) (f o : ByteArray) : List (M.D → Int × M.D) := [fun d => M.lput d fr2 m2 (((p + 1) % m2 : Nat) : Int) o, M.fl14, fun d => M.lput d fr2 m2 (p : Nat) f]
/-- Where putBehind stands. -/
structure PbAt (w x : World) (lb pb fb ob a fr ra rr p : Nat) (f o : ByteArray) : Prop where
  below : Below w.heap.size w x
  log : LogB x lb a fr ra rr
  place : Box x pb 3 #[.int .i64 (p : Nat)]
  first : Box x fb 9 #[.string f]
  oth : Box x ob 9 #[.string o]
  low : w.heap.size ≤ lb ∧ w.heap.size ≤ pb ∧ w.heap.size ≤ fb ∧ w.heap.size ≤ ob
  apart : ob ≠ lb ∧ ob ≠ pb ∧ ob ≠ fb
theorem PbAt.new1 (w : World) (a fr ra rr p : Nat) (f o : ByteArray) : PbAt w ((((w.alloc (.cells #[.pointer (some ⟨a, 0, none⟩), .int .i64 (fr : Nat), .pointer (some ⟨ra, 0, none⟩), .pointer (some ⟨rr, 0, none⟩)] 59)).alloc (.cells #[.int .i64 (p : Nat)] 3)).alloc (.cells #[.string f] 9)).alloc (.cells #[.string o] 9)).drew w.heap.size (w.heap.size + 1) (w.heap.size + 1 + 1) (w.heap.size + 1 + 1 + 1) a fr ra rr p f o := by
  obtain ⟨A, hA⟩ : ∃ x, x = w.alloc (.cells #[.pointer (some ⟨a, 0, none⟩), .int .i64 (fr : Nat), .pointer (some ⟨ra, 0, none⟩), .pointer (some ⟨rr, 0, none⟩)] 59) := ⟨_, rfl⟩
  obtain ⟨B, hB⟩ : ∃ x, x = A.alloc (.cells #[.int .i64 (p : Nat)] 3) := ⟨_, rfl⟩
  obtain ⟨C, hC⟩ : ∃ x, x = B.alloc (.cells #[.string f] 9) := ⟨_, rfl⟩
  obtain ⟨D, hD⟩ : ∃ x, x = C.alloc (.cells #[.string o] 9) := ⟨_, rfl⟩
  rw [← hA, ← hB, ← hC, ← hD]
  have zA : A.heap.size = w.heap.size + 1 := by rw [hA]; simp
  have zB : B.heap.size = w.heap.size + 1 + 1 := by rw [hB, World.size_alloc, zA]
  have zC : C.heap.size = w.heap.size + 1 + 1 + 1 := by rw [hC, World.size_alloc, zB]
  have bA : Below w.heap.size w A := by rw [hA]; exact below1 _ _
  have bB : Below A.heap.size A B := by rw [hB]; exact below1 _ _
  have bC : Below B.heap.size B C := by rw [hC]; exact below1 _ _
  have bD : Below C.heap.size C D := by rw [hD]; exact below1 _ _
  have cD : Below B.heap.size B D.drew := bC.trans ((bD.drew).mono (by omega))
  have dD : Below A.heap.size A D.drew := bB.trans (cD.mono (by omega))
  have hL : LogB A w.heap.size a fr ra rr := by rw [hA]; exact LogB.new _ _ _ _ _
  have hP : Box B (w.heap.size + 1) 3 #[.int .i64 (p : Nat)] := by rw [hB, ← zA]; exact Box.new _ _ _
  have hF : Box C (w.heap.size + 1 + 1) 9 #[.string f] := by rw [hC, ← zB]; exact Box.new _ _ _
  have hO : Box D (w.heap.size + 1 + 1 + 1) 9 #[.string o] := by rw [hD, ← zC]; exact Box.new _ _ _
  exact ⟨bA.trans (dD.mono (by omega)), hL.below dD (by omega), hP.below cD (by omega), hF.below bD.drew (by omega), hO, ⟨by omega, by omega, by omega, by omega⟩, ⟨by omega, by omega, by omega⟩⟩
theorem PbAt.new2 (w : World) (a fr ra rr p : Nat) (f o : ByteArray) : PbAt w ((((w.alloc (.cells #[.pointer (some ⟨a, 0, none⟩), .int .i64 (fr : Nat), .pointer (some ⟨ra, 0, none⟩), .pointer (some ⟨rr, 0, none⟩)] 59)).alloc (.cells #[.int .i64 (p : Nat)] 3)).alloc (.cells #[.string o] 9)).alloc (.cells #[.string f] 9)).drew w.heap.size (w.heap.size + 1) (w.heap.size + 1 + 1 + 1) (w.heap.size + 1 + 1) a fr ra rr p f o := by
  have h := PbAt.new1 w a fr ra rr p o f
  exact ⟨h.below, h.log, h.place, h.oth, h.first, ⟨h.low.1, h.low.2.1, h.low.2.2.2, h.low.2.2.1⟩, ⟨by omega, by omega, by omega⟩⟩
theorem PbAt.beside {w x y : World} {lb pb fb ob a fr ra rr p : Nat} {f o : ByteArray} (h : PbAt w x lb pb fb ob a fr ra rr p f o) (hb : Below x.heap.size x y) : PbAt w y lb pb fb ob a fr ra rr p f o :=
  ⟨h.below.trans (hb.mono h.below.size), h.log.below hb h.log.lt, h.place.below hb h.place.lt, h.first.below hb h.first.lt, h.oth.below hb h.oth.lt, h.low, h.apart⟩
theorem PbAt.set {w x : World} {lb pb fb ob a fr ra rr p : Nat} {f o : ByteArray} (h : PbAt w x lb pb fb ob a fr ra rr p f o) (o' : ByteArray) : PbAt w (x.setCell ⟨ob, 0, none⟩ (.string o')) lb pb fb ob a fr ra rr p f o' := by
  have hk : Kept (fun j => j = ob) x (x.setCell ⟨ob, 0, none⟩ (.string o')) := (Kept.refl (fun j => j = ob) x).set (fun _ => rfl) 0 _
  exact ⟨h.below.setCell h.low.2.2.2 _, hk.box h.log (fun e => h.apart.1 e.symm), hk.box h.place (fun e => h.apart.2.1 e.symm), hk.box h.first (fun e => h.apart.2.2 e.symm), h.oth.set 0 _, h.low, h.apart⟩
theorem PbAt.cells {w x : World} {lb pb fb ob a fr ra rr p : Nat} {f o : ByteArray} (h : PbAt w x lb pb fb ob a fr ra rr p f o) : x.cell? ⟨ob, 0, none⟩ = some (.string o) ∧ x.frozen? ⟨ob, 0, none⟩ = false := ⟨(h.oth.cell 0).trans rfl, h.oth.frozen 0⟩

theorem putBehind_order (w x : World) {lb pb fb ob a fr ra rr p m2 : Nat} {f o : ByteArray} (hx : PbAt w x lb pb fb ob a fr ra rr p f o) {P : Nat → Prop} {d : M.D} (h : Disk w a P d) (hr : Reg w rr a (fr + 2) m2) (hp : ¬ P rr) (hm0 : 0 < m2) (hp9 : p ≤ 1000) (hf9 : f.size ≤ 64000) (ho9 : o.size ≤ 64000) (hf : fr + 2 ≤ 1000) (hmn : m2 ≤ 1000) (hops : d.ops ≤ 20000000)
    {R : Int × M.D} (hR : M.steps14 (M.pbF (fr + 2) m2 p f o) d = R) (hET : R.1 ≠ 0 → ErrT w ∧ ¬ P 1) :
    Calls Tryz.prog 49 #[.slice (some ⟨x.heap.size, 0, none⟩) 3 3] (x.alloc (.cells #[.string (⟨#[108, 97, 121, 32, 116, 104, 101, 32, 114, 101, 99, 111, 114, 100, 39, 115, 32, 111, 116, 104, 101, 114, 32, 115, 101, 99, 116, 111, 114, 115]⟩ : ByteArray), .func (.func 132) #[] #[.pointer (some ⟨lb, 0, none⟩), .pointer (some ⟨pb, 0, none⟩), .pointer (some ⟨ob, 0, none⟩)], .string (⟨#[109, 97, 107, 101, 32, 115, 117, 114, 101, 32, 111, 102, 32, 116, 104, 101, 109]⟩ : ByteArray), .func (.func 28) #[.pointer (some ⟨a, 0, none⟩)] #[], .string (⟨#[108, 97, 121, 32, 105, 116, 115, 32, 102, 105, 114, 115, 116, 32, 111, 110, 101]⟩ : ByteArray), .func (.func 134) #[] #[.pointer (some ⟨lb, 0, none⟩), .pointer (some ⟨pb, 0, none⟩), .pointer (some ⟨fb, 0, none⟩)]] 82)) fun e w' => ∃ v, e = .returned v ∧ Hid (Calls Tryz.prog 48 #[v] w' fun e w3 => e = .returned (.int .i64 R.1) ∧ Hid (Disk w3 a (M.plus P w.heap.size) R.2 ∧ Kept P w w3)) := by
  obtain ⟨W, hW⟩ : ∃ X, X = x.alloc (.cells #[.string (⟨#[108, 97, 121, 32, 116, 104, 101, 32, 114, 101, 99, 111, 114, 100, 39, 115, 32, 111, 116, 104, 101, 114, 32, 115, 101, 99, 116, 111, 114, 115]⟩ : ByteArray), .func (.func 132) #[] #[.pointer (some ⟨lb, 0, none⟩), .pointer (some ⟨pb, 0, none⟩), .pointer (some ⟨ob, 0, none⟩)], .string (⟨#[109, 97, 107, 101, 32, 115, 117, 114, 101, 32, 111, 102, 32, 116, 104, 101, 109]⟩ : ByteArray), .func (.func 28) #[.pointer (some ⟨a, 0, none⟩)] #[], .string (⟨#[108, 97, 121, 32, 105, 116, 115, 32, 102, 105, 114, 115, 116, 32, 111, 110, 101]⟩ : ByteArray), .func (.func 134) #[] #[.pointer (some ⟨lb, 0, none⟩), .pointer (some ⟨pb, 0, none⟩), .pointer (some ⟨fb, 0, none⟩)]] 82) := ⟨_, rfl⟩
  have hbx : Below x.heap.size x W := by rw [hW]; exact below1 _ _
  have hB : Box W x.heap.size 82 #[.string (⟨#[108, 97, 121, 32, 116, 104, 101, 32, 114, 101, 99, 111, 114, 100, 39, 115, 32, 111, 116, 104, 101, 114, 32, 115, 101, 99, 116, 111, 114, 115]⟩ : ByteArray), .func (.func 132) #[] #[.pointer (some ⟨lb, 0, none⟩), .pointer (some ⟨pb, 0, none⟩), .pointer (some ⟨ob, 0, none⟩)], .string (⟨#[109, 97, 107, 101, 32, 115, 117, 114, 101, 32, 111, 102, 32, 116, 104, 101, 109]⟩ : ByteArray), .func (.func 28) #[.pointer (some ⟨a, 0, none⟩)] #[], .string (⟨#[108, 97, 121, 32, 105, 116, 115, 32, 102, 105, 114, 115, 116, 32, 111, 110, 101]⟩ : ByteArray), .func (.func 134) #[] #[.pointer (some ⟨lb, 0, none⟩), .pointer (some ⟨pb, 0, none⟩), .pointer (some ⟨fb, 0, none⟩)]] := by rw [hW]; exact Box.new _ _ _
  have hb : Below w.heap.size w W := hx.below.trans (hbx.mono hx.below.size)
  have hs := hx.below.size
  obtain ⟨z1, z2, z3, z4⟩ := hx.low
  have fl : FF P w W lb := FF.new z1 (Nat.lt_of_lt_of_le hx.log.lt hbx.size)
  have fp : FF P w W pb := FF.new z2 (Nat.lt_of_lt_of_le hx.place.lt hbx.size)
  have ff : FF P w W fb := FF.new z3 (Nat.lt_of_lt_of_le hx.first.lt hbx.size)
  have fo : FF P w W ob := FF.new z4 (Nat.lt_of_lt_of_le hx.oth.lt hbx.size)
  have fr1 : FF P w W rr := FF.old hr.lt hp
  have m0 := hx.log.below hbx hx.log.lt
  have m1 := hx.place.below hbx hx.place.lt
  have m2' := hx.first.below hbx hx.first.lt
  have m3 := hx.oth.below hbx hx.oth.lt
  have mr : Reg W rr a (fr + 2) m2 := hr.beside hb
  rw [← hW]
  exact order_cause [⟨(⟨#[108, 97, 121, 32, 116, 104, 101, 32, 114, 101, 99, 111, 114, 100, 39, 115, 32, 111, 116, 104, 101, 114, 32, 115, 101, 99, 116, 111, 114, 115]⟩ : ByteArray), 132, #[], #[.pointer (some ⟨lb, 0, none⟩), .pointer (some ⟨pb, 0, none⟩), .pointer (some ⟨ob, 0, none⟩)], fun d => M.lput d (fr + 2) m2 (((p + 1) % m2 : Nat) : Int) o⟩, ⟨(⟨#[109, 97, 107, 101, 32, 115, 117, 114, 101, 32, 111, 102, 32, 116, 104, 101, 109]⟩ : ByteArray), 28, #[.pointer (some ⟨a, 0, none⟩)], #[], M.fl14⟩, ⟨(⟨#[108, 97, 121, 32, 105, 116, 115, 32, 102, 105, 114, 115, 116, 32, 111, 110, 101]⟩ : ByteArray), 134, #[], #[.pointer (some ⟨lb, 0, none⟩), .pointer (some ⟨pb, 0, none⟩), .pointer (some ⟨fb, 0, none⟩)], fun d => M.lput d (fr + 2) m2 (p : Nat) f⟩] (by simp) x.heap.size 3 h hb
    (by
      intro k s hs
      have hk : k = 0 ∨ k = 1 ∨ k = 2 := by have := (List.getElem?_eq_some_iff.1 hs).1; simp only [List.length_cons, List.length_nil] at this; omega
      rcases hk with rfl | rfl | rfl <;> (simp at hs; subst hs; exact ⟨(hB.cell _).trans rfl, (hB.cell _).trans rfl⟩))
    (FF.new hs hB.lt)
    (by
      intro s hs args y
      simp only [List.mem_cons, List.not_mem_nil, or_false] at hs
      rcases hs with rfl | rfl | rfl
      · exact enters_of Tryz.func132 (by kernel_rfl) rfl args y
      · exact enters_of Tryz.func28 (by kernel_rfl) rfl args y
      · exact enters_of Tryz.func134 (by kernel_rfl) rfl args y
      )
    (by
      intro s hs dk
      simp only [List.mem_cons, List.not_mem_nil, or_false] at hs
      rcases hs with rfl | rfl | rfl
      · exact M.lput_ops15 _ _ _ _ ho9 dk
      · exact M.fl14_ops dk
      · exact M.lput_ops15 _ _ _ _ hf9 dk
      )
    (by
      intro s hs 
      simp only [List.mem_cons, List.not_mem_nil, or_false] at hs
      rcases hs with rfl | rfl | rfl
      · intro dk hdk y' Q hkq hQ hq
        exact put1_any lb pb ob p o y' hq (FF.box hkq m0 fl) (fun e => (hQ _ e).2 fl) (FF.box hkq m1 fp) (fun e => (hQ _ e).2 fp) (FF.box hkq m3 fo) (fun e => (hQ _ e).2 fo) (FF.box hkq mr fr1) (fun e => (hQ _ e).2 fr1) hm0 hp9 (by omega) hf hmn (by omega)
      · intro dk hdk y' Q _ _ hq
        exact flush_stp y' hq (by omega)
      · intro dk hdk y' Q hkq hQ hq
        exact put2_any lb pb fb p f y' hq (FF.box hkq m0 fl) (FF.box hkq m1 fp) (FF.box hkq m2' ff) (FF.box hkq mr fr1) (fun e => (hQ _ e).2 fr1) hp9 (by omega) hf hmn (by omega)
      ) hR hET

set_option maxHeartbeats 4000000 in
theorem putBehind_any (p : Nat) (r : ByteArray) (left : Int) (w : World) {a fr ra rr m2 : Nat} {P : Nat → Prop} {d : M.D} (h : Disk w a P d) (hr : Reg w rr a (fr + 2) m2) (hp : ¬ P rr) (hm0 : 0 < m2) (hp9 : p ≤ 1000) (hr64 : 64 ≤ r.size) (hrs : r.size ≤ 60000) (hf : fr + 2 ≤ 1000) (hmn : m2 ≤ 1000) (ho : d.ops ≤ 20000000)
    {R : Int × M.D} (hR : M.steps14 (M.pbF (fr + 2) m2 p (r.extract 0 64) (M.pbO r left)) d = R) (hET : R.1 ≠ 0 → ErrT w ∧ ¬ P 1) :
    Calls Tryz.prog 96 #[M.logv a fr ra rr, .int .i64 (p : Nat), .string r, .int .i64 left] w fun e w' => e = .returned (.int .i64 R.1) ∧ Disk w' a (M.plus P w.heap.size) R.2 ∧ Kept P w w' := by
  have CB := Lib.hid (fun y => blank1_any y)
  have hrs' : (r.size : Int) ≤ 60000 := by omega
  have hr64' : (64 : Int) ≤ (r.size : Int) := by omega
  have hfs : (r.extract 0 64).size ≤ 64000 := by rw [ByteArray.size_extract]; omega
  have hos : (r.extract 64 r.size).size ≤ 60000 := by rw [ByteArray.size_extract]; omega
  have hos2 : (M.pbO r left).size ≤ 64000 := by
    unfold M.pbO
    split
    · rw [ByteArray.size_append, M.zeros_size]; omega
    · omega
  have CO : Hid (∀ x lb pb fb ob, PbAt w x lb pb fb ob a fr ra rr p (r.extract 0 64) (M.pbO r left) → Calls Tryz.prog 49 #[.slice (some ⟨x.heap.size, 0, none⟩) 3 3] (x.alloc (.cells #[.string (⟨#[108, 97, 121, 32, 116, 104, 101, 32, 114, 101, 99, 111, 114, 100, 39, 115, 32, 111, 116, 104, 101, 114, 32, 115, 101, 99, 116, 111, 114, 115]⟩ : ByteArray), .func (.func 132) #[] #[.pointer (some ⟨lb, 0, none⟩), .pointer (some ⟨pb, 0, none⟩), .pointer (some ⟨ob, 0, none⟩)], .string (⟨#[109, 97, 107, 101, 32, 115, 117, 114, 101, 32, 111, 102, 32, 116, 104, 101, 109]⟩ : ByteArray), .func (.func 28) #[.pointer (some ⟨a, 0, none⟩)] #[], .string (⟨#[108, 97, 121, 32, 105, 116, 115, 32, 102, 105, 114, 115, 116, 32, 111, 110, 101]⟩ : ByteArray), .func (.func 134) #[] #[.pointer (some ⟨lb, 0, none⟩), .pointer (some ⟨pb, 0, none⟩), .pointer (some ⟨fb, 0, none⟩)]] 82)) fun e w' => ∃ v, e = .returned v ∧ Hid (Calls Tryz.prog 48 #[v] w' fun e w3 => e = .returned (.int .i64 R.1) ∧ Hid (Disk w3 a (M.plus P w.heap.size) R.2 ∧ Kept P w w3))) :=
    fun x lb pb fb ob hx => putBehind_order w x hx h hr hp hm0 hp9 hfs hos2 hf hmn ho hR hET
  have q1 := add_is (r.extract 64 r.size) (M.zeros 64) (by rw [M.zeros_size]; omega)
  obtain ⟨fs, hfs1⟩ : ∃ x, x = r.extract 0 64 := ⟨_, rfl⟩
  obtain ⟨os, hos1⟩ : ∃ x, x = r.extract 64 r.size := ⟨_, rfl⟩
  have N1 := Lib.hid (PbAt.new1 w a fr ra rr p (r.extract 0 64) (r.extract 64 r.size))
  have N2 := Lib.hid (PbAt.new2 w a fr ra rr p (r.extract 0 64) (r.extract 64 r.size))
  obtain ⟨zz, hzz⟩ : ∃ x, x = M.zeros 64 := ⟨_, rfl⟩
  obtain ⟨op, hop⟩ : ∃ x, x = M.pbO r left := ⟨_, rfl⟩
  rw [← hzz] at CB
  have HOP : Hid (op = if 0 < left then os ++ zz else os) := by show op = _; rw [hop, hos1, hzz]; rfl
  rw [← hfs1, ← hop] at CO
  rw [← hos1, ← hzz] at q1
  have HFS : Hid (fs = r.extract 0 64 ∧ os = r.extract 64 r.size) := ⟨hfs1, hos1⟩
  clear h hr hp hm0 hp9 hf hmn ho hR hET hfs hos hos2 hzz hop hfs1 hos1 hrs
  unfold M.logv
  go_enter Tryz.func96, Tryz.ntmps96
  go_wp2_with fail
  go_cut [9, 10] from 11 to 14 (fun c9 c10 wx => ∃ fb ob, c9 = .pointer (some ⟨fb, 0, none⟩) ∧ c10 = .pointer (some ⟨ob, 0, none⟩) ∧ Hid (PbAt w wx w.heap.size (w.heap.size + 1) fb ob a fr ra rr p fs os))
  case first =>
    go_region
    · go_wp2_with fail
      go_meet
      case rel => exact ⟨_, _, rfl, rfl, by rw [HFS.out.1, HFS.out.2]; exact N1⟩
    · go_wp2_with fail
      go_meet
      case rel => exact ⟨_, _, rfl, rfl, by rw [HFS.out.1, HFS.out.2]; exact N2⟩
  case rest =>
    obtain ⟨fb, ob, rfl, rfl, HX⟩ := hcut
    clear N1 N2 HFS hr64 hrs' hr64'
    by_cases hl : 0 < left
    · have e1 : op = os ++ zz := by rw [HOP.out, if_pos hl]
      subst e1
      clear HOP
      go_upto_region 3 with fail
      go_cut [] from 17 to 19 (fun wx => Hid (PbAt w wx w.heap.size (w.heap.size + 1) fb ob a fr ra rr p fs (os ++ zz)))
      case first =>
        have HXD : Hid (Below wc.heap.size wc (wc.drewN 1)) := below_drewN (Below.refl _ _) 1
        obtain ⟨y0, y1⟩ := HX.out.cells
        go_region_with (first
          | (go_at_call 54
             refine (CB.out _).mono ?_
             rintro e w1 ⟨rfl, hb1⟩
             have hX1 := (HX.out.beside HXD.out).beside hb1
             obtain ⟨z0, z1⟩ := hX1.cells
             have HX2 := Lib.hid (hX1.set (os ++ zz))
             clear hb1 hX1))
        all_goals
          go_wp2_with fail
          go_meet
          case rel => exact HX2
      case rest =>
        have HC3 := Lib.hid (CO.out wc _ _ _ _ hcut.out)
        obtain ⟨x0, x1, x2, x3⟩ := hcut.out.log.cells
        clear hcut HX CO CB q1
        go_wp2_with fail
        refine HC3.out.mono ?_
        rintro e w3 ⟨v, rfl, hc⟩
        clear HC3 x0 x1 x2 x3
        go_wp2_with fail
        refine hc.out.mono ?_
        rintro e w4 ⟨rfl, hr4⟩
        clear hc
        go_wp2_with fail
        go_ret
        exact ⟨rfl, hr4.out⟩
    · have e1 : op = os := by rw [HOP.out, if_neg hl]
      subst e1
      have HC3 := Lib.hid (CO.out wc _ _ _ _ HX.out)
      obtain ⟨x0, x1, x2, x3⟩ := HX.out.log.cells
      have hl2 : left ≤ 0 := by omega
      clear HX CO CB q1 HOP hl
      go_wp2_with fail
      refine HC3.out.mono ?_
      rintro e w3 ⟨v, rfl, hc⟩
      clear HC3 x0 x1 x2 x3
      go_wp2_with fail
      refine hc.out.mono ?_
      rintro e w4 ⟨rfl, hr4⟩
      clear hc
      go_wp2_with fail
      go_ret
      exact ⟨rfl, hr4.out⟩
end Go.Proofs.YtmgchfjfkdkaoaaGreatDoor
