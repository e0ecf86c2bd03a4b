/-
  Walks over wal.moveOn on any disk: with no step more, and with one. (Written by wip/gen_bsteps.py.)
-/
import Derived.Test.YtmgchfjfkdkaoaaGreatDoorPD
import Derived.Test.YtmgchfjfkdkaoaaGreatDoorMI
import Derived.Laws.AppendOwnNone
import Derived.Deep.AppendLies
namespace Go.Proofs.YtmgchfjfkdkaoaaGreatDoor
open Go.RowKit

theorem infoStep14 : (Tryz.prog.info? 82).map (fun i => (i.zero, i.size, i.bytes)) = some (some (.agg #[.string ⟨#[]⟩, .nilFunc]), 2, 24) := by kernel_rfl
theorem addr_add14 (b j : Nat) : (⟨b, 0, none⟩ : Addr).add j = ⟨b, j, none⟩ := by
  unfold Addr.add
  split
  · rename_i h; rw [h]
  · simp
/-- A row that is written out. -/
theorem owns_lit14 (w : World) (base : Nat) (hb : base ≤ w.heap.size) (t : TypeId) (xs : List Value) (n : Nat) (h : xs.length = n * 2) (hn : n ≤ 100) : (w.alloc (.cells xs.toArray t)).ownsRow base t 2 (.slice (some ⟨w.heap.size, 0, none⟩) n n) n xs :=
  ⟨h, Or.inr ⟨w.heap.size, n, xs.toArray, rfl, hb, heap_alloc_new w _, Nat.le_refl _, by unfold maxLen; omega, by simp [h], by simp [← h]⟩⟩
theorem cells_new14 (w : World) (t : TypeId) (xs : List Value) : ∀ j u, xs[j]? = some u → (w.alloc (.cells xs.toArray t)).cell? ((⟨w.heap.size, 0, none⟩ : Addr).add j) = some u := by
  intro j u hj
  have := (Box.new w t xs.toArray).cell j
  simp only [List.getElem?_toArray] at this
  rw [addr_add14, this]
  exact hj
theorem own_cell14 {w : World} {base g n c : Nat} {t : TypeId} {z : Nat} {xs : List Value} (h : w.ownsRow base t z (.slice (some ⟨g, 0, none⟩) n c) n xs) (j : Nat) (u : Value) (hu : xs[j]? = some u) : w.cell? ⟨g, j, none⟩ = some u := by
  have := h.cells (g := g) rfl j u hu
  rwa [addr_add14] at this
/-- Where moveOn stands: its boxes, and the row of steps. -/
structure MvAt (w x : World) (lb sb hb gr n cr a fr ra rr g q k : Nat) (A : Option Addr) (ln c : Nat) (vals : List Value) : Prop where
  below : Below w.heap.size w x
  log : LogB x lb a fr ra rr
  secs : Box x sb 66 #[.slice A ln c]
  head : B3 x hb 73 (g : Nat) (q : Nat) (k : Nat)
  own : x.ownsRow w.heap.size 82 2 (.slice (some ⟨gr, 0, none⟩) n cr) n vals
  low : w.heap.size ≤ lb ∧ w.heap.size ≤ sb ∧ w.heap.size ≤ hb
  apart : lb ≠ gr ∧ sb ≠ gr ∧ hb ≠ gr
section
variable {w x B x' : World} {lb sb hb gr n cr a fr ra rr g q k ln c : Nat} {A : Option Addr} {vals : List Value}
theorem MvAt.grow (h : MvAt w x lb sb hb gr n cr a fr ra rr g q k A ln c vals) (hB : Below x.heap.size x B) {g' n' c' : Nat} {vals' : List Value} (hg : B.grownBy x' (some gr)) (hat : some gr = some g' ∨ g' = B.heap.size)
    (ho : x'.ownsRow w.heap.size 82 2 (.slice (some ⟨g', 0, none⟩) n' c') n' vals') : MvAt w x' lb sb hb g' n' c' a fr ra rr g q k A ln c vals' := by
  have hk : Kept (fun j => j = gr) x x' := (Kept.of_below hB _).grown hg (fun j e _ => by injection e with e; exact e.symm)
  have hbB := h.below.trans (hB.mono h.below.size)
  have hgr := (h.own.lt gr rfl).1
  have z1 := h.log.lt
  have z2 := h.secs.lt
  have z3 := h.head.lt
  have z4 := hB.size
  refine ⟨Below.grown hbB hg hbB.size (fun j e => by injection e with e; omega), hk.box h.log h.apart.1, hk.box h.secs h.apart.2.1, hk.box h.head h.apart.2.2, ho, h.low, ?_⟩
  rcases hat with e | e
  · injection e with e
    rw [← e]
    exact h.apart
  · exact ⟨by omega, by omega, by omega⟩
end
theorem MvAt.new (w : World) (a fr ra rr g q k : Nat) (A : Option Addr) (ln c : Nat) (xs : List Value) (n : Nat) (h : xs.length = n * 2) (hn : n ≤ 100) :
    MvAt w ((((w.alloc (.cells #[.pointer (some ⟨a, 0, none⟩), .int .i64 (fr : Nat), .pointer (some ⟨ra, 0, none⟩), .pointer (some ⟨rr, 0, none⟩)] 59)).alloc (.cells #[.slice A ln c] 66)).alloc (.cells #[.int .i64 (g : Nat), .int .i64 (q : Nat), .int .i64 (k : Nat)] 73)).alloc (.cells xs.toArray 82)) w.heap.size (w.heap.size + 1) (w.heap.size + 1 + 1) (w.heap.size + 1 + 1 + 1) n n a fr ra rr g q k A ln c xs := by
  obtain ⟨X, hX⟩ : ∃ x, x = w.alloc (.cells #[.pointer (some ⟨a, 0, none⟩), .int .i64 (fr : Nat), .pointer (some ⟨ra, 0, none⟩), .pointer (some ⟨rr, 0, none⟩)] 59) := ⟨_, rfl⟩
  obtain ⟨Y, hY⟩ : ∃ x, x = X.alloc (.cells #[.slice A ln c] 66) := ⟨_, rfl⟩
  obtain ⟨Z, hZ⟩ : ∃ x, x = Y.alloc (.cells #[.int .i64 (g : Nat), .int .i64 (q : Nat), .int .i64 (k : Nat)] 73) := ⟨_, rfl⟩
  rw [← hX, ← hY, ← hZ]
  have zX : X.heap.size = w.heap.size + 1 := by rw [hX]; simp
  have zY : Y.heap.size = w.heap.size + 1 + 1 := by rw [hY, World.size_alloc, zX]
  have zZ : Z.heap.size = w.heap.size + 1 + 1 + 1 := by rw [hZ, World.size_alloc, zY]
  have bX : Below w.heap.size w X := by rw [hX]; exact below1 _ _
  have bY : Below X.heap.size X Y := by rw [hY]; exact below1 _ _
  have bZ : Below Y.heap.size Y Z := by rw [hZ]; exact below1 _ _
  have bV : Below Z.heap.size Z (Z.alloc (.cells xs.toArray 82)) := below1 _ _
  have cV := bZ.trans (bV.mono (by omega))
  have dV := bY.trans (cV.mono (by omega))
  have hL : LogB X w.heap.size a fr ra rr := by rw [hX]; exact LogB.new _ _ _ _ _
  have hS : Box Y (w.heap.size + 1) 66 #[.slice A ln c] := by rw [hY, ← zX]; exact Box.new _ _ _
  have hH : B3 Z (w.heap.size + 1 + 1) 73 (g : Nat) (q : Nat) (k : Nat) := by rw [hZ, ← zY]; exact B3.new _ _ _ _ _
  have ho := owns_lit14 Z w.heap.size (by omega) 82 xs n h hn
  rw [zZ] at ho
  exact ⟨bX.trans (dV.mono (by omega)), hL.below dV (by omega), hS.below cV (by omega), hH.below bV (by omega), ho, ⟨by omega, by omega, by omega⟩, ⟨by omega, by omega, by omega⟩⟩
/-- The steps by which a log is moved on. -/
def M.mvF (L : List (Nat × ByteArray)) (fr mn g q k : Nat) : List (M.D → Int × M.D) := [M.fl14, M.wr L, M.fl14, fun d => M.headW d fr mn g q k, M.fl14]
/-- The same with one step more. -/
def M.mvR (RF : M.D → Int × M.D) (L : List (Nat × ByteArray)) (fr mn g q k : Nat) : List (M.D → Int × M.D) := [M.fl14, M.wr L, M.fl14, RF, fun d => M.headW d fr mn g q k, M.fl14]
set_option maxRecDepth 100000 in
set_option maxHeartbeats 4000000 in
theorem moveOn_order (g q k : Nat) (hmay : M.hmay ⟨(g : Nat), (q : Nat), (k : Nat)⟩ = true) (A : Option Addr) (c : Nat) (L : List (Nat × ByteArray)) (hl : L.length ≤ 1000) (w : World) {a fr ra rr mn : Nat} {P : Nat → Prop} {d : M.D} (h : Disk w a P d) (hm2 : 2 ≤ mn)
    (hr : Reg w ra a fr mn) (hp : ¬ P ra) (hf : fr ≤ 1000) (hmn : mn ≤ 1000) (x : Nat → Int) (t : Nat → ByteArray) (hS : SecF w A L.length x t) (hxt : ∀ k p, L[k]? = some p → x k = (p.1 : Nat) ∧ t k = p.2) (hA : ∀ ad, A = some ad → ad.block < w.heap.size ∧ ¬ P ad.block)
    (ho : d.ops ≤ 10000000) {W : World} {lb sb hb gr cr : Nat} (hx : MvAt w W lb sb hb gr 5 cr a fr ra rr g q k A L.length c ([.string (⟨#[109, 97, 107, 101, 32, 115, 117, 114, 101, 32, 111, 102, 32, 116, 104, 101, 32, 114, 101, 99, 111, 114, 100, 115]⟩ : ByteArray), .func (.func 28) #[.pointer (some ⟨a, 0, none⟩)] #[], .string (⟨#[108, 97, 121, 32, 100, 111, 119, 110, 32, 119, 104, 97, 116, 32, 116, 104, 101, 121, 32, 115, 97, 121]⟩ : ByteArray), .func (.func 78) #[] #[.pointer (some ⟨lb, 0, none⟩), .pointer (some ⟨sb, 0, none⟩)], .string (⟨#[109, 97, 107, 101, 32, 115, 117, 114, 101, 32, 111, 102, 32, 116, 104, 97, 116]⟩ : ByteArray), .func (.func 28) #[.pointer (some ⟨a, 0, none⟩)] #[]] ++ [.string (⟨#[119, 114, 105, 116, 101, 32, 116, 104, 101, 32, 104, 101, 97, 100]⟩ : ByteArray), .func (.func 80) #[] #[.pointer (some ⟨lb, 0, none⟩), .pointer (some ⟨hb, 0, none⟩)], .string (⟨#[109, 97, 107, 101, 32, 115, 117, 114, 101, 32, 111, 102, 32, 116, 104, 101, 32, 104, 101, 97, 100]⟩ : ByteArray), .func (.func 28) #[.pointer (some ⟨a, 0, none⟩)] #[]])) {R : Int × M.D} (hR : M.steps14 (M.mvF L fr mn g q k) d = R) (hET : R.1 ≠ 0 → ErrT w ∧ ¬ P 1) :
    Calls Tryz.prog 49 #[.slice (some ⟨gr, 0, none⟩) 5 cr] W fun e w' => ∃ v, e = .returned v ∧ Hid (Calls Tryz.prog 48 #[v] w' fun e w3 => e = .returned (.int .i64 R.1) ∧ Hid (Disk w3 a (M.plus P w.heap.size) R.2 ∧ Kept P w w3)) := by
  obtain ⟨z1, z2, z3⟩ := hx.low
  have fl : FF P w W lb := FF.new z1 hx.log.lt
  have fs : FF P w W sb := FF.new z2 hx.secs.lt
  have fh : FF P w W hb := FF.new z3 hx.head.lt
  have fr1 : FF P w W ra := FF.old hr.lt hp
  have fA : ∀ ad, A = some ad → FF P w W ad.block := fun ad e => FF.old (hA ad e).1 (hA ad e).2
  have hg := hx.own.lt gr rfl
  exact order_cause [⟨(⟨#[109, 97, 107, 101, 32, 115, 117, 114, 101, 32, 111, 102, 32, 116, 104, 101, 32, 114, 101, 99, 111, 114, 100, 115]⟩ : ByteArray), 28, #[.pointer (some ⟨a, 0, none⟩)], #[], M.fl14⟩, ⟨(⟨#[108, 97, 121, 32, 100, 111, 119, 110, 32, 119, 104, 97, 116, 32, 116, 104, 101, 121, 32, 115, 97, 121]⟩ : ByteArray), 78, #[], #[.pointer (some ⟨lb, 0, none⟩), .pointer (some ⟨sb, 0, none⟩)], M.wr L⟩, ⟨(⟨#[109, 97, 107, 101, 32, 115, 117, 114, 101, 32, 111, 102, 32, 116, 104, 97, 116]⟩ : ByteArray), 28, #[.pointer (some ⟨a, 0, none⟩)], #[], M.fl14⟩, ⟨(⟨#[119, 114, 105, 116, 101, 32, 116, 104, 101, 32, 104, 101, 97, 100]⟩ : ByteArray), 80, #[], #[.pointer (some ⟨lb, 0, none⟩), .pointer (some ⟨hb, 0, none⟩)], fun d => M.headW d fr mn g q k⟩, ⟨(⟨#[109, 97, 107, 101, 32, 115, 117, 114, 101, 32, 111, 102, 32, 116, 104, 101, 32, 104, 101, 97, 100]⟩ : ByteArray), 28, #[.pointer (some ⟨a, 0, none⟩)], #[], M.fl14⟩] (by simp) gr cr h hx.below
    (by
      intro k s hs
      have hk : k = 0 ∨ k = 1 ∨ k = 2 ∨ k = 3 ∨ k = 4 := by have := (List.getElem?_eq_some_iff.1 hs).1; simp only [List.length_cons, List.length_nil] at this; omega
      rcases hk with rfl | rfl | rfl | rfl | rfl <;> (simp at hs; subst hs; exact ⟨own_cell14 hx.own _ _ rfl, own_cell14 hx.own _ _ rfl⟩))
    (FF.new hg.1 hg.2)
    (by
      intro s hs args y
      simp only [List.mem_cons, List.not_mem_nil, or_false] at hs
      rcases hs with rfl | rfl | rfl | rfl | rfl
      · exact enters_of Tryz.func28 (by kernel_rfl) rfl args y
      · exact enters_of Tryz.func78 (by kernel_rfl) rfl args y
      · exact enters_of Tryz.func28 (by kernel_rfl) rfl args y
      · exact enters_of Tryz.func80 (by kernel_rfl) rfl args y
      · exact enters_of Tryz.func28 (by kernel_rfl) rfl args y
      )
    (by
      intro s hs dk
      simp only [List.mem_cons, List.not_mem_nil, or_false] at hs
      rcases hs with rfl | rfl | rfl | rfl | rfl
      · exact M.fl14_ops dk
      · exact M.wr_ops15 L hl dk
      · exact M.fl14_ops dk
      · exact M.headW_ops15 fr mn g q k hm2 dk
      · exact M.fl14_ops dk
      )
    (by
      intro s hs 
      simp only [List.mem_cons, List.not_mem_nil, or_false] at hs
      rcases hs with rfl | rfl | rfl | rfl | rfl
      · intro dk hdk y' Q _ _ hq
        exact flush_stp y' hq (by omega)
      · intro dk hdk y' Q hkq hQ hq
        exact moveOn1_any lb sb A c L (by omega) y' hq (FF.box hkq hx.log fl) (FF.box hkq hx.secs fs) x t (fun i hi => (hS.below (Nat.le_refl _) hx.below).kept hkq (fun ad e e' => e' (fA ad e)) i hi) hxt (fun ad e e' => (hQ _ e').2 (fA ad e)) (by omega)
      · intro dk hdk y' Q _ _ hq
        exact flush_stp y' hq (by omega)
      · intro dk hdk y' Q hkq hQ hq
        exact moveOn2_any lb hb g q k hmay y' hq (FF.box hkq hx.log fl) (FF.box hkq hx.head fh) (FF.box hkq (hr.beside hx.below) fr1) (fun e => (hQ _ e).2 fr1) hf hmn (by omega)
      · intro dk hdk y' Q _ _ hq
        exact flush_stp y' hq (by omega)
      ) hR hET
set_option maxRecDepth 100000 in
set_option maxHeartbeats 4000000 in
theorem moveOn_order1 (g q k : Nat) (hmay : M.hmay ⟨(g : Nat), (q : Nat), (k : Nat)⟩ = true) (A : Option Addr) (c : Nat) (L : List (Nat × ByteArray)) (hl : L.length ≤ 1000) (w : World) {a fr ra rr mn : Nat} {P : Nat → Prop} {d : M.D} (h : Disk w a P d) (hm2 : 2 ≤ mn)
    (hr : Reg w ra a fr mn) (hp : ¬ P ra) (hf : fr ≤ 1000) (hmn : mn ≤ 1000) (x : Nat → Int) (t : Nat → ByteArray) (hS : SecF w A L.length x t) (hxt : ∀ k p, L[k]? = some p → x k = (p.1 : Nat) ∧ t k = p.2) (hA : ∀ ad, A = some ad → ad.block < w.heap.size ∧ ¬ P ad.block)
    (ho : d.ops ≤ 10000000)
    (sR : ByteArray) (fR : Nat) (bdR cpR : Array Value) (RF : M.D → Int × M.D) (hRE : ∀ args y, (callFunc fR args).run Tryz.prog y = .ok (.enter fR args) y) (hRO : ∀ dk, (RF dk).2.ops ≤ dk.ops + 1000)
    (hRC : ∀ dk, dk.ops ≤ 20000000 → ∀ y Q, Kept (fun j => P j ∨ w.heap.size ≤ j) w y → (∀ j, Q j → j < y.heap.size ∧ (j < w.heap.size → P j)) → Disk y a Q dk → Calls Tryz.prog fR (bdR ++ cpR) y fun e y' => e = .returned (.int .i64 (RF dk).1) ∧ Disk y' a (M.plus Q y.heap.size) (RF dk).2 ∧ Kept Q y y') {W : World} {lb sb hb gr cr : Nat} (hx : MvAt w W lb sb hb gr 6 cr a fr ra rr g q k A L.length c (([.string (⟨#[109, 97, 107, 101, 32, 115, 117, 114, 101, 32, 111, 102, 32, 116, 104, 101, 32, 114, 101, 99, 111, 114, 100, 115]⟩ : ByteArray), .func (.func 28) #[.pointer (some ⟨a, 0, none⟩)] #[], .string (⟨#[108, 97, 121, 32, 100, 111, 119, 110, 32, 119, 104, 97, 116, 32, 116, 104, 101, 121, 32, 115, 97, 121]⟩ : ByteArray), .func (.func 78) #[] #[.pointer (some ⟨lb, 0, none⟩), .pointer (some ⟨sb, 0, none⟩)], .string (⟨#[109, 97, 107, 101, 32, 115, 117, 114, 101, 32, 111, 102, 32, 116, 104, 97, 116]⟩ : ByteArray), .func (.func 28) #[.pointer (some ⟨a, 0, none⟩)] #[]] ++ [.string sR, .func (.func fR) bdR cpR]) ++ [.string (⟨#[119, 114, 105, 116, 101, 32, 116, 104, 101, 32, 104, 101, 97, 100]⟩ : ByteArray), .func (.func 80) #[] #[.pointer (some ⟨lb, 0, none⟩), .pointer (some ⟨hb, 0, none⟩)], .string (⟨#[109, 97, 107, 101, 32, 115, 117, 114, 101, 32, 111, 102, 32, 116, 104, 101, 32, 104, 101, 97, 100]⟩ : ByteArray), .func (.func 28) #[.pointer (some ⟨a, 0, none⟩)] #[]])) {R : Int × M.D} (hR : M.steps14 (M.mvR RF L fr mn g q k) d = R) (hET : R.1 ≠ 0 → ErrT w ∧ ¬ P 1) :
    Calls Tryz.prog 49 #[.slice (some ⟨gr, 0, none⟩) 6 cr] W fun e w' => ∃ v, e = .returned v ∧ Hid (Calls Tryz.prog 48 #[v] w' fun e w3 => e = .returned (.int .i64 R.1) ∧ Hid (Disk w3 a (M.plus P w.heap.size) R.2 ∧ Kept P w w3)) := by
  obtain ⟨z1, z2, z3⟩ := hx.low
  have fl : FF P w W lb := FF.new z1 hx.log.lt
  have fs : FF P w W sb := FF.new z2 hx.secs.lt
  have fh : FF P w W hb := FF.new z3 hx.head.lt
  have fr1 : FF P w W ra := FF.old hr.lt hp
  have fA : ∀ ad, A = some ad → FF P w W ad.block := fun ad e => FF.old (hA ad e).1 (hA ad e).2
  have hg := hx.own.lt gr rfl
  exact order_cause [⟨(⟨#[109, 97, 107, 101, 32, 115, 117, 114, 101, 32, 111, 102, 32, 116, 104, 101, 32, 114, 101, 99, 111, 114, 100, 115]⟩ : ByteArray), 28, #[.pointer (some ⟨a, 0, none⟩)], #[], M.fl14⟩, ⟨(⟨#[108, 97, 121, 32, 100, 111, 119, 110, 32, 119, 104, 97, 116, 32, 116, 104, 101, 121, 32, 115, 97, 121]⟩ : ByteArray), 78, #[], #[.pointer (some ⟨lb, 0, none⟩), .pointer (some ⟨sb, 0, none⟩)], M.wr L⟩, ⟨(⟨#[109, 97, 107, 101, 32, 115, 117, 114, 101, 32, 111, 102, 32, 116, 104, 97, 116]⟩ : ByteArray), 28, #[.pointer (some ⟨a, 0, none⟩)], #[], M.fl14⟩, ⟨sR, fR, bdR, cpR, RF⟩, ⟨(⟨#[119, 114, 105, 116, 101, 32, 116, 104, 101, 32, 104, 101, 97, 100]⟩ : ByteArray), 80, #[], #[.pointer (some ⟨lb, 0, none⟩), .pointer (some ⟨hb, 0, none⟩)], fun d => M.headW d fr mn g q k⟩, ⟨(⟨#[109, 97, 107, 101, 32, 115, 117, 114, 101, 32, 111, 102, 32, 116, 104, 101, 32, 104, 101, 97, 100]⟩ : ByteArray), 28, #[.pointer (some ⟨a, 0, none⟩)], #[], M.fl14⟩] (by simp) gr cr h hx.below
    (by
      intro k s hs
      have hk : k = 0 ∨ k = 1 ∨ k = 2 ∨ k = 3 ∨ k = 4 ∨ k = 5 := by have := (List.getElem?_eq_some_iff.1 hs).1; simp only [List.length_cons, List.length_nil] at this; omega
      rcases hk with rfl | rfl | rfl | rfl | rfl | rfl <;> (simp at hs; subst hs; exact ⟨own_cell14 hx.own _ _ rfl, own_cell14 hx.own _ _ rfl⟩))
    (FF.new hg.1 hg.2)
    (by
      intro s hs args y
      simp only [List.mem_cons, List.not_mem_nil, or_false] at hs
      rcases hs with rfl | rfl | rfl | rfl | rfl | rfl
      · exact enters_of Tryz.func28 (by kernel_rfl) rfl args y
      · exact enters_of Tryz.func78 (by kernel_rfl) rfl args y
      · exact enters_of Tryz.func28 (by kernel_rfl) rfl args y
      · exact hRE args y
      · exact enters_of Tryz.func80 (by kernel_rfl) rfl args y
      · exact enters_of Tryz.func28 (by kernel_rfl) rfl args y
      )
    (by
      intro s hs dk
      simp only [List.mem_cons, List.not_mem_nil, or_false] at hs
      rcases hs with rfl | rfl | rfl | rfl | rfl | rfl
      · exact M.fl14_ops dk
      · exact M.wr_ops15 L hl dk
      · exact M.fl14_ops dk
      · exact hRO dk
      · exact M.headW_ops15 fr mn g q k hm2 dk
      · exact M.fl14_ops dk
      )
    (by
      intro s hs 
      simp only [List.mem_cons, List.not_mem_nil, or_false] at hs
      rcases hs with rfl | rfl | rfl | rfl | rfl | rfl
      · intro dk hdk y' Q _ _ hq
        exact flush_stp y' hq (by omega)
      · intro dk hdk y' Q hkq hQ hq
        exact moveOn1_any lb sb A c L (by omega) y' hq (FF.box hkq hx.log fl) (FF.box hkq hx.secs fs) x t (fun i hi => (hS.below (Nat.le_refl _) hx.below).kept hkq (fun ad e e' => e' (fA ad e)) i hi) hxt (fun ad e e' => (hQ _ e').2 (fA ad e)) (by omega)
      · intro dk hdk y' Q _ _ hq
        exact flush_stp y' hq (by omega)
      · intro dk hdk y' Q hkq hQ hq
        exact hRC dk (by omega) y' Q (FF.kept hx.below hkq) (fun j e => ⟨(hQ j e).1, fun hj => Classical.byContradiction fun hn => (hQ j e).2 (FF.old hj hn)⟩) hq
      · intro dk hdk y' Q hkq hQ hq
        exact moveOn2_any lb hb g q k hmay y' hq (FF.box hkq hx.log fl) (FF.box hkq hx.head fh) (FF.box hkq (hr.beside hx.below) fr1) (fun e => (hQ _ e).2 fr1) hf hmn (by omega)
      · intro dk hdk y' Q _ _ hq
        exact flush_stp y' hq (by omega)
      ) hR hET

set_option maxRecDepth 100000 in
set_option maxHeartbeats 4000000 in
theorem moveOn_none (g q k : Nat) (hmay : M.hmay ⟨(g : Nat), (q : Nat), (k : Nat)⟩ = true) (A : Option Addr) (c : Nat) (L : List (Nat × ByteArray)) (hl : L.length ≤ 1000) (w : World) {a fr ra rr mn : Nat} {P : Nat → Prop} {d : M.D} (h : Disk w a P d) (hm2 : 2 ≤ mn)
    (hr : Reg w ra a fr mn) (hp : ¬ P ra) (hf : fr ≤ 1000) (hmn : mn ≤ 1000) (x : Nat → Int) (t : Nat → ByteArray) (hS : SecF w A L.length x t) (hxt : ∀ k p, L[k]? = some p → x k = (p.1 : Nat) ∧ t k = p.2) (hA : ∀ ad, A = some ad → ad.block < w.heap.size ∧ ¬ P ad.block)
    (ho : d.ops ≤ 10000000) {R : Int × M.D} (hR : M.steps14 (M.mvF L fr mn g q k) d = R) (hET : R.1 ≠ 0 → ErrT w ∧ ¬ P 1) :
    Calls Tryz.prog 38 #[M.logv a fr ra rr, .slice A L.length c, .agg #[.int .i64 (g : Nat), .int .i64 (q : Nat), .int .i64 (k : Nat)], .slice none 0 0] w fun e w' => e = .returned (.int .i64 R.1) ∧ Disk w' a (M.plus P w.heap.size) R.2 ∧ Kept P w w' := by
  obtain ⟨i0, hi, hz0, hz1, hz2⟩ := info_parts infoStep14
  have CO : Hid (∀ W lb sb hb gr cr, MvAt w W lb sb hb gr 5 cr a fr ra rr g q k A L.length c ([.string (⟨#[109, 97, 107, 101, 32, 115, 117, 114, 101, 32, 111, 102, 32, 116, 104, 101, 32, 114, 101, 99, 111, 114, 100, 115]⟩ : ByteArray), .func (.func 28) #[.pointer (some ⟨a, 0, none⟩)] #[], .string (⟨#[108, 97, 121, 32, 100, 111, 119, 110, 32, 119, 104, 97, 116, 32, 116, 104, 101, 121, 32, 115, 97, 121]⟩ : ByteArray), .func (.func 78) #[] #[.pointer (some ⟨lb, 0, none⟩), .pointer (some ⟨sb, 0, none⟩)], .string (⟨#[109, 97, 107, 101, 32, 115, 117, 114, 101, 32, 111, 102, 32, 116, 104, 97, 116]⟩ : ByteArray), .func (.func 28) #[.pointer (some ⟨a, 0, none⟩)] #[]] ++ [.string (⟨#[119, 114, 105, 116, 101, 32, 116, 104, 101, 32, 104, 101, 97, 100]⟩ : ByteArray), .func (.func 80) #[] #[.pointer (some ⟨lb, 0, none⟩), .pointer (some ⟨hb, 0, none⟩)], .string (⟨#[109, 97, 107, 101, 32, 115, 117, 114, 101, 32, 111, 102, 32, 116, 104, 101, 32, 104, 101, 97, 100]⟩ : ByteArray), .func (.func 28) #[.pointer (some ⟨a, 0, none⟩)] #[]]) → Calls Tryz.prog 49 #[.slice (some ⟨gr, 0, none⟩) 5 cr] W fun e w' => ∃ v, e = .returned v ∧ Hid (Calls Tryz.prog 48 #[v] w' fun e w3 => e = .returned (.int .i64 R.1) ∧ Hid (Disk w3 a (M.plus P w.heap.size) R.2 ∧ Kept P w w3))) :=
    fun W lb sb hb gr cr hx => moveOn_order g q k hmay A c L hl w h hm2 hr hp hf hmn x t hS hxt hA ho hx hR hET
  have N1 := Lib.hid (MvAt.new w a fr ra rr g q k A L.length c [.string (⟨#[109, 97, 107, 101, 32, 115, 117, 114, 101, 32, 111, 102, 32, 116, 104, 101, 32, 114, 101, 99, 111, 114, 100, 115]⟩ : ByteArray), .func (.func 28) #[.pointer (some ⟨a, 0, none⟩)] #[], .string (⟨#[108, 97, 121, 32, 100, 111, 119, 110, 32, 119, 104, 97, 116, 32, 116, 104, 101, 121, 32, 115, 97, 121]⟩ : ByteArray), .func (.func 78) #[] #[.pointer (some ⟨w.heap.size, 0, none⟩), .pointer (some ⟨w.heap.size + 1, 0, none⟩)], .string (⟨#[109, 97, 107, 101, 32, 115, 117, 114, 101, 32, 111, 102, 32, 116, 104, 97, 116]⟩ : ByteArray), .func (.func 28) #[.pointer (some ⟨a, 0, none⟩)] #[]] 3 rfl (by omega))
  obtain ⟨ln, hln⟩ : ∃ x, x = L.length := ⟨_, rfl⟩
  rw [← hln] at CO N1
  rw [← hln]
  clear h hm2 hr hp hf hmn hS hxt hA ho hR hET hmay hl hln
  unfold M.logv
  go_enter Tryz.func38, Tryz.ntmps38
  go_upto_region 1 with fail
  go_cut [9] from 10 to 20 (fun c9 wx => c9 = .slice (some ⟨w.heap.size + 1 + 1 + 1, 0, none⟩) 3 3 ∧ Hid (MvAt w wx w.heap.size (w.heap.size + 1) (w.heap.size + 1 + 1) (w.heap.size + 1 + 1 + 1) 3 3 a fr ra rr g q k A ln c [.string (⟨#[109, 97, 107, 101, 32, 115, 117, 114, 101, 32, 111, 102, 32, 116, 104, 101, 32, 114, 101, 99, 111, 114, 100, 115]⟩ : ByteArray), .func (.func 28) #[.pointer (some ⟨a, 0, none⟩)] #[], .string (⟨#[108, 97, 121, 32, 100, 111, 119, 110, 32, 119, 104, 97, 116, 32, 116, 104, 101, 121, 32, 115, 97, 121]⟩ : ByteArray), .func (.func 78) #[] #[.pointer (some ⟨w.heap.size, 0, none⟩), .pointer (some ⟨w.heap.size + 1, 0, none⟩)], .string (⟨#[109, 97, 107, 101, 32, 115, 117, 114, 101, 32, 111, 102, 32, 116, 104, 97, 116]⟩ : ByteArray), .func (.func 28) #[.pointer (some ⟨a, 0, none⟩)] #[]]))
  case first =>
    go_wp2_with fail
    go_meet
    case rel => exact ⟨rfl, N1⟩
  case rest =>
    obtain ⟨rfl, HX⟩ := hcut
    clear N1
    go_upto_region 2 with fail
    go_cut [9] from 21 to 23 (fun c9 wx => c9 = .slice (some ⟨w.heap.size + 1 + 1 + 1, 0, none⟩) 3 3 ∧ wx = wc)
    case first =>
      go_wp2_with (first
        | (at_builtin
           go_loud (refine wpList_append_own_none rfl _ _ 124 rfl w.heap.size 82 i0 2 Tryz.underlying124 hi _ _ _ rfl HX.out.own rfl ?_))
        | fail)
      go_meet
      case rel => exact ⟨rfl, rfl⟩
    case rest =>
    obtain ⟨rfl, hw1⟩ := hcut
    subst hw1
    go_upto_region 3 with fail
    go_cut [9] from 24 to 32 (fun c9 wx => ∃ gr cr, c9 = .slice (some ⟨gr, 0, none⟩) 5 cr ∧ Hid (MvAt w wx w.heap.size (w.heap.size + 1) (w.heap.size + 1 + 1) gr 5 cr a fr ra rr g q k A ln c ([.string (⟨#[109, 97, 107, 101, 32, 115, 117, 114, 101, 32, 111, 102, 32, 116, 104, 101, 32, 114, 101, 99, 111, 114, 100, 115]⟩ : ByteArray), .func (.func 28) #[.pointer (some ⟨a, 0, none⟩)] #[], .string (⟨#[108, 97, 121, 32, 100, 111, 119, 110, 32, 119, 104, 97, 116, 32, 116, 104, 101, 121, 32, 115, 97, 121]⟩ : ByteArray), .func (.func 78) #[] #[.pointer (some ⟨w.heap.size, 0, none⟩), .pointer (some ⟨w.heap.size + 1, 0, none⟩)], .string (⟨#[109, 97, 107, 101, 32, 115, 117, 114, 101, 32, 111, 102, 32, 116, 104, 97, 116]⟩ : ByteArray), .func (.func 28) #[.pointer (some ⟨a, 0, none⟩)] #[]] ++ [.string (⟨#[119, 114, 105, 116, 101, 32, 116, 104, 101, 32, 104, 101, 97, 100]⟩ : ByteArray), .func (.func 80) #[] #[.pointer (some ⟨w.heap.size, 0, none⟩), .pointer (some ⟨w.heap.size + 1 + 1, 0, none⟩)], .string (⟨#[109, 97, 107, 101, 32, 115, 117, 114, 101, 32, 111, 102, 32, 116, 104, 101, 32, 104, 101, 97, 100]⟩ : ByteArray), .func (.func 28) #[.pointer (some ⟨a, 0, none⟩)] #[]])))
    case first =>
      have HB2 := Lib.hid (below1 wc (.cells [.string (⟨#[119, 114, 105, 116, 101, 32, 116, 104, 101, 32, 104, 101, 97, 100]⟩ : ByteArray), .func (.func 80) #[] #[.pointer (some ⟨w.heap.size, 0, none⟩), .pointer (some ⟨w.heap.size + 1 + 1, 0, none⟩)], .string (⟨#[109, 97, 107, 101, 32, 115, 117, 114, 101, 32, 111, 102, 32, 116, 104, 101, 32, 104, 101, 97, 100]⟩ : ByteArray), .func (.func 28) #[.pointer (some ⟨a, 0, none⟩)] #[]].toArray 82))
      obtain ⟨l0, l1, l2, l3⟩ := HX.out.log.cells
      have hz9 : w.heap.size ≤ wc.heap.size := HX.out.below.size
      go_wp2_with (first
        | (at_builtin
           go_loud (refine wpList_append_lies _ rfl _ _ 124 rfl w.heap.size 82 i0 (.agg #[.string ⟨#[]⟩, .nilFunc]) 2 24 Tryz.underlying124 hi hz0 hz1 hz2 rfl (by decide) _ _ _ rfl (HX.out.own.alloc _) _ 2 2 [.string (⟨#[119, 114, 105, 116, 101, 32, 116, 104, 101, 32, 104, 101, 97, 100]⟩ : ByteArray), .func (.func 80) #[] #[.pointer (some ⟨w.heap.size, 0, none⟩), .pointer (some ⟨w.heap.size + 1 + 1, 0, none⟩)], .string (⟨#[109, 97, 107, 101, 32, 115, 117, 114, 101, 32, 111, 102, 32, 116, 104, 101, 32, 104, 101, 97, 100]⟩ : ByteArray), .func (.func 28) #[.pointer (some ⟨a, 0, none⟩)] #[]] rfl rfl (cells_new14 wc 82 [.string (⟨#[119, 114, 105, 116, 101, 32, 116, 104, 101, 32, 104, 101, 97, 100]⟩ : ByteArray), .func (.func 80) #[] #[.pointer (some ⟨w.heap.size, 0, none⟩), .pointer (some ⟨w.heap.size + 1 + 1, 0, none⟩)], .string (⟨#[109, 97, 107, 101, 32, 115, 117, 114, 101, 32, 111, 102, 32, 116, 104, 101, 32, 104, 101, 97, 100]⟩ : ByteArray), .func (.func 28) #[.pointer (some ⟨a, 0, none⟩)] #[]]) (fun u hu => by simp at hu; rcases hu with rfl | rfl | rfl | rfl <;> rfl) (by omega) (by unfold maxLen; omega) (by omega) (by simp; omega) _ rfl ?_)
           intro g3 c3 w3 ho3 hg3 hat3 _
           have HX3 := Lib.hid (HX.out.grow HB2.out hg3 hat3 ho3)
           clear ho3 hg3 hat3 HX HB2)
        | fail)
      go_meet
      case rel => exact ⟨_, _, rfl, HX3⟩
    case rest =>
      obtain ⟨gr, cr, rfl, HX3⟩ := hcut
      clear HX
      have HC3 := Lib.hid (CO.out _ _ _ _ _ _ HX3.out)
      clear HX3 CO
      go_wp2_with fail
      refine HC3.out.mono ?_
      rintro e w3 ⟨v, rfl, hc⟩
      clear HC3
      go_wp2_with fail
      refine hc.out.mono ?_
      rintro e w4 ⟨rfl, hr4⟩
      clear hc
      go_wp2_with fail
      go_ret
      exact ⟨rfl, hr4.out⟩


set_option maxRecDepth 100000 in
set_option maxHeartbeats 4000000 in
theorem moveOn_one (g q k : Nat) (hmay : M.hmay ⟨(g : Nat), (q : Nat), (k : Nat)⟩ = true) (A : Option Addr) (c : Nat) (L : List (Nat × ByteArray)) (hl : L.length ≤ 1000) (w : World) {a fr ra rr mn : Nat} {P : Nat → Prop} {d : M.D} (h : Disk w a P d) (hm2 : 2 ≤ mn)
    (hr : Reg w ra a fr mn) (hp : ¬ P ra) (hf : fr ≤ 1000) (hmn : mn ≤ 1000) (x : Nat → Int) (t : Nat → ByteArray) (hS : SecF w A L.length x t) (hxt : ∀ k p, L[k]? = some p → x k = (p.1 : Nat) ∧ t k = p.2) (hA : ∀ ad, A = some ad → ad.block < w.heap.size ∧ ¬ P ad.block)
    (ho : d.ops ≤ 10000000)
    (sR : ByteArray) (fR : Nat) (bdR cpR : Array Value) (RF : M.D → Int × M.D) (hRE : ∀ args y, (callFunc fR args).run Tryz.prog y = .ok (.enter fR args) y) (hRO : ∀ dk, (RF dk).2.ops ≤ dk.ops + 1000)
    (hRC : ∀ dk, dk.ops ≤ 20000000 → ∀ y Q, Kept (fun j => P j ∨ w.heap.size ≤ j) w y → (∀ j, Q j → j < y.heap.size ∧ (j < w.heap.size → P j)) → Disk y a Q dk → Calls Tryz.prog fR (bdR ++ cpR) y fun e y' => e = .returned (.int .i64 (RF dk).1) ∧ Disk y' a (M.plus Q y.heap.size) (RF dk).2 ∧ Kept Q y y') (rb cb : Nat) (hrb : Box w rb 82 #[.string sR, .func (.func fR) bdR cpR]) {R : Int × M.D} (hR : M.steps14 (M.mvR RF L fr mn g q k) d = R) (hET : R.1 ≠ 0 → ErrT w ∧ ¬ P 1) :
    Calls Tryz.prog 38 #[M.logv a fr ra rr, .slice A L.length c, .agg #[.int .i64 (g : Nat), .int .i64 (q : Nat), .int .i64 (k : Nat)], .slice (some ⟨rb, 0, none⟩) 1 cb] w fun e w' => e = .returned (.int .i64 R.1) ∧ Disk w' a (M.plus P w.heap.size) R.2 ∧ Kept P w w' := by
  obtain ⟨i0, hi, hz0, hz1, hz2⟩ := info_parts infoStep14
  have CO : Hid (∀ W lb sb hb gr cr, MvAt w W lb sb hb gr 6 cr a fr ra rr g q k A L.length c (([.string (⟨#[109, 97, 107, 101, 32, 115, 117, 114, 101, 32, 111, 102, 32, 116, 104, 101, 32, 114, 101, 99, 111, 114, 100, 115]⟩ : ByteArray), .func (.func 28) #[.pointer (some ⟨a, 0, none⟩)] #[], .string (⟨#[108, 97, 121, 32, 100, 111, 119, 110, 32, 119, 104, 97, 116, 32, 116, 104, 101, 121, 32, 115, 97, 121]⟩ : ByteArray), .func (.func 78) #[] #[.pointer (some ⟨lb, 0, none⟩), .pointer (some ⟨sb, 0, none⟩)], .string (⟨#[109, 97, 107, 101, 32, 115, 117, 114, 101, 32, 111, 102, 32, 116, 104, 97, 116]⟩ : ByteArray), .func (.func 28) #[.pointer (some ⟨a, 0, none⟩)] #[]] ++ [.string sR, .func (.func fR) bdR cpR]) ++ [.string (⟨#[119, 114, 105, 116, 101, 32, 116, 104, 101, 32, 104, 101, 97, 100]⟩ : ByteArray), .func (.func 80) #[] #[.pointer (some ⟨lb, 0, none⟩), .pointer (some ⟨hb, 0, none⟩)], .string (⟨#[109, 97, 107, 101, 32, 115, 117, 114, 101, 32, 111, 102, 32, 116, 104, 101, 32, 104, 101, 97, 100]⟩ : ByteArray), .func (.func 28) #[.pointer (some ⟨a, 0, none⟩)] #[]]) → Calls Tryz.prog 49 #[.slice (some ⟨gr, 0, none⟩) 6 cr] W fun e w' => ∃ v, e = .returned v ∧ Hid (Calls Tryz.prog 48 #[v] w' fun e w3 => e = .returned (.int .i64 R.1) ∧ Hid (Disk w3 a (M.plus P w.heap.size) R.2 ∧ Kept P w w3))) :=
    fun W lb sb hb gr cr hx => moveOn_order1 g q k hmay A c L hl w h hm2 hr hp hf hmn x t hS hxt hA ho sR fR bdR cpR RF hRE hRO hRC hx hR hET
  have N1 := Lib.hid (MvAt.new w a fr ra rr g q k A L.length c [.string (⟨#[109, 97, 107, 101, 32, 115, 117, 114, 101, 32, 111, 102, 32, 116, 104, 101, 32, 114, 101, 99, 111, 114, 100, 115]⟩ : ByteArray), .func (.func 28) #[.pointer (some ⟨a, 0, none⟩)] #[], .string (⟨#[108, 97, 121, 32, 100, 111, 119, 110, 32, 119, 104, 97, 116, 32, 116, 104, 101, 121, 32, 115, 97, 121]⟩ : ByteArray), .func (.func 78) #[] #[.pointer (some ⟨w.heap.size, 0, none⟩), .pointer (some ⟨w.heap.size + 1, 0, none⟩)], .string (⟨#[109, 97, 107, 101, 32, 115, 117, 114, 101, 32, 111, 102, 32, 116, 104, 97, 116]⟩ : ByteArray), .func (.func 28) #[.pointer (some ⟨a, 0, none⟩)] #[]] 3 rfl (by omega))
  have HRB : Hid (∀ y, Below w.heap.size w y → ∀ j u, ([.string sR, .func (.func fR) bdR cpR] : List Value)[j]? = some u → y.cell? ((⟨rb, 0, none⟩ : Addr).add j) = some u) := by
    intro y hy j u hj
    have := ((Kept.of_below hy (fun _ => False)).box hrb id).cell j
    rw [addr_add14, this]
    simpa using hj
  obtain ⟨ln, hln⟩ : ∃ x, x = L.length := ⟨_, rfl⟩
  rw [← hln] at CO N1
  rw [← hln]
  clear h hm2 hr hp hf hmn hS hxt hA ho hR hET hmay hl hln hRE hRO hRC hrb
  unfold M.logv
  go_enter Tryz.func38, Tryz.ntmps38
  go_upto_region 1 with fail
  go_cut [9] from 10 to 20 (fun c9 wx => c9 = .slice (some ⟨w.heap.size + 1 + 1 + 1, 0, none⟩) 3 3 ∧ Hid (MvAt w wx w.heap.size (w.heap.size + 1) (w.heap.size + 1 + 1) (w.heap.size + 1 + 1 + 1) 3 3 a fr ra rr g q k A ln c [.string (⟨#[109, 97, 107, 101, 32, 115, 117, 114, 101, 32, 111, 102, 32, 116, 104, 101, 32, 114, 101, 99, 111, 114, 100, 115]⟩ : ByteArray), .func (.func 28) #[.pointer (some ⟨a, 0, none⟩)] #[], .string (⟨#[108, 97, 121, 32, 100, 111, 119, 110, 32, 119, 104, 97, 116, 32, 116, 104, 101, 121, 32, 115, 97, 121]⟩ : ByteArray), .func (.func 78) #[] #[.pointer (some ⟨w.heap.size, 0, none⟩), .pointer (some ⟨w.heap.size + 1, 0, none⟩)], .string (⟨#[109, 97, 107, 101, 32, 115, 117, 114, 101, 32, 111, 102, 32, 116, 104, 97, 116]⟩ : ByteArray), .func (.func 28) #[.pointer (some ⟨a, 0, none⟩)] #[]]))
  case first =>
    go_wp2_with fail
    go_meet
    case rel => exact ⟨rfl, N1⟩
  case rest =>
    obtain ⟨rfl, HX⟩ := hcut
    clear N1
    go_upto_region 2 with fail
    go_cut [9] from 21 to 23 (fun c9 wx => ∃ gr cr, c9 = .slice (some ⟨gr, 0, none⟩) 4 cr ∧ Hid (MvAt w wx w.heap.size (w.heap.size + 1) (w.heap.size + 1 + 1) gr 4 cr a fr ra rr g q k A ln c ([.string (⟨#[109, 97, 107, 101, 32, 115, 117, 114, 101, 32, 111, 102, 32, 116, 104, 101, 32, 114, 101, 99, 111, 114, 100, 115]⟩ : ByteArray), .func (.func 28) #[.pointer (some ⟨a, 0, none⟩)] #[], .string (⟨#[108, 97, 121, 32, 100, 111, 119, 110, 32, 119, 104, 97, 116, 32, 116, 104, 101, 121, 32, 115, 97, 121]⟩ : ByteArray), .func (.func 78) #[] #[.pointer (some ⟨w.heap.size, 0, none⟩), .pointer (some ⟨w.heap.size + 1, 0, none⟩)], .string (⟨#[109, 97, 107, 101, 32, 115, 117, 114, 101, 32, 111, 102, 32, 116, 104, 97, 116]⟩ : ByteArray), .func (.func 28) #[.pointer (some ⟨a, 0, none⟩)] #[]] ++ [.string sR, .func (.func fR) bdR cpR])))
    case first =>
      have HR3 := Lib.hid (HRB.out wc HX.out.below)
      have hz9 : w.heap.size ≤ wc.heap.size := HX.out.below.size
      go_wp2_with (first
        | (at_builtin
           go_loud (refine wpList_append_lies _ rfl _ _ 124 rfl w.heap.size 82 i0 (.agg #[.string ⟨#[]⟩, .nilFunc]) 2 24 Tryz.underlying124 hi hz0 hz1 hz2 rfl (by decide) _ _ _ rfl HX.out.own ⟨rb, 0, none⟩ 1 cb [.string sR, .func (.func fR) bdR cpR] rfl rfl HR3.out (fun u hu => by simp at hu; rcases hu with rfl | rfl <;> rfl) (by omega) (by unfold maxLen; omega) (by omega) hz9 _ rfl ?_)
           intro g3 c3 w3 ho3 hg3 hat3 _
           have HX3 := Lib.hid (HX.out.grow (Below.refl _ _) hg3 hat3 ho3)
           clear ho3 hg3 hat3 HX HR3)
        | fail)
      go_meet
      case rel => exact ⟨_, _, rfl, HX3⟩
    case rest =>
    obtain ⟨gr, cr, rfl, HX4⟩ := hcut
    clear HX
    have HX := HX4
    clear HX4
    go_upto_region 3 with fail
    go_cut [9] from 24 to 32 (fun c9 wx => ∃ gr cr, c9 = .slice (some ⟨gr, 0, none⟩) 6 cr ∧ Hid (MvAt w wx w.heap.size (w.heap.size + 1) (w.heap.size + 1 + 1) gr 6 cr a fr ra rr g q k A ln c (([.string (⟨#[109, 97, 107, 101, 32, 115, 117, 114, 101, 32, 111, 102, 32, 116, 104, 101, 32, 114, 101, 99, 111, 114, 100, 115]⟩ : ByteArray), .func (.func 28) #[.pointer (some ⟨a, 0, none⟩)] #[], .string (⟨#[108, 97, 121, 32, 100, 111, 119, 110, 32, 119, 104, 97, 116, 32, 116, 104, 101, 121, 32, 115, 97, 121]⟩ : ByteArray), .func (.func 78) #[] #[.pointer (some ⟨w.heap.size, 0, none⟩), .pointer (some ⟨w.heap.size + 1, 0, none⟩)], .string (⟨#[109, 97, 107, 101, 32, 115, 117, 114, 101, 32, 111, 102, 32, 116, 104, 97, 116]⟩ : ByteArray), .func (.func 28) #[.pointer (some ⟨a, 0, none⟩)] #[]] ++ [.string sR, .func (.func fR) bdR cpR]) ++ [.string (⟨#[119, 114, 105, 116, 101, 32, 116, 104, 101, 32, 104, 101, 97, 100]⟩ : ByteArray), .func (.func 80) #[] #[.pointer (some ⟨w.heap.size, 0, none⟩), .pointer (some ⟨w.heap.size + 1 + 1, 0, none⟩)], .string (⟨#[109, 97, 107, 101, 32, 115, 117, 114, 101, 32, 111, 102, 32, 116, 104, 101, 32, 104, 101, 97, 100]⟩ : ByteArray), .func (.func 28) #[.pointer (some ⟨a, 0, none⟩)] #[]])))
    case first =>
      have HB2 := Lib.hid (below1 wc (.cells [.string (⟨#[119, 114, 105, 116, 101, 32, 116, 104, 101, 32, 104, 101, 97, 100]⟩ : ByteArray), .func (.func 80) #[] #[.pointer (some ⟨w.heap.size, 0, none⟩), .pointer (some ⟨w.heap.size + 1 + 1, 0, none⟩)], .string (⟨#[109, 97, 107, 101, 32, 115, 117, 114, 101, 32, 111, 102, 32, 116, 104, 101, 32, 104, 101, 97, 100]⟩ : ByteArray), .func (.func 28) #[.pointer (some ⟨a, 0, none⟩)] #[]].toArray 82))
      obtain ⟨l0, l1, l2, l3⟩ := HX.out.log.cells
      have hz9 : w.heap.size ≤ wc.heap.size := HX.out.below.size
      go_wp2_with (first
        | (at_builtin
           go_loud (refine wpList_append_lies _ rfl _ _ 124 rfl w.heap.size 82 i0 (.agg #[.string ⟨#[]⟩, .nilFunc]) 2 24 Tryz.underlying124 hi hz0 hz1 hz2 rfl (by decide) _ _ _ rfl (HX.out.own.alloc _) _ 2 2 [.string (⟨#[119, 114, 105, 116, 101, 32, 116, 104, 101, 32, 104, 101, 97, 100]⟩ : ByteArray), .func (.func 80) #[] #[.pointer (some ⟨w.heap.size, 0, none⟩), .pointer (some ⟨w.heap.size + 1 + 1, 0, none⟩)], .string (⟨#[109, 97, 107, 101, 32, 115, 117, 114, 101, 32, 111, 102, 32, 116, 104, 101, 32, 104, 101, 97, 100]⟩ : ByteArray), .func (.func 28) #[.pointer (some ⟨a, 0, none⟩)] #[]] rfl rfl (cells_new14 wc 82 [.string (⟨#[119, 114, 105, 116, 101, 32, 116, 104, 101, 32, 104, 101, 97, 100]⟩ : ByteArray), .func (.func 80) #[] #[.pointer (some ⟨w.heap.size, 0, none⟩), .pointer (some ⟨w.heap.size + 1 + 1, 0, none⟩)], .string (⟨#[109, 97, 107, 101, 32, 115, 117, 114, 101, 32, 111, 102, 32, 116, 104, 101, 32, 104, 101, 97, 100]⟩ : ByteArray), .func (.func 28) #[.pointer (some ⟨a, 0, none⟩)] #[]]) (fun u hu => by simp at hu; rcases hu with rfl | rfl | rfl | rfl <;> rfl) (by omega) (by unfold maxLen; omega) (by omega) (by simp; omega) _ rfl ?_)
           intro g3 c3 w3 ho3 hg3 hat3 _
           have HX3 := Lib.hid (HX.out.grow HB2.out hg3 hat3 ho3)
           clear ho3 hg3 hat3 HX HB2)
        | fail)
      go_meet
      case rel => exact ⟨_, _, rfl, HX3⟩
    case rest =>
      obtain ⟨gr, cr, rfl, HX3⟩ := hcut
      clear HX
      have HC3 := Lib.hid (CO.out _ _ _ _ _ _ HX3.out)
      clear HX3 CO
      go_wp2_with fail
      refine HC3.out.mono ?_
      rintro e w3 ⟨v, rfl, hc⟩
      clear HC3
      go_wp2_with fail
      refine hc.out.mono ?_
      rintro e w4 ⟨rfl, hr4⟩
      clear hc
      go_wp2_with fail
      go_ret
      exact ⟨rfl, hr4.out⟩

end Go.Proofs.YtmgchfjfkdkaoaaGreatDoor
