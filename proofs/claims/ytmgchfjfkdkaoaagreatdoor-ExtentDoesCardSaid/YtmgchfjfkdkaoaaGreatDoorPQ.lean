/-
  A walk over wal.findRecords where there are none. wal.findRecords: all records that the scan tells, where no sector of theirs is a stray.
-/
import Derived.Test.YtmgchfjfkdkaoaaGreatDoorPN
import Derived.Test.YtmgchfjfkdkaoaaGreatDoorPO
import Derived.Handy
namespace Go.Proofs.YtmgchfjfkdkaoaaGreatDoor
open Go.RowKit

theorem M.scan_no14 {fr mn p0 : Nat} {q0 : Int} {most k : Nat} {d : M.D} (h : M.Still d fr mn) (hz : M.szE (M.seen d.S d.L (fr + p0 % mn)) q0 ≠ 0) : ∃ d', M.scan M.dR fr mn p0 q0 most k d 0 [] = (0, d', 0, []) ∧ M.Still d' fr mn ∧ d'.S = d.S ∧ d'.L = d.L ∧ d'.ops ≤ d.ops + 17 := by
  cases k with
  | zero => exact ⟨d, rfl, h, rfl, rfl, by omega⟩
  | succ k =>
    obtain ⟨d', e, h'⟩ := M.next_no (p := (p0 + 0) % mn) (q := q0 + ((([] : List M.Rec).length : Nat) : Int)) (left := mn - 0) h (by simpa using hz)
    have hk := M.next_keeps fr mn d ((p0 + 0) % mn) (q0 + ((([] : List M.Rec).length : Nat) : Int)) (mn - 0)
    rw [e] at hk
    refine ⟨d', ?_, h', hk.1, hk.2.1, hk.2.2.1⟩
    rw [M.scan, e]
    rfl

set_option maxHeartbeats 4000000 in
theorem findRecords_no (g q k : Nat) (w : World) {a fr ra rr m2 : Nat} {P : Nat → Prop} {d : M.D} (h : Disk w a P d) (hs : M.Still d (fr + 2) m2) (hrr : Reg w rr a (fr + 2) m2) (hpr : ¬ P rr) (hlow : ∀ k, P k → k < w.heap.size)
    (hf : fr + 2 ≤ 1000) (hmn : m2 ≤ 1000) (hk : k < m2) (ho : d.ops ≤ 1000000) (hz : M.szE (M.seen d.S d.L (fr + 2 + k % m2)) (q : Nat) ≠ 0) :
    Calls Tryz.prog 33 #[M.logv a fr ra rr, .agg #[.int .i64 (g : Nat), .int .i64 (q : Nat), .int .i64 (k : Nat)]] w fun e w' => e = .returned (.tuple #[.slice none 0 0, .int .i64 0, .int .i64 0]) ∧ ∃ d', Disk w' a P d' ∧ M.Still d' (fr + 2) m2 ∧ d'.S = d.S ∧ d'.L = d.L ∧ d'.ops ≤ d.ops + 17 ∧ Kept P w w' := by
  obtain ⟨d', hsc, t1, t2, t3, t4⟩ := M.scan_no14 (p0 := k) (q0 := (q : Nat)) (most := 2000) (k := m2 + 1) hs hz
  obtain ⟨A, hA⟩ : ∃ x, x = w.alloc (.cells #[.pointer (some ⟨a, 0, none⟩), .int .i64 (fr : Nat), .pointer (some ⟨ra, 0, none⟩), .pointer (some ⟨rr, 0, none⟩)] 59) := ⟨_, rfl⟩
  obtain ⟨B, hB⟩ : ∃ x, x = A.alloc (.cells #[.int .i64 (g : Nat), .int .i64 (q : Nat), .int .i64 (k : Nat)] 73) := ⟨_, rfl⟩
  obtain ⟨C, hC⟩ : ∃ x, x = B.alloc (.cells #[.slice none 0 0] 66) := ⟨_, rfl⟩
  obtain ⟨D, hD⟩ : ∃ x, x = C.alloc (.cells #[.int .i64 0] 3) := ⟨_, rfl⟩
  obtain ⟨W, hW⟩ : ∃ x, x = D.alloc (.cells #[.bool false] 4) := ⟨_, rfl⟩
  have zA : A.heap.size = w.heap.size + 1 := by rw [hA]; simp
  have zB : B.heap.size = w.heap.size + 2 := by rw [hB, World.size_alloc, zA]
  have zC : C.heap.size = w.heap.size + 3 := by rw [hC, World.size_alloc, zB]
  have zD : D.heap.size = w.heap.size + 4 := by rw [hD, World.size_alloc, zC]
  have zW : W.heap.size = w.heap.size + 5 := by rw [hW, World.size_alloc, zD]
  have bA : Below w.heap.size w A := by rw [hA]; exact below1 _ _
  have bB : Below A.heap.size A B := by rw [hB]; exact below1 _ _
  have bC : Below B.heap.size B C := by rw [hC]; exact below1 _ _
  have bD : Below C.heap.size C D := by rw [hD]; exact below1 _ _
  have bW : Below D.heap.size D W := by rw [hW]; exact below1 _ _
  have cW : Below C.heap.size C W := bD.trans (bW.mono (by omega))
  have dW : Below B.heap.size B W := bC.trans (cW.mono (by omega))
  have eW : Below A.heap.size A W := bB.trans (dW.mono (by omega))
  have hbW : Below w.heap.size w W := bA.trans (eW.mono (by omega))
  have HL : LogB W w.heap.size a fr ra rr := by
    have : LogB A w.heap.size a fr ra rr := by rw [hA]; exact LogB.new _ _ _ _ _
    exact this.below eW (by omega)
  have HH : B3 W (w.heap.size + 1) 73 (g : Nat) (q : Nat) (k : Nat) := by
    have : B3 B (w.heap.size + 1) 73 (g : Nat) (q : Nat) (k : Nat) := by rw [hB, ← zA]; exact B3.new _ _ _ _ _
    exact this.below dW (by omega)
  have HS2 : Box W (w.heap.size + 2) 66 #[.slice none 0 0] := by
    have : Box C (w.heap.size + 2) 66 #[.slice none 0 0] := by rw [hC, ← zB]; exact Box.new _ _ _
    exact this.below cW (by omega)
  have HI3 : Box W (w.heap.size + 3) 3 #[.int .i64 0] := by
    have : Box D (w.heap.size + 3) 3 #[.int .i64 0] := by rw [hD, ← zC]; exact Box.new _ _ _
    exact this.below bW (by omega)
  have HT4 : Box W (w.heap.size + 4) 4 #[.bool false] := by rw [hW, ← zD]; exact Box.new _ _ _
  have hWP : ∀ j, w.heap.size ≤ j → ¬ P j := fun j hj e => by have := hlow j e; omega
  have C1 := Lib.hid (eachF_yes (w.heap.size + 3) (w.heap.size + 2) w.heap.size (w.heap.size + 4) k (q : Nat) 2000 W (Y := fun _ => False) (I := fun _ _ => True) (h.beside hbW) (hrr.beside hbW) hpr (fun j e => by have := hlow j e; omega)
    (fun _ e => e.elim) trivial (fun _ _ _ _ _ _ => trivial) (fun y0 y l q' p s VA VL VC _ _ _ _ _ _ _ hex _ => by
      obtain ⟨t, ht⟩ := hex
      rw [hsc] at ht
      simp at ht) hf hmn hk ho)
  rw [hsc] at C1
  have HK : Hid (∀ y, Kept (fun j => P j ∨ False) W y → Box y (w.heap.size + 2) 66 #[.slice none 0 0] ∧ Box y (w.heap.size + 3) 3 #[.int .i64 0] ∧ Box y (w.heap.size + 4) 4 #[.bool false] ∧ Kept P w y) := by
    intro y hy
    have hy' : Kept P W y := hy.mono (fun _ _ e => e.elim id False.elim)
    exact ⟨hy'.box HS2 (hWP _ (by omega)), hy'.box HI3 (hWP _ (by omega)), hy'.box HT4 (hWP _ (by omega)), (Kept.of_below hbW P).trans hy'⟩
  have HF : Hid (M.Still d' (fr + 2) m2 ∧ d'.S = d.S ∧ d'.L = d.L ∧ d'.ops ≤ d.ops + 17) := ⟨t1, t2, t3, t4⟩
  obtain ⟨c0, c1, c2, c3⟩ := HL.cells
  obtain ⟨h0, h1, h2⟩ := HH.cells
  rw [hD, hC, hB, hA] at hW
  rw [hW] at c3 h1 h2
  clear hA hB hC hD zA zB zC zD zW bA bB bC bD bW cW dW eW hbW HL HH HS2 HI3 HT4 hWP h hs hrr hpr hlow hf hmn hk ho hz hsc t1 t2 t3 t4 c0 c1 c2 h0
  unfold M.logv
  go_enter Tryz.func33, Tryz.ntmps33
  go_wp2_with fail
  simp only [Nat.add_assoc, Nat.reduceAdd]
  rw [← hW]
  clear hW c3 h1 h2
  refine C1.out.mono ?_
  rintro e w2 ⟨E, d2, u, l, he, rfl, hd2, -, hk2, -⟩
  simp only [Prod.mk.injEq] at he
  obtain ⟨rfl, rfl, rfl, rfl⟩ := he
  obtain ⟨b2, b3, b4, hkk⟩ := HK.out _ hk2
  have HR := Lib.hid (And.intro hd2 hkk)
  have x2 := b2.cell 0
  have x3 := b3.cell 0
  have x4 := b4.cell 0
  simp only [List.getElem?_toArray, List.getElem?_cons_zero] at x2 x3 x4
  clear hd2 hk2 hkk b2 b3 b4 HK C1
  go_wp2_with fail
  go_quiet (fail)
  go_wp2_with fail
  go_returns
  exact ⟨rfl, _, HR.out.1.drewN _, HF.out.1, HF.out.2.1, HF.out.2.2.1, HF.out.2.2.2, HR.out.2.drewN _⟩
end Go.Proofs.YtmgchfjfkdkaoaaGreatDoor
namespace Go.Proofs.YtmgchfjfkdkaoaaGreatDoor
open Go.RowKit

/-- The sectors that a record's bytes say. -/
def M.recSecs (s : ByteArray) : List (Nat × ByteArray) := (List.range (M.gN s)).map fun k => ((M.gA s k).toNat, M.gT s k)
def M.allSecs : List M.Rec → List (Nat × ByteArray)
  | [] => []
  | x :: l => M.recSecs x.s ++ M.allSecs l
theorem M.allSecs_snoc : ∀ (l : List M.Rec) (x : M.Rec), M.allSecs (l ++ [x]) = M.allSecs l ++ M.recSecs x.s
  | [], x => by simp [M.allSecs]
  | y :: l, x => by simp [M.allSecs, M.allSecs_snoc l x]
theorem M.recSecs_at {s : ByteArray} {k : Nat} {p : Nat × ByteArray} (h : (M.recSecs s)[k]? = some p) (h0 : 0 ≤ M.gA s k) : M.gA s k = (p.1 : Nat) ∧ M.gT s k = p.2 := by
  unfold M.recSecs at h
  rw [List.getElem?_map] at h
  by_cases hk : k < M.gN s
  · rw [List.getElem?_range hk] at h
    simp at h
    subst h
    exact ⟨by simp only; omega, rfl⟩
  · rw [List.getElem?_eq_none (by simpa using Nat.le_of_not_lt hk)] at h
    simp at h

set_option maxHeartbeats 4000000 in
theorem findRecords_ok (g q k : Nat) (w : World) {a fr ra rr mn m2 : Nat} {P : Nat → Prop} {d d' : M.D} {u : Nat} {l : List M.Rec} (h : Disk w a P d) (hra : Reg w ra a fr mn) (hpa : ¬ P ra) (hrr : Reg w rr a (fr + 2) m2) (hpr : ¬ P rr) (hlow : ∀ k, P k → k < w.heap.size)
    (hf : fr + 2 ≤ 1000) (hm : mn ≤ 1000) (hmn : m2 ≤ 1000) (hk : k < m2) (ho : d.ops ≤ 1000000) (hsc : M.scan M.dR (fr + 2) m2 k (q : Nat) 2000 (m2 + 1) d 0 [] = (0, d', u, l))
    (hg : ∀ x ∈ l, M.getE x.s = 0 → ∀ i, i < M.gN x.s → M.guards d.S.length fr mn (M.gA x.s i) = true) :
    Calls Tryz.prog 33 #[M.logv a fr ra rr, .agg #[.int .i64 (g : Nat), .int .i64 (q : Nat), .int .i64 (k : Nat)]] w fun e w' => ∃ v, e = .returned (.tuple #[v, .int .i64 (l.length : Nat), .int .i64 0]) ∧ w'.ownsRow w.heap.size 111 2 v (M.allSecs l).length (M.cells (M.allSecs l)) ∧ Disk w' a P d' ∧ Kept P w w' := by
  obtain ⟨A, hA⟩ : ∃ x, x = w.alloc (.cells #[.pointer (some ⟨a, 0, none⟩), .int .i64 (fr : Nat), .pointer (some ⟨ra, 0, none⟩), .pointer (some ⟨rr, 0, none⟩)] 59) := ⟨_, rfl⟩
  obtain ⟨B, hB⟩ : ∃ x, x = A.alloc (.cells #[.int .i64 (g : Nat), .int .i64 (q : Nat), .int .i64 (k : Nat)] 73) := ⟨_, rfl⟩
  obtain ⟨C, hC⟩ : ∃ x, x = B.alloc (.cells #[.slice none 0 0] 66) := ⟨_, rfl⟩
  obtain ⟨D, hD⟩ : ∃ x, x = C.alloc (.cells #[.int .i64 0] 3) := ⟨_, rfl⟩
  obtain ⟨W, hW⟩ : ∃ x, x = D.alloc (.cells #[.bool false] 4) := ⟨_, rfl⟩
  have zA : A.heap.size = w.heap.size + 1 := by rw [hA]; simp
  have zB : B.heap.size = w.heap.size + 2 := by rw [hB, World.size_alloc, zA]
  have zC : C.heap.size = w.heap.size + 3 := by rw [hC, World.size_alloc, zB]
  have zD : D.heap.size = w.heap.size + 4 := by rw [hD, World.size_alloc, zC]
  have zW : W.heap.size = w.heap.size + 5 := by rw [hW, World.size_alloc, zD]
  have bA : Below w.heap.size w A := by rw [hA]; exact below1 _ _
  have bB : Below A.heap.size A B := by rw [hB]; exact below1 _ _
  have bC : Below B.heap.size B C := by rw [hC]; exact below1 _ _
  have bD : Below C.heap.size C D := by rw [hD]; exact below1 _ _
  have bW : Below D.heap.size D W := by rw [hW]; exact below1 _ _
  have cW : Below C.heap.size C W := bD.trans (bW.mono (by omega))
  have dW : Below B.heap.size B W := bC.trans (cW.mono (by omega))
  have eW : Below A.heap.size A W := bB.trans (dW.mono (by omega))
  have hbW : Below w.heap.size w W := bA.trans (eW.mono (by omega))
  have HL : LogB W w.heap.size a fr ra rr := by
    have : LogB A w.heap.size a fr ra rr := by rw [hA]; exact LogB.new _ _ _ _ _
    exact this.below eW (by omega)
  have HH : B3 W (w.heap.size + 1) 73 (g : Nat) (q : Nat) (k : Nat) := by
    have : B3 B (w.heap.size + 1) 73 (g : Nat) (q : Nat) (k : Nat) := by rw [hB, ← zA]; exact B3.new _ _ _ _ _
    exact this.below dW (by omega)
  have HS2 : Box W (w.heap.size + 2) 66 #[.slice none 0 0] := by
    have : Box C (w.heap.size + 2) 66 #[.slice none 0 0] := by rw [hC, ← zB]; exact Box.new _ _ _
    exact this.below cW (by omega)
  have HI3 : Box W (w.heap.size + 3) 3 #[.int .i64 0] := by
    have : Box D (w.heap.size + 3) 3 #[.int .i64 0] := by rw [hD, ← zC]; exact Box.new _ _ _
    exact this.below bW (by omega)
  have HT4 : Box W (w.heap.size + 4) 4 #[.bool false] := by rw [hW, ← zD]; exact Box.new _ _ _
  have hral := hra.lt
  have hrrl := hrr.lt
  have hWP : ∀ j, w.heap.size ≤ j → ¬ P j := fun j hj e => by have := hlow j e; omega
  have hap : w.heap.size + 3 ≠ w.heap.size + 2 ∧ w.heap.size + 3 ≠ w.heap.size ∧ w.heap.size + 3 ≠ w.heap.size + 4 ∧ w.heap.size + 2 ≠ w.heap.size ∧ w.heap.size + 2 ≠ w.heap.size + 4 ∧ w.heap.size ≠ w.heap.size + 4 := by omega
  have C1 := Lib.hid (eachF_yes (w.heap.size + 3) (w.heap.size + 2) w.heap.size (w.heap.size + 4) k (q : Nat) 2000 W (Y := fun j => j = w.heap.size + 3 ∨ j = w.heap.size + 2 ∨ j = w.heap.size + 4 ∨ W.heap.size + 1 ≤ j)
    (I := fun y m => (∃ v, Fnd14 (W.heap.size + 1) y (w.heap.size + 3) (w.heap.size + 2) w.heap.size (w.heap.size + 4) a fr ra rr (M.allSecs m) m.length v) ∧ Reg y ra a fr mn ∧ (M.allSecs m).length ≤ 16 * m.length) (h.beside hbW) (hrr.beside hbW) hpr (fun j e => by have := hlow j e; omega)
    (fun j e => ⟨fun e' => by have := hlow j e'; omega, by omega, by omega⟩) ⟨⟨_, HI3, HS2, World.ownsRow_nil _ _ _ _, HL, HT4, ⟨by omega, by omega, by omega, by omega⟩, hap⟩, hra.beside hbW, Nat.le_refl _⟩
    (fun y z m ⟨⟨v, hy⟩, hy2, hy3⟩ hkz hsz => ⟨⟨v, hy.kept hkz (fun e => e.elim (hWP _ (by omega)) (fun e => by omega)) (fun e => e.elim (hWP _ (by omega)) (fun e => by omega)) (fun e => e.elim (hWP _ (by omega)) (fun e => by omega)) (fun e => e.elim (hWP _ (by omega)) (fun e => by omega))
      (fun j e e' => by have h1 := (hy.own.lt j e).1; exact e'.elim (hWP _ (by omega)) (fun e => by omega))⟩, hy2.kept hkz (fun e => e.elim hpa (fun e => by omega)), hy3⟩)
    (fun y0 y m q' p s VA VL VC ⟨⟨v, hv⟩, hv2, hv3⟩ hsz hky hge hsv hnew hlm hex hdk => by
      obtain ⟨t, ht⟩ := hex
      rw [hsc] at ht
      have hmem : (⟨q', p, s⟩ : M.Rec) ∈ l := by
        have ht' : l = (m ++ [(⟨q', p, s⟩ : M.Rec)]) ++ t := ht
        rw [ht']; simp
      obtain ⟨dk, hd1, hd2⟩ := hdk
      obtain ⟨VA', VC', e1, e2, e3, hS⟩ := hsv
      injection e1 with e1 e4 e5
      subst e1 e4 e5
      obtain ⟨n1, n16⟩ := M.get_n hge
      have hgd := hg _ hmem hge
      have h0 : ∀ i, i < M.gN s → 0 ≤ M.gA s i := fun i hi => by
        have := hgd i hi
        unfold M.guards at this
        simp at this
        exact this.1
      have hvk : Fnd14 (W.heap.size + 1) y (w.heap.size + 3) (w.heap.size + 2) w.heap.size (w.heap.size + 4) a fr ra rr (M.allSecs m) m.length v :=
        hv.kept hky (fun e => e.elim (hWP _ (by omega)) (fun e => by omega)) (fun e => e.elim (hWP _ (by omega)) (fun e => by omega)) (fun e => e.elim (hWP _ (by omega)) (fun e => by omega)) (fun e => e.elim (hWP _ (by omega)) (fun e => by omega))
          (fun j e e' => by have h1 := (hv.own.lt j e).1; exact e'.elim (hWP _ (by omega)) (fun e => by omega))
      have hyz := hky.size
      have hra' : Reg y ra a fr mn := hv2.kept hky (fun e => e.elim hpa (fun e => by omega))
      refine (found1_yes q' p VA (M.gN s) VC (W.heap.size + 1) y hvk (by omega) hd1 (fun j e => by have := hlow j e; omega) hra' (by omega) (by omega) hm (M.recSecs s) (by simp [M.recSecs]) n1 n16 (M.gA s) (M.gT s) hS
        (fun i p' hp' => M.recSecs_at hp' (h0 i (by have := (List.getElem?_eq_some_iff.1 hp').1; simpa [M.recSecs] using this)))
        (fun ad e => ⟨by have := hnew ad _ _ (by rw [e]); omega, fun e' => by have h1 := (hv.own.lt _ e').2; have := hnew ad _ _ (by rw [e]); omega⟩)
        (fun i hi => by rw [hd2]; exact hgd i hi) (by omega) (by omega)).mono ?_
      rintro e y' ⟨rfl, ⟨v', hv', _⟩, hk'⟩
      refine ⟨by rw [decide_eq_true (by omega)], ⟨⟨v', ?_⟩, hra'.kept hk' (fun e => by omega), ?_⟩, hk'⟩
      · rw [M.allSecs_snoc, List.length_append]
        exact hv'
      · rw [M.allSecs_snoc, List.length_append, List.length_append]
        have : (M.recSecs s).length = M.gN s := by simp [M.recSecs]
        simp only [List.length_cons, List.length_nil]
        omega) hf hmn hk ho)
  rw [hsc] at C1
  have HK : Hid (∀ y, Kept (fun j => P j ∨ (j = w.heap.size + 3 ∨ j = w.heap.size + 2 ∨ j = w.heap.size + 4 ∨ W.heap.size + 1 ≤ j)) W y → Kept P w y) := by
    intro y hy
    exact (Kept.of_below hbW P).next (hy.mono (Q := fun j => P j ∨ w.heap.size ≤ j) (fun j _ e => e.imp id (fun e => by omega))) (fun j hj e => e.elim id (fun e => by omega))
  have HN : Hid (w.heap.size ≤ W.heap.size + 1) := by show _ ≤ _; omega
  obtain ⟨c0, c1, c2, c3⟩ := HL.cells
  obtain ⟨h0, h1, h2⟩ := HH.cells
  rw [hD, hC, hB, hA] at hW
  rw [hW] at c3 h1 h2
  clear hA hB hC hD zA zB zC zD zW bA bB bC bD bW cW dW eW hbW HL HH HS2 HI3 HT4 hWP h hra hpa hrr hpr hlow hf hm hmn hk ho hsc hg hral hrrl hap c0 c1 c2 h0
  unfold M.logv
  go_enter Tryz.func33, Tryz.ntmps33
  go_wp2_with fail
  simp only [Nat.add_assoc, Nat.reduceAdd]
  rw [← hW]
  clear hW c3 h1 h2
  refine C1.out.mono ?_
  rintro e w2 ⟨E, d2, u2, l2, he, rfl, hd2, ⟨⟨v, hF⟩, -, -⟩, hk2, -⟩
  simp only [Prod.mk.injEq] at he
  obtain ⟨rfl, rfl, rfl, rfl⟩ := he
  have HR := Lib.hid (And.intro hd2 (HK.out _ hk2))
  have HOW : Hid (∀ m, (w2.drewN m).ownsRow w.heap.size 111 2 v (M.allSecs l).length (M.cells (M.allSecs l))) := by
    intro m
    have h1 := ((Kept.refl (fun _ => False) w2).drewN m).owns14 hF.own (fun _ _ => id)
    exact ⟨h1.1, h1.2.imp id (fun ⟨g, cap, cur, e, h2, h3⟩ => ⟨g, cap, cur, e, Nat.le_trans HN.out h2, h3⟩)⟩
  have x2 := hF.sec.cell 0
  have x3 := hF.num.cell 0
  have x4 := hF.str.cell 0
  simp only [List.getElem?_toArray, List.getElem?_cons_zero] at x2 x3 x4
  clear hd2 hk2 hF HK C1
  go_wp2_with fail
  go_quiet (fail)
  go_wp2_with fail
  go_returns
  exact ⟨v, rfl, HOW.out _, HR.out.1.drewN _, HR.out.2.drewN _⟩

set_option maxHeartbeats 4000000 in
theorem findRecords_err (g q k : Nat) (w : World) {a fr ra rr mn m2 : Nat} {P : Nat → Prop} {d d' : M.D} {u : Nat} {l : List M.Rec} (h : Disk w a P d) (hra : Reg w ra a fr mn) (hpa : ¬ P ra) (hrr : Reg w rr a (fr + 2) m2) (hpr : ¬ P rr) (hlow : ∀ k, P k → k < w.heap.size)
    (hf : fr + 2 ≤ 1000) (hm : mn ≤ 1000) (hmn : m2 ≤ 1000) (hk : k < m2) (ho : d.ops ≤ 1000000) {E0 : Int} (hE0 : E0 ≠ 0) (hsc : M.scan M.dR (fr + 2) m2 k (q : Nat) 2000 (m2 + 1) d 0 [] = (E0, d', u, l))
    (hg : ∀ x ∈ l, M.getE x.s = 0 → ∀ i, i < M.gN x.s → M.guards d.S.length fr mn (M.gA x.s i) = true) :
    Calls Tryz.prog 33 #[M.logv a fr ra rr, .agg #[.int .i64 (g : Nat), .int .i64 (q : Nat), .int .i64 (k : Nat)]] w fun e w' => e = .returned (.tuple #[.slice none 0 0, .int .i64 0, .int .i64 E0]) ∧ Disk w' a P d' ∧ Kept P w w' := by
  have hE1 : (E0 == 0) = false := by rw [beq_eq_false_iff_ne]; exact hE0
  obtain ⟨A, hA⟩ : ∃ x, x = w.alloc (.cells #[.pointer (some ⟨a, 0, none⟩), .int .i64 (fr : Nat), .pointer (some ⟨ra, 0, none⟩), .pointer (some ⟨rr, 0, none⟩)] 59) := ⟨_, rfl⟩
  obtain ⟨B, hB⟩ : ∃ x, x = A.alloc (.cells #[.int .i64 (g : Nat), .int .i64 (q : Nat), .int .i64 (k : Nat)] 73) := ⟨_, rfl⟩
  obtain ⟨C, hC⟩ : ∃ x, x = B.alloc (.cells #[.slice none 0 0] 66) := ⟨_, rfl⟩
  obtain ⟨D, hD⟩ : ∃ x, x = C.alloc (.cells #[.int .i64 0] 3) := ⟨_, rfl⟩
  obtain ⟨W, hW⟩ : ∃ x, x = D.alloc (.cells #[.bool false] 4) := ⟨_, rfl⟩
  have zA : A.heap.size = w.heap.size + 1 := by rw [hA]; simp
  have zB : B.heap.size = w.heap.size + 2 := by rw [hB, World.size_alloc, zA]
  have zC : C.heap.size = w.heap.size + 3 := by rw [hC, World.size_alloc, zB]
  have zD : D.heap.size = w.heap.size + 4 := by rw [hD, World.size_alloc, zC]
  have zW : W.heap.size = w.heap.size + 5 := by rw [hW, World.size_alloc, zD]
  have bA : Below w.heap.size w A := by rw [hA]; exact below1 _ _
  have bB : Below A.heap.size A B := by rw [hB]; exact below1 _ _
  have bC : Below B.heap.size B C := by rw [hC]; exact below1 _ _
  have bD : Below C.heap.size C D := by rw [hD]; exact below1 _ _
  have bW : Below D.heap.size D W := by rw [hW]; exact below1 _ _
  have cW : Below C.heap.size C W := bD.trans (bW.mono (by omega))
  have dW : Below B.heap.size B W := bC.trans (cW.mono (by omega))
  have eW : Below A.heap.size A W := bB.trans (dW.mono (by omega))
  have hbW : Below w.heap.size w W := bA.trans (eW.mono (by omega))
  have HL : LogB W w.heap.size a fr ra rr := by
    have : LogB A w.heap.size a fr ra rr := by rw [hA]; exact LogB.new _ _ _ _ _
    exact this.below eW (by omega)
  have HH : B3 W (w.heap.size + 1) 73 (g : Nat) (q : Nat) (k : Nat) := by
    have : B3 B (w.heap.size + 1) 73 (g : Nat) (q : Nat) (k : Nat) := by rw [hB, ← zA]; exact B3.new _ _ _ _ _
    exact this.below dW (by omega)
  have HS2 : Box W (w.heap.size + 2) 66 #[.slice none 0 0] := by
    have : Box C (w.heap.size + 2) 66 #[.slice none 0 0] := by rw [hC, ← zB]; exact Box.new _ _ _
    exact this.below cW (by omega)
  have HI3 : Box W (w.heap.size + 3) 3 #[.int .i64 0] := by
    have : Box D (w.heap.size + 3) 3 #[.int .i64 0] := by rw [hD, ← zC]; exact Box.new _ _ _
    exact this.below bW (by omega)
  have HT4 : Box W (w.heap.size + 4) 4 #[.bool false] := by rw [hW, ← zD]; exact Box.new _ _ _
  have hral := hra.lt
  have hrrl := hrr.lt
  have hWP : ∀ j, w.heap.size ≤ j → ¬ P j := fun j hj e => by have := hlow j e; omega
  have hap : w.heap.size + 3 ≠ w.heap.size + 2 ∧ w.heap.size + 3 ≠ w.heap.size ∧ w.heap.size + 3 ≠ w.heap.size + 4 ∧ w.heap.size + 2 ≠ w.heap.size ∧ w.heap.size + 2 ≠ w.heap.size + 4 ∧ w.heap.size ≠ w.heap.size + 4 := by omega
  have C1 := Lib.hid (eachF_yes (w.heap.size + 3) (w.heap.size + 2) w.heap.size (w.heap.size + 4) k (q : Nat) 2000 W (Y := fun j => j = w.heap.size + 3 ∨ j = w.heap.size + 2 ∨ j = w.heap.size + 4 ∨ W.heap.size + 1 ≤ j)
    (I := fun y m => (∃ v, Fnd14 (W.heap.size + 1) y (w.heap.size + 3) (w.heap.size + 2) w.heap.size (w.heap.size + 4) a fr ra rr (M.allSecs m) m.length v) ∧ Reg y ra a fr mn ∧ (M.allSecs m).length ≤ 16 * m.length) (h.beside hbW) (hrr.beside hbW) hpr (fun j e => by have := hlow j e; omega)
    (fun j e => ⟨fun e' => by have := hlow j e'; omega, by omega, by omega⟩) ⟨⟨_, HI3, HS2, World.ownsRow_nil _ _ _ _, HL, HT4, ⟨by omega, by omega, by omega, by omega⟩, hap⟩, hra.beside hbW, Nat.le_refl _⟩
    (fun y z m ⟨⟨v, hy⟩, hy2, hy3⟩ hkz hsz => ⟨⟨v, hy.kept hkz (fun e => e.elim (hWP _ (by omega)) (fun e => by omega)) (fun e => e.elim (hWP _ (by omega)) (fun e => by omega)) (fun e => e.elim (hWP _ (by omega)) (fun e => by omega)) (fun e => e.elim (hWP _ (by omega)) (fun e => by omega))
      (fun j e e' => by have h1 := (hy.own.lt j e).1; exact e'.elim (hWP _ (by omega)) (fun e => by omega))⟩, hy2.kept hkz (fun e => e.elim hpa (fun e => by omega)), hy3⟩)
    (fun y0 y m q' p s VA VL VC ⟨⟨v, hv⟩, hv2, hv3⟩ hsz hky hge hsv hnew hlm hex hdk => by
      obtain ⟨t, ht⟩ := hex
      rw [hsc] at ht
      have hmem : (⟨q', p, s⟩ : M.Rec) ∈ l := by
        have ht' : l = (m ++ [(⟨q', p, s⟩ : M.Rec)]) ++ t := ht
        rw [ht']; simp
      obtain ⟨dk, hd1, hd2⟩ := hdk
      obtain ⟨VA', VC', e1, e2, e3, hS⟩ := hsv
      injection e1 with e1 e4 e5
      subst e1 e4 e5
      obtain ⟨n1, n16⟩ := M.get_n hge
      have hgd := hg _ hmem hge
      have h0 : ∀ i, i < M.gN s → 0 ≤ M.gA s i := fun i hi => by
        have := hgd i hi
        unfold M.guards at this
        simp at this
        exact this.1
      have hvk : Fnd14 (W.heap.size + 1) y (w.heap.size + 3) (w.heap.size + 2) w.heap.size (w.heap.size + 4) a fr ra rr (M.allSecs m) m.length v :=
        hv.kept hky (fun e => e.elim (hWP _ (by omega)) (fun e => by omega)) (fun e => e.elim (hWP _ (by omega)) (fun e => by omega)) (fun e => e.elim (hWP _ (by omega)) (fun e => by omega)) (fun e => e.elim (hWP _ (by omega)) (fun e => by omega))
          (fun j e e' => by have h1 := (hv.own.lt j e).1; exact e'.elim (hWP _ (by omega)) (fun e => by omega))
      have hyz := hky.size
      have hra' : Reg y ra a fr mn := hv2.kept hky (fun e => e.elim hpa (fun e => by omega))
      refine (found1_yes q' p VA (M.gN s) VC (W.heap.size + 1) y hvk (by omega) hd1 (fun j e => by have := hlow j e; omega) hra' (by omega) (by omega) hm (M.recSecs s) (by simp [M.recSecs]) n1 n16 (M.gA s) (M.gT s) hS
        (fun i p' hp' => M.recSecs_at hp' (h0 i (by have := (List.getElem?_eq_some_iff.1 hp').1; simpa [M.recSecs] using this)))
        (fun ad e => ⟨by have := hnew ad _ _ (by rw [e]); omega, fun e' => by have h1 := (hv.own.lt _ e').2; have := hnew ad _ _ (by rw [e]); omega⟩)
        (fun i hi => by rw [hd2]; exact hgd i hi) (by omega) (by omega)).mono ?_
      rintro e y' ⟨rfl, ⟨v', hv', _⟩, hk'⟩
      refine ⟨by rw [decide_eq_true (by omega)], ⟨⟨v', ?_⟩, hra'.kept hk' (fun e => by omega), ?_⟩, hk'⟩
      · rw [M.allSecs_snoc, List.length_append]
        exact hv'
      · rw [M.allSecs_snoc, List.length_append, List.length_append]
        have : (M.recSecs s).length = M.gN s := by simp [M.recSecs]
        simp only [List.length_cons, List.length_nil]
        omega) hf hmn hk ho)
  rw [hsc] at C1
  have HK : Hid (∀ y, Kept (fun j => P j ∨ (j = w.heap.size + 3 ∨ j = w.heap.size + 2 ∨ j = w.heap.size + 4 ∨ W.heap.size + 1 ≤ j)) W y → Kept P w y) := by
    intro y hy
    exact (Kept.of_below hbW P).next (hy.mono (Q := fun j => P j ∨ w.heap.size ≤ j) (fun j _ e => e.imp id (fun e => by omega))) (fun j hj e => e.elim id (fun e => by omega))
  obtain ⟨c0, c1, c2, c3⟩ := HL.cells
  obtain ⟨h0, h1, h2⟩ := HH.cells
  rw [hD, hC, hB, hA] at hW
  rw [hW] at c3 h1 h2
  clear hA hB hC hD zA zB zC zD zW bA bB bC bD bW cW dW eW hbW HL HH HS2 HI3 HT4 hWP h hra hpa hrr hpr hlow hf hm hmn hk ho hsc hg hral hrrl hap c0 c1 c2 h0
  unfold M.logv
  go_enter Tryz.func33, Tryz.ntmps33
  go_wp2_with fail
  simp only [Nat.add_assoc, Nat.reduceAdd]
  rw [← hW]
  clear hW c3 h1 h2
  refine C1.out.mono ?_
  rintro e w2 ⟨E, d2, u2, l2, he, rfl, hd2, ⟨⟨v, hF⟩, -, -⟩, hk2, -⟩
  simp only [Prod.mk.injEq] at he
  obtain ⟨rfl, rfl, rfl, rfl⟩ := he
  have HR := Lib.hid (And.intro hd2 (HK.out _ hk2))
  have x2 := hF.sec.cell 0
  have x3 := hF.num.cell 0
  have x4 := hF.str.cell 0
  simp only [List.getElem?_toArray, List.getElem?_cons_zero] at x2 x3 x4
  clear hd2 hk2 hF HK C1
  go_wp2_with fail
  try go_quiet (fail)
  try go_wp2_with fail
  go_returns
  first
    | exact ⟨rfl, HR.out.1, HR.out.2⟩
    | exact ⟨rfl, HR.out.1.drewN _, HR.out.2.drewN _⟩
end Go.Proofs.YtmgchfjfkdkaoaaGreatDoor
