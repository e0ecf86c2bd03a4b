/-
  Is a record's sector a stray: the callbacks inside wal.findRecords's own, where none is. The callback of wal.findRecords, where no record has a stray sector.
-/
import Derived.Test.YtmgchfjfkdkaoaaGreatDoorNA
import Derived.Test.YtmgchfjfkdkaoaaGreatDoorMB
import Derived.Test.YtmgchfjfkdkaoaaGreatDoorND
import Derived.Test.YtmgchfjfkdkaoaaGreatDoorMI
import Derived.Deep.AppendLies
namespace Go.Proofs.YtmgchfjfkdkaoaaGreatDoor
open Go.RowKit

set_option maxHeartbeats 1000000 in
theorem guard1_any (lb : Nat) (i : Int) (t : ByteArray) (w : World) {a fr ra rr mn : Nat} {P : Nat → Prop} {d : M.D} (h : Disk w a P d) (hr : Reg w ra a fr mn) (hL : LogB w lb a fr ra rr) (hf : fr ≤ 1000) (hm : mn ≤ 1000) :
    Calls Tryz.prog 72 #[.agg #[.int .i64 i, .string t], .pointer (some ⟨lb, 0, none⟩)] w fun e w' => e = .returned (.bool (!M.guards d.S.length fr mn i)) ∧ Below w.heap.size w w' := by
  have hb := below1 w (.cells #[.int .i64 i, .string t] 111)
  obtain ⟨z1, z2⟩ := cells2 w (.int .i64 i) (.string t) 111
  have C1 := Lib.hid (guards_any i (w.alloc (.cells #[.int .i64 i, .string t] 111)) (h.beside hb) (hr.beside hb) hf hm (rr := rr))
  obtain ⟨c0, c1, c2, c3⟩ := (hL.below hb hL.lt).cells
  have HB := Lib.hid hb
  obtain ⟨g, hg⟩ : ∃ g, g = M.guards d.S.length fr mn i := ⟨_, rfl⟩
  rw [← hg] at C1 ⊢
  unfold M.logv at C1
  clear h hr hL hf hm hb hg
  go_enter Tryz.func72, Tryz.ntmps72
  go_wp2_with fail
  refine C1.out.mono ?_
  rintro e w1 ⟨rfl, hb1⟩
  have HR := Lib.hid (HB.out.trans (hb1.mono HB.out.size))
  clear hb1 C1 HB
  go_wp2_with fail
  go_ret
  exact ⟨rfl, HR.out⟩

set_option maxHeartbeats 1000000 in
theorem index_no (lb : Nat) (A : Option Addr) (n c : Nat) (hn : n ≤ 1000) (w : World) (x : Nat → Int) (t : Nat → ByteArray) (hS : SecF w A n x t) {a fr ra rr mn : Nat} {P : Nat → Prop} {d : M.D} (h : Disk w a P d) (hr : Reg w ra a fr mn) (hL : LogB w lb a fr ra rr) (hf : fr ≤ 1000) (hm : mn ≤ 1000)
    (hg : ∀ k, k < n → M.guards d.S.length fr mn (x k) = true) :
    Calls Tryz.prog 106 #[.slice A n c, .func (.func 72) #[] #[.pointer (some ⟨lb, 0, none⟩)]] w fun e w' => e = .returned (.int .i64 (-1)) ∧ Below w.heap.size w w' := by
  have HC : Hid (∀ k, k < n → ∀ y, Below w.heap.size w y → ∃ ad : Addr, A = some ad ∧ y.cell? (ad.add (k * 2)) = some (.int .i64 (x k)) ∧ y.cell? ⟨(ad.add (k * 2)).block, (ad.add (k * 2)).off + 1, none⟩ = some (.string (t k)) ∧
      Calls Tryz.prog 72 #[.agg #[.int .i64 (x k), .string (t k)], .pointer (some ⟨lb, 0, none⟩)] y fun e w' => e = .returned (.bool false) ∧ Below w.heap.size w w') := by
    intro k hk y hy
    obtain ⟨ad, h1, h2, h3, h4, _⟩ := hS.below (Nat.le_refl _) hy k hk
    refine ⟨ad, h1, h3, h4, ?_⟩
    have := guard1_any lb (x k) (t k) y (h.beside hy) (hr.beside hy) (hL.below hy hL.lt) hf hm
    rw [hg k hk] at this
    exact this.mono fun e z ⟨e1, e2⟩ => ⟨e1, hy.trans (e2.mono hy.size)⟩
  have hn1 : (n : Int) ≤ 1000 := by omega
  clear hS h hr hL hf hm hg hn
  have H0 : Hid (Below w.heap.size w w) := Below.refl _ _
  go_enter Tryz.func106, Tryz.ntmps106
  go_wp2_with fail
  go_loopw [8] (fun j wr => ∃ k : Nat, k ≤ n ∧ j = .int .i64 k ∧ Hid (Below w.heap.size w wr)) (fun j _ => n - (intOf j).toNat)
  case atStart => exact ⟨0, Nat.zero_le _, rfl, H0⟩
  case round =>
    clear H0
    obtain ⟨k, hk, rfl, HB⟩ := hrel
    by_cases hlt : k < n
    · have hk0 : (0 : Int) ≤ (k : Int) := by omega
      have hlt' : (k : Int) < (n : Int) := by omega
      have HKL : Hid (k < n) := hlt
      obtain ⟨ad, rfl, x0, x1, hcl⟩ := HC.out k hlt wr HB.out
      have HCL := Lib.hid hcl
      obtain ⟨xk, hxk⟩ : ∃ u, u = x k := ⟨_, rfl⟩
      obtain ⟨tk, htk⟩ : ∃ u, u = t k := ⟨_, rfl⟩
      rw [← hxk] at x0 HCL
      rw [← htk] at x1 HCL
      clear hcl hxk htk hk hlt HC HB
      go_wp2_with fail
      refine HCL.out.mono ?_
      rintro e w2 ⟨rfl, hb2⟩
      have HB2 := Lib.hid hb2
      clear hb2 HCL
      go_wp2_with fail
      go_roundw
      case rel => exact ⟨k + 1, HKL.out, by go_num, HB2⟩
      case measure => have := HKL.out; simp [intOf]; omega
    · have e : k = n := by omega
      subst e
      clear hlt hk HC
      go_wp2_with fail
      go_ret
      exact ⟨rfl, HB.out⟩

theorem contains_no (lb : Nat) (A : Option Addr) (n c : Nat) (hn : n ≤ 1000) (w : World) (x : Nat → Int) (t : Nat → ByteArray) (hS : SecF w A n x t) {a fr ra rr mn : Nat} {P : Nat → Prop} {d : M.D} (h : Disk w a P d) (hr : Reg w ra a fr mn) (hL : LogB w lb a fr ra rr) (hf : fr ≤ 1000) (hm : mn ≤ 1000)
    (hg : ∀ k, k < n → M.guards d.S.length fr mn (x k) = true) :
    Calls Tryz.prog 71 #[.slice A n c, .func (.func 72) #[] #[.pointer (some ⟨lb, 0, none⟩)]] w fun e w' => e = .returned (.bool false) ∧ Below w.heap.size w w' := by
  have C1 := Lib.hid (index_no lb A n c hn w x t hS h hr hL hf hm hg)
  clear hS h hr hL hf hm hg hn
  go_enter Tryz.func71, Tryz.ntmps71
  go_wp2_with fail
  refine C1.out.mono ?_
  rintro e w1 ⟨rfl, hb⟩
  have HB := Lib.hid hb
  clear hb C1
  go_wp2_with fail
  go_ret
  exact ⟨rfl, HB.out⟩
end Go.Proofs.YtmgchfjfkdkaoaaGreatDoor
namespace Go.Proofs.YtmgchfjfkdkaoaaGreatDoor
open Go.RowKit Go.Maps

theorem M.cells_app14 : ∀ (l k : List (Nat × ByteArray)), M.cells (l ++ k) = M.cells l ++ M.cells k
  | [], _ => rfl
  | q :: l, k => by simp [M.cells, M.cells_app14 l k]
theorem M.cells_len14 : ∀ (l : List (Nat × ByteArray)), (M.cells l).length = l.length * 2
  | [] => rfl
  | q :: l => by simp [M.cells, M.cells_len14 l]; omega
theorem M.cells_get14 : ∀ (l : List (Nat × ByteArray)) (k : Nat) (p : Nat × ByteArray), l[k]? = some p → (M.cells l)[k * 2]? = some (.int .i64 (p.1 : Nat)) ∧ (M.cells l)[k * 2 + 1]? = some (.string p.2)
  | [], _, _, h => by simp at h
  | q :: l, 0, p, h => by simp at h; subst h; exact ⟨rfl, rfl⟩
  | q :: l, k + 1, p, h => by
    have := M.cells_get14 l k p (by simpa using h)
    rw [show (k + 1) * 2 = k * 2 + 2 by omega, show k * 2 + 2 + 1 = (k * 2 + 1) + 2 by omega]
    simpa [M.cells] using this

/-- What the callback leans on: how many records, their sectors, the log, whether there are strays; new rows lie from N on. -/
structure Fnd14 (N : Nat) (y : World) (c0 c1 c2 c3 a fr ra rr : Nat) (L : List (Nat × ByteArray)) (rec : Nat) (v : Value) : Prop where
  num : Box y c0 3 #[.int .i64 (rec : Nat)]
  sec : Box y c1 66 #[v]
  own : y.ownsRow N 111 2 v L.length (M.cells L)
  log : LogB y c2 a fr ra rr
  str : Box y c3 4 #[.bool false]
  low : c0 < N ∧ c1 < N ∧ c2 < N ∧ c3 < N
  apart : c0 ≠ c1 ∧ c0 ≠ c2 ∧ c0 ≠ c3 ∧ c1 ≠ c2 ∧ c1 ≠ c3 ∧ c2 ≠ c3
theorem Fnd14.kept {G : Nat → Prop} {N : Nat} {y z : World} {c0 c1 c2 c3 a fr ra rr : Nat} {L : List (Nat × ByteArray)} {rec : Nat} {v : Value} (h : Fnd14 N y c0 c1 c2 c3 a fr ra rr L rec v) (hk : Kept G y z) (h0 : ¬ G c0) (h1 : ¬ G c1) (h2 : ¬ G c2) (h3 : ¬ G c3) (hv : ∀ k, v.ownBlock = some k → ¬ G k) : Fnd14 N z c0 c1 c2 c3 a fr ra rr L rec v :=
  ⟨hk.box h.num h0, hk.box h.sec h1, hk.owns14 h.own hv, hk.box h.log h2, hk.box h.str h3, h.low, h.apart⟩

set_option maxRecDepth 100000 in
set_option maxHeartbeats 2000000 in
theorem found1_yes (q : Int) (p : Nat) (A : Option Addr) (n c : Nat) (N : Nat) (w : World) {c0 c1 c2 c3 a fr ra rr mn rec : Nat} {P : Nat → Prop} {d : M.D} {L : List (Nat × ByteArray)} {v : Value} (h : Fnd14 N w c0 c1 c2 c3 a fr ra rr L rec v) (hN : N ≤ w.heap.size) (hD : Disk w a P d) (hPN : ∀ k, P k → k < N ∧ k ≠ c0 ∧ k ≠ c1 ∧ k ≠ c3) (hr : Reg w ra a fr mn) (hra : ra < N ∧ ra ≠ c0 ∧ ra ≠ c1 ∧ ra ≠ c3) (hf : fr ≤ 1000) (hm : mn ≤ 1000)
    (K : List (Nat × ByteArray)) (hKn : K.length = n) (h1 : 1 ≤ n) (h16 : n ≤ 16) (x : Nat → Int) (t : Nat → ByteArray) (hS : SecF w A n x t) (hx : ∀ k p, K[k]? = some p → x k = (p.1 : Nat) ∧ t k = p.2) (hsep : ∀ ad, A = some ad → N ≤ ad.block ∧ v.ownBlock ≠ some ad.block)
    (hg : ∀ k, k < n → M.guards d.S.length fr mn (x k) = true) (hL : L.length ≤ 100000) (hrec : rec ≤ 100000) :
    Calls Tryz.prog 70 #[.agg #[.int .i64 q, .int .i64 (p : Nat), .slice A n c], .pointer (some ⟨c0, 0, none⟩), .pointer (some ⟨c1, 0, none⟩), .pointer (some ⟨c2, 0, none⟩), .pointer (some ⟨c3, 0, none⟩)] w fun e w' => e = .returned (.bool true) ∧
      (∃ v', Fnd14 N w' c0 c1 c2 c3 a fr ra rr (L ++ K) (rec + 1) v' ∧ ∀ k, v'.ownBlock = some k → k < w'.heap.size) ∧ Kept (fun k => k = c0 ∨ k = c1 ∨ k = c3 ∨ N ≤ k) w w' := by
  obtain ⟨i0, hi, hz0, hz1, hz2⟩ := info_parts infoSec14
  obtain ⟨l0, l1, l2, l3⟩ := h.low
  obtain ⟨a1, a2, a3, a4, a5, a6⟩ := h.apart
  obtain ⟨ad, rfl⟩ : ∃ ad, A = some ad := by
    obtain ⟨ad, e, _⟩ := hS 0 (by omega)
    exact ⟨ad, e⟩
  have hadN := (hsep ad rfl).1
  have hadv := (hsep ad rfl).2
  have hadw : ad.block < w.heap.size := by
    obtain ⟨ad', e, h2, _⟩ := hS 0 (by omega)
    injection e with e
    rw [e]; exact h2
  -- the record's own box; the count
  obtain ⟨w0, hw0⟩ : ∃ w0, w0 = w.alloc (.cells #[.int .i64 q, .int .i64 (p : Nat), .slice (some ad) n c] 118) := ⟨_, rfl⟩
  have k0 : Kept (fun _ => False) w w0 := by rw [hw0]; exact (Kept.refl _ w).alloc _
  have b0 : Box w0 w.heap.size 118 #[.int .i64 q, .int .i64 (p : Nat), .slice (some ad) n c] := by rw [hw0]; exact Box.new _ _ _
  have n0 := k0.box h.num id
  obtain ⟨w1, hw1⟩ : ∃ w1, w1 = w0.setCell ⟨c0, 0, none⟩ (.int .i64 ((rec + 1 : Nat) : Int)) := ⟨_, rfl⟩
  have k1 : Kept (fun k => k = c0) w0 w1 := by rw [hw1]; exact (Kept.refl (fun k => k = c0) w0).set (fun _ => rfl) 0 _
  have k01 : Kept (fun k => k = c0) w w1 := (k0.mono (fun _ _ e => e.elim)).trans k1
  have n1 : Box w1 c0 3 #[.int .i64 ((rec + 1 : Nat) : Int)] := by rw [hw1]; exact n0.set 0 _
  have hvN : ∀ k, v.ownBlock = some k → N ≤ k ∧ k < w.heap.size := fun k e => h.own.lt k e
  have HO1 : Hid (w1.ownsRow N 111 2 v L.length (M.cells L)) := k01.owns14 h.own (fun k e e' => by have := (hvN k e).1; omega)
  have b1 := k1.box b0 (by omega)
  have s1 := k01.box h.sec (fun e => a1 e.symm)
  have z1 : w1.heap.size = w.heap.size + 1 := by rw [hw1, hw0]; simp [World.setCell]
  have HNEW : Hid (∀ j u, (M.cells K)[j]? = some u → w1.cell? (ad.add j) = some u) := by
    intro j u hj
    have hjl := (List.getElem?_eq_some_iff.1 hj).1
    rw [M.cells_len14, hKn] at hjl
    have hjk : j / 2 < n := by omega
    have eK : K[j / 2]? = some (K[j / 2]'(by omega)) := List.getElem?_eq_getElem _
    obtain ⟨g1, g2⟩ := M.cells_get14 K (j / 2) _ eK
    obtain ⟨e1, e2⟩ := hx _ _ eK
    obtain ⟨ad', e, h2, h3, h4, _⟩ := hS (j / 2) hjk
    injection e with e
    subst e
    have hk : ∀ (u : Value) (m : Nat), w.cell? (ad.add m) = some u → w1.cell? (ad.add m) = some u := fun u m hc => k01.cell hc (by rw [add_block]; omega)
    rcases Nat.mod_two_eq_zero_or_one j with e0 | e0
    · have ej : j = j / 2 * 2 := by omega
      rw [ej, g1] at hj
      injection hj with hj
      rw [ej, ← hj, ← e1]
      exact hk _ _ h3
    · have ej : j = j / 2 * 2 + 1 := by omega
      rw [ej, g2] at hj
      injection hj with hj
      rw [ej, ← hj, ← e2]
      exact hk _ _ (by rw [add_next]; exact h4)
  have HF : Hid (∀ w3 g c3', w3.ownsRow N 111 2 (.slice (some ⟨g, 0, none⟩) (L.length + n) c3') (L.length + n) (M.cells L ++ M.cells K) → w1.grownBy w3 v.ownBlock → (v.ownBlock = some g ∨ g = w1.heap.size) →
      (w3.cell? ⟨c1, 0, none⟩ = some v ∧ w3.frozen? ⟨c1, 0, none⟩ = false ∧ (w3.setCell ⟨c1, 0, none⟩ (.slice (some ⟨g, 0, none⟩) (L.length + n) c3')).cell? ⟨w.heap.size, 2, none⟩ = some (.slice (some ad) n c)) ∧
      Hid (Calls Tryz.prog 71 #[.slice (some ad) n c, .func (.func 72) #[] #[.pointer (some ⟨c2, 0, none⟩)]] (w3.setCell ⟨c1, 0, none⟩ (.slice (some ⟨g, 0, none⟩) (L.length + n) c3')) fun e w5 => e = .returned (.bool false) ∧
        (w5.cell? ⟨c3, 0, none⟩ = some (.bool false) ∧ w5.frozen? ⟨c3, 0, none⟩ = false ∧ (w5.setCell ⟨c3, 0, none⟩ (.bool false)).cell? ⟨c3, 0, none⟩ = some (.bool false)) ∧
        Hid ((∃ v', Fnd14 N (w5.setCell ⟨c3, 0, none⟩ (.bool false)) c0 c1 c2 c3 a fr ra rr (L ++ K) (rec + 1) v' ∧ ∀ k, v'.ownBlock = some k → k < (w5.setCell ⟨c3, 0, none⟩ (.bool false)).heap.size) ∧ Kept (fun k => k = c0 ∨ k = c1 ∨ k = c3 ∨ N ≤ k) w (w5.setCell ⟨c3, 0, none⟩ (.bool false))))) := by
    intro w3 g c3' o3 hg3 hat
    have k3 : Kept (fun k => k = c0 ∨ v.ownBlock = some k) w w3 := (k01.mono (fun _ _ e => Or.inl e)).grown hg3 (fun k e _ => Or.inr e)
    have k13 : Kept (fun k => v.ownBlock = some k) w1 w3 := (Kept.refl _ w1).grown hg3 (fun k e _ => e)
    have hnv : ∀ k, k < N → v.ownBlock ≠ some k := fun k hk e => by have := (hvN k e).1; omega
    have s3 := k13.box s1 (hnv _ l1)
    have hgN := (o3.lt g rfl).1
    have hgl := (o3.lt g rfl).2
    obtain ⟨w4, hw4⟩ : ∃ w4, w4 = w3.setCell ⟨c1, 0, none⟩ (.slice (some ⟨g, 0, none⟩) (L.length + n) c3') := ⟨_, rfl⟩
    have k4 : Kept (fun k => k = c1) w3 w4 := by rw [hw4]; exact (Kept.refl (fun k => k = c1) w3).set (fun _ => rfl) 0 _
    have s4 : Box w4 c1 66 #[.slice (some ⟨g, 0, none⟩) (L.length + n) c3'] := by rw [hw4]; exact s3.set 0 _
    have k04 : Kept (fun k => k = c0 ∨ k = c1 ∨ v.ownBlock = some k) w w4 := (k3.mono (fun k _ e => e.imp id (fun e => Or.inr e))).trans (k4.mono (fun k _ e => Or.inr (Or.inl e)))
    have b4 : Box w4 w.heap.size 118 #[.int .i64 q, .int .i64 (p : Nat), .slice (some ad) n c] := k4.box (k13.box b1 (fun e => by have := (hvN _ e).2; omega)) (by omega)
    have n4 : Box w4 c0 3 #[.int .i64 ((rec + 1 : Nat) : Int)] := k4.box (k13.box n1 (hnv _ l0)) a1
    have t4 : Box w4 c3 4 #[.bool false] := k04.box h.str (fun e => by rcases e with e | e | e; exact a3 e.symm; exact a5 e.symm; exact hnv _ l3 e)
    have g4 : LogB w4 c2 a fr ra rr := k04.box h.log (fun e => by rcases e with e | e | e; exact a2 e.symm; exact a4 e.symm; exact hnv _ l2 e)
    have d4 : Disk w4 a P d := hD.kept k04 (fun k e e' => by
      obtain ⟨p1, p2, p3, p4⟩ := hPN k e
      rcases e' with e' | e' | e'
      · exact p2 e'
      · exact p3 e'
      · exact hnv _ p1 e')
    have r4 : Reg w4 ra a fr mn := hr.kept k04 (fun e => by rcases e with e | e | e; exact hra.2.1 e; exact hra.2.2.1 e; exact hnv _ hra.1 e)
    have S4 : SecF w4 (some ad) n x t := hS.kept k04 (fun ad' e e' => by
      injection e with e
      subst e
      rcases e' with e' | e' | e'
      · omega
      · omega
      · exact hadv e')
    have o4 : w4.ownsRow N 111 2 (.slice (some ⟨g, 0, none⟩) (L.length + n) c3') (L.length + n) (M.cells L ++ M.cells K) := k4.owns14 o3 (fun k e e' => by
      have e2 : g = k := by simpa [Value.ownBlock] using e
      omega)
    have z4 : w.heap.size ≤ w4.heap.size := k04.size
    have gl4 : g < w4.heap.size := Nat.lt_of_lt_of_le hgl k4.size
    rw [← hw4]
    refine ⟨⟨by simpa using s3.cell 0, s3.frozen 0, by simpa using b4.cell 2⟩, ?_⟩
    refine Lib.hid ((contains_no c2 (some ad) n c (by omega) w4 x t S4 d4 r4 g4 hf hm hg).mono ?_)
    rintro e w5 ⟨rfl, hb⟩
    have k5 := Kept.of_below hb (fun _ => False)
    have t5 := k5.box t4 id
    obtain ⟨w6, hw6⟩ : ∃ w6, w6 = w5.setCell ⟨c3, 0, none⟩ (.bool false) := ⟨_, rfl⟩
    have k6 : Kept (fun k => k = c3) w5 w6 := by rw [hw6]; exact (Kept.refl (fun k => k = c3) w5).set (fun _ => rfl) 0 _
    have t6 : Box w6 c3 4 #[.bool false] := by rw [hw6]; exact t5.set 0 _
    have k46 : Kept (fun k => k = c3) w4 w6 := (k5.mono (fun _ _ e => e.elim)).trans k6
    rw [← hw6]
    refine ⟨rfl, ⟨by simpa using t5.cell 0, t5.frozen 0, by simpa using t6.cell 0⟩, ⟨_, ⟨k46.box n4 a3, k46.box s4 a5, ?_, k46.box g4 a6, t6, h.low, h.apart⟩, ?_⟩, ?_⟩
    · rw [List.length_append, M.cells_app14, hKn]
      exact k46.owns14 o4 (fun k e e' => by
        have e2 : g = k := by simpa [Value.ownBlock] using e
        omega)
    · intro k e
      have e2 : g = k := by simpa [Value.ownBlock] using e
      have := k46.size
      omega
    · exact (k04.mono (fun k _ e => by
        rcases e with e | e | e
        · exact Or.inl e
        · exact Or.inr (Or.inl e)
        · exact Or.inr (Or.inr (Or.inr (hvN k e).1)))).trans (k46.mono (fun k _ e => Or.inr (Or.inr (Or.inl e))))
  have c00 : w0.cell? ⟨c0, 0, none⟩ = some (.int .i64 (rec : Nat)) := by simpa using n0.cell 0
  have f00 : w0.frozen? ⟨c0, 0, none⟩ = false := n0.frozen 0
  have c11 : w1.cell? ⟨c1, 0, none⟩ = some v := by simpa using s1.cell 0
  have c12 : w1.cell? ⟨w.heap.size, 2, none⟩ = some (.slice (some ad) n c) := by simpa using b1.cell 2
  have e1 : (rec : Int) + 1 = ((rec + 1 : Nat) : Int) := by omega
  have hrec' : (rec : Int) ≤ 100000 := by omega
  have hn1 : (1 : Int) ≤ (n : Int) := by omega
  have hn2 : (n : Int) ≤ 16 := by omega
  have HNN : Hid ((M.cells K).length = n * 2 ∧ 0 < n ∧ L.length + n ≤ maxLen ∧ (L.length + n) * 24 ≤ 140737488355328 ∧ N ≤ w1.heap.size) := by refine ⟨by rw [M.cells_len14, hKn], by omega, ?_, ?_, ?_⟩ <;> (try unfold maxLen) <;> omega
  have HONE : Hid (∀ u ∈ M.cells K, u.oneCell' = true) := M.cells_one K
  obtain ⟨r1, hr1⟩ : ∃ r1, r1 = rec + 1 := ⟨_, rfl⟩
  rw [← hr1] at e1 hw1
  rw [hw0] at hw1 c00 f00
  obtain ⟨ys, hys⟩ : ∃ ys, ys = M.cells K := ⟨_, rfl⟩
  obtain ⟨xs, hxs⟩ : ∃ xs, xs = M.cells L := ⟨_, rfl⟩
  obtain ⟨ln, hln⟩ : ∃ ln, ln = L.length := ⟨_, rfl⟩
  rw [← hys] at HNEW HNN HONE HF
  rw [← hxs] at HF HO1
  rw [← hln] at HF HO1 HNN
  subst hw1
  clear h hN hD hPN hr hra hf hm hKn h1 h16 hS hx hsep hg hL hrec l0 l1 l2 l3 a1 a2 a3 a4 a5 a6 hadN hadv hadw k0 b0 n0 k1 k01 n1 hvN b1 s1 z1 hr1 hys hxs hln
  go_enter Tryz.func70, Tryz.ntmps70
  go_wp2_with (first
    | (at_builtin
       go_loud (refine wpList_append_lies _ rfl _ _ 66 rfl N 111 i0 (.agg #[.int .i64 0, .string ⟨#[]⟩]) 2 24 Tryz.underlying66 hi hz0 hz1 hz2 rfl (by decide) v _ _ rfl HO1.out ad n c ys rfl HNN.out.1 HNEW.out HONE.out HNN.out.2.1 HNN.out.2.2.1 HNN.out.2.2.2.1 HNN.out.2.2.2.2 _ rfl ?_)
       intro g3 c3' w3 ho3 hg3 hat3 _
       go_loud (obtain ⟨⟨x0, x1, x2⟩, HC⟩ := HF.out w3 g3 c3' ho3 hg3 hat3)
       clear ho3 hg3 hat3 HF HO1 HNEW HNN HONE c00 f00 c11 c12)
    | fail)
  refine HC.out.mono ?_
  rintro e w5 ⟨rfl, ⟨y0, y1, y2⟩, HZ⟩
  clear HC x0 x1 x2
  go_wp2_with fail
  go_ret
  exact ⟨rfl, HZ.out⟩
end Go.Proofs.YtmgchfjfkdkaoaaGreatDoor
