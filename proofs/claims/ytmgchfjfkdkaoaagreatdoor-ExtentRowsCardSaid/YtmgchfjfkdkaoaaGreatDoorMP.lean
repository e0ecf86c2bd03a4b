/-
  A call in a region where more is held. Plain mathematics for layer 10 (loghead): a head as a sector, the head that a sector says, which of two counts. No program in this text. Walks over loghead.may, Put, solderref10.May, Put, solderlaw10.own. Walks over solderref10.Put and number. Walks over loghead.Get and solderref10.Get. Walks over solderref10.Get. Walks over loghead.getOrNone, Newer, solderref10.Newer.
-/
import Derived.Test.YtmgchfjfkdkaoaaGreatDoorMA
import Derived.Deep.RegionHeld3
import Derived.Handy
namespace Go.Proofs.YtmgchfjfkdkaoaaGreatDoor
open Go.RowKit

/-- A call that leaves the old blocks alone, in a region where more is held. -/
theorem Held.call {P : Program} {f : Nat} {args : Array Value} {x W : World} {v : Value} {S : World → Prop} (hS : Hid (∀ y, Below W.heap.size W y → S y)) (hb : Below W.heap.size W x)
    (h : Calls P f args x fun e y => e = .returned v ∧ Below x.heap.size x y) : Calls P f args x fun e y => e = .returned v ∧ Below W.heap.size W y ∧ S y :=
  h.mono fun _ y ⟨he, h1⟩ => have h2 : Below W.heap.size W y := hb.trans (h1.mono hb.size); ⟨he, h2, hS.out y h2⟩
end Go.Proofs.YtmgchfjfkdkaoaaGreatDoor
namespace Go.Proofs.YtmgchfjfkdkaoaaGreatDoor.M

/-- Where a log begins. -/
structure Hd where
  g : Int
  q : Int
  a : Int
def hmay (h : Hd) : Bool := fitsB h.g 6 && (fitsB h.q 6 && (decide (0 ≤ h.a) && decide (h.a ≤ 200)))
theorem fits6 (n : Int) : fitsB n 6 = true ↔ 0 ≤ n ∧ n < 281474976710656 := by
  unfold fitsB
  simp only [decide_eq_true_eq]
  have e : (256 : Int) ^ (6 : Int).toNat = 281474976710656 := by decide
  rw [e]
  omega
theorem fits2 (n : Int) : fitsB n 2 = true ↔ 0 ≤ n ∧ n < 65536 := by
  unfold fitsB
  simp only [decide_eq_true_eq]
  have e : (256 : Int) ^ (2 : Int).toNat = 65536 := by decide
  rw [e]
  omega
theorem hmay_iff (h : Hd) : hmay h = true ↔ (0 ≤ h.g ∧ h.g < 281474976710656) ∧ (0 ≤ h.q ∧ h.q < 281474976710656) ∧ 0 ≤ h.a ∧ h.a ≤ 200 := by
  unfold hmay
  rw [Bool.and_eq_true, Bool.and_eq_true, Bool.and_eq_true, fits6, fits6, decide_eq_true_eq, decide_eq_true_eq]
/-- All ahead of the sum. -/
def hfront (h : Hd) : ByteArray := (((⟨#[76]⟩ : ByteArray) ++ bytes h.g.toNat 6) ++ bytes h.q.toNat 6) ++ bytes h.a.toNat 2
theorem L_size : (⟨#[76]⟩ : ByteArray).size = 1 := rfl
theorem hfront_size (h : Hd) : (hfront h).size = 15 := by simp only [hfront, ByteArray.size_append, bytes_size, L_size]
/-- A head as a sector. -/
def hwhole (h : Hd) : ByteArray := pad (hfront h ++ tail (hfront h))
theorem hsum_size (h : Hd) : (hfront h ++ tail (hfront h)).size = 19 := by rw [ByteArray.size_append, hfront_size, tail_size]
theorem hwhole_size (h : Hd) : (hwhole h).size = 64 := by rw [hwhole, pad_size, hsum_size]; decide
theorem hwhole_eq (h : Hd) : hwhole h = (hfront h ++ tail (hfront h)) ++ zeros 45 := by rw [hwhole, pad, hsum_size]; rfl
theorem putS_yes {s : ByteArray} {n z : Int} (h : fitsB n z = true) : putS s n z = s ++ bytes n.toNat z.toNat := by rw [putS, if_pos h]; rfl
theorem hputs (h : Hd) (hm : hmay h = true) : putS (putS (putS (⟨#[76]⟩ : ByteArray) h.g 6) h.q 6) h.a 2 = hfront h := by
  obtain ⟨h1, h2, h3⟩ := (hmay_iff h).1 hm
  rw [putS_yes ((fits6 h.g).2 h1), putS_yes ((fits6 h.q).2 h2), putS_yes ((fits2 h.a).2 (by omega))]
  rfl

def hread (s : ByteArray) : Hd := ⟨hnum s 1 7, hnum s 7 13, hnum s 13 15⟩
def h0 : Hd := ⟨0, 0, 0⟩
/-- The head that a sector says, and what is wrong. -/
def hget (s : ByteArray) : Hd × Int :=
  if s.size ≠ 64 then (h0, 12) else if s.extract 0 1 ≠ ⟨#[76]⟩ then (h0, 4) else if s.extract 15 19 ≠ tail (s.extract 0 15) then (h0, 5)
  else if hmay (hread s) = true ∧ hwhole (hread s) = s then (hread s, 0) else (h0, 4)

theorem hnum_be (s p m q : ByteArray) (i j n z : Nat) (e : s = p ++ m ++ q) (hi : i = p.size) (hj : j = p.size + m.size) (hm : m = bytes n z) (hn : n < 256 ^ z) : hnum s i j = n := by
  rw [hnum, ex_mid s p m q i j e hi hj, hm, bytes]
  show ((num (be n z) : Nat) : Int) = n
  rw [num_be z n hn]
theorem hread_whole (h : Hd) (hm : hmay h = true) : hread (hwhole h) = h := by
  obtain ⟨h1, h2, h3⟩ := (hmay_iff h).1 hm
  obtain ⟨g, q, a⟩ := h
  simp only at h1 h2 h3
  have E := hwhole_eq ⟨g, q, a⟩
  rw [hfront] at E
  simp only at E
  obtain ⟨T, hT⟩ : ∃ T, T = tail (((⟨#[76]⟩ : ByteArray) ++ bytes g.toNat 6 ++ bytes q.toNat 6) ++ bytes a.toNat 2) := ⟨_, rfl⟩
  rw [← hT] at E
  have x1 := hnum_be (hwhole ⟨g, q, a⟩) ⟨#[76]⟩ (bytes g.toNat 6) (bytes q.toNat 6 ++ bytes a.toNat 2 ++ T ++ zeros 45) 1 7 g.toNat 6 (by rw [E]; simp only [ByteArray.append_assoc]) rfl (by rw [bytes_size, L_size]) rfl (by omega)
  have x2 := hnum_be (hwhole ⟨g, q, a⟩) (⟨#[76]⟩ ++ bytes g.toNat 6) (bytes q.toNat 6) (bytes a.toNat 2 ++ T ++ zeros 45) 7 13 q.toNat 6 (by rw [E]; simp only [ByteArray.append_assoc]) (by rw [ByteArray.size_append, bytes_size, L_size]) (by rw [ByteArray.size_append, bytes_size, bytes_size, L_size]) rfl (by omega)
  have x3 := hnum_be (hwhole ⟨g, q, a⟩) (⟨#[76]⟩ ++ bytes g.toNat 6 ++ bytes q.toNat 6) (bytes a.toNat 2) (T ++ zeros 45) 13 15 a.toNat 2 (by rw [E]; simp only [ByteArray.append_assoc]) (by rw [ByteArray.size_append, ByteArray.size_append, bytes_size, bytes_size, L_size]) (by rw [ByteArray.size_append, ByteArray.size_append, bytes_size, bytes_size, bytes_size, L_size]) rfl (by omega)
  have y1 : ((g.toNat : Nat) : Int) = g := Int.toNat_of_nonneg h1.1
  have y2 : ((q.toNat : Nat) : Int) = q := Int.toNat_of_nonneg h2.1
  have y3 : ((a.toNat : Nat) : Int) = a := Int.toNat_of_nonneg h3.1
  rw [hread, x1, x2, x3, y1, y2, y3]
theorem hget_whole (h : Hd) (hm : hmay h = true) : hget (hwhole h) = (h, 0) := by
  have E := hwhole_eq h
  have E1 : hwhole h = ⟨#[]⟩ ++ ⟨#[76]⟩ ++ (bytes h.g.toNat 6 ++ bytes h.q.toNat 6 ++ bytes h.a.toNat 2 ++ tail (hfront h) ++ zeros 45) := by
    obtain ⟨T, hT⟩ : ∃ T, T = tail (hfront h) := ⟨_, rfl⟩
    rw [E, ← hT, nil_app, hfront]
    simp only [ByteArray.append_assoc]
  have x1 : (hwhole h).extract 0 1 = ⟨#[76]⟩ := ex_mid (hwhole h) ⟨#[]⟩ ⟨#[76]⟩ _ 0 1 E1 rfl rfl
  have x2 : (hwhole h).extract 15 19 = tail (hfront h) := ex_mid (hwhole h) (hfront h) (tail (hfront h)) (zeros 45) 15 19 E (by rw [hfront_size]) (by rw [hfront_size, tail_size])
  have x3 : (hwhole h).extract 0 15 = hfront h := ex_mid (hwhole h) ⟨#[]⟩ (hfront h) (tail (hfront h) ++ zeros 45) 0 15 (by rw [E, nil_app, ByteArray.append_assoc]) rfl (by rw [hfront_size]; rfl)
  unfold hget
  rw [if_neg (by rw [hwhole_size]; simp), if_neg (by rw [x1]; simp), if_neg (by rw [x2, x3]; simp), if_pos ⟨by rw [hread_whole h hm]; exact hm, by rw [hread_whole h hm]⟩, hread_whole h hm]
theorem hget_ok (s : ByteArray) (h : (hget s).2 = 0) : hmay (hget s).1 = true ∧ hwhole (hget s).1 = s := by
  unfold hget at h ⊢
  repeat' split at h
  all_goals (first | (exact absurd h (by decide)) | skip)
  rename_i h1 h2 h3 h4
  rw [if_neg h1, if_neg h2, if_neg h3, if_pos h4]
  exact h4
theorem hget_no (s : ByteArray) (h : (hget s).2 ≠ 0) : (hget s).1 = h0 := by
  unfold hget at h ⊢
  repeat' split at h
  all_goals (first | (exact absurd rfl h) | skip)
  all_goals rename_i h1
  · rw [if_pos h1]
  · rename_i h2; rw [if_neg h2, if_pos h1]
  · rename_i h2 h3; rw [if_neg h2, if_neg h3, if_pos h1]
  · rename_i h2 h3 h4; rw [if_neg h2, if_neg h3, if_neg h4, if_neg h1]
/-- Which of two counts. -/
def hnewer (a b : ByteArray) : Hd × Int :=
  if (hget a).2 ≠ 0 ∧ (hget b).2 ≠ 0 then (h0, 8) else if (hget a).2 ≠ 0 ∨ ((hget b).2 = 0 ∧ (hget a).1.g < (hget b).1.g) then ((hget b).1, 0) else ((hget a).1, 0)
end Go.Proofs.YtmgchfjfkdkaoaaGreatDoor.M
namespace Go.Proofs.YtmgchfjfkdkaoaaGreatDoor
theorem Near.take {k : Nat} {l b : List UInt8} (h : Near k l b) (n : Nat) : Near k (l.take n) (b.take n) := by
  refine ⟨by rw [List.length_take, List.length_take, h.1], fun j hj => ?_⟩
  by_cases hn : j < n
  · rw [List.getElem?_take_of_lt hn, List.getElem?_take_of_lt hn]
    exact h.2 j hj
  · rw [List.getElem?_eq_none (by rw [List.length_take]; omega), List.getElem?_eq_none (by rw [List.length_take]; omega)]
/-- A sector that is a head's but for some bytes within four in a row, and is a head's, is the same. -/
theorem M.hturned (h : M.Hd) (j : Nat) (l : List UInt8) (bs : ByteArray) (hbs : bs = ⟨l.toArray⟩) (hN : Near j (M.hwhole h).data.toList l) (hg : (M.hget bs).2 = 0) : bs = M.hwhole h := by
  obtain ⟨_, h2⟩ := M.hget_ok bs hg
  obtain ⟨h', hh⟩ : ∃ x, x = (M.hget bs).1 := ⟨_, rfl⟩
  rw [← hh] at h2
  have el : l = (M.hwhole h').data.toList := by rw [h2, hbs]
  have cut : ∀ x : M.Hd, (M.hwhole x).data.toList.take 19 = (M.hfront x ++ M.tail (M.hfront x)).data.toList := fun x => by
    have e : 19 = (M.hfront x ++ M.tail (M.hfront x)).data.toList.length := (M.hsum_size x).symm
    rw [M.hwhole_eq, M.app_list]
    conv => lhs; rw [e]
    rw [List.take_left]
  have sum : ∀ x : M.Hd, M.of (M.hfront x ++ M.tail (M.hfront x)).data.toList = 558161692 := fun x => by
    rw [M.app_list]
    exact M.of_tail _
  have hn := hN.take 19
  rw [el, cut, cut] at hn
  have e := hn.of (by rw [sum, sum])
  rw [← h2, M.hwhole, M.hwhole, M.ba_ext e]
end Go.Proofs.YtmgchfjfkdkaoaaGreatDoor
namespace Go.Proofs.YtmgchfjfkdkaoaaGreatDoor
open Go.RowKit

/-- A head by value. -/
def M.Hd.v (h : M.Hd) : Value := .agg #[.int .i64 h.g, .int .i64 h.q, .int .i64 h.a]
def M.Hd.ok (h : M.Hd) : Prop := (-9223372036854775808 ≤ h.g ∧ h.g ≤ 9223372036854775807) ∧ (-9223372036854775808 ≤ h.q ∧ h.q ≤ 9223372036854775807) ∧ (-9223372036854775808 ≤ h.a ∧ h.a ≤ 9223372036854775807)
theorem below1 (w : World) (o1 : Obj) : Below w.heap.size w (w.alloc o1) := (Below.refl w.heap.size w).alloc (Nat.le_refl _) o1
theorem below2a (w : World) (o1 o2 : Obj) : Below w.heap.size w ((w.alloc o1).alloc o2) := (below1 w o1).alloc (by simp) o2

theorem may10_any (g q a : Int) (w : World) :
    Calls Tryz.prog 107 #[.agg #[.int .i64 g, .int .i64 q, .int .i64 a]] w fun e w' => e = .returned (.bool (M.hmay ⟨g, q, a⟩)) ∧ Below w.heap.size w w' := by
  have C1 := Lib.hid (fun x => fits_any g 6 x (by decide) (by decide))
  have C2 := Lib.hid (fun x => fits_any q 6 x (by decide) (by decide))
  have HB := Lib.hid (below1 w (.cells #[.int .i64 g, .int .i64 q, .int .i64 a] 73))
  unfold M.hmay
  simp only
  obtain ⟨r1, hr1⟩ : ∃ r, r = M.fitsB g 6 := ⟨_, rfl⟩
  obtain ⟨r2, hr2⟩ : ∃ r, r = M.fitsB q 6 := ⟨_, rfl⟩
  rw [← hr1] at C1 ⊢
  rw [← hr2] at C2 ⊢
  clear hr1 hr2
  cases r1
  · go_enter Tryz.func107, Tryz.ntmps107
    go_wp2_with fail
    refine (C1.out _).mono ?_
    rintro e w1 ⟨rfl, rfl⟩
    go_wp2_with fail
    go_ret
    exact ⟨rfl, HB.out⟩
  · cases r2
    · go_enter Tryz.func107, Tryz.ntmps107
      go_wp2_with fail
      refine (C1.out _).mono ?_
      rintro e w1 ⟨rfl, rfl⟩
      go_wp2_with fail
      refine (C2.out _).mono ?_
      rintro e w1 ⟨rfl, rfl⟩
      go_wp2_with fail
      go_ret
      exact ⟨rfl, HB.out⟩
    · have hc : (decide (0 ≤ a) = false) ∨ (decide (0 ≤ a) = true ∧ decide (a ≤ 200) = false) ∨ (decide (0 ≤ a) = true ∧ decide (a ≤ 200) = true) := by
        cases decide (0 ≤ a) <;> cases decide (a ≤ 200) <;> simp
      rcases hc with d1 | ⟨d1, d2⟩ | ⟨d1, d2⟩
      · rw [d1]
        go_enter Tryz.func107, Tryz.ntmps107
        go_wp2_with fail
        refine (C1.out _).mono ?_
        rintro e w1 ⟨rfl, rfl⟩
        go_wp2_with fail
        refine (C2.out _).mono ?_
        rintro e w1 ⟨rfl, rfl⟩
        go_wp2_with fail
        go_ret
        exact ⟨rfl, HB.out⟩
      all_goals
        rw [d1, d2]
        go_enter Tryz.func107, Tryz.ntmps107
        go_wp2_with fail
        refine (C1.out _).mono ?_
        rintro e w1 ⟨rfl, rfl⟩
        go_wp2_with fail
        refine (C2.out _).mono ?_
        rintro e w1 ⟨rfl, rfl⟩
        go_wp2_with fail
        go_ret
        exact ⟨rfl, HB.out⟩

theorem M.hmay_flat (g q a : Int) : M.hmay ⟨g, q, a⟩ = (decide (0 ≤ g) && (decide (g < 281474976710656) && (decide (0 ≤ q) && (decide (q < 281474976710656) && (decide (0 ≤ a) && decide (a ≤ 200)))))) := by
  rw [Bool.eq_iff_iff, M.hmay_iff]
  simp only [Bool.and_eq_true, decide_eq_true_eq]
  omega
theorem M.six_cases (b1 b2 b3 b4 b5 b6 : Bool) : b1 = false ∨ (b1 = true ∧ b2 = false) ∨ (b1 = true ∧ b2 = true ∧ b3 = false) ∨ (b1 = true ∧ b2 = true ∧ b3 = true ∧ b4 = false) ∨ (b1 = true ∧ b2 = true ∧ b3 = true ∧ b4 = true ∧ b5 = false) ∨ (b1 = true ∧ b2 = true ∧ b3 = true ∧ b4 = true ∧ b5 = true ∧ b6 = false) ∨ (b1 = true ∧ b2 = true ∧ b3 = true ∧ b4 = true ∧ b5 = true ∧ b6 = true) := by
  cases b1 <;> cases b2 <;> cases b3 <;> cases b4 <;> cases b5 <;> cases b6 <;> simp
/-- Three numbers in a box. -/
def B3 (y : World) (b : Nat) (t : TypeId) (g q a : Int) : Prop := Box y b t #[.int .i64 g, .int .i64 q, .int .i64 a]
theorem B3.cells {y : World} {b : Nat} {t : TypeId} {g q a : Int} (h : B3 y b t g q a) : y.cell? ⟨b, 0, none⟩ = some (.int .i64 g) ∧ y.cell? ⟨b, 1, none⟩ = some (.int .i64 q) ∧ y.cell? ⟨b, 2, none⟩ = some (.int .i64 a) :=
  ⟨Box.cell h 0, Box.cell h 1, Box.cell h 2⟩
theorem B3.frozen {y : World} {b : Nat} {t : TypeId} {g q a : Int} (h : B3 y b t g q a) : y.frozen? ⟨b, 0, none⟩ = false ∧ y.frozen? ⟨b, 1, none⟩ = false ∧ y.frozen? ⟨b, 2, none⟩ = false :=
  ⟨Box.frozen h 0, Box.frozen h 1, Box.frozen h 2⟩
theorem B3.new (y : World) (t : TypeId) (g q a : Int) : B3 (y.alloc (.cells #[.int .i64 g, .int .i64 q, .int .i64 a] t)) y.heap.size t g q a := Box.new _ _ _
theorem B3.lt {y : World} {b : Nat} {t : TypeId} {g q a : Int} (h : B3 y b t g q a) : b < y.heap.size := Box.lt h
theorem B3.below {y z : World} {b B : Nat} {t : TypeId} {g q a : Int} (h : B3 y b t g q a) (hb : Below B y z) (hB : b < B) : B3 z b t g q a := Box.below h hb hB

/-- What Put answers. -/
def M.hput (h : M.Hd) : Value := if M.hmay h = true then .tuple #[.string (M.hwhole h), .int .i64 0] else .tuple #[.string ⟨#[]⟩, .int .i64 3]

theorem tail10 (s : ByteArray) (w : World) (hs : s.size ≤ 100000) : Calls Tryz.prog 110 #[.string s] w fun e w' => e = .returned (.string (M.tail s)) ∧ Below w.heap.size w w' := tail_any s w (by omega)
/-- The four texts that Put comes by. -/
theorem M.hparts (h : M.Hd) (hm : M.hmay h = true) : ∃ s1 s2 : ByteArray, M.putS ⟨#[76]⟩ h.g 6 = s1 ∧ M.putS s1 h.q 6 = s2 ∧ M.putS s2 h.a 2 = M.hfront h ∧ s1.size ≤ 100 ∧ s2.size ≤ 100 := by
  obtain ⟨h1, h2, h3⟩ := (M.hmay_iff h).1 hm
  refine ⟨_, _, rfl, rfl, M.hputs h hm, ?_, ?_⟩
  · rw [M.putS_yes ((M.fits6 _).2 h1), ByteArray.size_append, M.bytes_size, M.L_size]; decide
  · rw [M.putS_yes ((M.fits6 _).2 h1), M.putS_yes ((M.fits6 _).2 h2), ByteArray.size_append, ByteArray.size_append, M.bytes_size, M.bytes_size, M.L_size]; decide

set_option maxHeartbeats 1000000 in
theorem put10_any (g q a : Int) (w : World) :
    Calls Tryz.prog 74 #[.agg #[.int .i64 g, .int .i64 q, .int .i64 a]] w fun e w' => e = .returned (M.hput ⟨g, q, a⟩) ∧ Below w.heap.size w w' := by
  have C0 := Lib.hid (fun x => may10_any g q a x)
  have HB := Lib.hid (below1 w (.cells #[.int .i64 g, .int .i64 q, .int .i64 a] 73))
  have HX := Lib.hid (B3.new w 73 g q a)
  unfold M.hput
  by_cases hm : M.hmay ⟨g, q, a⟩ = true
  · rw [if_pos hm]
    rw [hm] at C0
    obtain ⟨s1, s2, e1, e2, e3, z1, z2⟩ := M.hparts _ hm
    simp only at e1 e2 e3
    obtain ⟨⟨_, g9⟩, ⟨_, q9⟩, _, a9⟩ := (M.hmay_iff _).1 hm
    simp only at g9 q9 a9
    have C1 := Lib.hid (fun x => put_any ⟨#[76]⟩ g 6 x (by decide) (by omega) (by decide) (by decide))
    have C2 := Lib.hid (fun x => put_any s1 q 6 x (by omega) (by omega) (by decide) (by decide))
    have C3 := Lib.hid (fun x => put_any s2 a 2 x (by omega) (by omega) (by decide) (by decide))
    have z3 := M.hfront_size ⟨g, q, a⟩
    have z4 := M.hsum_size ⟨g, q, a⟩
    have C4 := Lib.hid (fun x => tail10 (M.hfront ⟨g, q, a⟩) x (by omega))
    have C5 := Lib.hid (fun x => pad_any (M.hfront ⟨g, q, a⟩ ++ M.tail (M.hfront ⟨g, q, a⟩)) (by omega) x)
    rw [e1] at C1
    rw [e2] at C2
    rw [e3] at C3
    have z5 := M.tail_size (M.hfront ⟨g, q, a⟩)
    have HW : Hid (M.hwhole ⟨g, q, a⟩ = M.pad (M.hfront ⟨g, q, a⟩ ++ M.tail (M.hfront ⟨g, q, a⟩))) := rfl
    obtain ⟨s3, hs3⟩ : ∃ x, x = M.hfront ⟨g, q, a⟩ := ⟨_, rfl⟩
    rw [← hs3] at C3 C4 C5 HW z3 z5
    obtain ⟨s4, hs4⟩ : ∃ x, x = M.tail s3 := ⟨_, rfl⟩
    rw [← hs4] at C4 C5 HW z5
    obtain ⟨s5, hs5⟩ : ∃ x, x = M.pad (s3 ++ s4) := ⟨_, rfl⟩
    rw [← hs5] at C5 HW
    rw [HW.out]
    clear e1 e2 e3 hs3 hs4 hs5 z4 z1 z2 g9 q9 a9 hm
    go_enter Tryz.func74, Tryz.ntmps74
    go_wp2_with fail
    refine (C0.out _).mono ?_
    rintro e w1 ⟨rfl, hb1⟩
    have H1 := Lib.hid (HX.out.below hb1 HX.out.lt)
    have HB1 := Lib.hid (HB.out.trans (hb1.mono HB.out.size))
    clear hb1
    obtain ⟨c0, c1, c2⟩ := H1.out.cells
    go_wp2_with fail
    refine (C1.out _).mono ?_
    rintro e w2 ⟨rfl, hb2⟩
    have H2 := Lib.hid (H1.out.below hb2 H1.out.lt)
    have HB2 := Lib.hid (HB1.out.trans (hb2.mono HB1.out.size))
    clear hb2 c0 c1 c2
    obtain ⟨c0, c1, c2⟩ := H2.out.cells
    go_wp2_with fail
    refine (C2.out _).mono ?_
    rintro e w3 ⟨rfl, hb3⟩
    have H3 := Lib.hid (H2.out.below hb3 H2.out.lt)
    have HB3 := Lib.hid (HB2.out.trans (hb3.mono HB2.out.size))
    clear hb3 c0 c1 c2
    obtain ⟨c0, c1, c2⟩ := H3.out.cells
    go_wp2_with fail
    refine (C3.out _).mono ?_
    rintro e w4 ⟨rfl, hb4⟩
    have HB4 := Lib.hid (HB3.out.trans (hb4.mono HB3.out.size))
    clear hb4 c0 c1 c2
    go_wp2_with fail
    refine (C4.out _).mono ?_
    rintro e w5 ⟨rfl, hb5⟩
    have HB5 := Lib.hid (HB4.out.trans (hb5.mono HB4.out.size))
    clear hb5
    go_wp2_with fail
    refine (C5.out _).mono ?_
    rintro e w6 ⟨rfl, hb6⟩
    have HB6 := Lib.hid (HB5.out.trans (hb6.mono HB5.out.size))
    clear hb6
    go_wp2_with fail
    go_ret2
    exact ⟨rfl, HB6.out⟩
  · rw [if_neg hm]
    have hm' : M.hmay ⟨g, q, a⟩ = false := by simpa using hm
    rw [hm'] at C0
    clear hm hm'
    go_enter Tryz.func74, Tryz.ntmps74
    go_wp2_with fail
    refine (C0.out _).mono ?_
    rintro e w1 ⟨rfl, hb1⟩
    have HB1 := Lib.hid (HB.out.trans (hb1.mono HB.out.size))
    clear hb1
    go_wp2_with fail
    go_ret2
    exact ⟨rfl, HB1.out⟩

end Go.Proofs.YtmgchfjfkdkaoaaGreatDoor
namespace Go.Proofs.YtmgchfjfkdkaoaaGreatDoor
open Go.RowKit

end Go.Proofs.YtmgchfjfkdkaoaaGreatDoor
namespace Go.Proofs.YtmgchfjfkdkaoaaGreatDoor
open Go.RowKit

/-- What Get answers. -/
def M.hgot (r : M.Hd × Int) : Value := .tuple #[.agg #[.int .i64 r.1.g, .int .i64 r.1.q, .int .i64 r.1.a], .int .i64 r.2]
theorem M.hgot_of {r : M.Hd × Int} {g q a e : Int} (h : r = (⟨g, q, a⟩, e)) : Ending.returned (.tuple #[.agg #[.int .i64 g, .int .i64 q, .int .i64 a], .int .i64 e]) = .returned (M.hgot r) := by rw [h]; rfl
theorem ne_of_toList10 {a b : ByteArray} (h : a ≠ b) : (a.toList == b.toList) = false := by
  rw [beq_eq_false_iff_ne]
  intro e
  apply h
  rw [ByteArray.toList_eq, ByteArray.toList_eq] at e
  exact M.ba_ext e
theorem L_toList : (⟨#[76]⟩ : ByteArray).toList = [76] := by rw [ByteArray.toList_eq]

theorem get10_size (s : ByteArray) (w : World) (h : s.size ≠ 64) :
    Calls Tryz.prog 139 #[.string s] w fun e w' => e = .returned (M.hgot (M.hget s)) ∧ Below w.heap.size w w' := by
  have HR : Hid (M.hget s = (⟨0, 0, 0⟩, 12)) := by show _ = _; unfold M.hget; rw [if_pos h]; rfl
  have hd : ((s.size : Int) == 64) = false := by rw [beq_eq_false_iff_ne]; omega
  have hd' : ((s.size : Int) != 64) = true := by rw [bne, hd]; rfl
  clear h
  go_enter Tryz.func139, Tryz.ntmps139
  go_wp2_with fail
  exact bodyPost_ret (v := .tuple #[.agg #[.int .i64 0, .int .i64 0, .int .i64 0], .int .i64 12]) (by simp [results, Tryz.results139, go_sem, *]) rfl ⟨M.hgot_of HR.out, below1 _ _⟩

set_option maxHeartbeats 2000000 in
theorem get10_form (s : ByteArray) (w : World) (h : s.size = 64) (h1 : s.extract 0 1 ≠ ⟨#[76]⟩) :
    Calls Tryz.prog 139 #[.string s] w fun e w' => e = .returned (M.hgot (M.hget s)) ∧ Below w.heap.size w w' := by
  have HR : Hid (M.hget s = (⟨0, 0, 0⟩, 4)) := by show _ = _; unfold M.hget; rw [if_neg (by simpa using h), if_pos h1]; rfl
  have hd : ((s.size : Int) == 64) = true := by rw [beq_iff_eq]; omega
  have hd' : ((s.size : Int) != 64) = false := by rw [bne, hd]; rfl
  have hne := ne_of_toList10 h1
  rw [L_toList] at hne
  have HC0 : Hid (∀ (b : Nat) (y : World), RdK w y b 73 #[.int .i64 0, .int .i64 0, .int .i64 0] s 0 → Calls Tryz.prog 144 #[.pointer (some ⟨b, 0, none⟩), .int .i64 1] y fun e y' => e = .returned (.string (s.extract 0 1)) ∧ RdK w y' b 73 #[.int .i64 0, .int .i64 0, .int .i64 0] s 1) := fun b y hR => hR.bytes 1 (by omega)
  obtain ⟨x, hx⟩ : ∃ x, x = s.extract 0 1 := ⟨_, rfl⟩
  rw [← hx] at hne HC0
  clear h h1 hx
  go_enter Tryz.func139, Tryz.ntmps139
  go_wp2_with fail
  refine (newK s w 73 #[.int .i64 0, .int .i64 0, .int .i64 0]).mono ?_
  rintro e w1 ⟨b, rfl, h1⟩
  have H1 := Lib.hid h1
  clear h1
  go_wp2_with fail
  refine (HC0.out _ _ H1.out).mono ?_
  rintro e w2 ⟨rfl, h2⟩
  have H2 := Lib.hid h2
  clear h2 H1
  obtain ⟨c0, c1, c2⟩ := B3.cells H2.out.box
  obtain ⟨f0, f1, f2⟩ := B3.frozen H2.out.box
  go_wp2_with fail
  exact bodyPost_ret (v := .tuple #[.agg #[.int .i64 0, .int .i64 0, .int .i64 0], .int .i64 4]) (by simp [results, Tryz.results139, go_sem, *]) rfl ⟨M.hgot_of HR.out, by (repeat refine Below.setCell ?_ (by simp) _); exact H2.out.below⟩

set_option maxHeartbeats 2000000 in
theorem get10_sum (s : ByteArray) (w : World) (h : s.size = 64) (h1 : s.extract 0 1 = ⟨#[76]⟩) (h2 : s.extract 15 19 ≠ M.tail (s.extract 0 15)) :
    Calls Tryz.prog 139 #[.string s] w fun e w' => e = .returned (M.hgot (M.hget s)) ∧ Below w.heap.size w w' := by
  have HR : Hid (M.hget s = (⟨0, 0, 0⟩, 5)) := by show _ = _; unfold M.hget; rw [if_neg (by simpa using h), if_neg (by simpa using h1), if_pos h2]; rfl
  have hd : ((s.size : Int) == 64) = true := by rw [beq_iff_eq]; omega
  have hd' : ((s.size : Int) != 64) = false := by rw [bne, hd]; rfl
  have HC0 : Hid (∀ (b : Nat) (y : World), RdK w y b 73 #[.int .i64 0, .int .i64 0, .int .i64 0] s 0 → Calls Tryz.prog 144 #[.pointer (some ⟨b, 0, none⟩), .int .i64 1] y fun e y' => e = .returned (.string (s.extract 0 1)) ∧ RdK w y' b 73 #[.int .i64 0, .int .i64 0, .int .i64 0] s 1) := fun b y hR => hR.bytes 1 (by omega)
  have HC1 : Hid (∀ (b : Nat) (y : World), RdK w y b 73 #[.int .i64 0, .int .i64 0, .int .i64 0] s 1 → Calls Tryz.prog 145 #[.pointer (some ⟨b, 0, none⟩), .int .i64 6] y fun e y' => e = .returned (.int .i64 (M.hnum s 1 7)) ∧ RdK w y' b 73 #[.int .i64 0, .int .i64 0, .int .i64 0] s 7) := fun b y hR => hR.num 6 (by decide) (by decide) (by omega)
  have HC2 : Hid (∀ (b : Nat) (y : World), RdK w y b 73 #[.int .i64 0, .int .i64 0, .int .i64 0] s 7 → Calls Tryz.prog 145 #[.pointer (some ⟨b, 0, none⟩), .int .i64 6] y fun e y' => e = .returned (.int .i64 (M.hnum s 7 13)) ∧ RdK w y' b 73 #[.int .i64 0, .int .i64 0, .int .i64 0] s 13) := fun b y hR => hR.num 6 (by decide) (by decide) (by omega)
  have HC3 : Hid (∀ (b : Nat) (y : World), RdK w y b 73 #[.int .i64 0, .int .i64 0, .int .i64 0] s 13 → Calls Tryz.prog 145 #[.pointer (some ⟨b, 0, none⟩), .int .i64 2] y fun e y' => e = .returned (.int .i64 (M.hnum s 13 15)) ∧ RdK w y' b 73 #[.int .i64 0, .int .i64 0, .int .i64 0] s 15) := fun b y hR => hR.num 2 (by decide) (by decide) (by omega)
  have HC4 : Hid (∀ (b hb : Nat) (y : World), RdK w y b 73 #[.int .i64 0, .int .i64 0, .int .i64 0] s 15 → B3 y hb 73 (M.hnum s 1 7) (M.hnum s 7 13) (M.hnum s 13 15) → b < hb → Calls Tryz.prog 144 #[.pointer (some ⟨b, 0, none⟩), .int .i64 4] y fun e y' => e = .returned (.string (s.extract 15 19)) ∧ RdK w y' b 73 #[.int .i64 0, .int .i64 0, .int .i64 0] s 19 ∧ B3 y' hb 73 (M.hnum s 1 7) (M.hnum s 7 13) (M.hnum s 13 15)) := fun b hb y hR hX hl => hR.bytes2 4 (by omega) hX hl
  have hne := ne_of_toList10 h2
  have HC5 := Lib.hid (fun x => tail10 (s.extract 0 15) x (by rw [ByteArray.size_extract]; omega))
  obtain ⟨g, hg⟩ : ∃ x, x = M.hnum s 1 7 := ⟨_, rfl⟩
  obtain ⟨q, hq⟩ : ∃ x, x = M.hnum s 7 13 := ⟨_, rfl⟩
  obtain ⟨a, ha⟩ : ∃ x, x = M.hnum s 13 15 := ⟨_, rfl⟩
  obtain ⟨x, hx⟩ : ∃ x, x = s.extract 15 19 := ⟨_, rfl⟩
  obtain ⟨t, ht⟩ : ∃ x, x = M.tail (s.extract 0 15) := ⟨_, rfl⟩
  rw [← hg] at HC1 HC4
  rw [← hq] at HC2 HC4
  rw [← ha] at HC3 HC4
  rw [← hx] at HC4
  rw [← ht] at HC5
  rw [h1] at HC0
  have hle : (15 : Int) ≤ (s.size : Int) := by omega
  rw [← hx, ← ht] at hne
  clear h1 h2 hg hq ha hx ht h
  go_enter Tryz.func139, Tryz.ntmps139
  go_wp2_with fail
  refine (newK s w 73 #[.int .i64 0, .int .i64 0, .int .i64 0]).mono ?_
  rintro e w1 ⟨b, rfl, h1⟩
  have H1 := Lib.hid h1
  clear h1
  go_wp2_with fail
  refine (HC0.out _ _ H1.out).mono ?_
  rintro e w2 ⟨rfl, h2⟩
  have H2 := Lib.hid h2
  clear h2 H1
  go_wp2_with fail
  refine (HC1.out _ _ H2.out).mono ?_
  rintro e w3 ⟨rfl, h3⟩
  have H3 := Lib.hid h3
  clear h3 H2
  go_wp2_with fail
  refine (HC2.out _ _ H3.out).mono ?_
  rintro e w4 ⟨rfl, h4⟩
  have H4 := Lib.hid h4
  clear h4 H3
  go_wp2_with fail
  refine (HC3.out _ _ H4.out).mono ?_
  rintro e w5 ⟨rfl, h5⟩
  have H5 := Lib.hid h5
  clear h5 H4
  go_wp2_with fail
  have H6 := Lib.hid (H5.out.alloc (.cells #[.int .i64 g, .int .i64 q, .int .i64 a] 73))
  have HX6 := Lib.hid (B3.new w5 73 g q a)
  have HN6 : Hid (b < w5.heap.size) := Box.lt H5.out.rd
  obtain ⟨w6, hw6⟩ : ∃ x, x = w5.alloc (.cells #[.int .i64 g, .int .i64 q, .int .i64 a] 73) := ⟨_, rfl⟩
  rw [← hw6] at H6 HX6 ⊢
  clear hw6
  obtain ⟨hb, hhb⟩ : ∃ x, x = w5.heap.size := ⟨_, rfl⟩
  rw [← hhb] at HX6 HN6 ⊢
  clear hhb
  go_wp2_with fail
  go_region_held3 (fun _ => True) (first | trivial)
    (first
      | (go_at_call 144; refine (HC4.out _ hb _ (by first | exact H6.out | exact H6.out.drew) (by first | exact HX6.out | exact HX6.out.below (Below.refl _ _).drew HX6.out.lt) HN6.out).mono ?_; rintro e w7 ⟨rfl, h7, hx7⟩; have H7 := Lib.hid h7; have HX7 := Lib.hid hx7; clear h7 hx7)
      | (go_at_call 110; refine (HC5.out _).mono ?_; rintro e w8 ⟨rfl, h8⟩; have H8 := Lib.hid ((show RdK w _ b 73 #[.int .i64 0, .int .i64 0, .int .i64 0] s 19 by first | exact H7.out | exact H7.out.drew).keep h8); have HX8 := Lib.hid (Box.below (show Box _ hb _ _ by first | exact HX7.out | exact Box.below HX7.out (Below.refl _ _).drew (Box.lt HX7.out)) h8 (Box.lt HX7.out)); clear h8))
  obtain ⟨c0, c1, c2⟩ := B3.cells H8.out.box
  obtain ⟨f0, f1, f2⟩ := B3.frozen H8.out.box
  go_wp2_with fail
  exact bodyPost_ret (v := .tuple #[.agg #[.int .i64 0, .int .i64 0, .int .i64 0], .int .i64 5]) (by simp [results, Tryz.results139, go_sem, *]) rfl ⟨M.hgot_of HR.out, by (repeat refine Below.setCell ?_ (by simp) _); exact H8.out.below⟩

set_option maxHeartbeats 2000000 in
theorem get10_not (s : ByteArray) (w : World) (h : s.size = 64) (h1 : s.extract 0 1 = ⟨#[76]⟩) (h2 : s.extract 15 19 = M.tail (s.extract 0 15)) (h3 : ¬ M.hmay (M.hread s) = true) :
    Calls Tryz.prog 139 #[.string s] w fun e w' => e = .returned (M.hgot (M.hget s)) ∧ Below w.heap.size w w' := by
  have HR : Hid (M.hget s = (⟨0, 0, 0⟩, 4)) := by show _ = _; unfold M.hget; rw [if_neg (by simpa using h), if_neg (by simpa using h1), if_neg (by simpa using h2), if_neg (fun e => h3 e.1)]; rfl
  have hd : ((s.size : Int) == 64) = true := by rw [beq_iff_eq]; omega
  have hd' : ((s.size : Int) != 64) = false := by rw [bne, hd]; rfl
  have HC0 : Hid (∀ (b : Nat) (y : World), RdK w y b 73 #[.int .i64 0, .int .i64 0, .int .i64 0] s 0 → Calls Tryz.prog 144 #[.pointer (some ⟨b, 0, none⟩), .int .i64 1] y fun e y' => e = .returned (.string (s.extract 0 1)) ∧ RdK w y' b 73 #[.int .i64 0, .int .i64 0, .int .i64 0] s 1) := fun b y hR => hR.bytes 1 (by omega)
  have HC1 : Hid (∀ (b : Nat) (y : World), RdK w y b 73 #[.int .i64 0, .int .i64 0, .int .i64 0] s 1 → Calls Tryz.prog 145 #[.pointer (some ⟨b, 0, none⟩), .int .i64 6] y fun e y' => e = .returned (.int .i64 (M.hnum s 1 7)) ∧ RdK w y' b 73 #[.int .i64 0, .int .i64 0, .int .i64 0] s 7) := fun b y hR => hR.num 6 (by decide) (by decide) (by omega)
  have HC2 : Hid (∀ (b : Nat) (y : World), RdK w y b 73 #[.int .i64 0, .int .i64 0, .int .i64 0] s 7 → Calls Tryz.prog 145 #[.pointer (some ⟨b, 0, none⟩), .int .i64 6] y fun e y' => e = .returned (.int .i64 (M.hnum s 7 13)) ∧ RdK w y' b 73 #[.int .i64 0, .int .i64 0, .int .i64 0] s 13) := fun b y hR => hR.num 6 (by decide) (by decide) (by omega)
  have HC3 : Hid (∀ (b : Nat) (y : World), RdK w y b 73 #[.int .i64 0, .int .i64 0, .int .i64 0] s 13 → Calls Tryz.prog 145 #[.pointer (some ⟨b, 0, none⟩), .int .i64 2] y fun e y' => e = .returned (.int .i64 (M.hnum s 13 15)) ∧ RdK w y' b 73 #[.int .i64 0, .int .i64 0, .int .i64 0] s 15) := fun b y hR => hR.num 2 (by decide) (by decide) (by omega)
  have HC4 : Hid (∀ (b hb : Nat) (y : World), RdK w y b 73 #[.int .i64 0, .int .i64 0, .int .i64 0] s 15 → B3 y hb 73 (M.hnum s 1 7) (M.hnum s 7 13) (M.hnum s 13 15) → b < hb → Calls Tryz.prog 144 #[.pointer (some ⟨b, 0, none⟩), .int .i64 4] y fun e y' => e = .returned (.string (s.extract 15 19)) ∧ RdK w y' b 73 #[.int .i64 0, .int .i64 0, .int .i64 0] s 19 ∧ B3 y' hb 73 (M.hnum s 1 7) (M.hnum s 7 13) (M.hnum s 13 15)) := fun b hb y hR hX hl => hR.bytes2 4 (by omega) hX hl
  have hne : ((s.extract 15 19).toList == (M.tail (s.extract 0 15)).toList) = true := by rw [h2]; exact str_eq_self _
  have HP := Lib.hid (fun x => put10_any (M.hnum s 1 7) (M.hnum s 7 13) (M.hnum s 13 15) x)
  have h3' : M.hput ⟨M.hnum s 1 7, M.hnum s 7 13, M.hnum s 13 15⟩ = .tuple #[.string ⟨#[]⟩, .int .i64 3] := by unfold M.hput; exact if_neg h3
  rw [h3'] at HP
  clear h3'
  have HC5 := Lib.hid (fun x => tail10 (s.extract 0 15) x (by rw [ByteArray.size_extract]; omega))
  obtain ⟨g, hg⟩ : ∃ x, x = M.hnum s 1 7 := ⟨_, rfl⟩
  obtain ⟨q, hq⟩ : ∃ x, x = M.hnum s 7 13 := ⟨_, rfl⟩
  obtain ⟨a, ha⟩ : ∃ x, x = M.hnum s 13 15 := ⟨_, rfl⟩
  obtain ⟨x, hx⟩ : ∃ x, x = s.extract 15 19 := ⟨_, rfl⟩
  obtain ⟨t, ht⟩ : ∃ x, x = M.tail (s.extract 0 15) := ⟨_, rfl⟩
  rw [← hg] at HC1 HC4
  rw [← hq] at HC2 HC4
  rw [← ha] at HC3 HC4
  rw [← hx] at HC4
  rw [← ht] at HC5
  rw [h1] at HC0
  have hle : (15 : Int) ≤ (s.size : Int) := by omega
  rw [← hx, ← ht] at hne
  rw [← hg, ← hq, ← ha] at HP
  clear h1 h2 hg hq ha hx ht h h3
  go_enter Tryz.func139, Tryz.ntmps139
  go_wp2_with fail
  refine (newK s w 73 #[.int .i64 0, .int .i64 0, .int .i64 0]).mono ?_
  rintro e w1 ⟨b, rfl, h1⟩
  have H1 := Lib.hid h1
  clear h1
  go_wp2_with fail
  refine (HC0.out _ _ H1.out).mono ?_
  rintro e w2 ⟨rfl, h2⟩
  have H2 := Lib.hid h2
  clear h2 H1
  go_wp2_with fail
  refine (HC1.out _ _ H2.out).mono ?_
  rintro e w3 ⟨rfl, h3⟩
  have H3 := Lib.hid h3
  clear h3 H2
  go_wp2_with fail
  refine (HC2.out _ _ H3.out).mono ?_
  rintro e w4 ⟨rfl, h4⟩
  have H4 := Lib.hid h4
  clear h4 H3
  go_wp2_with fail
  refine (HC3.out _ _ H4.out).mono ?_
  rintro e w5 ⟨rfl, h5⟩
  have H5 := Lib.hid h5
  clear h5 H4
  go_wp2_with fail
  have H6 := Lib.hid (H5.out.alloc (.cells #[.int .i64 g, .int .i64 q, .int .i64 a] 73))
  have HX6 := Lib.hid (B3.new w5 73 g q a)
  have HN6 : Hid (b < w5.heap.size) := Box.lt H5.out.rd
  obtain ⟨w6, hw6⟩ : ∃ x, x = w5.alloc (.cells #[.int .i64 g, .int .i64 q, .int .i64 a] 73) := ⟨_, rfl⟩
  rw [← hw6] at H6 HX6 ⊢
  clear hw6
  obtain ⟨hb, hhb⟩ : ∃ x, x = w5.heap.size := ⟨_, rfl⟩
  rw [← hhb] at HX6 HN6 ⊢
  clear hhb
  go_wp2_with fail
  go_region_held3 (fun _ => True) (first | trivial)
    (first
      | (go_at_call 144; refine (HC4.out _ hb _ (by first | exact H6.out | exact H6.out.drew) (by first | exact HX6.out | exact HX6.out.below (Below.refl _ _).drew HX6.out.lt) HN6.out).mono ?_; rintro e w7 ⟨rfl, h7, hx7⟩; have H7 := Lib.hid h7; have HX7 := Lib.hid hx7; clear h7 hx7)
      | (go_at_call 110; refine (HC5.out _).mono ?_; rintro e w8 ⟨rfl, h8⟩; have H8 := Lib.hid ((show RdK w _ b 73 #[.int .i64 0, .int .i64 0, .int .i64 0] s 19 by first | exact H7.out | exact H7.out.drew).keep h8); have HX8 := Lib.hid (Box.below (show Box _ hb _ _ by first | exact HX7.out | exact Box.below HX7.out (Below.refl _ _).drew (Box.lt HX7.out)) h8 (Box.lt HX7.out)); clear h8))
  obtain ⟨c0, c1, c2⟩ := B3.cells HX8.out
  go_wp2_with fail
  refine (HP.out _).mono ?_
  rintro e w9 ⟨rfl, h9⟩
  have HX9 := Lib.hid (B3.below HX8.out h9 (B3.lt HX8.out))
  have H9 := Lib.hid (H8.out.keep h9)
  clear h9 H8 HX8 c0 c1 c2
  obtain ⟨c0, c1, c2⟩ := B3.cells H9.out.box
  obtain ⟨f0, f1, f2⟩ := B3.frozen H9.out.box
  go_wp2_with fail
  exact bodyPost_ret (v := .tuple #[.agg #[.int .i64 0, .int .i64 0, .int .i64 0], .int .i64 4]) (by simp [results, Tryz.results139, go_sem, *]) rfl ⟨M.hgot_of HR.out, by (repeat refine Below.setCell ?_ (by simp) _); exact H9.out.below⟩

set_option maxHeartbeats 2000000 in
theorem get10_other (s : ByteArray) (w : World) (h : s.size = 64) (h1 : s.extract 0 1 = ⟨#[76]⟩) (h2 : s.extract 15 19 = M.tail (s.extract 0 15)) (h3 : M.hmay (M.hread s) = true) (h4 : M.hwhole (M.hread s) ≠ s) :
    Calls Tryz.prog 139 #[.string s] w fun e w' => e = .returned (M.hgot (M.hget s)) ∧ Below w.heap.size w w' := by
  have HR : Hid (M.hget s = (⟨0, 0, 0⟩, 4)) := by show _ = _; unfold M.hget; rw [if_neg (by simpa using h), if_neg (by simpa using h1), if_neg (by simpa using h2), if_neg (fun e => h4 e.2)]; rfl
  have hd : ((s.size : Int) == 64) = true := by rw [beq_iff_eq]; omega
  have hd' : ((s.size : Int) != 64) = false := by rw [bne, hd]; rfl
  have HC0 : Hid (∀ (b : Nat) (y : World), RdK w y b 73 #[.int .i64 0, .int .i64 0, .int .i64 0] s 0 → Calls Tryz.prog 144 #[.pointer (some ⟨b, 0, none⟩), .int .i64 1] y fun e y' => e = .returned (.string (s.extract 0 1)) ∧ RdK w y' b 73 #[.int .i64 0, .int .i64 0, .int .i64 0] s 1) := fun b y hR => hR.bytes 1 (by omega)
  have HC1 : Hid (∀ (b : Nat) (y : World), RdK w y b 73 #[.int .i64 0, .int .i64 0, .int .i64 0] s 1 → Calls Tryz.prog 145 #[.pointer (some ⟨b, 0, none⟩), .int .i64 6] y fun e y' => e = .returned (.int .i64 (M.hnum s 1 7)) ∧ RdK w y' b 73 #[.int .i64 0, .int .i64 0, .int .i64 0] s 7) := fun b y hR => hR.num 6 (by decide) (by decide) (by omega)
  have HC2 : Hid (∀ (b : Nat) (y : World), RdK w y b 73 #[.int .i64 0, .int .i64 0, .int .i64 0] s 7 → Calls Tryz.prog 145 #[.pointer (some ⟨b, 0, none⟩), .int .i64 6] y fun e y' => e = .returned (.int .i64 (M.hnum s 7 13)) ∧ RdK w y' b 73 #[.int .i64 0, .int .i64 0, .int .i64 0] s 13) := fun b y hR => hR.num 6 (by decide) (by decide) (by omega)
  have HC3 : Hid (∀ (b : Nat) (y : World), RdK w y b 73 #[.int .i64 0, .int .i64 0, .int .i64 0] s 13 → Calls Tryz.prog 145 #[.pointer (some ⟨b, 0, none⟩), .int .i64 2] y fun e y' => e = .returned (.int .i64 (M.hnum s 13 15)) ∧ RdK w y' b 73 #[.int .i64 0, .int .i64 0, .int .i64 0] s 15) := fun b y hR => hR.num 2 (by decide) (by decide) (by omega)
  have HC4 : Hid (∀ (b hb : Nat) (y : World), RdK w y b 73 #[.int .i64 0, .int .i64 0, .int .i64 0] s 15 → B3 y hb 73 (M.hnum s 1 7) (M.hnum s 7 13) (M.hnum s 13 15) → b < hb → Calls Tryz.prog 144 #[.pointer (some ⟨b, 0, none⟩), .int .i64 4] y fun e y' => e = .returned (.string (s.extract 15 19)) ∧ RdK w y' b 73 #[.int .i64 0, .int .i64 0, .int .i64 0] s 19 ∧ B3 y' hb 73 (M.hnum s 1 7) (M.hnum s 7 13) (M.hnum s 13 15)) := fun b hb y hR hX hl => hR.bytes2 4 (by omega) hX hl
  have hne : ((s.extract 15 19).toList == (M.tail (s.extract 0 15)).toList) = true := by rw [h2]; exact str_eq_self _
  have HP := Lib.hid (fun x => put10_any (M.hnum s 1 7) (M.hnum s 7 13) (M.hnum s 13 15) x)
  have h3' : M.hput ⟨M.hnum s 1 7, M.hnum s 7 13, M.hnum s 13 15⟩ = .tuple #[.string (M.hwhole (M.hread s)), .int .i64 0] := by unfold M.hput; exact if_pos h3
  rw [h3'] at HP
  have hweq : ((M.hwhole (M.hread s)).toList == s.toList) = false := ne_of_toList10 h4
  obtain ⟨u, hu⟩ : ∃ x, x = M.hwhole (M.hread s) := ⟨_, rfl⟩
  rw [← hu] at HP hweq
  clear h3' h4 hu
  have HC5 := Lib.hid (fun x => tail10 (s.extract 0 15) x (by rw [ByteArray.size_extract]; omega))
  obtain ⟨g, hg⟩ : ∃ x, x = M.hnum s 1 7 := ⟨_, rfl⟩
  obtain ⟨q, hq⟩ : ∃ x, x = M.hnum s 7 13 := ⟨_, rfl⟩
  obtain ⟨a, ha⟩ : ∃ x, x = M.hnum s 13 15 := ⟨_, rfl⟩
  obtain ⟨x, hx⟩ : ∃ x, x = s.extract 15 19 := ⟨_, rfl⟩
  obtain ⟨t, ht⟩ : ∃ x, x = M.tail (s.extract 0 15) := ⟨_, rfl⟩
  rw [← hg] at HC1 HC4
  rw [← hq] at HC2 HC4
  rw [← ha] at HC3 HC4
  rw [← hx] at HC4
  rw [← ht] at HC5
  rw [h1] at HC0
  have hle : (15 : Int) ≤ (s.size : Int) := by omega
  rw [← hx, ← ht] at hne
  rw [← hg, ← hq, ← ha] at HP
  clear h1 h2 hg hq ha hx ht h h3
  go_enter Tryz.func139, Tryz.ntmps139
  go_wp2_with fail
  refine (newK s w 73 #[.int .i64 0, .int .i64 0, .int .i64 0]).mono ?_
  rintro e w1 ⟨b, rfl, h1⟩
  have H1 := Lib.hid h1
  clear h1
  go_wp2_with fail
  refine (HC0.out _ _ H1.out).mono ?_
  rintro e w2 ⟨rfl, h2⟩
  have H2 := Lib.hid h2
  clear h2 H1
  go_wp2_with fail
  refine (HC1.out _ _ H2.out).mono ?_
  rintro e w3 ⟨rfl, h3⟩
  have H3 := Lib.hid h3
  clear h3 H2
  go_wp2_with fail
  refine (HC2.out _ _ H3.out).mono ?_
  rintro e w4 ⟨rfl, h4⟩
  have H4 := Lib.hid h4
  clear h4 H3
  go_wp2_with fail
  refine (HC3.out _ _ H4.out).mono ?_
  rintro e w5 ⟨rfl, h5⟩
  have H5 := Lib.hid h5
  clear h5 H4
  go_wp2_with fail
  have H6 := Lib.hid (H5.out.alloc (.cells #[.int .i64 g, .int .i64 q, .int .i64 a] 73))
  have HX6 := Lib.hid (B3.new w5 73 g q a)
  have HN6 : Hid (b < w5.heap.size) := Box.lt H5.out.rd
  obtain ⟨w6, hw6⟩ : ∃ x, x = w5.alloc (.cells #[.int .i64 g, .int .i64 q, .int .i64 a] 73) := ⟨_, rfl⟩
  rw [← hw6] at H6 HX6 ⊢
  clear hw6
  obtain ⟨hb, hhb⟩ : ∃ x, x = w5.heap.size := ⟨_, rfl⟩
  rw [← hhb] at HX6 HN6 ⊢
  clear hhb
  go_wp2_with fail
  go_region_held3 (fun _ => True) (first | trivial)
    (first
      | (go_at_call 144; refine (HC4.out _ hb _ (by first | exact H6.out | exact H6.out.drew) (by first | exact HX6.out | exact HX6.out.below (Below.refl _ _).drew HX6.out.lt) HN6.out).mono ?_; rintro e w7 ⟨rfl, h7, hx7⟩; have H7 := Lib.hid h7; have HX7 := Lib.hid hx7; clear h7 hx7)
      | (go_at_call 110; refine (HC5.out _).mono ?_; rintro e w8 ⟨rfl, h8⟩; have H8 := Lib.hid ((show RdK w _ b 73 #[.int .i64 0, .int .i64 0, .int .i64 0] s 19 by first | exact H7.out | exact H7.out.drew).keep h8); have HX8 := Lib.hid (Box.below (show Box _ hb _ _ by first | exact HX7.out | exact Box.below HX7.out (Below.refl _ _).drew (Box.lt HX7.out)) h8 (Box.lt HX7.out)); clear h8))
  obtain ⟨c0, c1, c2⟩ := B3.cells HX8.out
  go_wp2_with fail
  refine (HP.out _).mono ?_
  rintro e w9 ⟨rfl, h9⟩
  have HX9 := Lib.hid (B3.below HX8.out h9 (B3.lt HX8.out))
  have H9 := Lib.hid (H8.out.keep h9)
  clear h9 H8 HX8 c0 c1 c2
  obtain ⟨c0, c1, c2⟩ := B3.cells H9.out.box
  obtain ⟨f0, f1, f2⟩ := B3.frozen H9.out.box
  go_wp2_with fail
  exact bodyPost_ret (v := .tuple #[.agg #[.int .i64 0, .int .i64 0, .int .i64 0], .int .i64 4]) (by simp [results, Tryz.results139, go_sem, *]) rfl ⟨M.hgot_of HR.out, by (repeat refine Below.setCell ?_ (by simp) _); exact H9.out.below⟩

set_option maxHeartbeats 2000000 in
theorem get10_good (s : ByteArray) (w : World) (h : s.size = 64) (h1 : s.extract 0 1 = ⟨#[76]⟩) (h2 : s.extract 15 19 = M.tail (s.extract 0 15)) (h3 : M.hmay (M.hread s) = true) (h4 : M.hwhole (M.hread s) = s) :
    Calls Tryz.prog 139 #[.string s] w fun e w' => e = .returned (M.hgot (M.hget s)) ∧ Below w.heap.size w w' := by
  have HR : Hid (M.hget s = (M.hread s, 0)) := by show _ = _; unfold M.hget; rw [if_neg (by simpa using h), if_neg (by simpa using h1), if_neg (by simpa using h2), if_pos ⟨h3, h4⟩]
  unfold M.hread at HR
  have hd : ((s.size : Int) == 64) = true := by rw [beq_iff_eq]; omega
  have hd' : ((s.size : Int) != 64) = false := by rw [bne, hd]; rfl
  have HC0 : Hid (∀ (b : Nat) (y : World), RdK w y b 73 #[.int .i64 0, .int .i64 0, .int .i64 0] s 0 → Calls Tryz.prog 144 #[.pointer (some ⟨b, 0, none⟩), .int .i64 1] y fun e y' => e = .returned (.string (s.extract 0 1)) ∧ RdK w y' b 73 #[.int .i64 0, .int .i64 0, .int .i64 0] s 1) := fun b y hR => hR.bytes 1 (by omega)
  have HC1 : Hid (∀ (b : Nat) (y : World), RdK w y b 73 #[.int .i64 0, .int .i64 0, .int .i64 0] s 1 → Calls Tryz.prog 145 #[.pointer (some ⟨b, 0, none⟩), .int .i64 6] y fun e y' => e = .returned (.int .i64 (M.hnum s 1 7)) ∧ RdK w y' b 73 #[.int .i64 0, .int .i64 0, .int .i64 0] s 7) := fun b y hR => hR.num 6 (by decide) (by decide) (by omega)
  have HC2 : Hid (∀ (b : Nat) (y : World), RdK w y b 73 #[.int .i64 0, .int .i64 0, .int .i64 0] s 7 → Calls Tryz.prog 145 #[.pointer (some ⟨b, 0, none⟩), .int .i64 6] y fun e y' => e = .returned (.int .i64 (M.hnum s 7 13)) ∧ RdK w y' b 73 #[.int .i64 0, .int .i64 0, .int .i64 0] s 13) := fun b y hR => hR.num 6 (by decide) (by decide) (by omega)
  have HC3 : Hid (∀ (b : Nat) (y : World), RdK w y b 73 #[.int .i64 0, .int .i64 0, .int .i64 0] s 13 → Calls Tryz.prog 145 #[.pointer (some ⟨b, 0, none⟩), .int .i64 2] y fun e y' => e = .returned (.int .i64 (M.hnum s 13 15)) ∧ RdK w y' b 73 #[.int .i64 0, .int .i64 0, .int .i64 0] s 15) := fun b y hR => hR.num 2 (by decide) (by decide) (by omega)
  have HC4 : Hid (∀ (b hb : Nat) (y : World), RdK w y b 73 #[.int .i64 0, .int .i64 0, .int .i64 0] s 15 → B3 y hb 73 (M.hnum s 1 7) (M.hnum s 7 13) (M.hnum s 13 15) → b < hb → Calls Tryz.prog 144 #[.pointer (some ⟨b, 0, none⟩), .int .i64 4] y fun e y' => e = .returned (.string (s.extract 15 19)) ∧ RdK w y' b 73 #[.int .i64 0, .int .i64 0, .int .i64 0] s 19 ∧ B3 y' hb 73 (M.hnum s 1 7) (M.hnum s 7 13) (M.hnum s 13 15)) := fun b hb y hR hX hl => hR.bytes2 4 (by omega) hX hl
  have hne : ((s.extract 15 19).toList == (M.tail (s.extract 0 15)).toList) = true := by rw [h2]; exact str_eq_self _
  have HP := Lib.hid (fun x => put10_any (M.hnum s 1 7) (M.hnum s 7 13) (M.hnum s 13 15) x)
  have h3' : M.hput ⟨M.hnum s 1 7, M.hnum s 7 13, M.hnum s 13 15⟩ = .tuple #[.string (M.hwhole (M.hread s)), .int .i64 0] := by unfold M.hput; exact if_pos h3
  rw [h3'] at HP
  have hweq : ((M.hwhole (M.hread s)).toList == s.toList) = true := by rw [h4]; exact str_eq_self _
  obtain ⟨u, hu⟩ : ∃ x, x = M.hwhole (M.hread s) := ⟨_, rfl⟩
  rw [← hu] at HP hweq
  clear h3' h4 hu
  have HC5 := Lib.hid (fun x => tail10 (s.extract 0 15) x (by rw [ByteArray.size_extract]; omega))
  obtain ⟨g, hg⟩ : ∃ x, x = M.hnum s 1 7 := ⟨_, rfl⟩
  obtain ⟨q, hq⟩ : ∃ x, x = M.hnum s 7 13 := ⟨_, rfl⟩
  obtain ⟨a, ha⟩ : ∃ x, x = M.hnum s 13 15 := ⟨_, rfl⟩
  obtain ⟨x, hx⟩ : ∃ x, x = s.extract 15 19 := ⟨_, rfl⟩
  obtain ⟨t, ht⟩ : ∃ x, x = M.tail (s.extract 0 15) := ⟨_, rfl⟩
  rw [← hg] at HC1 HC4
  rw [← hq] at HC2 HC4
  rw [← ha] at HC3 HC4
  rw [← hx] at HC4
  rw [← ht] at HC5
  rw [h1] at HC0
  have hle : (15 : Int) ≤ (s.size : Int) := by omega
  rw [← hx, ← ht] at hne
  rw [← hg, ← hq, ← ha] at HP HR
  clear h1 h2 hg hq ha hx ht h h3
  go_enter Tryz.func139, Tryz.ntmps139
  go_wp2_with fail
  refine (newK s w 73 #[.int .i64 0, .int .i64 0, .int .i64 0]).mono ?_
  rintro e w1 ⟨b, rfl, h1⟩
  have H1 := Lib.hid h1
  clear h1
  go_wp2_with fail
  refine (HC0.out _ _ H1.out).mono ?_
  rintro e w2 ⟨rfl, h2⟩
  have H2 := Lib.hid h2
  clear h2 H1
  go_wp2_with fail
  refine (HC1.out _ _ H2.out).mono ?_
  rintro e w3 ⟨rfl, h3⟩
  have H3 := Lib.hid h3
  clear h3 H2
  go_wp2_with fail
  refine (HC2.out _ _ H3.out).mono ?_
  rintro e w4 ⟨rfl, h4⟩
  have H4 := Lib.hid h4
  clear h4 H3
  go_wp2_with fail
  refine (HC3.out _ _ H4.out).mono ?_
  rintro e w5 ⟨rfl, h5⟩
  have H5 := Lib.hid h5
  clear h5 H4
  go_wp2_with fail
  have H6 := Lib.hid (H5.out.alloc (.cells #[.int .i64 g, .int .i64 q, .int .i64 a] 73))
  have HX6 := Lib.hid (B3.new w5 73 g q a)
  have HN6 : Hid (b < w5.heap.size) := Box.lt H5.out.rd
  obtain ⟨w6, hw6⟩ : ∃ x, x = w5.alloc (.cells #[.int .i64 g, .int .i64 q, .int .i64 a] 73) := ⟨_, rfl⟩
  rw [← hw6] at H6 HX6 ⊢
  clear hw6
  obtain ⟨hb, hhb⟩ : ∃ x, x = w5.heap.size := ⟨_, rfl⟩
  rw [← hhb] at HX6 HN6 ⊢
  clear hhb
  go_wp2_with fail
  go_region_held3 (fun _ => True) (first | trivial)
    (first
      | (go_at_call 144; refine (HC4.out _ hb _ (by first | exact H6.out | exact H6.out.drew) (by first | exact HX6.out | exact HX6.out.below (Below.refl _ _).drew HX6.out.lt) HN6.out).mono ?_; rintro e w7 ⟨rfl, h7, hx7⟩; have H7 := Lib.hid h7; have HX7 := Lib.hid hx7; clear h7 hx7)
      | (go_at_call 110; refine (HC5.out _).mono ?_; rintro e w8 ⟨rfl, h8⟩; have H8 := Lib.hid ((show RdK w _ b 73 #[.int .i64 0, .int .i64 0, .int .i64 0] s 19 by first | exact H7.out | exact H7.out.drew).keep h8); have HX8 := Lib.hid (Box.below (show Box _ hb _ _ by first | exact HX7.out | exact Box.below HX7.out (Below.refl _ _).drew (Box.lt HX7.out)) h8 (Box.lt HX7.out)); clear h8))
  obtain ⟨c0, c1, c2⟩ := B3.cells HX8.out
  go_wp2_with fail
  refine (HP.out _).mono ?_
  rintro e w9 ⟨rfl, h9⟩
  have HX9 := Lib.hid (B3.below HX8.out h9 (B3.lt HX8.out))
  have H9 := Lib.hid (H8.out.keep h9)
  clear h9 H8 HX8 c0 c1 c2
  obtain ⟨d0, d1, d2⟩ := B3.cells HX9.out
  obtain ⟨c0, c1, c2⟩ := B3.cells H9.out.box
  obtain ⟨f0, f1, f2⟩ := B3.frozen H9.out.box
  have hne1 : (hb == w.heap.size) = false := by rw [beq_eq_false_iff_ne]; have := HN6.out; have := H9.out.lt; omega
  go_wp2_with fail
  exact bodyPost_ret (v := .tuple #[.agg #[.int .i64 g, .int .i64 q, .int .i64 a], .int .i64 0]) (by simp [results, Tryz.results139, go_sem, *]) rfl ⟨M.hgot_of HR.out, by (repeat refine Below.setCell ?_ (by simp) _); exact H9.out.below⟩

theorem get10_any (s : ByteArray) (w : World) :
    Calls Tryz.prog 139 #[.string s] w fun e w' => e = .returned (M.hgot (M.hget s)) ∧ Below w.heap.size w w' := by
  by_cases h : s.size = 64
  · by_cases h1 : s.extract 0 1 = ⟨#[76]⟩
    · by_cases h2 : s.extract 15 19 = M.tail (s.extract 0 15)
      · by_cases h3 : M.hmay (M.hread s) = true
        · by_cases h4 : M.hwhole (M.hread s) = s
          · exact get10_good s w h h1 h2 h3 h4
          · exact get10_other s w h h1 h2 h3 h4
        · exact get10_not s w h h1 h2 h3
      · exact get10_sum s w h h1 h2
    · exact get10_form s w h h1
  · exact get10_size s w h
end Go.Proofs.YtmgchfjfkdkaoaaGreatDoor
namespace Go.Proofs.YtmgchfjfkdkaoaaGreatDoor
open Go.RowKit

theorem M.ex_one (s : ByteArray) (h : 0 < s.size) : s.extract 0 1 = ⟨#[s[0]'h]⟩ := by
  apply M.ba_ext
  rw [M.ex_list]
  have l : 0 < s.data.toList.length := h
  rw [List.drop_eq_getElem_cons l]
  rfl
theorem M.ex_one_eq (s : ByteArray) (h : 0 < s.size) (c : UInt8) : s.extract 0 1 = ⟨#[c]⟩ ↔ s[0]'h = c := by
  rw [M.ex_one s h]
  constructor
  · intro e
    injection e with e
    simpa using e
  · intro e; rw [e]
theorem u8_eq (c : UInt8) (n : Nat) (h : n < 256) : ((c.toNat : Int) == (n : Int)) = decide (c = UInt8.ofNat n) := by
  rw [Bool.eq_iff_iff, beq_iff_eq, decide_eq_true_eq]
  constructor
  · intro e
    have e' : c.toNat = n := by omega
    rw [← e']
    simp
  · intro e
    rw [e]
    simp
    omega

end Go.Proofs.YtmgchfjfkdkaoaaGreatDoor
namespace Go.Proofs.YtmgchfjfkdkaoaaGreatDoor
open Go.RowKit

/-- The package's variable reads as the program lays it. -/
def Env10 (w : World) : Prop := w.var? Tryz.prog "solder/loghead.none" = some #[.int .i64 (-1), .int .i64 0, .int .i64 0]
theorem Tryz.gNone : Tryz.prog.globalNamed "solder/loghead.none" = some 0 := by kernel_rfl
theorem Env10.below {w w' : World} (h : Env10 w) (hb : Below w.heap.size w w') : Env10 w' := by
  unfold Env10 World.var? at h ⊢
  rw [Tryz.gNone] at h ⊢
  simp only [Option.bind_some] at h ⊢
  rw [hb.block 0 (by
    cases e : w.heap[0]? with
    | none => rw [e] at h; cases h
    | some o => exact lt_of_block e)]
  exact h
theorem Env10.grown {w w' : World} {b : Nat} (h : Env10 w) (hg : w.grownBy w' (some b)) (hb : 0 < b) : Env10 w' := by
  unfold Env10 World.var? at h ⊢
  rw [Tryz.gNone] at h ⊢
  simp only [Option.bind_some] at h ⊢
  rw [hg.block 0 (by
    cases e : w.heap[0]? with
    | none => rw [e] at h; cases h
    | some o => exact lt_of_block e) (fun e => by injection e with e; omega)]
  exact h
theorem Env10.cells {w : World} (h : Env10 w) : w.cell? ⟨0, 0, none⟩ = some (.int .i64 (-1)) ∧ w.cell? ⟨0, 1, none⟩ = some (.int .i64 0) ∧ w.cell? ⟨0, 2, none⟩ = some (.int .i64 0) :=
  ⟨World.var?_cell Tryz.gNone h 0, World.var?_cell Tryz.gNone h 1, World.var?_cell Tryz.gNone h 2⟩

/-- The head that a sector says, or none. -/
def M.hor (s : ByteArray) : M.Hd := if (M.hget s).2 ≠ 0 then ⟨-1, 0, 0⟩ else (M.hget s).1

set_option maxHeartbeats 1000000 in
theorem orNone_any (s : ByteArray) (w : World) (hE : Env10 w) :
    Calls Tryz.prog 104 #[.string s] w fun e w' => e = .returned (M.hor s).v ∧ Below w.heap.size w w' := by
  have C := Lib.hid (fun x => get10_any s x)
  unfold M.hgot at C
  unfold M.hor
  obtain ⟨⟨⟨g, q, a⟩, x⟩, hr⟩ : ∃ r, r = M.hget s := ⟨_, rfl⟩
  rw [← hr] at C ⊢
  clear hr
  have HX := Lib.hid (B3.new w 73 0 0 0)
  have HB := Lib.hid (below1 w (.cells #[.int .i64 0, .int .i64 0, .int .i64 0] 73))
  have HE := Lib.hid hE
  clear hE
  have hx : (x = 0 ∧ (x != 0) = false) ∨ (¬ x = 0 ∧ (x != 0) = true) := by
    by_cases e : x = 0
    · exact Or.inl ⟨e, by simp [e]⟩
    · exact Or.inr ⟨e, by simpa using e⟩
  rcases hx with ⟨h1, h2⟩ | ⟨h1, h2⟩
  · rw [if_neg (fun e => e h1)]
    clear h1
    go_enter Tryz.func104, Tryz.ntmps104
    go_wp2_with fail
    refine (C.out _).mono ?_
    rintro e w1 ⟨rfl, hb1⟩
    have HX1 := Lib.hid (HX.out.below hb1 HX.out.lt)
    have HB1 := Lib.hid (HB.out.trans (hb1.mono HB.out.size))
    clear hb1
    have HX2 := Lib.hid (HX1.out.below (below1 w1 (.cells #[.int .i64 g, .int .i64 q, .int .i64 a] 73)) HX1.out.lt)
    have HB2 := Lib.hid (HB1.out.alloc HB1.out.size (.cells #[.int .i64 g, .int .i64 q, .int .i64 a] 73))
    obtain ⟨c0, c1, c2⟩ := HX2.out.cells
    obtain ⟨f0, f1, f2⟩ := HX2.out.frozen
    go_wp2_with fail
    exact bodyPost_ret (v := .agg #[.int .i64 g, .int .i64 q, .int .i64 a]) (by simp [results, Tryz.results104, go_sem, *]) rfl ⟨rfl, by (repeat refine Below.setCell ?_ (by simp) _); exact HB2.out⟩
  · rw [if_pos h1]
    clear h1
    go_enter Tryz.func104, Tryz.ntmps104
    go_wp2_with fail
    refine (C.out _).mono ?_
    rintro e w1 ⟨rfl, hb1⟩
    have HX1 := Lib.hid (HX.out.below hb1 HX.out.lt)
    have HB1 := Lib.hid (HB.out.trans (hb1.mono HB.out.size))
    have HX2 := Lib.hid (HX1.out.below (below1 w1 (.cells #[.int .i64 g, .int .i64 q, .int .i64 a] 73)) HX1.out.lt)
    have HB2 := Lib.hid (HB1.out.alloc HB1.out.size (.cells #[.int .i64 g, .int .i64 q, .int .i64 a] 73))
    have HE2 : Hid (Env10 (w1.alloc (.cells #[.int .i64 g, .int .i64 q, .int .i64 a] 73))) := HE.out.below (HB2.out)
    clear hb1
    obtain ⟨c0, c1, c2⟩ := HX2.out.cells
    obtain ⟨f0, f1, f2⟩ := HX2.out.frozen
    obtain ⟨d0, d1, d2⟩ := HE2.out.cells
    go_wp2_with fail
    exact bodyPost_ret (v := .agg #[.int .i64 (-1), .int .i64 0, .int .i64 0]) (by simp [results, Tryz.results104, go_sem, *]) rfl ⟨rfl, by (repeat refine Below.setCell ?_ (by simp) _); exact HB2.out⟩

theorem M.hnewer_or (a b : ByteArray) : M.hnewer a b = (if (M.hor a).g < (M.hor b).g then (M.hor b, 0) else if (M.hor a).g = -1 then (M.h0, 8) else (M.hor a, 0)) := by
  unfold M.hnewer
  by_cases xa : (M.hget a).2 = 0
  · have oa : M.hor a = (M.hget a).1 := if_neg (fun e => e xa)
    have ga := ((M.hmay_iff _).1 (M.hget_ok a xa).1).1.1
    by_cases xb : (M.hget b).2 = 0
    · have ob : M.hor b = (M.hget b).1 := if_neg (fun e => e xb)
      rw [oa, ob, if_neg (fun e => e.1 xa)]
      by_cases hl : (M.hget a).1.g < (M.hget b).1.g
      · rw [if_pos (Or.inr ⟨xb, hl⟩), if_pos hl]
      · rw [if_neg (fun e => e.elim (fun e => e xa) (fun e => hl e.2)), if_neg hl, if_neg (by omega)]
    · have ob : M.hor b = ⟨-1, 0, 0⟩ := if_pos xb
      rw [oa, ob, if_neg (fun e => e.1 xa), if_neg (fun e => e.elim (fun e => e xa) (fun e => xb e.1)), if_neg (by show ¬ (M.hget a).1.g < -1; omega), if_neg (by omega)]
  · have oa : M.hor a = ⟨-1, 0, 0⟩ := if_pos xa
    by_cases xb : (M.hget b).2 = 0
    · have gb := ((M.hmay_iff _).1 (M.hget_ok b xb).1).1.1
      have ob : M.hor b = (M.hget b).1 := if_neg (fun e => e xb)
      rw [oa, ob, if_neg (fun e => e.2 xb), if_pos (Or.inl xa), if_pos (by show -1 < (M.hget b).1.g; omega)]
    · have ob : M.hor b = ⟨-1, 0, 0⟩ := if_pos xb
      rw [oa, ob, if_pos ⟨xa, xb⟩, if_neg (by decide), if_pos rfl]

theorem M.hor_none (a : ByteArray) : -1 ≤ (M.hor a).g ∧ ((M.hor a).g = -1 → (M.hor a).q = 0 ∧ (M.hor a).a = 0) := by
  unfold M.hor
  by_cases xa : (M.hget a).2 = 0
  · have ga := ((M.hmay_iff _).1 (M.hget_ok a xa).1).1.1
    rw [if_neg (fun e => e xa)]
    exact ⟨by omega, fun e => by omega⟩
  · rw [if_pos xa]
    exact ⟨by decide, fun _ => ⟨rfl, rfl⟩⟩
set_option maxHeartbeats 1000000 in
theorem newer10_any (a b : ByteArray) (w : World) (hE : Env10 w) :
    Calls Tryz.prog 68 #[.string a, .string b] w fun e w' => e = .returned (M.hgot (M.hnewer a b)) ∧ Below w.heap.size w w' := by
  have C1 := Lib.hid (fun x hE => orNone_any a x hE)
  have C2 := Lib.hid (fun x hE => orNone_any b x hE)
  unfold M.Hd.v at C1 C2
  have HR := Lib.hid (M.hnewer_or a b)
  have HNA := Lib.hid (M.hor_none a)
  obtain ⟨⟨g, q, k⟩, ha⟩ : ∃ r, r = M.hor a := ⟨_, rfl⟩
  obtain ⟨⟨g', q', k'⟩, hb⟩ : ∃ r, r = M.hor b := ⟨_, rfl⟩
  rw [← ha] at C1 HR HNA
  rw [← hb] at C2 HR
  clear ha hb
  have HX := Lib.hid (B3.new w 73 0 0 0)
  have HB := Lib.hid (below1 w (.cells #[.int .i64 0, .int .i64 0, .int .i64 0] 73))
  have HE := Lib.hid (hE.below HB.out)
  clear hE
  have hc : (decide (g < g') = true ∧ M.hnewer a b = (⟨g', q', k'⟩, 0)) ∨ (decide (g < g') = false ∧ g = -1 ∧ M.hnewer a b = (⟨0, 0, 0⟩, 8)) ∨ (decide (g < g') = false ∧ g ≠ -1 ∧ M.hnewer a b = (⟨g, q, k⟩, 0)) := by
    have h := HR.out
    by_cases h1 : g < g'
    · rw [if_pos h1] at h
      exact Or.inl ⟨by simpa using h1, h⟩
    · rw [if_neg h1] at h
      by_cases h2 : g = -1
      · rw [if_pos h2] at h
        exact Or.inr (Or.inl ⟨by simpa using h1, h2, h⟩)
      · rw [if_neg h2] at h
        exact Or.inr (Or.inr ⟨by simpa using h1, h2, h⟩)
  clear HR
  rcases hc with ⟨d, hr⟩ | ⟨d, hg, hr⟩ | ⟨d, hg, hr⟩
  · have HR := Lib.hid hr
    have hn : (g' == -1) = false := by
      have h1 := HNA.out.1
      have h2 := of_decide_eq_true d
      rw [beq_eq_false_iff_ne]
      show g' ≠ -1
      have h1 : -1 ≤ g := h1
      omega
    clear hr
    go_enter Tryz.func68, Tryz.ntmps68
    go_wp2_with fail
    refine (C1.out _ HE.out).mono ?_
    rintro e w1 ⟨rfl, hb1⟩
    have HX1 := Lib.hid (HX.out.below hb1 HX.out.lt)
    have HE1 := Lib.hid (HE.out.below hb1)
    have HB1 := Lib.hid (HB.out.trans (hb1.mono HB.out.size))
    clear hb1 HE HX HB
    go_wp2_with fail
    refine (C2.out _ HE1.out).mono ?_
    rintro e w2 ⟨rfl, hb2⟩
    have HX2 := Lib.hid (HX1.out.below hb2 HX1.out.lt)
    have HE2 := Lib.hid (HE1.out.below hb2)
    have HB2 := Lib.hid (HB1.out.trans (hb2.mono HB1.out.size))
    clear hb2 HE1 HX1 HB1
    have HA : Hid (Below w2.heap.size w2 ((w2.alloc (.cells #[.int .i64 g', .int .i64 q', .int .i64 k'] 73)).alloc (.cells #[.int .i64 g', .int .i64 q', .int .i64 k'] 73))) := below2a _ _ _
    have HB3 := Lib.hid (HB2.out.trans (HA.out.mono HB2.out.size))
    obtain ⟨c0, c1, c2⟩ := (HX2.out.below HA.out HX2.out.lt).cells
    obtain ⟨f0, f1, f2⟩ := (HX2.out.below HA.out HX2.out.lt).frozen
    obtain ⟨d0, d1, d2⟩ := (HE2.out.below HA.out).cells
    go_wp2_with fail
    exact bodyPost_ret (v := .tuple #[.agg #[.int .i64 g', .int .i64 q', .int .i64 k'], .int .i64 0]) (by simp [results, Tryz.results68, go_sem, *]) rfl ⟨M.hgot_of HR.out, by (repeat refine Below.setCell ?_ (by simp) _); exact HB3.out⟩
  · have HR := Lib.hid hr
    obtain ⟨h1, h2⟩ := HNA.out.2 hg
    simp only at h1 h2
    subst hg h1 h2
    clear hr
    go_enter Tryz.func68, Tryz.ntmps68
    go_wp2_with fail
    refine (C1.out _ HE.out).mono ?_
    rintro e w1 ⟨rfl, hb1⟩
    have HX1 := Lib.hid (HX.out.below hb1 HX.out.lt)
    have HE1 := Lib.hid (HE.out.below hb1)
    have HB1 := Lib.hid (HB.out.trans (hb1.mono HB.out.size))
    clear hb1 HE HX HB
    go_wp2_with fail
    refine (C2.out _ HE1.out).mono ?_
    rintro e w2 ⟨rfl, hb2⟩
    have HX2 := Lib.hid (HX1.out.below hb2 HX1.out.lt)
    have HE2 := Lib.hid (HE1.out.below hb2)
    have HB2 := Lib.hid (HB1.out.trans (hb2.mono HB1.out.size))
    clear hb2 HE1 HX1 HB1
    have HA : Hid (Below w2.heap.size w2 ((w2.alloc (.cells #[.int .i64 (-1), .int .i64 0, .int .i64 0] 73)).alloc (.cells #[.int .i64 g', .int .i64 q', .int .i64 k'] 73))) := below2a _ _ _
    have HB3 := Lib.hid (HB2.out.trans (HA.out.mono HB2.out.size))
    obtain ⟨c0, c1, c2⟩ := (HX2.out.below HA.out HX2.out.lt).cells
    obtain ⟨f0, f1, f2⟩ := (HX2.out.below HA.out HX2.out.lt).frozen
    obtain ⟨d0, d1, d2⟩ := (HE2.out.below HA.out).cells
    go_wp2_with fail
    exact bodyPost_ret (v := .tuple #[.agg #[.int .i64 0, .int .i64 0, .int .i64 0], .int .i64 8]) (by simp [results, Tryz.results68, go_sem, *]) rfl ⟨M.hgot_of HR.out, by (repeat refine Below.setCell ?_ (by simp) _); exact HB3.out⟩
  · have HR := Lib.hid hr
    have hn : (g == -1) = false := by rw [beq_eq_false_iff_ne]; exact hg
    clear hr hg
    go_enter Tryz.func68, Tryz.ntmps68
    go_wp2_with fail
    refine (C1.out _ HE.out).mono ?_
    rintro e w1 ⟨rfl, hb1⟩
    have HX1 := Lib.hid (HX.out.below hb1 HX.out.lt)
    have HE1 := Lib.hid (HE.out.below hb1)
    have HB1 := Lib.hid (HB.out.trans (hb1.mono HB.out.size))
    clear hb1 HE HX HB
    go_wp2_with fail
    refine (C2.out _ HE1.out).mono ?_
    rintro e w2 ⟨rfl, hb2⟩
    have HX2 := Lib.hid (HX1.out.below hb2 HX1.out.lt)
    have HE2 := Lib.hid (HE1.out.below hb2)
    have HB2 := Lib.hid (HB1.out.trans (hb2.mono HB1.out.size))
    clear hb2 HE1 HX1 HB1
    have HA : Hid (Below w2.heap.size w2 ((w2.alloc (.cells #[.int .i64 g, .int .i64 q, .int .i64 k] 73)).alloc (.cells #[.int .i64 g', .int .i64 q', .int .i64 k'] 73))) := below2a _ _ _
    have HB3 := Lib.hid (HB2.out.trans (HA.out.mono HB2.out.size))
    obtain ⟨c0, c1, c2⟩ := (HX2.out.below HA.out HX2.out.lt).cells
    obtain ⟨f0, f1, f2⟩ := (HX2.out.below HA.out HX2.out.lt).frozen
    obtain ⟨d0, d1, d2⟩ := (HE2.out.below HA.out).cells
    go_wp2_with fail
    exact bodyPost_ret (v := .tuple #[.agg #[.int .i64 g, .int .i64 q, .int .i64 k], .int .i64 0]) (by simp [results, Tryz.results68, go_sem, *]) rfl ⟨M.hgot_of HR.out, by (repeat refine Below.setCell ?_ (by simp) _); exact HB3.out⟩

end Go.Proofs.YtmgchfjfkdkaoaaGreatDoor
