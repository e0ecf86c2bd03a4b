/-
  Numbers out of bytes. Walks over logrec.begin, logrec.Size, solderref11.number and solderref11.Size. Walks over solderref11.Size. Written by gen_rsize.py. Walk over solderref11.Size, all cases. Walks over logrec.Get. Walk over logrec.Get where as many sectors stand behind the first one as it tells. Walks over solderref11.Get. logrec.Get and solderref11.Get of any bytes; walks over solderlaw09.Sectors and solderlaw11.Great.
-/
import Derived.Test.YtmgchfjfkdkaoaaGreatDoorMA
import Derived.Test.YtmgchfjfkdkaoaaGreatDoorMB
import Derived.Deep.RegionHeld3
import Derived.Laws.MakeOwn
import Derived.Deep.RegionLaw
import Derived.Deep.AppendLies
namespace Go.Proofs.YtmgchfjfkdkaoaaGreatDoor
open Go.RowKit

theorem M.ex_at (s : ByteArray) (i : Nat) (h : i < s.size) : s.extract i (i + 1) = ⟨#[s[i]'h]⟩ := by
  apply M.ba_ext
  rw [M.ex_list]
  have l : i < s.data.toList.length := h
  rw [List.drop_eq_getElem_cons l]
  show List.take (i + 1 - i) _ = _
  rw [Nat.add_sub_cancel_left]
  rfl
theorem M.hnum_at (s : ByteArray) (i : Nat) (h : i < s.size) : M.hnum s i (i + 1) = ((s[i]'h).toNat : Int) := by
  rw [M.hnum, M.ex_at s i h]
  show ((M.num [s[i]'h] : Nat) : Int) = _
  simp [M.num]
theorem M.hnum_bound (s : ByteArray) (i z : Nat) (h : i + z ≤ s.size) : 0 ≤ M.hnum s i (i + z) ∧ M.hnum s i (i + z) < (256 ^ z : Nat) := by
  have hl : (s.extract i (i + z)).data.toList.length = z := by rw [M.size_list, ByteArray.size_extract]; omega
  have := M.num_lt z _ hl
  unfold M.hnum
  omega
end Go.Proofs.YtmgchfjfkdkaoaaGreatDoor
namespace Go.Proofs.YtmgchfjfkdkaoaaGreatDoor
open Go.RowKit Go.Deep

/-- In y, a later world than w, there is a reader that has read k of s's bytes. -/
structure RdB (w y : World) (b : Nat) (s : ByteArray) (k : Nat) : Prop where
  rd : RdF y b s ⟨k, 0⟩
  below : Below w.heap.size w y
  lt : w.heap.size ≤ b
section
variable {w y : World} {b : Nat} {s : ByteArray} {k : Nat}
theorem RdB.keep {z : World} (h : RdB w y b s k) (hb : Below y.heap.size y z) : RdB w z b s k := ⟨Box.below h.rd hb (Box.lt h.rd), h.below.trans (hb.mono h.below.size), h.lt⟩
theorem RdB.drew (h : RdB w y b s k) : RdB w y.drew b s k := h.keep (Below.refl _ _).drew
theorem RdB.step {z : World} {k' : Nat} (h : RdB w y b s k) (hr : RdF z b s ⟨k', 0⟩) (hg : y.grownBy z (some b)) : RdB w z b s k' :=
  ⟨hr, below_by h.below hg h.lt h.below.size, h.lt⟩
theorem RdB.num (h : RdB w y b s k) (z : Nat) (h1 : 1 ≤ z) (h7 : z ≤ 7) (hz : k + z ≤ s.size) :
    Calls Tryz.prog 145 #[.pointer (some ⟨b, 0, none⟩), .int .i64 (z : Nat)] y fun e y' => e = .returned (.int .i64 (M.hnum s k (k + z))) ∧ RdB w y' b s (k + z) ∧ y.grownBy y' (some b) := by
  refine (numF b s ⟨k, 0⟩ (z : Nat) (by omega) (by omega) y h.rd (by show k ≤ s.size; omega)).mono ?_
  rintro e y' ⟨h1', h2, h3⟩
  obtain ⟨e1, e2⟩ := M.num_at s k z h1 h7 hz
  rw [e1] at h1'
  rw [e2] at h2
  exact ⟨h1', h.step h2 h3, h3⟩
theorem RdB.bytes (h : RdB w y b s k) (z : Nat) (hz : k + z ≤ s.size) :
    Calls Tryz.prog 144 #[.pointer (some ⟨b, 0, none⟩), .int .i64 (z : Nat)] y fun e y' => e = .returned (.string (s.extract k (k + z))) ∧ RdB w y' b s (k + z) ∧ y.grownBy y' (some b) := by
  refine (bytesF b s ⟨k, 0⟩ (z : Nat) y h.rd (by show k ≤ s.size; omega)).mono ?_
  rintro e y' ⟨h1', h2, h3⟩
  obtain ⟨e1, e2⟩ := M.bytes_at s k z hz
  rw [e1] at h1'
  rw [e2] at h2
  exact ⟨h1', h.step h2 h3, h3⟩
theorem RdB.left (h : RdB w y b s k) (hk : k ≤ s.size) :
    Calls Tryz.prog 161 #[.pointer (some ⟨b, 0, none⟩)] y fun e y' => e = .returned (.int .i64 ((s.size - k : Nat) : Int)) ∧ y = y' := by
  have h' := leftF b s ⟨k, 0⟩ y h.rd hk
  have e : M.left s ⟨k, 0⟩ = ((s.size - k : Nat) : Int) := by show (s.size : Int) - (k : Int) = _; omega
  rw [e] at h'
  exact h'
end
theorem newB (s : ByteArray) (w y : World) (hb : Below w.heap.size w y) : Calls Tryz.prog 112 #[.string s] y fun e z => ∃ b, e = .returned (.pointer (some ⟨b, 0, none⟩)) ∧ RdB w z b s 0 := by
  refine (newF s y).mono ?_
  rintro e z ⟨h1, h2, h3⟩
  exact ⟨_, h1, h2, hb.trans (h3.mono hb.size), hb.size⟩

theorem ne_of_toList {a b : ByteArray} (h : a ≠ b) : (a.toList == b.toList) = false := by
  rw [beq_eq_false_iff_ne]
  intro e
  apply h
  rw [ByteArray.toList_eq, ByteArray.toList_eq] at e
  exact M.ba_ext e
theorem R_toList : (⟨#[82]⟩ : ByteArray).toList = [82] := by rw [ByteArray.toList_eq]

theorem begin_no (s : ByteArray) (w y : World) (b : Nat) (h : RdB w y b s 0) (hs : 1 ≤ s.size) (h1 : s.extract 0 1 ≠ ⟨#[82]⟩) :
    Calls Tryz.prog 111 #[.pointer (some ⟨b, 0, none⟩)] y fun e y' => e = .returned (.tuple #[.int .i64 0, .int .i64 0, .bool false]) ∧ Below w.heap.size w y' := by
  have C := Lib.hid (h.bytes 1 (by omega))
  obtain ⟨u, hu⟩ : ∃ u, u = s.extract 0 (0 + 1) := ⟨_, rfl⟩
  rw [← hu] at C
  have hu' : (u.toList == [82]) = false := by
    rw [← R_toList]
    exact ne_of_toList (by rw [hu]; exact h1)
  clear h hu h1
  go_enter Tryz.func111, Tryz.ntmps111
  go_wp2_with fail
  refine C.out.mono ?_
  rintro e y1 ⟨rfl, h1, _⟩
  have HB := Lib.hid h1.below
  clear h1
  go_wp2_with fail
  go_returns
  exact ⟨rfl, HB.out⟩
theorem begin_yes (s : ByteArray) (w y : World) (b : Nat) (h : RdB w y b s 0) (hs : 8 ≤ s.size) (h1 : s.extract 0 1 = ⟨#[82]⟩) :
    Calls Tryz.prog 111 #[.pointer (some ⟨b, 0, none⟩)] y fun e y' =>
      e = .returned (.tuple #[.int .i64 (M.gQ s), .int .i64 (M.hnum s 7 8), .bool (decide (1 ≤ M.hnum s 7 8 ∧ M.hnum s 7 8 ≤ 16))]) ∧ RdB w y' b s 8 := by
  have C := Lib.hid (h.bytes 1 (by omega))
  have C1 : Hid (∀ z, RdB w z b s 1 → Calls Tryz.prog 145 #[.pointer (some ⟨b, 0, none⟩), .int .i64 6] z fun e z' => e = .returned (.int .i64 (M.gQ s)) ∧ RdB w z' b s 7 ∧ z.grownBy z' (some b)) := fun z hz => hz.num 6 (by omega) (by omega) (by omega)
  have C2 : Hid (∀ z, RdB w z b s 7 → Calls Tryz.prog 145 #[.pointer (some ⟨b, 0, none⟩), .int .i64 1] z fun e z' => e = .returned (.int .i64 (M.hnum s 7 8)) ∧ RdB w z' b s 8 ∧ z.grownBy z' (some b)) := fun z hz => hz.num 1 (by omega) (by omega) (by omega)
  obtain ⟨u, hu⟩ : ∃ u, u = s.extract 0 (0 + 1) := ⟨_, rfl⟩
  rw [← hu] at C
  have hu' : (u.toList == [82]) = true := by
    rw [← R_toList, hu, beq_iff_eq]
    show (s.extract 0 1).toList = _
    rw [h1]
  obtain ⟨Q, hQ⟩ : ∃ Q, Q = M.gQ s := ⟨_, rfl⟩
  obtain ⟨m, hm⟩ : ∃ m, m = M.hnum s 7 8 := ⟨_, rfl⟩
  rw [← hQ] at C1 ⊢
  rw [← hm] at C2 ⊢
  clear h hu h1 hQ hm hs
  have hc : (decide (1 ≤ m) = false) ∨ (decide (1 ≤ m) = true ∧ decide (m ≤ 16) = false) ∨ (decide (1 ≤ m) = true ∧ decide (m ≤ 16) = true) := by
    cases decide (1 ≤ m) <;> cases decide (m ≤ 16) <;> simp
  have hd : Hid (decide (1 ≤ m ∧ m ≤ 16) = (decide (1 ≤ m) && decide (m ≤ 16))) := by show _ = _; rw [Bool.decide_and]
  rw [hd.out]
  clear hd
  rcases hc with d1 | ⟨d1, d2⟩ | ⟨d1, d2⟩
  · rw [d1]
    go_enter Tryz.func111, Tryz.ntmps111
    go_wp2_with fail
    refine C.out.mono ?_
    rintro e y1 ⟨rfl, h1, _⟩
    have H1 := Lib.hid h1
    clear h1
    go_wp2_with fail
    refine (C1.out _ H1.out).mono ?_
    rintro e y2 ⟨rfl, h2, _⟩
    have H2 := Lib.hid h2
    clear h2
    go_wp2_with fail
    refine (C2.out _ H2.out).mono ?_
    rintro e y3 ⟨rfl, h3, _⟩
    have H3 := Lib.hid h3
    clear h3
    go_wp2_with fail
    go_returns
    exact ⟨rfl, H3.out⟩
  all_goals
    rw [d1, d2]
    go_enter Tryz.func111, Tryz.ntmps111
    go_wp2_with fail
    refine C.out.mono ?_
    rintro e y1 ⟨rfl, h1, _⟩
    have H1 := Lib.hid h1
    clear h1
    go_wp2_with fail
    refine (C1.out _ H1.out).mono ?_
    rintro e y2 ⟨rfl, h2, _⟩
    have H2 := Lib.hid h2
    clear h2
    go_wp2_with fail
    refine (C2.out _ H2.out).mono ?_
    rintro e y3 ⟨rfl, h3, _⟩
    have H3 := Lib.hid h3
    clear h3
    go_wp2_with fail
    go_returns
    exact ⟨rfl, H3.out⟩

set_option maxHeartbeats 1000000 in
theorem size11_any (s : ByteArray) (q : Int) (w : World) :
    Calls Tryz.prog 75 #[.string s, .int .i64 q] w fun e w' => e = .returned (.tuple #[.int .i64 (M.szN s q), .int .i64 (M.szE s q)]) ∧ Below w.heap.size w w' := by
  by_cases hs : s.size = 64
  · have hd : ((s.size : Int) == 64) = true := by rw [beq_iff_eq]; omega
    have C := Lib.hid (newB s w w (Below.refl _ _))
    by_cases h1 : s.extract 0 1 = ⟨#[82]⟩
    · have C1 : Hid (∀ y b, RdB w y b s 0 → _) := fun y b h => begin_yes s w y b h (by omega) h1
      obtain ⟨m, hm⟩ : ∃ m, m = M.hnum s 7 8 := ⟨_, rfl⟩
      obtain ⟨Q, hQ⟩ : ∃ Q, Q = M.gQ s := ⟨_, rfl⟩
      rw [← hm, ← hQ] at C1
      by_cases h2 : 1 ≤ m ∧ m ≤ 16
      · rw [decide_eq_true h2] at C1
        by_cases h3 : Q = q
        · have hE : M.szE s q = 0 := by unfold M.szE; rw [if_neg (by simp [hs]), if_pos ⟨⟨h1, by rw [← hm]; exact h2⟩, by rw [← hQ]; exact h3⟩]
          have hN : M.szN s q = 1 + m := by rw [M.szN, if_pos hE, hm]
          rw [hE, hN]
          have h3' : (Q == q) = true := by simp [h3]
          have hm1 := h2.2
          have hm0 := h2.1
          clear hE hN h1 h2 h3 hm hQ hs
          go_enter Tryz.func75, Tryz.ntmps75
          go_wp2_with fail
          refine C.out.mono ?_
          rintro e w1 ⟨b, rfl, h1⟩
          have H1 := Lib.hid h1
          clear h1
          go_wp2_with fail
          refine (C1.out _ _ H1.out).mono ?_
          rintro e w2 ⟨rfl, h2⟩
          have H2 := Lib.hid h2.below
          clear h2
          go_wp2_with fail
          go_ret2
          exact ⟨rfl, H2.out⟩
        · have hE : M.szE s q = 8 := by unfold M.szE; rw [if_neg (by simp [hs]), if_neg (fun x => h3 (hQ.trans x.2))]
          have hN : M.szN s q = 0 := by rw [M.szN, if_neg (by rw [hE]; decide)]
          rw [hE, hN]
          have h3' : (Q == q) = false := by simp [h3]
          clear hE hN h1 h2 h3 hm hQ hs
          go_enter Tryz.func75, Tryz.ntmps75
          go_wp2_with fail
          refine C.out.mono ?_
          rintro e w1 ⟨b, rfl, h1⟩
          have H1 := Lib.hid h1
          clear h1
          go_wp2_with fail
          refine (C1.out _ _ H1.out).mono ?_
          rintro e w2 ⟨rfl, h2⟩
          have H2 := Lib.hid h2.below
          clear h2
          go_wp2_with fail
          go_ret2
          exact ⟨rfl, H2.out⟩
      · rw [decide_eq_false h2] at C1
        have hE : M.szE s q = 8 := by unfold M.szE; rw [if_neg (by simp [hs]), if_neg (fun x => h2 (by rw [hm]; exact x.1.2))]
        have hN : M.szN s q = 0 := by rw [M.szN, if_neg (by rw [hE]; decide)]
        rw [hE, hN]
        clear hE hN h1 h2 hm hQ hs
        go_enter Tryz.func75, Tryz.ntmps75
        go_wp2_with fail
        refine C.out.mono ?_
        rintro e w1 ⟨b, rfl, h1⟩
        have H1 := Lib.hid h1
        clear h1
        go_wp2_with fail
        refine (C1.out _ _ H1.out).mono ?_
        rintro e w2 ⟨rfl, h2⟩
        have H2 := Lib.hid h2.below
        clear h2
        go_wp2_with fail
        go_ret2
        exact ⟨rfl, H2.out⟩
    · have C1 : Hid (∀ y b, RdB w y b s 0 → _) := fun y b h => begin_no s w y b h (by omega) h1
      have hE : M.szE s q = 8 := by unfold M.szE; rw [if_neg (by simp [hs]), if_neg (fun x => h1 x.1.1)]
      have hN : M.szN s q = 0 := by rw [M.szN, if_neg (by rw [hE]; decide)]
      rw [hE, hN]
      clear hE hN h1 hs
      go_enter Tryz.func75, Tryz.ntmps75
      go_wp2_with fail
      refine C.out.mono ?_
      rintro e w1 ⟨b, rfl, h1⟩
      have H1 := Lib.hid h1
      clear h1
      go_wp2_with fail
      refine (C1.out _ _ H1.out).mono ?_
      rintro e w2 ⟨rfl, h2⟩
      have H2 := Lib.hid h2
      clear h2
      go_wp2_with fail
      go_ret2
      exact ⟨rfl, H2.out⟩
  · have hd : ((s.size : Int) == 64) = false := by rw [beq_eq_false_iff_ne]; omega
    have hE : M.szE s q = 12 := by unfold M.szE; rw [if_pos hs]
    have hN : M.szN s q = 0 := by rw [M.szN, if_neg (by rw [hE]; decide)]
    rw [hE, hN]
    clear hE hN hs
    go_enter Tryz.func75, Tryz.ntmps75
    go_wp2_with fail
    go_ret2
    exact ⟨rfl, Below.refl _ _⟩

end Go.Proofs.YtmgchfjfkdkaoaaGreatDoor
namespace Go.Proofs.YtmgchfjfkdkaoaaGreatDoor
open Go.RowKit Go.Deep

end Go.Proofs.YtmgchfjfkdkaoaaGreatDoor
namespace Go.Proofs.YtmgchfjfkdkaoaaGreatDoor
open Go.RowKit Go.Deep

theorem M.bytes_hnum (s : ByteArray) (i z : Nat) (h : i + z ≤ s.size) : M.bytes (M.hnum s i (i + z)).toNat z = s.extract i (i + z) := by
  have hl : (s.extract i (i + z)).data.toList.length = z := by rw [M.size_list, ByteArray.size_extract]; omega
  apply M.ba_ext
  rw [M.hnum, Int.toNat_natCast, M.bytes]
  show M.be _ z = _
  exact M.be_num z _ hl
/-- A sector begins with these seven bytes just where it begins with R and says this number. -/
theorem M.begins7 (s : ByteArray) (q : Int) (hs : s.size = 64) (hq : 0 ≤ q ∧ q < 281474976710656) : s.extract 0 7 = (⟨#[82]⟩ : ByteArray) ++ M.bytes q.toNat 6 ↔ s.extract 0 1 = ⟨#[82]⟩ ∧ M.gQ s = q := by
  have hc := M.ex_cut s 0 1 7 (by omega) (by omega)
  have hb := M.bytes_hnum s 1 6 (by omega)
  constructor
  · intro e
    rw [← hc] at e
    have e' := congrArg (fun x : ByteArray => x.data.toList) e
    simp only [M.app_list] at e'
    have hl : (s.extract 0 1).data.toList.length = (⟨#[82]⟩ : ByteArray).data.toList.length := by rw [M.size_list, M.size_list, ByteArray.size_extract, M.R_size]; omega
    obtain ⟨e1, e2⟩ := List.append_inj e' hl
    refine ⟨M.ba_ext e1, ?_⟩
    rw [M.gQ, M.hnum, e2, M.bytes]
    show ((M.num (M.be q.toNat 6) : Nat) : Int) = q
    rw [M.num_be 6 _ (by omega)]
    omega
  · rintro ⟨e1, e2⟩
    rw [← hc, e1]
    congr 1
    rw [← e2]
    exact hb.symm

end Go.Proofs.YtmgchfjfkdkaoaaGreatDoor
namespace Go.Proofs.YtmgchfjfkdkaoaaGreatDoor
open Go.RowKit Go.Deep

theorem infoSec11 : (Tryz.prog.info? 111).map (fun i => (i.zero, i.size, i.bytes)) = some (some (.agg #[.int .i64 0, .string ⟨#[]⟩]), 2, 24) := by kernel_rfl
def M.made (n : Nat) : Array Value := madeCells #[Value.int .i64 0, .string ⟨#[]⟩] (n * 2)
theorem M.made_size (n : Nat) : (M.made n).size = n * 2 := size_madeCells _ _
theorem make_secs11 (n : Nat) (hn : n ≤ 16) (W : World) : (Instr.makeSlice 66 (.int .i64 (n : Int)) (.int .i64 (n : Int))).run Tryz.prog W = .ok (.slice (some ⟨W.heap.size, 0, none⟩) n n) (W.alloc (.cells (M.made n) 111)) := by
  obtain ⟨i, hi, hzz⟩ := Option.map_eq_some_iff.1 infoSec11
  simp only [Prod.mk.injEq] at hzz
  obtain ⟨hz, hs, hb⟩ := hzz
  have hr := run_make (P := Tryz.prog) W 66 111 i _ Tryz.underlying66 hi hz .i64 .i64 n n (by omega) (Int.le_refl _) (by rw [hb]; omega) (by omega)
  simp only [Int.toNat_natCast, hs] at hr
  exact hr

/-- A slice of sectors, nil or in a block of y. -/
def SecV (y : World) (v : Value) (n : Nat) (a : Nat → Int) (t : Nat → ByteArray) : Prop := ∃ (A : Option Addr) (c : Nat), v = .slice A n c ∧ n ≤ c ∧ c ≤ maxLen ∧ SecF y A n a t
theorem SecV.nil (y : World) (a : Nat → Int) (t : Nat → ByteArray) : SecV y (.slice none 0 0) 0 a t := ⟨none, 0, rfl, Nat.le_refl _, Nat.zero_le _, SecF.nil _ _ _ _⟩
theorem SecV.below {y z : World} {v : Value} {n : Nat} {a : Nat → Int} {t : Nat → ByteArray} (h : SecV y v n a t) (hb : Below y.heap.size y z) : SecV z v n a t := by
  obtain ⟨A, c, h1, h2, h3, h4⟩ := h
  exact ⟨A, c, h1, h2, h3, h4.below (Nat.le_refl _) hb⟩

/-- Block g has n sectors, of which the first k are these. -/
structure Row11 (y : World) (g n k : Nat) (a : Nat → Int) (t : Nat → ByteArray) (cs : Array Value) : Prop where
  box : Box y g 111 cs
  size : cs.size = n * 2
  at_ : ∀ i, i < k → cs[i * 2]? = some (.int .i64 (a i)) ∧ cs[i * 2 + 1]? = some (.string (t i))
section
variable {y z : World} {g n k : Nat} {a : Nat → Int} {t : Nat → ByteArray} {cs : Array Value}
theorem Row11.new (y : World) (n : Nat) (a : Nat → Int) (t : Nat → ByteArray) : Row11 (y.alloc (.cells (M.made n) 111)) y.heap.size n 0 a t (M.made n) :=
  ⟨Box.new _ _ _, M.made_size n, fun i hi => absurd hi (by omega)⟩
theorem Row11.kept {b : Nat} (h : Row11 y g n k a t cs) (hg : y.grownBy z (some b)) (hne : g ≠ b) : Row11 z g n k a t cs := ⟨Box.kept h.box hg hne, h.size, h.at_⟩
theorem Row11.below (h : Row11 y g n k a t cs) (hb : Below y.heap.size y z) : Row11 z g n k a t cs := ⟨Box.below h.box hb (Box.lt h.box), h.size, h.at_⟩
theorem Row11.cells (h : Row11 y g n k a t cs) (j : Nat) (hj : j < n * 2) : ∃ u, y.cell? ⟨g, j, none⟩ = some u ∧ y.frozen? ⟨g, j, none⟩ = false := by
  refine ⟨cs[j]'(by rw [h.size]; exact hj), ?_, Box.frozen h.box j⟩
  rw [Box.cell h.box, Array.getElem?_eq_getElem]
theorem Row11.set (h : Row11 y g n k a t cs) (hk : k < n) : Row11 ((y.setCell ⟨g, k * 2, none⟩ (.int .i64 (a k))).setCell ⟨g, k * 2 + 1, none⟩ (.string (t k))) g n (k + 1) a t ((cs.setIfInBounds (k * 2) (.int .i64 (a k))).setIfInBounds (k * 2 + 1) (.string (t k))) := by
  refine ⟨Box.set (Box.set h.box _ _) _ _, by simp [h.size], fun i hi => ?_⟩
  by_cases e : i = k
  · subst e
    have hz := h.size
    constructor
    · rw [Array.getElem?_setIfInBounds_ne (by omega), Array.getElem?_setIfInBounds_self_of_lt (by omega)]
    · rw [Array.getElem?_setIfInBounds_self_of_lt (by rw [Array.size_setIfInBounds]; omega)]
  · have := h.at_ i (by omega)
    rw [Array.getElem?_setIfInBounds_ne (by omega), Array.getElem?_setIfInBounds_ne (by omega), Array.getElem?_setIfInBounds_ne (by omega), Array.getElem?_setIfInBounds_ne (by omega)]
    exact this
theorem Row11.secs (h : Row11 y g n k a t cs) (hk : k = n) (ha : ∀ i, i < n → a i ≤ 9223372036854775807) : SecF y (some ⟨g, 0, none⟩) n a t := by
  intro i hi
  obtain ⟨h1, h2⟩ := h.at_ i (by omega)
  have hlt := Box.lt h.box
  refine ⟨_, rfl, hlt, ?_, ?_, ha i hi⟩
  · rw [blk_add, Box.cell h.box]; exact h1
  · rw [blk_add]
    show y.cell? ⟨g, i * 2 + 1, none⟩ = _
    rw [Box.cell h.box]; exact h2
end

/-- A slice that has a place has it behind all that is in w. -/
def NewV (w : World) (v : Value) : Prop := ∀ (ad : Addr) (n c : Nat), v = .slice (some ad) n c → w.heap.size ≤ ad.block
/-- What Get answers, and where its sectors lie. -/
def Got12 (s : ByteArray) (w : World) (e : Ending) (w' : World) : Prop := ∃ v, e = .returned (.tuple #[.int .i64 (M.getQ s), v, .int .i64 (M.getE s)]) ∧ SecV w' v (M.getN s) (M.gA s) (M.gT s) ∧ Below w.heap.size w w' ∧ NewV w v
theorem Got12.no {s : ByteArray} {w w' : World} {e : Ending} {E : Int} (hE : M.getE s = E) (h0 : E ≠ 0) (he : e = .returned (.tuple #[.int .i64 0, .slice none 0 0, .int .i64 E])) (hb : Below w.heap.size w w') : Got12 s w e w' := by
  have h0' : ¬ M.getE s = 0 := by rw [hE]; exact h0
  refine ⟨_, ?_, by rw [M.getN, if_neg h0']; exact SecV.nil _ _ _, hb, fun ad n c e => by cases e⟩
  rw [he, M.getQ, if_neg h0', hE]

theorem M.getE_size {s : ByteArray} (h : s.size = 0 ∨ s.size % 64 ≠ 0) : M.getE s = 12 := by unfold M.getE; rw [if_pos h]
theorem get11_nil (w : World) : Calls Tryz.prog 155 #[.string ⟨#[]⟩] w fun e w' => Got12 ⟨#[]⟩ w e w' := by
  have hE : M.getE ⟨#[]⟩ = 12 := M.getE_size (Or.inl rfl)
  have H := Lib.hid hE
  clear hE
  go_enter Tryz.func155, Tryz.ntmps155
  go_wp2_with fail
  go_returns
  exact Got12.no H.out (by decide) rfl (Below.refl _ _)
theorem get11_part (s : ByteArray) (w : World) (h0 : s.size ≠ 0) (h1 : s.size % 64 ≠ 0) : Calls Tryz.prog 155 #[.string s] w fun e w' => Got12 s w e w' := by
  have hE : M.getE s = 12 := M.getE_size (Or.inr h1)
  have H := Lib.hid hE
  have he : (s.toList == ([] : List UInt8)) = false := by
    rw [← (show (⟨#[]⟩ : ByteArray).toList = [] by rw [ByteArray.toList_eq])]
    exact ne_of_toList (fun e => h0 (by rw [e]; rfl))
  obtain ⟨r, hr⟩ : ∃ r : Int, r = (s.size : Int).tmod 64 := ⟨_, rfl⟩
  have hr0 : (r == 0) = false := by rw [beq_eq_false_iff_ne, hr, Int.tmod_eq_emod_of_nonneg (by omega)]; omega
  have hr' := hr.symm
  clear hE h0 h1 hr
  go_enter Tryz.func155, Tryz.ntmps155
  go_wp2_with fail
  go_returns
  exact Got12.no H.out (by decide) rfl (Below.refl _ _)
theorem M.whole_facts (s : ByteArray) (h0 : s.size ≠ 0) (h1 : s.size % 64 = 0) : ((s.toList == ([] : List UInt8)) = false) ∧ ((s.size : Int).tmod 64 = 0) ∧ 64 ≤ s.size ∧ s.size = 64 * (M.gN s + 1) := by
  refine ⟨?_, ?_, by omega, by unfold M.gN; omega⟩
  · rw [← (show (⟨#[]⟩ : ByteArray).toList = [] by rw [ByteArray.toList_eq])]
    exact ne_of_toList (fun e => h0 (by rw [e]; rfl))
  · rw [Int.tmod_eq_emod_of_nonneg (by omega)]; omega
theorem M.getE_form {s : ByteArray} (h0 : s.size ≠ 0) (h1 : s.size % 64 = 0) (h : s.extract 0 1 ≠ ⟨#[82]⟩ ∨ M.hnum s 7 8 ≠ (M.gN s : Int) ∨ M.gN s < 1 ∨ 16 < M.gN s) : M.getE s = 4 := by
  unfold M.getE; rw [if_neg (by omega), if_pos h]

set_option maxHeartbeats 1000000 in
theorem get11_mark (s : ByteArray) (w : World) (h0 : s.size ≠ 0) (h1 : s.size % 64 = 0) (h2 : s.extract 0 1 ≠ ⟨#[82]⟩) : Calls Tryz.prog 155 #[.string s] w fun e w' => Got12 s w e w' := by
  have H := Lib.hid (M.getE_form h0 h1 (Or.inl h2))
  obtain ⟨he, hr, h64, _⟩ := M.whole_facts s h0 h1
  have C := Lib.hid (newB s w w (Below.refl _ _))
  have C1 : Hid (∀ y b, RdB w y b s 0 → _) := fun y b h => begin_no s w y b h (by omega) h2
  clear h0 h1 h2 h64
  go_enter Tryz.func155, Tryz.ntmps155
  go_wp2_with fail
  refine C.out.mono ?_
  rintro e w1 ⟨b, rfl, h1⟩
  have H1 := Lib.hid h1
  clear h1
  go_wp2_with fail
  refine (C1.out _ _ H1.out).mono ?_
  rintro e w2 ⟨rfl, h2⟩
  have H2 := Lib.hid h2
  clear h2
  go_wp2_with fail
  go_returns
  exact Got12.no H.out (by decide) rfl H2.out
set_option maxHeartbeats 1000000 in
theorem get11_many (s : ByteArray) (w : World) (h0 : s.size ≠ 0) (h1 : s.size % 64 = 0) (h2 : s.extract 0 1 = ⟨#[82]⟩) (h3 : ¬ (1 ≤ M.hnum s 7 8 ∧ M.hnum s 7 8 ≤ 16)) : Calls Tryz.prog 155 #[.string s] w fun e w' => Got12 s w e w' := by
  have H := Lib.hid (M.getE_form h0 h1 (Or.inr (by omega)))
  obtain ⟨he, hr, h64, _⟩ := M.whole_facts s h0 h1
  have C := Lib.hid (newB s w w (Below.refl _ _))
  have C1 : Hid (∀ y b, RdB w y b s 0 → _) := fun y b h => begin_yes s w y b h (by omega) h2
  rw [decide_eq_false h3] at C1
  obtain ⟨m, hm⟩ : ∃ m, m = M.hnum s 7 8 := ⟨_, rfl⟩
  obtain ⟨Q, hQ⟩ : ∃ Q, Q = M.gQ s := ⟨_, rfl⟩
  rw [← hm, ← hQ] at C1
  clear h0 h1 h2 h3 h64 hm hQ
  go_enter Tryz.func155, Tryz.ntmps155
  go_wp2_with fail
  refine C.out.mono ?_
  rintro e w1 ⟨b, rfl, h1⟩
  have H1 := Lib.hid h1
  clear h1
  go_wp2_with fail
  refine (C1.out _ _ H1.out).mono ?_
  rintro e w2 ⟨rfl, h2⟩
  have H2 := Lib.hid h2.below
  clear h2
  go_wp2_with fail
  go_returns
  exact Got12.no H.out (by decide) rfl H2.out
set_option maxHeartbeats 1000000 in
theorem get11_less (s : ByteArray) (w : World) (h0 : s.size ≠ 0) (h1 : s.size % 64 = 0) (h2 : s.extract 0 1 = ⟨#[82]⟩) (h3 : 1 ≤ M.hnum s 7 8 ∧ M.hnum s 7 8 ≤ 16) (h4 : M.hnum s 7 8 ≠ M.gN s) : Calls Tryz.prog 155 #[.string s] w fun e w' => Got12 s w e w' := by
  have H := Lib.hid (M.getE_form h0 h1 (Or.inr (Or.inl h4)))
  obtain ⟨he, hr, h64, hz⟩ := M.whole_facts s h0 h1
  have C := Lib.hid (newB s w w (Below.refl _ _))
  have C1 : Hid (∀ y b, RdB w y b s 0 → _) := fun y b h => begin_yes s w y b h (by omega) h2
  rw [decide_eq_true h3] at C1
  obtain ⟨m, hm⟩ : ∃ m, m = M.hnum s 7 8 := ⟨_, rfl⟩
  obtain ⟨Q, hQ⟩ : ∃ Q, Q = M.gQ s := ⟨_, rfl⟩
  rw [← hm, ← hQ] at C1
  rw [← hm] at h3 h4
  have hne : ((1 + m) * 64 == (s.size : Int)) = false := by rw [beq_eq_false_iff_ne]; omega
  obtain ⟨m1, m2⟩ := h3
  clear h0 h1 h2 h64 hm hQ h4 hz
  go_enter Tryz.func155, Tryz.ntmps155
  go_wp2_with fail
  refine C.out.mono ?_
  rintro e w1 ⟨b, rfl, h1⟩
  have H1 := Lib.hid h1
  clear h1
  go_wp2_with fail
  refine (C1.out _ _ H1.out).mono ?_
  rintro e w2 ⟨rfl, h2⟩
  have H2 := Lib.hid h2.below
  clear h2
  go_wp2_with fail
  go_returns
  exact Got12.no H.out (by decide) rfl H2.out
end Go.Proofs.YtmgchfjfkdkaoaaGreatDoor
namespace Go.Proofs.YtmgchfjfkdkaoaaGreatDoor
open Go.RowKit Go.Deep

theorem M.getE_main {s : ByteArray} {n : Nat} (hn : 1 ≤ n ∧ n ≤ 16) (hs : s.size = 64 * (n + 1)) (h2 : s.extract 0 1 = ⟨#[82]⟩) (h3 : M.hnum s 7 8 = n) :
    M.gN s = n ∧ M.getE s = if s.extract (8 + 2 * n) (12 + 2 * n) ≠ M.tail (s.extract 0 (8 + 2 * n) ++ s.extract 64 s.size) then 5 else if M.rE (M.gA s) (M.gT s) (M.gQ s) n ≠ 0 ∨ M.rS (M.gA s) (M.gT s) (M.gQ s) n ≠ s then 4 else 0 := by
  have hN : M.gN s = n := by unfold M.gN; omega
  refine ⟨hN, ?_⟩
  unfold M.getE
  rw [if_neg (by omega), hN, if_neg (by rw [h2, h3]; simp; omega)]
theorem M.gA_small (s : ByteArray) (i : Nat) (h : 10 + 2 * i ≤ s.size) : 0 ≤ M.gA s i ∧ M.gA s i < 65536 := by
  have : 0 ≤ M.hnum s (8 + 2 * i) (8 + 2 * i + 2) ∧ M.hnum s (8 + 2 * i) (8 + 2 * i + 2) < (256 ^ 2 : Nat) := M.hnum_bound s _ 2 (by omega)
  have e : 8 + 2 * i + 2 = 10 + 2 * i := by omega
  rw [e] at this
  unfold M.gA
  omega

theorem RdB.set {w y : World} {b g k : Nat} {s : ByteArray} (h : RdB w y b s k) (hne : g ≠ b) (hg : w.heap.size ≤ g) (i : Nat) (u : Value) : RdB w (y.setCell ⟨g, i, none⟩ u) b s k :=
  ⟨Box.kept h.rd (grown_set y g i u) (Ne.symm hne), below_by h.below (grown_set y g i u) hg h.below.size, h.lt⟩

set_option maxRecDepth 100000 in
set_option maxHeartbeats 4000000 in
theorem get11_main (s : ByteArray) (w : World) (n : Nat) (hn : 1 ≤ n ∧ n ≤ 16) (hs : s.size = 64 * (n + 1)) (h2 : s.extract 0 1 = ⟨#[82]⟩) (h3 : M.hnum s 7 8 = n) :
    Calls Tryz.prog 155 #[.string s] w fun e w' => Got12 s w e w' := by
  obtain ⟨hN, hE⟩ := M.getE_main hn hs h2 h3
  have he := (M.whole_facts s (by omega) (by omega)).1
  have hr := (M.whole_facts s (by omega) (by omega)).2.1
  have C := Lib.hid (newB s w w (Below.refl _ _))
  have C1 : Hid (∀ y b, RdB w y b s 0 → _) := fun y b h => begin_yes s w y b h (by omega) h2
  rw [h3, decide_eq_true (by omega)] at C1
  have hmk := make_secs11 n hn.2
  have CN : Hid (∀ y b k, k < n → RdB w y b s (8 + 2 * k) → Calls Tryz.prog 145 #[.pointer (some ⟨b, 0, none⟩), .int .i64 2] y fun e y' => e = .returned (.int .i64 (M.gA s k)) ∧ RdB w y' b s (8 + 2 * (k + 1)) ∧ y.grownBy y' (some b)) := fun y b k hk h => by
    have := h.num 2 (by omega) (by omega) (by omega)
    have e : 8 + 2 * k + 2 = 10 + 2 * k := by omega
    have e' : 8 + 2 * (k + 1) = 10 + 2 * k := by omega
    rw [e] at this
    rw [e']
    exact this
  have CL : Hid (∀ y b, RdB w y b s (8 + 2 * n) → Calls Tryz.prog 161 #[.pointer (some ⟨b, 0, none⟩)] y fun e y' => e = .returned (.int .i64 ((s.size - (8 + 2 * n) : Nat) : Int)) ∧ y = y') := fun y b h => h.left (by omega)
  have CB : Hid (∀ y b, RdB w y b s (8 + 2 * n) → Calls Tryz.prog 144 #[.pointer (some ⟨b, 0, none⟩), .int .i64 4] y fun e y' => e = .returned (.string (s.extract (8 + 2 * n) (12 + 2 * n))) ∧ RdB w y' b s (12 + 2 * n) ∧ y.grownBy y' (some b)) := fun y b h => by
    have := h.bytes 4 (by omega)
    have e : 8 + 2 * n + 4 = 12 + 2 * n := by omega
    rw [e] at this
    exact this
  have CT := Lib.hid (fun x => tail2 (s.extract 0 (8 + 2 * n)) (s.extract 64 s.size) x (by rw [ByteArray.size_extract]; omega) (by rw [ByteArray.size_extract]; omega))
  have CP : Hid (∀ y g, SecF y (some ⟨g, 0, none⟩) n (M.gA s) (M.gT s) → _) := fun y g h => put11_any (some ⟨g, 0, none⟩) n n (M.gA s) (M.gT s) (M.gQ s) y h (Nat.le_refl _) (by unfold maxLen; omega)
  have HA : Hid (∀ i, i < n → M.gA s i ≤ 9223372036854775807) := fun i hi => by have := M.gA_small s i (by omega); omega
  have HTk : Hid (∀ k, s.extract (64 + 64 * k) (128 + 64 * k) = M.gT s k) := fun k => rfl
  have hmul : (1 + (n : Int)) * 64 = (s.size : Int) := by omega
  obtain ⟨told, htold⟩ : ∃ told, told = 8 + 2 * n := ⟨_, rfl⟩
  obtain ⟨tend, htend⟩ : ∃ tend, tend = 12 + 2 * n := ⟨_, rfl⟩
  obtain ⟨L, hL⟩ : ∃ L, L = s.size - (8 + 2 * n) := ⟨_, rfl⟩
  have hsub : (s.size : Int) - (L : Int) = (told : Int) := by omega
  have ht1 : (told : Int) ≤ (s.size : Int) := by omega
  have h64 : (64 : Int) ≤ (s.size : Int) := by omega
  have h9 : (s.size : Int) ≤ 1088 := by omega
  rw [← hL] at CL
  have HL : Hid (told = 8 + 2 * n) := htold
  rw [← htold] at CL CB CT hE
  rw [← htend] at CB hE
  obtain ⟨Q, hQ⟩ : ∃ Q, Q = M.gQ s := ⟨_, rfl⟩
  rw [← hQ] at C1 CP hE
  have HQ := Lib.hid hQ
  have hn1 : (1 : Int) ≤ (n : Int) := by omega
  have hn2 : (n : Int) ≤ 16 := by omega
  obtain ⟨X, hX⟩ : ∃ X, X = s.extract told tend := ⟨_, rfl⟩
  rw [← hX] at CB hE
  obtain ⟨T, hT⟩ : ∃ T, T = M.tail (s.extract 0 told ++ s.extract 64 s.size) := ⟨_, rfl⟩
  rw [← hT] at CT hE
  obtain ⟨R, hR⟩ : ∃ R, R = M.rS (M.gA s) (M.gT s) Q n := ⟨_, rfl⟩
  obtain ⟨E, hEE⟩ : ∃ E, E = M.rE (M.gA s) (M.gT s) Q n := ⟨_, rfl⟩
  rw [← hR, ← hEE] at CP hE
  have HE := Lib.hid hE
  have HN := Lib.hid hN
  have HS : Hid (s.size = 64 * (n + 1)) := hs
  clear hN hE hs h2 h3 hn htold htend hL hQ hX hT hR hEE
  go_enter Tryz.func155, Tryz.ntmps155
  go_wp2_with fail
  refine C.out.mono ?_
  rintro e w1 ⟨b, rfl, h1⟩
  have H1 := Lib.hid h1
  clear h1
  go_wp2_with fail
  refine (C1.out _ _ H1.out).mono ?_
  rintro e w2 ⟨rfl, h2⟩
  have H2 := Lib.hid h2
  clear h2 H1
  obtain ⟨W, hW⟩ : ∃ W, W = w2.alloc (.cells (M.made n) 111) := ⟨_, rfl⟩
  obtain ⟨g, hg⟩ : ∃ g, g = w2.heap.size := ⟨_, rfl⟩
  have HRow : Hid (∃ cs, Row11 W g n 0 (M.gA s) (M.gT s) cs) := ⟨_, by rw [hW, hg]; exact Row11.new _ _ _ _⟩
  have HRd : Hid (RdB w W b s (8 + 2 * 0)) := by rw [hW]; exact H2.out.keep ((Below.refl _ _).alloc (Nat.le_refl _) _)
  have HG : Hid (g ≠ b ∧ w.heap.size ≤ g) := ⟨by have := Box.lt H2.out.rd; omega, by rw [hg]; exact H2.out.below.size⟩
  have HW := Lib.hid hW
  have Hg := Lib.hid hg
  clear hW hg
  go_wp2_with fail
  rw [← HW.out, ← Hg.out]
  clear HW Hg H2 hmk
  go_wp2_with fail
  go_loopw [45] (fun j wr => ∃ k : Nat, k ≤ n ∧ j = .int .i64 k ∧ Hid (∃ cs, Row11 wr g n k (M.gA s) (M.gT s) cs) ∧ Hid (RdB w wr b s (8 + 2 * k))) (fun j _ => n - (intOf j).toNat)
  case atStart => exact ⟨0, Nat.zero_le _, rfl, HRow, HRd⟩
  case round =>
    clear HRow HRd
    obtain ⟨k, hk, rfl, HRow, HRd⟩ := hrel
    by_cases hlt : k < n
    · have hk0 : (0 : Int) ≤ (k : Int) := by omega
      have hlt' : (k : Int) < (n : Int) := by omega
      obtain ⟨st, hst⟩ : ∃ st, st = 64 + 64 * k := ⟨_, rfl⟩
      obtain ⟨en, hen⟩ : ∃ en, en = 128 + 64 * k := ⟨_, rfl⟩
      have e1 : (1 + (k : Int)) * 64 = (st : Int) := by omega
      have b1 : (0 : Int) ≤ (st : Int) := by omega
      have b2 : (st : Int) ≤ (en : Int) := by omega
      have b3 : (en : Int) ≤ (s.size : Int) := by have := HS.out; omega
      have b4 : (0 : Int) ≤ (en : Int) := by omega
      have e2 : IntKind.i64.wrap ((st : Int) + 64) = (en : Int) := by rw [IntKind.wrap_i64]; omega
      have HT1 : Hid (s.extract st en = M.gT s k) := by show _ = _; rw [hst, hen]; exact HTk.out k
      have C2 := Lib.hid (CN.out wr.drew b k hlt HRd.out.drew)
      obtain ⟨z, hz⟩ : ∃ z, z = M.gA s k := ⟨_, rfl⟩
      rw [← hz] at C2
      have HZ := Lib.hid hz
      clear hz hst hen
      have HK2 : Hid (k * 2 < n * 2 ∧ k * 2 + 1 < n * 2) := ⟨by omega, by omega⟩
      go_wp2_with fail
      go_region_held3 (fun _ => True) (first | trivial)
        (first
          | (go_at_call 145; refine C2.out.mono ?_; rintro e y1 ⟨rfl, h1, hg1⟩; have HR1 := Lib.hid h1; have HRow1 : Hid (∃ cs, Row11 y1 g n k (M.gA s) (M.gT s) cs) := HRow.out.imp (fun cs h => (h.below (Below.refl _ _).drew).kept hg1 HG.out.1); clear h1 hg1; obtain ⟨u0, x0, f0⟩ := (HRow1.out.choose_spec).cells (k * 2) HK2.out.1; obtain ⟨u1, x1, f1⟩ := (HRow1.out.choose_spec).cells (k * 2 + 1) HK2.out.2))
      all_goals
        have HRow2 : Hid (∃ cs, Row11 ((y1.setCell ⟨g, k * 2, none⟩ (.int .i64 z)).setCell ⟨g, k * 2 + 1, none⟩ (.string (s.extract st en))) g n (k + 1) (M.gA s) (M.gT s) cs) := HRow1.out.imp' _ (fun cs h => by have := h.set (by have := HK2.out; omega); rw [← HZ.out, ← HT1.out] at this; exact this)
        have HRd2 : Hid (RdB w ((y1.setCell ⟨g, k * 2, none⟩ (.int .i64 z)).setCell ⟨g, k * 2 + 1, none⟩ (.string (s.extract st en))) b s (8 + 2 * (k + 1))) := (HR1.out.set HG.out.1 HG.out.2 _ _).set HG.out.1 HG.out.2 _ _
        clear x0 f0 x1 f1 HRow1 HR1 e2
        go_wp2_with fail
        go_roundw
        case rel => exact ⟨k + 1, by omega, by go_num, HRow2, HRd2⟩
        case measure => simp [intOf]; omega
    · have e : k = n := by omega
      subst e
      clear hlt hk CN HTk
      have C3 := Lib.hid (CL.out wr b (by rw [HL.out]; exact HRd.out))
      have C4 := Lib.hid (CB.out wr.drew b (by rw [HL.out]; exact HRd.out.drew))
      go_wp2_with fail
      refine C3.out.mono ?_
      rintro e w3 ⟨rfl, rfl⟩
      go_wp2_with fail
      obtain ⟨f, hf⟩ : ∃ f, f = (X.toList == T.toList) := ⟨_, rfl⟩
      have HFq := Lib.hid hf
      have hf' := hf.symm
      clear hf
      go_region_held3 (fun _ => True) (first | trivial)
        (first
          | (go_at_call 144; refine C4.out.mono ?_; rintro e y1 ⟨rfl, h1, hg1⟩; have HB1 := Lib.hid h1.below; have HRow1 : Hid (∃ cs, Row11 y1 g k k (M.gA s) (M.gT s) cs) := HRow.out.imp (fun cs h => (h.below (Below.refl _ _).drew).kept hg1 HG.out.1); clear h1 hg1)
          | (go_at_call 130; refine (CT.out _).mono ?_; rintro e y2 ⟨rfl, hb2⟩; have HB2 : Hid (Below w.heap.size w y2) := (by first | exact HB1.out.trans (hb2.mono HB1.out.size) | exact HB1.out.drew.trans (hb2.mono HB1.out.size)); have HRow2 : Hid (∃ cs, Row11 y2 g k k (M.gA s) (M.gT s) cs) := HRow1.out.imp (fun cs h => by first | exact h.below hb2 | exact (h.below (Below.refl _ _).drew).below hb2); clear hb2))
      cases f
      · have HE5 : Hid (M.getE s = 5) := by
          show _ = _
          rw [HE.out, if_pos]
          intro e
          rw [e] at HFq
          have := HFq.out
          simp at this
        go_wp2_with fail
        go_returns
        exact Got12.no HE5.out (by decide) rfl HB2.out
      · have HXT : Hid (M.getE s = if E ≠ 0 ∨ R ≠ s then 4 else 0) := by
          show _ = _
          rw [HE.out, if_neg]
          intro h
          have := HFq.out
          rw [ne_of_toList h] at this
          cases this
        have C5 := Lib.hid (CP.out y2 g (HRow2.out.choose_spec.secs rfl HA.out))
        clear CP C4 C3 CT CB CL HE HFq
        go_wp2_with fail
        refine C5.out.mono ?_
        rintro e y3 ⟨rfl, hb3⟩
        have HB3 : Hid (Below w.heap.size w y3) := HB2.out.trans (hb3.mono HB2.out.size)
        have HSF : Hid (SecF y3 (some ⟨g, 0, none⟩) k (M.gA s) (M.gT s)) := (HRow2.out.choose_spec.secs rfl HA.out).below (Nat.le_refl _) hb3
        clear hb3
        by_cases hE0 : E = 0
        · have hE0' : (E == 0) = true := by simp [hE0]
          by_cases hRs : R = s
          · have hRs' : (R.toList == s.toList) = true := by simp [hRs]
            have HE0 : Hid (M.getE s = 0) := by show _ = _; rw [HXT.out, if_neg (by simp [hE0, hRs])]
            have HE1 := Lib.hid hE0
            go_wp2_with fail
            go_returns
            have e1 : M.getQ s = Q := by rw [M.getQ, if_pos HE0.out, HQ.out]
            have e2 : M.getN s = k := by rw [M.getN, if_pos HE0.out, HN.out]
            refine ⟨.slice (some ⟨g, 0, none⟩) k k, ?_, ⟨some ⟨g, 0, none⟩, k, by rw [e2], by rw [e2]; exact Nat.le_refl _, by unfold maxLen; omega, by rw [e2]; exact HSF.out⟩, HB3.out, fun ad n c e => by injection e with e; injection e with e; subst e; exact HG.out.2⟩
            rw [HE0.out, e1]
            rfl
          · have hRs' := ne_of_toList hRs
            have HE4 : Hid (M.getE s = 4) := by show _ = _; rw [HXT.out, if_pos (Or.inr hRs)]
            go_wp2_with fail
            all_goals go_returns
            all_goals exact Got12.no HE4.out (by decide) rfl HB3.out
        · have hE0' : (E == 0) = false := by simp [hE0]
          have HE4 : Hid (M.getE s = 4) := by show _ = _; rw [HXT.out, if_pos (Or.inl hE0)]
          go_wp2_with fail
          all_goals go_returns
          all_goals exact Got12.no HE4.out (by decide) rfl HB3.out
end Go.Proofs.YtmgchfjfkdkaoaaGreatDoor
namespace Go.Proofs.YtmgchfjfkdkaoaaGreatDoor
open Go.RowKit Go.Deep

theorem owns_shape11 {y : World} {B : Nat} {e : TypeId} {size : Nat} {v : Value} {n : Nat} {xs : List Value} (h : y.ownsRow B e size v n xs) : ∃ A c, v = .slice A n c ∧ (0 < n → ∃ g, A = some ⟨g, 0, none⟩) ∧ n ≤ c ∧ c ≤ maxLen := by
  rcases h.2 with ⟨e, h0⟩ | ⟨g, cap, cur, e, _, _, h3, h4, _⟩
  · exact ⟨none, 0, by rw [e, h0], fun h => by omega, by omega, Nat.zero_le _⟩
  · exact ⟨_, cap, e, fun _ => ⟨g, rfl⟩, h3, h4⟩
/-- The cells of so many sectors. -/
def M.rowL (a : Nat → Int) (t : Nat → ByteArray) : Nat → List Value
  | 0 => []
  | k + 1 => M.rowL a t k ++ [.int .i64 (a k), .string (t k)]
theorem M.rowL_len (a : Nat → Int) (t : Nat → ByteArray) (n : Nat) : (M.rowL a t n).length = n * 2 := by
  induction n with
  | zero => rfl
  | succ n ih => rw [M.rowL, List.length_append, ih]; simp; omega
theorem M.rowL_at (a : Nat → Int) (t : Nat → ByteArray) {n i : Nat} (h : i < n) : (M.rowL a t n)[i * 2]? = some (.int .i64 (a i)) ∧ (M.rowL a t n)[i * 2 + 1]? = some (.string (t i)) := by
  induction n with
  | zero => omega
  | succ n ih =>
    have hl := M.rowL_len a t n
    by_cases e : i = n
    · subst e
      rw [M.rowL, List.getElem?_append_right (by omega), List.getElem?_append_right (by omega), hl, Nat.sub_self, Nat.add_sub_cancel_left]
      exact ⟨rfl, rfl⟩
    · rw [M.rowL, List.getElem?_append_left (by omega), List.getElem?_append_left (by omega)]
      exact ih (by omega)
theorem SecF.owned {y : World} {B g n c : Nat} {a : Nat → Int} {t : Nat → ByteArray} (h : y.ownsRow B 111 2 (.slice (some ⟨g, 0, none⟩) n c) n (M.rowL a t n)) (ha : ∀ i, i < n → a i ≤ 9223372036854775807) : SecF y (some ⟨g, 0, none⟩) n a t := by
  intro i hi
  have h1 := h.cells (g := g) rfl _ _ (M.rowL_at a t hi).1
  have h2 := h.cells (g := g) rfl _ _ (M.rowL_at a t hi).2
  have hlt := (h.lt g rfl).2
  refine ⟨_, rfl, hlt, h1, ?_, ha i hi⟩
  rw [blk_add] at h2 ⊢
  exact h2
theorem cell2_new11 (w : World) (x y : Value) (t : TypeId) : ∀ j u, [x, y][j]? = some u → (w.alloc (.cells #[x, y] t)).cell? ((⟨w.heap.size, 0, none⟩ : Addr).add j) = some u := by
  intro j u hj
  rw [blk_add, (Box.new w t #[x, y]).cell]
  simpa using hj
theorem row_more {w wr y3 : World} {B k g c lc : Nat} {LA : Option Addr} {a : Nat → Int} {t : Nat → ByteArray} (hB : B = w.heap.size) (hb : Below B w wr) (hrow : wr.ownsRow B 111 2 (.slice LA k lc) k (M.rowL a t k))
    (ho : y3.ownsRow B 111 2 (.slice (some ⟨g, 0, none⟩) (k + 1) c) (k + 1) (M.rowL a t k ++ [.int .i64 (a k), .string (t k)]))
    (hg : (wr.alloc (.cells #[.int .i64 (a k), .string (t k)] 111)).drew.grownBy y3 (Value.slice LA k lc).ownBlock) :
    y3.ownsRow B 111 2 (.slice (some ⟨g, 0, none⟩) (k + 1) c) (k + 1) (M.rowL a t (k + 1)) ∧ Below B w y3 := by
  have hz : B ≤ wr.heap.size := by rw [hB]; exact hb.size
  refine ⟨ho, ?_⟩
  have hg' : (wr.alloc (.cells #[.int .i64 (a k), .string (t k)] 111)).grownBy y3 (Value.slice LA k lc).ownBlock := ⟨hg.os, hg.tape, hg.output, hg.size, hg.block⟩
  exact (hb.alloc hz _).grown hg' (by rw [World.size_alloc]; omega) (fun k e => (hrow.lt k e).1)
theorem add_is (x y : ByteArray) (h : x.size + y.size ≤ 9223372036854775807) : Op.stringOp .add x y = pure (.string (x ++ y)) := by
  have : ¬ ((x.size + y.size : Nat) : Int) > IntKind.i64.max := by show ¬ _ > (9223372036854775807 : Int); omega
  simp only [Op.stringOp, if_neg this]

end Go.Proofs.YtmgchfjfkdkaoaaGreatDoor
namespace Go.Proofs.YtmgchfjfkdkaoaaGreatDoor
open Go.RowKit Go.Deep

theorem get12_any (s : ByteArray) (w : World) : Calls Tryz.prog 155 #[.string s] w fun e w' => Got12 s w e w' := by
  by_cases h0 : s.size = 0
  · rw [M.of_size0 h0]
    exact get11_nil w
  by_cases h1 : s.size % 64 = 0
  · by_cases h2 : s.extract 0 1 = ⟨#[82]⟩
    · by_cases h3 : 1 ≤ M.hnum s 7 8 ∧ M.hnum s 7 8 ≤ 16
      · by_cases h4 : M.hnum s 7 8 = M.gN s
        · have hz := (M.whole_facts s h0 h1).2.2.2
          exact get11_main s w (M.gN s) (by omega) hz h2 h4
        · exact get11_less s w h0 h1 h2 h3 h4
      · exact get11_many s w h0 h1 h2 h3
    · exact get11_mark s w h0 h1 h2
  · exact get11_part s w h0 h1
/-- The same, without where the sectors lie. -/
def Got11 (s : ByteArray) (w : World) (e : Ending) (w' : World) : Prop := ∃ v, e = .returned (.tuple #[.int .i64 (M.getQ s), v, .int .i64 (M.getE s)]) ∧ SecV w' v (M.getN s) (M.gA s) (M.gT s) ∧ Below w.heap.size w w'
theorem get11_any (s : ByteArray) (w : World) : Calls Tryz.prog 155 #[.string s] w fun e w' => Got11 s w e w' := (get12_any s w).mono fun _ _ ⟨v, h1, h2, h3, _⟩ => ⟨v, h1, h2, h3⟩
theorem SecF.congr {y : World} {A : Option Addr} {n : Nat} {a b : Nat → Int} {t u : Nat → ByteArray} (h : SecF y A n a t) (h1 : ∀ i, i < n → a i = b i) (h2 : ∀ i, i < n → t i = u i) : SecF y A n b u := fun i hi => by
  have := h i hi
  rw [h1 i hi, h2 i hi] at this
  exact this

end Go.Proofs.YtmgchfjfkdkaoaaGreatDoor
