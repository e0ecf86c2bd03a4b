/-
  Walk over solderlaw08.DiskSure.
-/
import Derived.Test.YtjmkpjapagfdlaaDSure
import Derived.Test.YtjmkpjapagfdlaaDLawNone
namespace Go.Proofs.Ytjmkpjapagfdlaa
open Go.RowKit Go.Maps Go.ChangeShapes Go.WideShapes Go.ChangeAt Go.Deep

theorem add_next (a : Addr) (m : Nat) : a.add (m + 1) = ⟨(a.add m).block, (a.add m).off + 1, none⟩ := by
  unfold Addr.add
  by_cases h : m = 0
  · subst h; simp
  · simp [h]; omega

/-- v is a slice of sectors: at each index a number and a text stand, in a block of w. -/
def SecsAt (w : World) (v : Value) : Prop := ∃ (A : Option Addr) (len cap : Nat), v = .slice A len cap ∧
  ∀ i, i < len → ∃ (ad : Addr) (n : Int) (s : ByteArray), A = some ad ∧ ad.block < w.heap.size ∧ w.cell? (ad.add (i * 2)) = some (.int .i64 n) ∧ w.cell? (ad.add (i * 2 + 1)) = some (.string s)

theorem secs_open {H : Type} {enc : TypeId × Value → H} {W : World} {r : Reach} {b0 : Nat} {v : Value} {d : DataW H} {p : List MemPlace} (hval : Value.okWide Try.prog W r b0 35 v)
    (h : DataW.Trod enc Try.prog W 0 (fun _ => true) true 35 v d p) : SecsAt W v := by
  obtain ⟨A, len, cap, rfl⟩ := okWide_slice Try.underlying35 hval
  obtain ⟨fuel, hf⟩ := h
  rcases open_slice_pairs Try.underlying35 Try.underlying45 (by kernel_rfl) rfl rfl (by kernel_rfl) (by kernel_rfl) hf with ⟨hc, _⟩ | ⟨a, l, c, m, k, V0, V1, D0, D1, P0, P1, hc, _, hl, _, hmm, _, hall⟩
  · simp [Value.cells] at hc
    obtain ⟨rfl, rfl, rfl⟩ := hc
    exact ⟨none, 0, 0, rfl, fun i hi => absurd hi (by omega)⟩
  · simp [Value.cells] at hc
    obtain ⟨rfl, rfl, rfl⟩ := hc
    simp only [if_true] at hmm
    subst hmm
    refine ⟨some a, len, m, rfl, fun i hi => ?_⟩
    obtain ⟨c0, c1, t0, t1⟩ := hall i (by omega)
    obtain ⟨n, h1, _, _⟩ := DataW.trod_int Try.underlying3 t0
    obtain ⟨s, h2, _⟩ := DataW.trod_string Try.underlying9 t1
    simp only [List.cons.injEq, and_true] at h1 h2
    rw [h1] at c0
    rw [h2] at c1
    have hlt := World.block_lt_of_cell? W _ c0
    rw [add_block] at hlt
    exact ⟨a, n, s, rfl, hlt, c0, c1⟩
theorem diskSure_open0 {H : Type} {enc : TypeId × Value → H} {W : World} {r : Reach} {b0 : Nat} {v : Value} {d : DataW H} {p : List MemPlace} (hval : Value.okWide Try.prog W r b0 35 v)
    (h : DataW.Trod enc Try.prog W 0 (fun _ => true) true 35 v d p) : SecsAt W v := secs_open hval h
theorem diskSure_open1 {H : Type} {enc : TypeId × Value → H} {W : World} {r : Reach} {b0 : Nat} {v : Value} {d : DataW H} {p : List MemPlace} (hval : Value.okWide Try.prog W r b0 35 v)
    (h : DataW.Trod enc Try.prog W 0 (fun _ => true) true 35 v d p) : SecsAt W v := secs_open hval h
theorem diskSure_open2 {H : Type} {enc : TypeId × Value → H} {W : World} {r : Reach} {b0 : Nat} {v : Value} {d : DataW H} {p : List MemPlace} (hval : Value.okWide Try.prog W r b0 30 v)
    (h : DataW.Trod enc Try.prog W 0 (fun _ => true) true 30 v d p) : IntsAt W v := ints_open hval h

/-- The same with functions that tell what stands there. -/
def SecF (w : World) (A : Option Addr) (len : Nat) (a : Nat → Int) (t : Nat → ByteArray) : Prop :=
  ∀ i, i < len → ∃ ad : Addr, A = some ad ∧ ad.block < w.heap.size ∧ w.cell? (ad.add (i * 2)) = some (.int .i64 (a i)) ∧ w.cell? ⟨(ad.add (i * 2)).block, (ad.add (i * 2)).off + 1, none⟩ = some (.string (t i))
theorem SecF.of {w : World} {A : Option Addr} {len : Nat} (h : ∀ i, i < len → ∃ (ad : Addr) (n : Int) (s : ByteArray), A = some ad ∧ ad.block < w.heap.size ∧ w.cell? (ad.add (i * 2)) = some (.int .i64 n) ∧ w.cell? (ad.add (i * 2 + 1)) = some (.string s)) :
    ∃ a t, SecF w A len a t := by
  classical
  refine ⟨fun i => if hi : i < len then Classical.choose (Classical.choose_spec (h i hi)) else 0, fun i => if hi : i < len then Classical.choose (Classical.choose_spec (Classical.choose_spec (h i hi))) else ⟨#[]⟩, fun i hi => ?_⟩
  have := Classical.choose_spec (Classical.choose_spec (Classical.choose_spec (h i hi)))
  simp only [dif_pos hi]
  refine ⟨Classical.choose (h i hi), this.1, this.2.1, this.2.2.1, ?_⟩
  rw [← add_next]
  exact this.2.2.2
theorem SecF.at_ {w y : World} {N : Nat} {A : Option Addr} {len : Nat} {a : Nat → Int} {t : Nat → ByteArray} (h : SecF w A len a t) (hN : N = w.heap.size) (hb : Below N w y) {i : Nat} (hi : i < len) :
    ∃ ad : Addr, A = some ad ∧ y.cell? (ad.add (i * 2)) = some (.int .i64 (a i)) ∧ y.cell? ⟨(ad.add (i * 2)).block, (ad.add (i * 2)).off + 1, none⟩ = some (.string (t i)) := by
  obtain ⟨ad, h1, h2, h3, h4⟩ := h i hi
  subst hN
  exact ⟨ad, h1, (hb.cell (by rw [add_block]; exact h2)).trans h3, (hb.cell (by show (ad.add (i * 2)).block < _; rw [add_block]; exact h2)).trans h4⟩
theorem ChoAt.of {w : World} {A : Option Addr} {len : Nat} (h : ∀ i, i < len → ∃ (ad : Addr) (x : Int), A = some ad ∧ ad.block < w.heap.size ∧ w.cell? (ad.add i) = some (.int .i64 x)) : ∃ z, ChoAt w A len z := by
  classical
  refine ⟨fun i => if hi : i < len then Classical.choose (Classical.choose_spec (h i hi)) else 0, fun i hi => ?_⟩
  have := Classical.choose_spec (Classical.choose_spec (h i hi))
  simp only [dif_pos hi]
  exact ⟨Classical.choose (h i hi), this⟩
theorem ChoAt.below {w y : World} {A : Option Addr} {len : Nat} {z : Nat → Int} (h : ChoAt w A len z) (hb : Below w.heap.size w y) : ChoAt y A len z := fun i hi => by
  obtain ⟨ad, h1, h2, h3⟩ := h i hi
  exact ⟨ad, h1, Nat.lt_of_lt_of_le h2 hb.size, (hb.cell (by rw [add_block]; exact h2)).trans h3⟩

/-- So many of the texts are 0, the others empty. -/
def M.fill (k : Nat) : List ByteArray := List.replicate k M.zero ++ List.replicate (8 - k) ⟨#[]⟩
theorem M.fill_len (k : Nat) (h : k ≤ 8) : (M.fill k).length = 8 := by simp [M.fill]; omega
theorem M.fill_at (k : Nat) (h : k < 8) : (M.fill k)[k]? = some ⟨#[]⟩ := by
  rw [M.fill, List.getElem?_append_right (by simp), List.length_replicate, Nat.sub_self, List.getElem?_replicate, if_pos (by omega)]
theorem M.fill_set (k : Nat) (h : k < 8) : (M.fill k).set k M.zero = M.fill (k + 1) := by
  unfold M.fill
  rw [List.set_append_right _ _ (by simp), List.length_replicate, Nat.sub_self, show 8 - k = (8 - (k + 1)) + 1 by omega, List.replicate_succ, List.set_cons_zero, List.replicate_succ', List.append_assoc]
  rfl
theorem M.fill_all : M.fill 8 = List.replicate 8 M.zero := rfl
theorem M.new_seen (j : Nat) (hj : j < 8) : (List.replicate 8 M.zero)[j]? = some (M.seen (M.new 8).S (M.new 8).L j) := by
  simp [M.new, M.seen, M.seen0, hj]
/-- The disk behind so many reads. -/
def M.reads (d : M.D) (k : Nat) : M.D := { d with ops := d.ops + k }
theorem M.reads_succ (d : M.D) (k : Nat) : M.readC (M.reads d k) = M.reads d (k + 1) := rfl
theorem M.Calm.reads {d : M.D} (h : M.Calm d) (k : Nat) : M.Calm (M.reads d k) := ⟨h.dn, h.fails, h.da⟩
/-- Is s the text x, or one of the first k texts that are written to j? -/
def M.isB (a : Nat → Int) (t : Nat → ByteArray) (s x : ByteArray) (j : Nat) : Nat → Bool
  | 0 => s.toList == x.toList
  | k + 1 => M.isB a t s x j k || (a k == (j : Int) && (t k).toList == s.toList)
theorem M.isB_first {a : Nat → Int} {t : Nat → ByteArray} {s : ByteArray} {j : Nat} (k : Nat) : M.isB a t s s j k = true := by
  induction k with
  | zero => simp [M.isB]
  | succ k ih => simp [M.isB, ih]
theorem M.isB_later {a : Nat → Int} {t : Nat → ByteArray} {s x : ByteArray} {j i : Nat} (h1 : a i = (j : Int)) (h2 : t i = s) (k : Nat) (hk : i < k) : M.isB a t s x j k = true := by
  induction k with
  | zero => omega
  | succ k ih =>
    by_cases e : i = k
    · subst e
      simp [M.isB, h1, h2]
    · simp [M.isB, ih (by omega)]
theorem M.sure_end (d1 : M.D) (a1 : Nat → Int) (t1 : Nat → ByteArray) (n1 : Nat) (f : Nat → Bool) (T : List ByteArray) (hS : d1.S = T) (hL : d1.L = []) (hT : T.length = 8) (h64 : ∀ s ∈ T, s.size = 64) (j : Nat) (hj : j < 8) :
    ∃ s x, s.size = 64 ∧ M.seen (M.restartD (M.fold d1 a1 t1 n1) f).S (M.restartD (M.fold d1 a1 t1 n1) f).L j = s ∧ T[j]? = some x ∧ M.isB a1 t1 s x j n1 = true := by
  obtain ⟨s, h1, h2⟩ := M.rounds_one f (M.fold d1 a1 t1 n1).S (M.fold d1 a1 t1 n1).L (M.fold d1 a1 t1 n1).L.length j (by rw [M.fold_S, hS, hT]; exact hj)
  have hx : T[j]? = some (T[j]'(by omega)) := List.getElem?_eq_getElem _
  have hseen : M.seen (M.restartD (M.fold d1 a1 t1 n1) f).S (M.restartD (M.fold d1 a1 t1 n1) f).L j = s := by
    show (M.seen0 [] j).getD ((M.rounds f _ _ _).getD j ByteArray.empty) = s
    rw [M.seen0_nil, Option.getD_none, List.getD_eq_getElem?_getD, h1]
    rfl
  rcases h2 with h2 | ⟨p, hp, h3, h4⟩
  · rw [M.fold_S, hS] at h2
    refine ⟨s, s, h64 s (List.mem_of_getElem? h2), hseen, h2, M.isB_first _⟩
  · rcases M.fold_mem d1 a1 t1 n1 p hp with h5 | ⟨i, h5, h6, h7⟩
    · rw [hL] at h5
      cases h5
    · obtain ⟨q, h8, _, h9⟩ := M.wrong_ok h6
      rw [h7] at h3 h4
      simp only at h3 h4
      refine ⟨s, _, by rw [← h4]; exact h9, hseen, hx, M.isB_later (i := i) (by omega) h4 n1 h5⟩

set_option maxRecDepth 100000 in
set_option maxHeartbeats 4000000 in
theorem diskSure_few (A0 A1 A2 : Option Addr) (n0 c0 n1 c1 n2 c2 : Nat) (a0 a1 : Nat → Int) (t0 t1 : Nat → ByteArray) (z : Nat → Int) (w : World) (h0 : n0 ≤ 60) (h1 : n1 ≤ 60) (h2 : n2 ≤ 300) (hA0 : SecF w A0 n0 a0 t0) (hA1 : SecF w A1 n1 a1 t1) (hA2 : ChoAt w A2 n2 z) :
    Calls Try.prog 4 #[.slice A0 n0 c0, .slice A1 n1 c1, .slice A2 n2 c2] w fun e w' => e = .returned (.bool true) ∧ Below w.heap.size w w' := by
  have hd0 : decide ((60 : Int) < (n0 : Int)) = false := by simp; omega
  have hd1 : decide ((60 : Int) < (n1 : Int)) = false := by simp; omega
  have hd2 : decide ((300 : Int) < (n2 : Int)) = false := by simp; omega
  have HA0 := Lib.hid hA0
  have HA1 := Lib.hid hA1
  have HA2 := Lib.hid hA2
  have HN := Lib.hid (knew 8 w)
  obtain ⟨R, hR⟩ : ∃ R, R = M.nils 64 := ⟨_, rfl⟩
  obtain ⟨zz, hzz⟩ : ∃ zz, zz = M.zero := ⟨_, rfl⟩
  have hmk : ∀ W : World, (Instr.makeSlice 41 (.int .i64 64) (.int .i64 64)).run Try.prog W = .ok (.slice (some ⟨W.heap.size, 0, none⟩) 64 64) (W.alloc (.cells R 5)) := fun W => by rw [hR]; exact make_nils 64 (by omega) W
  have hcv : ∀ W : World, Sem.run Try.prog (convert 41 9 (.slice (some ⟨W.heap.size, 0, none⟩) 64 64)) (W.alloc (.cells R 5)) = .ok (.string zz) (W.alloc (.cells R 5)) := fun W => by rw [hR, hzz]; exact conv_nils 64 _ _ (Box.new _ _ _)
  have HZZ := Lib.hid hzz
  obtain ⟨N, hN⟩ : ∃ N, N = w.heap.size := ⟨_, rfl⟩
  have HNN := Lib.hid hN
  obtain ⟨dn, hdn⟩ : ∃ d, d = M.new (M.held 8) := ⟨_, rfl⟩
  rw [← hN, ← hdn] at HN
  have HDN := Lib.hid hdn
  clear hA0 hA1 hA2 hR hzz hN hdn
  go_enter Try.func4, Try.ntmps4
  go_wp2_with fail
  refine (works_any _).mono ?_
  rintro e w1 ⟨rfl, hb1⟩
  rw [← HNN.out] at hb1
  have HN1 := Lib.hid (HN.out w1 hb1)
  clear hb1 HN
  go_wp2_with fail
  refine HN1.out.mono ?_
  rintro e w2 ⟨b, rfl, hD2⟩
  have HS2 : Hid (Sur w (w2.alloc (.cells #[.string ⟨#[]⟩, .string ⟨#[]⟩, .string ⟨#[]⟩, .string ⟨#[]⟩, .string ⟨#[]⟩, .string ⟨#[]⟩, .string ⟨#[]⟩, .string ⟨#[]⟩] 40)) N b w2.heap.size dn (M.fill 0)) := Sur.start hD2 (Box.new _ _ _)
  clear hD2 HN1
  go_wp2_with fail
  obtain ⟨y0, hy0⟩ : ∃ y, y = w2.alloc (.cells #[.string ⟨#[]⟩, .string ⟨#[]⟩, .string ⟨#[]⟩, .string ⟨#[]⟩, .string ⟨#[]⟩, .string ⟨#[]⟩, .string ⟨#[]⟩, .string ⟨#[]⟩] 40) := ⟨_, rfl⟩
  obtain ⟨g, hg⟩ : ∃ g, g = w2.heap.size := ⟨_, rfl⟩
  rw [← hy0, ← hg] at HS2
  rw [← hy0, ← hg]
  clear hy0 hg
  go_loopw [9] (fun i wr => ∃ k : Nat, k ≤ 8 ∧ i = .int .i64 k ∧ Sur w wr N b g dn (M.fill k)) (fun i _ => 8 - (intOf i).toNat)
  case atStart => exact ⟨0, by omega, rfl, HS2.out⟩
  case round =>
    obtain ⟨k, hk, rfl, hS⟩ := hrel
    by_cases hlt : k < 8
    · have hlt' : (k : Int) < 8 := by omega
      have hk0 : (0 : Int) ≤ (k : Int) := by omega
      have hS1 := hS.alloc (.cells R 5)
      have q1 := hS1.cell (M.fill_at k hlt)
      have q2 := hS1.box.frozen k
      have HS1 := Lib.hid (hS1.set k zz)
      rw [HZZ.out, M.fill_set k hlt, ← HZZ.out] at HS1
      clear hS hS1 HS2
      go_wp2_with fail
      go_roundw
      case rel => exact ⟨k + 1, by omega, by go_num, HS1.out⟩
      case measure => simp [intOf]; omega
    · have e : k = 8 := by omega
      subst e
      have e8 : ((8 : Nat) : Int) = 8 := rfl
      rw [e8]
      clear e8
      have HS := Lib.hid hS
      clear hS hlt HS2
      have HC : Hid (M.Calm dn) := by rw [HDN.out]; exact M.calm_new _
      have HL : Hid (dn.S.length = 8 ∧ dn.ops = 0) := by rw [HDN.out]; exact ⟨rfl, rfl⟩
      clear hmk hcv HZZ hd0 hd1 hd2
      go_wp2_with fail
      go_loopw [10] (fun i wr => ∃ k : Nat, k ≤ n0 ∧ i = .int .i64 k ∧ Sur w wr N b g (M.fold dn a0 t0 k) (M.sure a0 t0 (M.fill 8) k)) (fun i _ => n0 - (intOf i).toNat)
      case atStart => exact ⟨0, by omega, rfl, HS.out⟩
      case round =>
        clear HS
        obtain ⟨k, hk, rfl, hS⟩ := hrel
        by_cases hlt : k < n0
        · have hlt' : (k : Int) < (n0 : Int) := by omega
          have hk0 : (0 : Int) ≤ (k : Int) := by omega
          obtain ⟨ad, rfl, x0, x1⟩ := HA0.out.at_ HNN.out hS.dk.below hlt
          have hW := swrite hS.drew (M.fold_calm dn a0 t0 HC.out k) (by rw [M.fold_ops, HL.out.2]; omega) (a0 k) (t0 k)
          rw [M.fold_S, HL.out.1] at hW
          have HW := Lib.hid hW
          have HT : Hid (M.fold dn a0 t0 (k + 1) = M.writeC (M.fold dn a0 t0 k) (a0 k) (t0 k)) := rfl
          have HU : Hid (M.sure a0 t0 (M.fill 8) (k + 1) = if M.wrong 8 (a0 k) (t0 k) = 0 then (M.sure a0 t0 (M.fill 8) k).set (a0 k).toNat (t0 k) else M.sure a0 t0 (M.fill 8) k) := rfl
          have HL8 : Hid ((M.sure a0 t0 (M.fill 8) k).length = 8) := by show _ = _; rw [M.sure_len]; rfl
          have HX : Hid (∀ y, Below N w y → y.cell? (ad.add (k * 2)) = some (.int .i64 (a0 k)) ∧ y.cell? ⟨(ad.add (k * 2)).block, (ad.add (k * 2)).off + 1, none⟩ = some (.string (t0 k))) := fun y hy => by
            obtain ⟨ad', e, x0, x1⟩ := HA0.out.at_ HNN.out hy hlt
            injection e with e
            subst e
            exact ⟨x0, x1⟩
          obtain ⟨dk, hdk⟩ : ∃ x, x = M.writeC (M.fold dn a0 t0 k) (a0 k) (t0 k) := ⟨_, rfl⟩
          obtain ⟨Tk, hTk⟩ : ∃ x, x = M.sure a0 t0 (M.fill 8) k := ⟨_, rfl⟩
          rw [← hdk] at HT HW
          rw [← hTk] at HU HL8 HW
          by_cases hF : M.wrong 8 (a0 k) (t0 k) = 0
          · obtain ⟨p, hp, hp8, _⟩ := M.wrong_ok hF
            rw [hF] at HW
            rw [if_pos hF, hp, Int.toNat_natCast] at HU
            obtain ⟨tk, htk⟩ : ∃ x, x = t0 k := ⟨_, rfl⟩
            rw [← htk] at x1 HW HU HX
            rw [hp] at x0 HW HX
            have hp0 : (0 : Int) ≤ (p : Int) := by omega
            have hp8' : (p : Int) < 8 := by omega
            clear hF htk hp hdk hTk hW hS
            go_wp2_with fail
            go_still_tail 11, (by kernel_rfl)
            change wpList _ _ _ _ _ wr.drew
            go_wp2_with fail
            refine HW.out.mono ?_
            rintro e y1 ⟨rfl, hS1⟩
            obtain ⟨v0, v1⟩ := HX.out y1 hS1.dk.below
            obtain ⟨old, hold⟩ : ∃ o, Tk[p]? = some o := ⟨_, List.getElem?_eq_getElem (by rw [HL8.out]; exact hp8)⟩
            have q1 := hS1.cell hold
            have q2 := hS1.box.frozen p
            have HS1 := Lib.hid (hS1.drew.set p tk)
            rw [← HU.out, ← HT.out] at HS1
            clear hS1 hold HW HX x0 x1
            go_wp2_with fail
            go_still_tail 11, (by kernel_rfl)
            change wpList _ _ _ _ _ y1.drew
            go_wp2_with fail
            go_roundw
            case rel => exact ⟨k + 1, by omega, by go_num, HS1.out⟩
            case measure => simp [intOf]; omega
          · obtain ⟨F, hFF⟩ : ∃ F, F = M.wrong 8 (a0 k) (t0 k) := ⟨_, rfl⟩
            rw [← hFF] at HW hF
            have hF' : (F == 0) = false := by rw [beq_eq_false_iff_ne]; exact hF
            rw [← hFF, if_neg hF] at HU
            clear hF hFF hdk hTk hW hS HX
            go_wp2_with fail
            go_still_tail 11, (by kernel_rfl)
            change wpList _ _ _ _ _ wr.drew
            go_wp2_with fail
            refine HW.out.mono ?_
            rintro e y1 ⟨rfl, hS1⟩
            have HS1 := Lib.hid hS1
            rw [← HU.out, ← HT.out] at HS1
            clear hS1 HW x0 x1
            go_wp2_with fail
            go_roundw
            case rel => exact ⟨k + 1, by omega, by go_num, HS1.out⟩
            case measure => simp [intOf]; omega
        · have e : k = n0 := by omega
          subst e
          have hT8 : (M.sure a0 t0 (M.fill 8) k).length = 8 := by rw [M.sure_len]; rfl
          have hd8 : (M.fold dn a0 t0 k).S.length = 8 := by rw [M.fold_S, HL.out.1]
          have hse : (M.flushC (M.fold dn a0 t0 k)).S = M.sure a0 t0 (M.fill 8) k :=
            M.sure_flush _ _ hd8 hT8 (fun j hj => M.sure_seen dn a0 t0 (M.fill 8) HL.out.1 rfl (fun j hj => by rw [HDN.out]; exact M.new_seen j hj) k j hj)
          have HFl := Lib.hid (sflush hS (M.fold_calm dn a0 t0 HC.out k) (by rw [M.fold_ops, HL.out.2]; omega))
          have hca : M.Calm (M.flushC (M.fold dn a0 t0 k)) := (M.fold_calm dn a0 t0 HC.out k).flush
          have hop : (M.flushC (M.fold dn a0 t0 k)).ops = k + 1 := by show (M.fold dn a0 t0 k).ops + 1 = k + 1; rw [M.fold_ops, HL.out.2]; omega
          have hL0 : (M.flushC (M.fold dn a0 t0 k)).L = [] := rfl
          obtain ⟨d1, hd1⟩ : ∃ d, d = M.flushC (M.fold dn a0 t0 k) := ⟨_, rfl⟩
          obtain ⟨T, hT⟩ : ∃ T, T = M.sure a0 t0 (M.fill 8) k := ⟨_, rfl⟩
          rw [← hd1] at hse HFl hca hop hL0
          rw [← hT] at hse HFl hT8
          have HI : Hid (d1.S = T ∧ d1.L = [] ∧ T.length = 8 ∧ d1.ops = k + 1 ∧ M.Calm d1) := ⟨hse, hL0, hT8, hop, hca⟩
          clear hS hlt hT8 hd8 hse hca hop hL0 hd1 hT HA0 HC HL HDN
          go_wp2_with fail
          refine HFl.out.mono ?_
          rintro e y1 ⟨rfl, hS1⟩
          have hwt := kwaits hS1.dk
          rw [HI.out.2.1] at hwt
          have HWt := Lib.hid hwt
          have HS1 := Lib.hid hS1
          have H64 : Hid (∀ s ∈ T, s.size = 64) := by
            have := hS1.dk.disk.inv.sure
            rw [HI.out.1] at this
            exact this
          clear hS1 hwt HFl
          go_wp2_with fail
          refine HWt.out.mono ?_
          rintro e y2 ⟨rfl, rfl⟩
          clear HWt
          go_wp2_with fail
          go_loopw [11] (fun i wr => ∃ j : Nat, j ≤ n1 ∧ i = .int .i64 j ∧ Sur w wr N b g (M.fold d1 a1 t1 j) T) (fun i _ => n1 - (intOf i).toNat)
          case atStart => exact ⟨0, by omega, rfl, HS1.out⟩
          case round =>
            clear HS1
            obtain ⟨j, hj, rfl, hS⟩ := hrel
            by_cases hlt : j < n1
            · have hlt' : (j : Int) < (n1 : Int) := by omega
              have hj0 : (0 : Int) ≤ (j : Int) := by omega
              obtain ⟨ad, rfl, x0, x1⟩ := HA1.out.at_ HNN.out hS.dk.below hlt
              have HW := Lib.hid (swrite hS.drew (M.fold_calm d1 a1 t1 HI.out.2.2.2.2 j) (by rw [M.fold_ops, HI.out.2.2.2.1]; omega) (a1 j) (t1 j))
              clear hS
              go_wp2_with fail
              go_still_tail 11, (by kernel_rfl)
              change wpList _ _ _ _ _ wr.drew
              go_wp2_with fail
              refine HW.out.mono ?_
              rintro e y3 ⟨rfl, hS3⟩
              have HS3 := Lib.hid hS3
              clear hS3 HW x0 x1
              go_wp2_with fail
              go_roundw
              case rel => exact ⟨j + 1, by omega, by go_num, HS3.out⟩
              case measure => simp [intOf]; omega
            · have e : j = n1 := by omega
              subst e
              have HR := Lib.hid (srestart hS (by rw [M.fold_ops, HI.out.2.2.2.1]; omega) A2 n2 c2 z (HA2.out.below (by rw [← HNN.out]; exact hS.dk.below)) (fun hp ad e => by
                obtain ⟨ad', e', hb, _⟩ := HA2.out 0 hp
                rw [e'] at e
                injection e with e
                rw [← e, HNN.out]
                exact hb))
              have HX : Hid (∀ k, k < 8 → ∃ s x, s.size = 64 ∧ M.seen (M.restartD (M.fold d1 a1 t1 j) (M.odd n2 z)).S (M.restartD (M.fold d1 a1 t1 j) (M.odd n2 z)).L k = s ∧ T[k]? = some x ∧ M.isB a1 t1 s x k j = true) :=
                fun k hk => M.sure_end d1 a1 t1 j _ T HI.out.1 HI.out.2.1 HI.out.2.2.1 H64.out k hk
              have HO : Hid ((M.restartD (M.fold d1 a1 t1 j) (M.odd n2 z)).ops ≤ 200 ∧ (M.restartD (M.fold d1 a1 t1 j) (M.odd n2 z)).S.length = 8) := by
                refine ⟨?_, ?_⟩
                · show (M.fold d1 a1 t1 j).ops ≤ 200
                  rw [M.fold_ops, HI.out.2.2.2.1]
                  omega
                · show (M.rounds _ _ _ _).length = 8
                  rw [M.rounds_len, M.fold_S, HI.out.1, HI.out.2.2.1]
              have HCa : Hid (M.Calm (M.restartD (M.fold d1 a1 t1 j) (M.odd n2 z))) := M.calm_restart _ _
              obtain ⟨d3, hd3⟩ : ∃ d, d = M.restartD (M.fold d1 a1 t1 j) (M.odd n2 z) := ⟨_, rfl⟩
              rw [← hd3] at HR HX HO HCa
              clear hS hlt hd3 HI H64 HA2
              go_wp2_with fail
              refine HR.out.mono ?_
              rintro e y3 ⟨rfl, hS3⟩
              have HS3 := Lib.hid hS3
              clear hS3 HR
              go_wp2_with fail
              go_loopw [12] (fun i wr => ∃ k : Nat, k ≤ 8 ∧ i = .int .i64 k ∧ Sur w wr N b g (M.reads d3 k) T) (fun i _ => 8 - (intOf i).toNat)
              case atStart => exact ⟨0, by omega, rfl, HS3.out⟩
              case round =>
                clear HS3
                obtain ⟨k, hk, rfl, hS⟩ := hrel
                by_cases hlt : k < 8
                · have hlt' : (k : Int) < 8 := by omega
                  have hk0 : (0 : Int) ≤ (k : Int) := by omega
                  obtain ⟨s, x, hs64, hse, hx, hisB⟩ := HX.out k hlt
                  have hrd := sread hS (HCa.out.reads k) (by show d3.ops + k ≤ _; have := HO.out.1; omega) k (by show k < d3.S.length; rw [HO.out.2]; exact hlt)
                  rw [show M.seen (M.reads d3 k).S (M.reads d3 k).L k = s from hse, M.reads_succ] at hrd
                  have HRd := Lib.hid hrd
                  have HIs := Lib.hid hisB
                  clear hrd hS hse hisB
                  go_wp2_with fail
                  refine HRd.out.mono ?_
                  rintro e y4 ⟨rfl, hS4⟩
                  have q1 := hS4.cell hx
                  have HS4 := Lib.hid hS4
                  clear hS4 hx HRd
                  go_wp2_with fail
                  go_loopw [16, 15] (fun i v wr => ∃ q : Nat, q ≤ j ∧ i = .int .i64 q ∧ v = .bool (M.isB a1 t1 s x k q) ∧ wr = y4) (fun i _ _ => j - (intOf i).toNat)
                  case atStart => exact ⟨0, by omega, rfl, rfl, rfl⟩
                  case round =>
                    obtain ⟨q, hq, rfl, rfl, hwr⟩ := hrel
                    subst hwr
                    by_cases hqt : q < j
                    · have hqt' : (q : Int) < (j : Int) := by omega
                      have hq0 : (0 : Int) ≤ (q : Int) := by omega
                      obtain ⟨ad, rfl, x0, x1⟩ := HA1.out.at_ HNN.out HS4.out.dk.below hqt
                      have HT : Hid (M.isB a1 t1 s x k (q + 1) = (M.isB a1 t1 s x k q || (a1 q == (k : Int) && (t1 q).toList == s.toList))) := rfl
                      obtain ⟨c, hc⟩ : ∃ c, c = M.isB a1 t1 s x k q := ⟨_, rfl⟩
                      obtain ⟨aq, haq⟩ : ∃ c, c = a1 q := ⟨_, rfl⟩
                      obtain ⟨tq, htq⟩ : ∃ c, c = t1 q := ⟨_, rfl⟩
                      rw [← hc, ← haq, ← htq] at HT
                      rw [← haq] at x0
                      rw [← htq] at x1
                      rw [← hc]
                      clear hc haq htq
                      cases c with
                      | true =>
                        rw [Bool.true_or] at HT
                        go_wp2_with fail
                        go_roundw
                        case rel => exact ⟨q + 1, by omega, by go_num, by rw [HT.out], trivial⟩
                        case measure => simp [intOf]; omega
                      | false =>
                        rw [Bool.false_or] at HT
                        cases he : (aq == (k : Int)) with
                        | false =>
                          rw [he, Bool.false_and] at HT
                          go_wp2_with fail
                          go_roundw
                          case rel => exact ⟨q + 1, by omega, by go_num, by rw [HT.out], trivial⟩
                          case measure => simp [intOf]; omega
                        | true =>
                          rw [he, Bool.true_and] at HT
                          go_wp2_with fail
                          go_roundw
                          case rel => exact ⟨q + 1, by omega, by go_num, by rw [HT.out], trivial⟩
                          case measure => simp [intOf]; omega
                    · have e : q = j := by omega
                      subst e
                      rw [HIs.out]
                      have h64 : ((s.size : Int) == 64) = true := by rw [beq_iff_eq]; omega
                      clear hqt
                      go_wp2_with fail
                      go_roundw
                      case rel => exact ⟨k + 1, by omega, by go_num, HS4.out⟩
                      case measure => simp [intOf]; omega
                · have e : k = 8 := by omega
                  subst e
                  have HB := Lib.hid hS.dk.below
                  rw [HNN.out] at HB
                  clear hS
                  go_wp2_with fail
                  go_ret
                  exact ⟨rfl, HB.out⟩

theorem diskSure_walk (v0 v1 v2 : Value) (w : World) (h0 : SecsAt w v0) (h1 : SecsAt w v1) (h2 : IntsAt w v2) :
    Calls Try.prog 4 #[v0, v1, v2] w fun e w' => e = .returned (.bool true) ∧ Below w.heap.size w w' := by
  obtain ⟨A0, n0, c0, rfl, h0⟩ := h0
  obtain ⟨A1, n1, c1, rfl, h1⟩ := h1
  obtain ⟨A2, n2, c2, rfl, h2⟩ := h2
  obtain ⟨a0, t0, H0⟩ := SecF.of h0
  obtain ⟨a1, t1, H1⟩ := SecF.of h1
  obtain ⟨z, H2⟩ := ChoAt.of h2
  by_cases hl : n0 ≤ 60 ∧ n1 ≤ 60 ∧ n2 ≤ 300
  · exact diskSure_few A0 A1 A2 n0 c0 n1 c1 n2 c2 a0 a1 t0 t1 z w hl.1 hl.2.1 hl.2.2 H0 H1 H2
  · have hd : (decide ((60 : Int) < (n0 : Int)) = true) ∨ (decide ((60 : Int) < (n0 : Int)) = false ∧ decide ((60 : Int) < (n1 : Int)) = true) ∨ (decide ((60 : Int) < (n0 : Int)) = false ∧ decide ((60 : Int) < (n1 : Int)) = false ∧ decide ((300 : Int) < (n2 : Int)) = true) := by
      simp
      omega
    clear hl h0 h1 h2 H0 H1 H2
    rcases hd with hd | ⟨hd, he⟩ | ⟨hd, he, hf⟩
    all_goals
      go_enter Try.func4, Try.ntmps4
      go_wp2_with fail
      refine (works_any _).mono ?_
      rintro e w1 ⟨rfl, hb1⟩
      have HB1 := Lib.hid hb1
      clear hb1
      go_wp2_with fail
      go_ret
      exact ⟨rfl, HB1.out⟩
end Go.Proofs.Ytjmkpjapagfdlaa
