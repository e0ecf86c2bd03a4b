/-
  Plain mathematics for layer 12 (logscan): what is laid, what is read round, the records one behind the other. No function of the program is walked in this text. Walks over logscan.round and logscan.Put. A walk over logscan.read: sectors of a log, round. Plain mathematics for layer 12: a disk of which no call fails; records that are put one behind the other are told. No function of the program is walked in this text.
-/
import Derived.Test.YtmgchfjfkdkaoaaGreatDoorMC
import Derived.Test.YtmgchfjfkdkaoaaGreatDoorMG
namespace Go.Proofs.YtmgchfjfkdkaoaaGreatDoor
open Go.RowKit

/-- What Put lays: the second sector first, the first one at last. -/
def M.lay12 (fr mn p n : Nat) (s : ByteArray) : List (Nat × ByteArray) := (List.range n).map fun k => (fr + (p + (k + 1) % n) % mn, M.piece s ((k + 1) % n))
theorem M.lay12_len (fr mn p n : Nat) (s : ByteArray) : (M.lay12 fr mn p n s).length = n := by simp [M.lay12]
theorem M.lay12_at {fr mn p n k : Nat} {s : ByteArray} (hk : k < n) : (M.lay12 fr mn p n s)[k]? = some (fr + (p + (k + 1) % n) % mn, M.piece s ((k + 1) % n)) := by simp [M.lay12, hk]
def M.lput (d : M.D) (fr mn : Nat) (p : Int) (s : ByteArray) : Int × M.D :=
  if s.size = 0 ∨ s.size % 64 ≠ 0 then (12, d)
  else if p < 0 ∨ (mn : Int) ≤ p ∨ mn < s.size / 64 then (3, d)
  else M.wr (M.lay12 fr mn p.toNat (s.size / 64) s) d

/-- How a disk is read: the error, the bytes, what it is then. -/
structure M.Rdr (σ : Type) where
  E : σ → Int → Int
  S : σ → Int → ByteArray
  B : σ → σ
def M.dR : M.Rdr M.D := ⟨M.readE, M.readS, M.beginD⟩

section
variable {σ : Type} (X : M.Rdr σ) (fr mn : Nat)
/-- So many sectors are read, round, behind what was read before. -/
def M.rdr : Nat → σ → Nat → ByteArray → ByteArray × Int × σ
  | 0, d, _, acc => (acc, 0, d)
  | n + 1, d, p, acc => if X.E d ((fr + p % mn : Nat) : Int) = 0 then M.rdr n (X.B d) (p + 1) (acc ++ X.S d ((fr + p % mn : Nat) : Int)) else (⟨#[]⟩, X.E d ((fr + p % mn : Nat) : Int), X.B d)
def M.next3 (o : ByteArray × Int × σ) (f : ByteArray) (n : Nat) : Int × Nat × ByteArray × σ :=
  if o.2.1 ≠ 0 then (o.2.1, 0, ⟨#[]⟩, o.2.2) else if M.getE (f ++ o.1) ≠ 0 then (0, 0, ⟨#[]⟩, o.2.2) else (0, n, f ++ o.1, o.2.2)
def M.next2 (f : ByteArray × Int × σ) (p : Nat) (q : Int) (left : Nat) : Int × Nat × ByteArray × σ :=
  if f.2.1 ≠ 0 then (f.2.1, 0, ⟨#[]⟩, f.2.2)
  else if M.szE f.1 q ≠ 0 ∨ (left : Int) < M.szN f.1 q then (0, 0, ⟨#[]⟩, f.2.2)
  else M.next3 (M.rdr X fr mn ((M.szN f.1 q).toNat - 1) f.2.2 (p + 1) ⟨#[]⟩) f.1 (M.szN f.1 q).toNat
/-- The next record: the error of reading, how many sectors it has (none: it is none), its bytes, the disk. -/
def M.next (d : σ) (p : Nat) (q : Int) (left : Nat) : Int × Nat × ByteArray × σ :=
  if left = 0 then (0, 0, ⟨#[]⟩, d) else M.next2 X fr mn (M.rdr X fr mn 1 d p ⟨#[]⟩) p q left
end
/-- A record that was told: its number, its place, its bytes. -/
structure M.Rec where
  q : Int
  at_ : Nat
  s : ByteArray
def M.scanE {σ : Type} (most : Nat) (x : Int × Nat × ByteArray × σ) (q : Int) (at_ : Nat) (u : Nat) (l : List M.Rec) (rest : σ → Nat → List M.Rec → Int × σ × Nat × List M.Rec) : Int × σ × Nat × List M.Rec :=
  if x.1 ≠ 0 ∨ x.2.1 = 0 then (x.1, x.2.2.2, u, l)
  else if l.length + 1 < most then rest x.2.2.2 (u + x.2.1) (l ++ [⟨q, at_, x.2.2.1⟩])
  else (0, x.2.2.2, u + x.2.1, l ++ [⟨q, at_, x.2.2.1⟩])
section
variable {σ : Type} (X : M.Rdr σ) (fr mn : Nat)
/-- From record to record: the error, the disk, how many sectors they have, the records. -/
def M.scan (p0 : Nat) (q0 : Int) (most : Nat) : Nat → σ → Nat → List M.Rec → Int × σ × Nat × List M.Rec
  | 0, d, u, l => (0, d, u, l)
  | k + 1, d, u, l => M.scanE most (M.next X fr mn d ((p0 + u) % mn) (q0 + (l.length : Nat)) (mn - u)) (q0 + (l.length : Nat)) ((p0 + u) % mn) u l (M.scan p0 q0 most k)

variable {X fr mn}
theorem M.rdr_mod (n : Nat) (d : σ) (p : Nat) (acc : ByteArray) : M.rdr X fr mn n d (p % mn) acc = M.rdr X fr mn n d p acc := by
  induction n generalizing d p acc with
  | zero => rfl
  | succ n ih =>
    have e : M.rdr X fr mn n (X.B d) (p % mn + 1) (acc ++ X.S d ((fr + p % mn : Nat) : Int)) = M.rdr X fr mn n (X.B d) (p + 1) (acc ++ X.S d ((fr + p % mn : Nat) : Int)) := by
      rw [← ih _ (p % mn + 1), ← ih _ (p + 1), Nat.mod_add_mod]
    rw [M.rdr, M.rdr, Nat.mod_mod, e]
theorem M.rdr_acc (n : Nat) (d : σ) (p : Nat) (acc bcc : ByteArray) :
    (M.rdr X fr mn n d p acc).2 = (M.rdr X fr mn n d p bcc).2 ∧ ((M.rdr X fr mn n d p bcc).2.1 = 0 → ∃ t, (M.rdr X fr mn n d p acc).1 = acc ++ t ∧ (M.rdr X fr mn n d p bcc).1 = bcc ++ t) ∧ ((M.rdr X fr mn n d p acc).2.1 ≠ 0 → (M.rdr X fr mn n d p acc).1 = ⟨#[]⟩) := by
  induction n generalizing d p acc bcc with
  | zero => exact ⟨rfl, fun _ => ⟨⟨#[]⟩, by rw [M.rdr, M.app_nil], by rw [M.rdr, M.app_nil]⟩, fun h => absurd rfl h⟩
  | succ n ih =>
    rw [M.rdr, M.rdr]
    by_cases h : X.E d ((fr + p % mn : Nat) : Int) = 0
    · rw [if_pos h, if_pos h]
      obtain ⟨h1, h2, h3⟩ := ih (X.B d) (p + 1) (acc ++ X.S d ((fr + p % mn : Nat) : Int)) (bcc ++ X.S d ((fr + p % mn : Nat) : Int))
      refine ⟨h1, fun e => ?_, h3⟩
      obtain ⟨t, t1, t2⟩ := h2 e
      exact ⟨X.S d ((fr + p % mn : Nat) : Int) ++ t, by rw [t1, ByteArray.append_assoc], by rw [t2, ByteArray.append_assoc]⟩
    · rw [if_neg h, if_neg h]
      exact ⟨rfl, fun e => absurd e h, fun _ => rfl⟩
theorem M.rdr_front (n : Nat) (d : σ) (p : Nat) (acc : ByteArray) (h : (M.rdr X fr mn n d p ⟨#[]⟩).2.1 = 0) : (M.rdr X fr mn n d p acc).1 = acc ++ (M.rdr X fr mn n d p ⟨#[]⟩).1 := by
  obtain ⟨t, h1, h2⟩ := (M.rdr_acc n d p acc ⟨#[]⟩).2.1 h
  rw [h1, h2, M.nil_app]
/-- In two parts. -/
theorem M.rdr_split (a b : Nat) (d : σ) (p : Nat) (acc : ByteArray) : M.rdr X fr mn (a + b) d p acc = if (M.rdr X fr mn a d p acc).2.1 = 0 then M.rdr X fr mn b (M.rdr X fr mn a d p acc).2.2 (p + a) (M.rdr X fr mn a d p acc).1 else M.rdr X fr mn a d p acc := by
  induction a generalizing d p acc with
  | zero => rw [Nat.zero_add, M.rdr, if_pos rfl]; rfl
  | succ a ih =>
    rw [Nat.add_right_comm, M.rdr]
    by_cases h : X.E d ((fr + p % mn : Nat) : Int) = 0
    · rw [if_pos h, ih]
      rw [show M.rdr X fr mn (a + 1) d p acc = M.rdr X fr mn a (X.B d) (p + 1) (acc ++ X.S d ((fr + p % mn : Nat) : Int)) by rw [M.rdr, if_pos h], show p + 1 + a = p + (a + 1) by omega]
    · rw [if_neg h]
      rw [show M.rdr X fr mn (a + 1) d p acc = (⟨#[]⟩, X.E d ((fr + p % mn : Nat) : Int), X.B d) by rw [M.rdr, if_neg h], if_neg h]
end
/-- Straight on, within the region. -/
theorem M.rd_rdr (fr mn n : Nat) (d : M.D) (p : Nat) (acc : ByteArray) (h : p + n ≤ mn) : M.rd n d (fr + p) acc = M.rdr M.dR fr mn n d p acc := by
  induction n generalizing d p acc with
  | zero => rfl
  | succ n ih =>
    have e : p % mn = p := Nat.mod_eq_of_lt (by omega)
    rw [M.rd, M.rdr, e, show fr + p + 1 = fr + (p + 1) by omega, ih _ (p + 1) _ (by omega)]
    rfl
theorem M.gread_rdr (d : M.D) (fr mn p n : Nat) (h : p + n ≤ mn) : M.gread d fr mn (p : Nat) (n : Nat) = M.rdr M.dR fr mn n d p ⟨#[]⟩ := by
  have hw : M.within (p : Int) ((n : Nat) : Int) (mn : Nat) = true := by unfold M.within; simp; omega
  rw [M.gread, if_pos hw, Int.toNat_natCast, Int.toNat_natCast, M.rd_rdr fr mn n d p _ h]
/-- What reading keeps. -/
theorem M.rdr_keeps (fr mn n : Nat) (d : M.D) (p : Nat) (acc : ByteArray) : (M.rdr M.dR fr mn n d p acc).2.2.S = d.S ∧ (M.rdr M.dR fr mn n d p acc).2.2.L = d.L ∧ (M.rdr M.dR fr mn n d p acc).2.2.ops ≤ d.ops + n ∧ d.ops ≤ (M.rdr M.dR fr mn n d p acc).2.2.ops := by
  induction n generalizing d p acc with
  | zero => exact ⟨rfl, rfl, Nat.le_refl _, Nat.le_refl _⟩
  | succ n ih =>
    rw [M.rdr]
    by_cases h : M.dR.E d ((fr + p % mn : Nat) : Int) = 0
    · rw [if_pos h]
      obtain ⟨h1, h2, h3, h4⟩ := ih (M.dR.B d) (p + 1) (acc ++ M.dR.S d ((fr + p % mn : Nat) : Int))
      have e : (M.dR.B d).ops = d.ops + 1 := rfl
      exact ⟨h1, h2, by omega, by omega⟩
    · rw [if_neg h]
      exact ⟨rfl, rfl, by show d.ops + 1 ≤ _; omega, by show _ ≤ d.ops + 1; omega⟩
theorem M.inv_begin {d : M.D} (h : M.Inv d) : M.Inv (M.beginD d) := ⟨h.many, h.sure, h.lies, h.wide, by show d.L.length ≤ d.ops + 1; have := h.some_; omega⟩
theorem M.rdr_size (fr mn n : Nat) (d : M.D) (p : Nat) (acc : ByteArray) (hi : M.Inv d) (h : (M.rdr M.dR fr mn n d p acc).2.1 = 0) : (M.rdr M.dR fr mn n d p acc).1.size = acc.size + 64 * n := by
  induction n generalizing d p acc with
  | zero => rfl
  | succ n ih =>
    rw [M.rdr] at h ⊢
    by_cases hE : M.dR.E d ((fr + p % mn : Nat) : Int) = 0
    · rw [if_pos hE] at h ⊢
      have h1 := ih (M.dR.B d) (p + 1) (acc ++ M.dR.S d ((fr + p % mn : Nat) : Int)) (M.inv_begin hi) h
      have h2 : (M.dR.S d ((fr + p % mn : Nat) : Int)).size = 64 := M.readS_size hi hE
      rw [h1, ByteArray.size_append, h2]
      omega
    · rw [if_neg hE] at h
      exact absurd h hE
/-- A record has a number, and so many sectors. -/
theorem M.szE_ok {s : ByteArray} {q : Int} (h : M.szE s q = 0) : s.size = 64 ∧ M.gQ s = q ∧ 0 ≤ q ∧ q < 281474976710656 ∧ 2 ≤ M.szN s q ∧ M.szN s q ≤ 17 := by
  have hn : M.szN s q = 1 + M.hnum s 7 8 := by rw [M.szN, if_pos h]
  unfold M.szE at h
  split at h
  · exact absurd h (by decide)
  · rename_i h64
    have h64 : s.size = 64 := by omega
    split at h
    · rename_i hb
      have h6 : 0 ≤ M.hnum s 1 7 ∧ M.hnum s 1 7 < (256 ^ 6 : Nat) := M.hnum_bound s 1 6 (by omega)
      have e : M.gQ s = M.hnum s 1 7 := rfl
      have h2 := hb.2
      have h3 := hb.1.2
      refine ⟨h64, h2, ?_, ?_, ?_, ?_⟩ <;> omega
    · exact absurd h (by decide)
theorem M.szE_no {s : ByteArray} {q : Int} (h : M.szE s q ≠ 0) : M.szN s q = 0 := by rw [M.szN, if_neg h]
theorem M.next_n {σ : Type} {X : M.Rdr σ} {fr mn : Nat} {d : σ} {p : Nat} {q : Int} {left : Nat} (h : (M.next X fr mn d p q left).2.1 ≠ 0) :
    (M.next X fr mn d p q left).1 = 0 ∧ 2 ≤ (M.next X fr mn d p q left).2.1 ∧ (M.next X fr mn d p q left).2.1 ≤ left ∧ (M.next X fr mn d p q left).2.1 ≤ 17 ∧ M.getE (M.next X fr mn d p q left).2.2.1 = 0 ∧ 0 ≤ q ∧ q < 281474976710656 := by
  unfold M.next at h ⊢
  split at h
  · exact absurd rfl h
  · rename_i hl
    rw [if_neg hl]
    unfold M.next2 at h ⊢
    split at h
    · exact absurd rfl h
    · rename_i h1
      rw [if_neg h1]
      split at h
      · exact absurd rfl h
      · rename_i h2
        rw [if_neg h2]
        have hz : M.szE (M.rdr X fr mn 1 d p ⟨#[]⟩).1 q = 0 := Classical.byContradiction fun e => h2 (Or.inl e)
        have hle : ¬ ((left : Int) < M.szN (M.rdr X fr mn 1 d p ⟨#[]⟩).1 q) := fun e => h2 (Or.inr e)
        obtain ⟨_, _, z1, z2, z3, z4⟩ := M.szE_ok hz
        unfold M.next3 at h ⊢
        split at h
        · exact absurd rfl h
        · rename_i h3
          rw [if_neg h3]
          split at h
          · exact absurd rfl h
          · rename_i h4
            rw [if_neg h4]
            exact ⟨rfl, by show 2 ≤ Int.toNat _; omega, by show Int.toNat _ ≤ _; omega, by show Int.toNat _ ≤ _; omega, Classical.byContradiction fun e => h4 e, z1, z2⟩
theorem M.next_keeps (fr mn : Nat) (d : M.D) (p : Nat) (q : Int) (left : Nat) : (M.next M.dR fr mn d p q left).2.2.2.S = d.S ∧ (M.next M.dR fr mn d p q left).2.2.2.L = d.L ∧ (M.next M.dR fr mn d p q left).2.2.2.ops ≤ d.ops + 17 ∧ d.ops ≤ (M.next M.dR fr mn d p q left).2.2.2.ops := by
  unfold M.next
  split
  · exact ⟨rfl, rfl, Nat.le_add_right _ _, Nat.le_refl _⟩
  · obtain ⟨k1, k2, k3, k4⟩ := M.rdr_keeps fr mn 1 d p ⟨#[]⟩
    unfold M.next2
    split
    · exact ⟨k1, k2, Nat.le_trans k3 (by omega), k4⟩
    · split
      · exact ⟨k1, k2, Nat.le_trans k3 (by omega), k4⟩
      · rename_i h2
        have hz : M.szE (M.rdr M.dR fr mn 1 d p ⟨#[]⟩).1 q = 0 := Classical.byContradiction fun e => h2 (Or.inl e)
        obtain ⟨_, _, z1, z2, z3, z4⟩ := M.szE_ok hz
        obtain ⟨j1, j2, j3, j4⟩ := M.rdr_keeps fr mn ((M.szN (M.rdr M.dR fr mn 1 d p ⟨#[]⟩).1 q).toNat - 1) (M.rdr M.dR fr mn 1 d p ⟨#[]⟩).2.2 (p + 1) ⟨#[]⟩
        unfold M.next3
        split
        · exact ⟨j1.trans k1, j2.trans k2, Nat.le_trans j3 (by omega), Nat.le_trans k4 j4⟩
        · split
          · exact ⟨j1.trans k1, j2.trans k2, Nat.le_trans j3 (by omega), Nat.le_trans k4 j4⟩
          · exact ⟨j1.trans k1, j2.trans k2, Nat.le_trans j3 (by omega), Nat.le_trans k4 j4⟩
end Go.Proofs.YtmgchfjfkdkaoaaGreatDoor
namespace Go.Proofs.YtmgchfjfkdkaoaaGreatDoor
open Go.RowKit

theorem round_any (p : Nat) (w : World) {rb a fr mn : Nat} (h : Reg w rb a fr mn) (hm0 : 0 < mn) (hm : mn ≤ 1000) (hp : p ≤ 1000000) :
    Calls Tryz.prog 142 #[.pointer (some ⟨rb, 0, none⟩), .int .i64 (p : Nat)] w fun e w' => e = .returned (.int .i64 ((p % mn : Nat) : Int)) ∧ w' = w := by
  have HM := Lib.hid (many_any w h)
  have ht : (p : Int).tmod (mn : Int) = ((p % mn : Nat) : Int) := by rw [Int.tmod_eq_emod_of_nonneg (by omega)]; omega
  have h1 : ((mn : Int) == 0) = false := by rw [beq_eq_false_iff_ne]; omega
  have h2 : (0 : Int) < (mn : Int) := by omega
  have h3 : (p : Int) ≤ 1000000 := by omega
  obtain ⟨x, hx⟩ : ∃ x : Int, x = ((p % mn : Nat) : Int) := ⟨_, rfl⟩
  rw [← hx] at ht ⊢
  clear h hx hm hp
  go_enter Tryz.func142, Tryz.ntmps142
  go_wp2_with fail
  refine HM.out.mono ?_
  rintro e w1 ⟨rfl, rfl⟩
  go_wp2_with fail
  go_ret
  exact ⟨rfl, rfl⟩

theorem M.gwrite_one (d : M.D) (fr mn q : Nat) (s : ByteArray) (hq : q < mn) (hs : s.size = 64) : M.gwrite d fr mn (q : Nat) s = (M.writeE d ((fr + q : Nat) : Int) s, M.writeD d ((fr + q : Nat) : Int) s) := by
  have hw : M.within (q : Int) ((1 : Nat) : Int) (mn : Nat) = true := by unfold M.within; simp; omega
  have hg : M.gsplit fr mn (q : Nat) s = (M.cut 1 (fr + q) s, 0) := by
    unfold M.gsplit
    rw [if_pos (by omega), show s.size / 64 = 1 by omega, if_pos hw, Int.toNat_natCast]
  have hc : M.cut 1 (fr + q) s = [(fr + q, s)] := by
    have e : s.extract 0 64 = s := by rw [← hs]; exact ByteArray.extract_zero_size
    simp [M.cut, M.piece, e]
  unfold M.gwrite
  rw [hg, if_pos rfl, hc]
  show M.wr [(fr + q, s)] d = _
  rw [M.wr]
  by_cases h : M.writeE d ((fr + q : Nat) : Int) s = 0
  · rw [if_pos h, M.wr, h]
  · rw [if_neg h]

theorem lput_nil (p : Int) (s : ByteArray) (w : World) : Calls Tryz.prog 133 #[.pointer none, .int .i64 p, .string s] w fun e w' => e = .returned (.int .i64 10) ∧ w' = w := by
  go_enter Tryz.func133, Tryz.ntmps133
  go_wp2_with fail
  go_ret
  exact ⟨rfl, rfl⟩
theorem lput_size (p : Int) (s : ByteArray) (w : World) (rb : Nat) (h : s.size = 0 ∨ s.size % 64 ≠ 0) : Calls Tryz.prog 133 #[.pointer (some ⟨rb, 0, none⟩), .int .i64 p, .string s] w fun e w' => e = .returned (.int .i64 12) ∧ w' = w := by
  by_cases h0 : s.size = 0
  · rw [M.of_size0 h0]
    go_enter Tryz.func133, Tryz.ntmps133
    go_wp2_with fail
    go_ret
    exact ⟨rfl, rfl⟩
  · have h1 : s.size % 64 ≠ 0 := by omega
    have he : (s.toList == ([] : List UInt8)) = false := by
      rw [← (show (⟨#[]⟩ : ByteArray).toList = [] by rw [ByteArray.toList_eq])]
      exact ne_of_toList (fun e => h0 (by rw [e]; rfl))
    obtain ⟨r, hr⟩ : ∃ r : Int, r = (s.size : Int).tmod 64 := ⟨_, rfl⟩
    have hr0 : (r == 0) = false := by rw [beq_eq_false_iff_ne, hr, Int.tmod_eq_emod_of_nonneg (by omega)]; omega
    have hr' := hr.symm
    clear h0 h1 hr h
    go_enter Tryz.func133, Tryz.ntmps133
    go_wp2_with fail
    go_ret
    exact ⟨rfl, rfl⟩
theorem lput_place (p : Int) (n : Nat) (s : ByteArray) (w : World) {rb a fr mn : Nat} (hr : Reg w rb a fr mn) (hs : s.size = 64 * n) (hn : 1 ≤ n) (hn9 : n ≤ 1000000) (hp : p ≤ 9223372036854775807) (hmn : mn ≤ 1000) (h : p < 0 ∨ (mn : Int) ≤ p) :
    Calls Tryz.prog 133 #[.pointer (some ⟨rb, 0, none⟩), .int .i64 p, .string s] w fun e w' => e = .returned (.int .i64 3) ∧ w' = w := by
  have HP := Lib.hid (place_no p w hr hp hmn (by unfold M.within; simp; omega))
  have he : (s.toList == ([] : List UInt8)) = false := by
    rw [← (show (⟨#[]⟩ : ByteArray).toList = [] by rw [ByteArray.toList_eq])]
    exact ne_of_toList (fun e => by rw [e] at hs; have : (0 : Nat) = 64 * n := hs; omega)
  have h1 : (s.size : Int).tmod 64 = 0 := by rw [Int.tmod_eq_emod_of_nonneg (by omega)]; omega
  have h2 : (s.size : Int).tdiv 64 = (n : Int) := by rw [Int.tdiv_eq_ediv_of_nonneg (by omega)]; omega
  clear hr hs h
  go_enter Tryz.func133, Tryz.ntmps133
  go_wp2_with fail
  refine HP.out.mono ?_
  rintro e w1 ⟨rfl, rfl⟩
  go_wp2_with fail
  go_ret
  exact ⟨rfl, rfl⟩
theorem lput_many (p n : Nat) (s : ByteArray) (w : World) {rb a fr mn : Nat} (hr : Reg w rb a fr mn) (hs : s.size = 64 * n) (hn : 1 ≤ n) (hn9 : n ≤ 1000000) (hf : fr ≤ 1000) (hmn : mn ≤ 1000) (hp : p < mn) (h : mn < n) :
    Calls Tryz.prog 133 #[.pointer (some ⟨rb, 0, none⟩), .int .i64 (p : Nat), .string s] w fun e w' => e = .returned (.int .i64 3) ∧ w' = w := by
  have HP := Lib.hid (place_yes p w hr hf hmn hp)
  have HM := Lib.hid (many_any w hr)
  have he : (s.toList == ([] : List UInt8)) = false := by
    rw [← (show (⟨#[]⟩ : ByteArray).toList = [] by rw [ByteArray.toList_eq])]
    exact ne_of_toList (fun e => by rw [e] at hs; have : (0 : Nat) = 64 * n := hs; omega)
  have h1 : (s.size : Int).tmod 64 = 0 := by rw [Int.tmod_eq_emod_of_nonneg (by omega)]; omega
  have h2 : (s.size : Int).tdiv 64 = (n : Int) := by rw [Int.tdiv_eq_ediv_of_nonneg (by omega)]; omega
  have h3 : decide (mn < n) = true := by simpa using h
  clear hr hs h
  go_enter Tryz.func133, Tryz.ntmps133
  go_wp2_with fail
  refine HP.out.mono ?_
  rintro e w1 ⟨rfl, rfl⟩
  go_wp2_with fail
  refine HM.out.mono ?_
  rintro e w1 ⟨rfl, rfl⟩
  go_wp2_with fail
  go_ret
  exact ⟨rfl, rfl⟩

set_option maxRecDepth 100000 in
set_option maxHeartbeats 2000000 in
theorem lput_yes (p n : Nat) (s : ByteArray) (w : World) {rb a fr mn : Nat} {P : Nat → Prop} {d : M.D} (h : Disk w a P d) (hr : Reg w rb a fr mn) (hP : ¬ P rb) (hs : s.size = 64 * n) (hn : 1 ≤ n) (hnm : n ≤ mn) (hf : fr ≤ 1000) (hmn : mn ≤ 1000) (hp : p < mn) (ho : d.ops ≤ 100000000) :
    Calls Tryz.prog 133 #[.pointer (some ⟨rb, 0, none⟩), .int .i64 (p : Nat), .string s] w fun e w' =>
      e = .returned (.int .i64 (M.wr (M.lay12 fr mn p n s) d).1) ∧ Disk w' a (M.plus P w.heap.size) (M.wr (M.lay12 fr mn p n s) d).2 ∧ Kept P w w' := by
  have HP := Lib.hid (place_yes p w hr hf hmn hp)
  have HM := Lib.hid (many_any w hr)
  have he : (s.toList == ([] : List UInt8)) = false := by
    rw [← (show (⟨#[]⟩ : ByteArray).toList = [] by rw [ByteArray.toList_eq])]
    exact ne_of_toList (fun e => by rw [e] at hs; have : (0 : Nat) = 64 * n := hs; omega)
  have h1 : (s.size : Int).tmod 64 = 0 := by rw [Int.tmod_eq_emod_of_nonneg (by omega)]; omega
  have h2 : (s.size : Int).tdiv 64 = (n : Int) := by rw [Int.tdiv_eq_ediv_of_nonneg (by omega)]; omega
  have h3 : decide (mn < n) = false := by simp; omega
  obtain ⟨B, hB⟩ : ∃ B, B = w.heap.size := ⟨_, rfl⟩
  have hrb := hr.lt
  have HRO : Hid (∀ (q : Nat) (y : World), q ≤ 2000 → (∃ dk, Disk y a (M.plus P B) dk ∧ Kept P w y) → Calls Tryz.prog 142 #[.pointer (some ⟨rb, 0, none⟩), .int .i64 (q : Nat)] y fun e y' => e = .returned (.int .i64 ((q % mn : Nat) : Int)) ∧ y' = y) :=
    fun q y hq hy => round_any q y (hr.kept hy.choose_spec.2 hP) (by omega) hmn (by omega)
  have HWR : Hid (∀ (q : Nat) (t : ByteArray) (y : World) (dk : M.D), q < mn → t.size = 64 → dk.ops ≤ 1000000000 → (Disk y a (M.plus P B) dk ∧ Kept P w y) → Calls Tryz.prog 53 #[.pointer (some ⟨rb, 0, none⟩), .int .i64 (q : Nat), .string t] y fun e y' =>
      e = .returned (.int .i64 (M.writeE dk ((fr + q : Nat) : Int) t)) ∧ Disk y' a (M.plus P B) (M.writeD dk ((fr + q : Nat) : Int) t) ∧ Kept P w y') := fun q t y dk hq ht hdo ⟨hd, hk⟩ => by
    have hz := hk.size
    have := gwrite_any (q : Nat) t y hd (hr.kept hk hP) (fun e => e.elim hP (fun e => by omega)) (by omega) (by omega) hf hmn hdo
    rw [M.gwrite_one dk fr mn q t hq ht] at this
    exact this.mono fun _ _ ⟨e1, e2, e3⟩ => ⟨e1, e2.mono (fun k _ e => e.elim id (fun e => Or.inr (by omega))), hk.next e3 (fun k hk' e => e.elim id (fun e => by omega))⟩
  have HA0 : Hid (Disk w a (M.plus P B) d ∧ Kept P w w) := ⟨h.mono (fun _ _ e => Or.inl e), Kept.refl _ _⟩
  obtain ⟨L, hL⟩ : ∃ L, L = M.lay12 fr mn p n s := ⟨_, rfl⟩
  have HL : Hid (∀ k, k < n → L[k]? = some (fr + (p + (k + 1) % n) % mn, M.piece s ((k + 1) % n))) := fun k hk => by rw [hL]; exact M.lay12_at hk
  have HLN : Hid (L.length = n) := by rw [hL]; exact M.lay12_len ..
  rw [← hL, ← hB]
  obtain ⟨R, hR⟩ : ∃ R, R = M.wr L d := ⟨_, rfl⟩
  have HF := Lib.hid hR
  have HO : Hid (d.ops ≤ 100000000 ∧ n ≤ mn ∧ mn ≤ 1000 ∧ p < mn ∧ 1 ≤ n ∧ s.size = 64 * n) := ⟨ho, hnm, hmn, hp, hn, hs⟩
  have hn1 : (n : Int) ≤ 1000 := by omega
  have hn0 : (0 : Int) < (n : Int) := by omega
  have hn00 : ((n : Int) == 0) = false := by rw [beq_eq_false_iff_ne]; omega
  have hp1 : (p : Int) ≤ 1000 := by omega
  rw [← hR]
  clear h hr hP hs hn hnm hf hmn hp ho hL hR hB hrb
  go_enter Tryz.func133, Tryz.ntmps133
  go_wp2_with fail
  refine HP.out.mono ?_
  rintro e w1 ⟨rfl, rfl⟩
  go_wp2_with fail
  refine HM.out.mono ?_
  rintro e w1 ⟨rfl, rfl⟩
  clear HP HM
  go_wp2_with fail
  go_loopw [42] (fun j wr => ∃ (k : Nat) (dk : M.D), k ≤ n ∧ j = .int .i64 k ∧ Hid (Disk wr a (M.plus P B) dk ∧ Kept P w1 wr) ∧ Hid (dk.ops = d.ops + k) ∧ Hid (R = M.wr (L.drop k) dk)) (fun j _ => n - (intOf j).toNat)
  case atStart => exact ⟨0, d, Nat.zero_le _, rfl, HA0, rfl, HF.out⟩
  case round =>
    clear HA0 HF he h1 h2 h3
    obtain ⟨k, dk, hk, rfl, HA, HOk, HRk⟩ := hrel
    by_cases hlt : k < n
    · have hk0 : (0 : Int) ≤ (k : Int) := by omega
      have hlt' : (k : Int) < (n : Int) := by omega
      obtain ⟨i, hi⟩ : ∃ i, i = (k + 1) % n := ⟨_, rfl⟩
      have hin : i < n := by rw [hi]; exact Nat.mod_lt _ (by omega)
      have hrm : (1 + (k : Int)).tmod (n : Int) = (i : Int) := by
        rw [show 1 + (k : Int) = ((k + 1 : Nat) : Int) by omega, Int.tmod_eq_emod_of_nonneg (by omega), hi]
        exact (Int.natCast_emod _ _).symm
      obtain ⟨st, hst⟩ : ∃ st, st = 64 * i := ⟨_, rfl⟩
      obtain ⟨en, hen⟩ : ∃ en, en = 64 * i + 64 := ⟨_, rfl⟩
      obtain ⟨pi, hpi⟩ : ∃ pi, pi = p + i := ⟨_, rfl⟩
      have hs64 := HO.out.2.2.2.2.2
      have a1 : (i : Int) * 64 = (st : Int) := by omega
      have a2 : IntKind.i64.wrap ((st : Int) + 64) = (en : Int) := by have := HO.out; rw [IntKind.wrap_i64]; omega
      have a3 : IntKind.i64.wrap ((p : Int) + (i : Int)) = (pi : Int) := by have := HO.out; rw [IntKind.wrap_i64]; omega
      have b1 : (0 : Int) ≤ (st : Int) := by omega
      have b2 : (st : Int) ≤ (en : Int) := by omega
      have b3 : (en : Int) ≤ (s.size : Int) := by omega
      have b4 : (i : Int) ≤ 1000 := by omega
      obtain ⟨q, hq⟩ : ∃ q, q = pi % mn := ⟨_, rfl⟩
      have hqm : q < mn := by rw [hq]; exact Nat.mod_lt _ (by have := HO.out; omega)
      obtain ⟨t, ht⟩ : ∃ t, t = s.extract st en := ⟨_, rfl⟩
      have ht64 : t.size = 64 := by rw [ht, ByteArray.size_extract]; omega
      have ht' := ht.symm
      have hLk : L[k]? = some (fr + q, t) := by rw [HL.out k hlt, hq, hpi, hi, ht, hst, hen, hi]; rfl
      have HRn : Hid (R = M.wr ((fr + q, t) :: L.drop (k + 1)) dk) := by show R = _; rw [← M.drop_at hLk]; exact HRk.out
      have HC1 : Hid (∀ y, Disk y a (M.plus P B) dk ∧ Kept P w1 y → Calls Tryz.prog 142 #[.pointer (some ⟨rb, 0, none⟩), .int .i64 (pi : Nat)] y fun e y' => e = .returned (.int .i64 (q : Nat)) ∧ y' = y) := fun y hy => by
        have := HRO.out pi y (by have := HO.out; omega) ⟨_, hy⟩
        rwa [← hq] at this
      have HC2 : Hid (∀ y, Disk y a (M.plus P B) dk ∧ Kept P w1 y → _) := fun y hy => HWR.out q t y dk hqm ht64 (by have := HO.out; have := HOk.out; omega) hy
      have HAd : Hid (Disk wr.drew a (M.plus P B) dk ∧ Kept P w1 wr.drew) := ⟨HA.out.1.drewN 1, HA.out.2.drew⟩
      have HON : Hid ((M.writeD dk ((fr + q : Nat) : Int) t).ops = d.ops + (k + 1)) := by show (M.writeD dk _ t).ops = _; rw [M.writeD_ops, HOk.out]; omega
      have HKL : Hid (k < n) := hlt
      obtain ⟨E, hEE⟩ : ∃ E, E = M.writeE dk ((fr + q : Nat) : Int) t := ⟨_, rfl⟩
      rw [← hEE] at HC2
      have HRm : Hid ((E = 0 → R = M.wr (L.drop (k + 1)) (M.writeD dk ((fr + q : Nat) : Int) t)) ∧ (E ≠ 0 → R = (E, M.writeD dk ((fr + q : Nat) : Int) t))) := by
        constructor
        · intro e; rw [HRn.out, M.wr, if_pos (by rw [← hEE]; exact e)]
        · intro e; rw [HRn.out, M.wr, if_neg (by rw [← hEE]; exact e), hEE]
      clear hLk hq hi hst hen hpi ht HRk HOk hk hs64 hqm ht64 hin hEE HRn HL hlt
      by_cases hE : E = 0
      · have HRe := Lib.hid (HRm.out.1 hE)
        clear HRm
        subst hE
        go_wp2_with fail
        go_region_held3 (fun _ => True) (first | trivial) (first
          | (go_at_call 142
             refine (HC1.out _ HAd.out).mono ?_
             rintro e w2 ⟨rfl, rfl⟩)
          | (go_at_call 53
             refine (HC2.out _ HAd.out).mono ?_
             rintro e w2 ⟨rfl, h2⟩
             have H2 := Lib.hid h2
             clear h2))
        go_wp2_with fail
        go_roundw
        case rel => exact ⟨k + 1, _, HKL.out, by go_num, H2, HON, HRe.out⟩
        case measure => have := HKL.out; simp [intOf]; omega
      · have hE' : (E == 0) = false := by rw [beq_eq_false_iff_ne]; exact hE
        have HRe := Lib.hid (HRm.out.2 hE)
        clear hE
        go_wp2_with fail
        go_region_held3 (fun _ => True) (first | trivial) (first
          | (go_at_call 142
             refine (HC1.out _ HAd.out).mono ?_
             rintro e w2 ⟨rfl, rfl⟩)
          | (go_at_call 53
             refine (HC2.out _ HAd.out).mono ?_
             rintro e w2 ⟨rfl, h2⟩
             have H2 := Lib.hid h2
             clear h2))
        go_wp2_with fail
        go_ret
        rw [HRe.out]
        exact ⟨rfl, H2.out⟩
    · have e : k = n := by omega
      subst e
      have HRn : Hid (R = (0, dk)) := by
        show R = _
        rw [HRk.out, List.drop_eq_nil_of_le (by rw [HLN.out]; exact Nat.le_refl _), M.wr]
      clear hlt hk HRk HOk HL
      go_wp2_with fail
      go_ret
      rw [HRn.out]
      exact ⟨rfl, HA.out⟩

theorem lput_any (p : Int) (s : ByteArray) (w : World) {rb a fr mn : Nat} {P : Nat → Prop} {d : M.D} (h : Disk w a P d) (hr : Reg w rb a fr mn) (hP : ¬ P rb) (hs : s.size ≤ 1000000) (hf : fr ≤ 1000) (hmn : mn ≤ 1000) (hp : p ≤ 9223372036854775807) (ho : d.ops ≤ 100000000) :
    Calls Tryz.prog 133 #[.pointer (some ⟨rb, 0, none⟩), .int .i64 p, .string s] w fun e w' =>
      e = .returned (.int .i64 (M.lput d fr mn p s).1) ∧ Disk w' a (M.plus P w.heap.size) (M.lput d fr mn p s).2 ∧ Kept P w w' := by
  unfold M.lput
  by_cases h0 : s.size = 0 ∨ s.size % 64 ≠ 0
  · rw [if_pos h0]
    refine (lput_size p s w rb h0).mono ?_
    rintro e w' ⟨rfl, rfl⟩
    exact ⟨rfl, h.mono (fun _ _ e => Or.inl e), Kept.refl _ _⟩
  · rw [if_neg h0]
    obtain ⟨n, hn⟩ : ∃ n, n = s.size / 64 := ⟨_, rfl⟩
    have hsn : s.size = 64 * n := by omega
    rw [← hn]
    by_cases h1 : p < 0 ∨ (mn : Int) ≤ p ∨ mn < n
    · rw [if_pos h1]
      by_cases h2 : p < 0 ∨ (mn : Int) ≤ p
      · refine (lput_place p n s w hr hsn (by omega) (by omega) hp hmn h2).mono ?_
        rintro e w' ⟨rfl, rfl⟩
        exact ⟨rfl, h.mono (fun _ _ e => Or.inl e), Kept.refl _ _⟩
      · obtain ⟨k, rfl⟩ : ∃ k : Nat, p = k := ⟨p.toNat, by omega⟩
        refine (lput_many k n s w hr hsn (by omega) (by omega) hf hmn (by omega) (by omega)).mono ?_
        rintro e w' ⟨rfl, rfl⟩
        exact ⟨rfl, h.mono (fun _ _ e => Or.inl e), Kept.refl _ _⟩
    · rw [if_neg h1]
      obtain ⟨k, rfl⟩ : ∃ k : Nat, p = k := ⟨p.toNat, by omega⟩
      rw [Int.toNat_natCast]
      exact lput_yes k n s w h hr hP hsn (by omega) (by omega) hf hmn (by omega) ho
end Go.Proofs.YtmgchfjfkdkaoaaGreatDoor
namespace Go.Proofs.YtmgchfjfkdkaoaaGreatDoor
open Go.RowKit

theorem M.rdr_two {σ : Type} {X : M.Rdr σ} {fr mn : Nat} (m ah rest : Nat) (d : σ) (p : Nat) (hm : m = ah + rest) (hp : rest = 0 ∨ p + ah = mn) :
    M.rdr X fr mn m d p ⟨#[]⟩ = if (M.rdr X fr mn ah d p ⟨#[]⟩).2.1 = 0 then (if (M.rdr X fr mn rest (M.rdr X fr mn ah d p ⟨#[]⟩).2.2 0 ⟨#[]⟩).2.1 = 0 then ((M.rdr X fr mn ah d p ⟨#[]⟩).1 ++ (M.rdr X fr mn rest (M.rdr X fr mn ah d p ⟨#[]⟩).2.2 0 ⟨#[]⟩).1, 0, (M.rdr X fr mn rest (M.rdr X fr mn ah d p ⟨#[]⟩).2.2 0 ⟨#[]⟩).2.2) else (⟨#[]⟩, (M.rdr X fr mn rest (M.rdr X fr mn ah d p ⟨#[]⟩).2.2 0 ⟨#[]⟩).2)) else (⟨#[]⟩, (M.rdr X fr mn ah d p ⟨#[]⟩).2) := by
  rw [hm, M.rdr_split]
  obtain ⟨x, hx⟩ : ∃ x, x = M.rdr X fr mn ah d p ⟨#[]⟩ := ⟨_, rfl⟩
  have h3 := (M.rdr_acc (X := X) (fr := fr) (mn := mn) ah d p ⟨#[]⟩ ⟨#[]⟩).2.2
  rw [← hx] at h3 ⊢
  by_cases h : x.2.1 = 0
  · rw [if_pos h, if_pos h]
    have e : M.rdr X fr mn rest x.2.2 (p + ah) x.1 = M.rdr X fr mn rest x.2.2 0 x.1 := by
      rcases hp with hp | hp
      · rw [hp]; rfl
      · rw [hp, ← M.rdr_mod, Nat.mod_self]
    rw [e]
    obtain ⟨a1, a2, a3⟩ := M.rdr_acc (X := X) (fr := fr) (mn := mn) rest x.2.2 0 x.1 ⟨#[]⟩
    have hf := M.rdr_front (X := X) (fr := fr) (mn := mn) rest x.2.2 0 x.1
    obtain ⟨y, hy⟩ : ∃ y, y = M.rdr X fr mn rest x.2.2 0 x.1 := ⟨_, rfl⟩
    obtain ⟨z, hz⟩ : ∃ z, z = M.rdr X fr mn rest x.2.2 0 ⟨#[]⟩ := ⟨_, rfl⟩
    rw [← hy, ← hz] at a1 hf
    rw [← hy] at a3
    rw [← hy, ← hz]
    by_cases h2 : z.2.1 = 0
    · rw [if_pos h2, ← hf h2, ← h2, ← a1]
    · rw [if_neg h2, ← a1, ← a3 (by rw [a1]; exact h2)]
  · rw [if_neg h, if_neg h, ← h3 h]

set_option maxRecDepth 100000 in
set_option maxHeartbeats 1000000 in
theorem lread_any (p m : Nat) (w : World) {rb a fr mn : Nat} {P : Nat → Prop} {d : M.D} (h : Disk w a P d) (hr : Reg w rb a fr mn) (hP : ¬ P rb) (hf : fr ≤ 1000) (hmn : mn ≤ 1000) (hp : p < mn) (hm : m ≤ mn) (ho : d.ops ≤ 100000000) :
    Calls Tryz.prog 154 #[.pointer (some ⟨rb, 0, none⟩), .int .i64 (p : Nat), .int .i64 (m : Nat)] w fun e w' =>
      e = .returned (.tuple #[.string (M.rdr M.dR fr mn m d p ⟨#[]⟩).1, .int .i64 (M.rdr M.dR fr mn m d p ⟨#[]⟩).2.1]) ∧ Disk w' a P (M.rdr M.dR fr mn m d p ⟨#[]⟩).2.2 ∧ Kept P w w' := by
  obtain ⟨ah, hah⟩ : ∃ ah, ah = min m (mn - p) := ⟨_, rfl⟩
  have HX := M.rdr_two (X := M.dR) (fr := fr) (mn := mn) m ah (m - ah) d p (by omega) (by omega)
  obtain ⟨rest, hrest⟩ : ∃ rest, rest = m - ah := ⟨_, rfl⟩
  have C1 := gread_any (p : Nat) (ah : Nat) w h hr hP (by omega) hf hmn (by omega)
  rw [M.gread_rdr d fr mn p ah (by omega)] at C1
  have hsz : (M.rdr M.dR fr mn ah d p ⟨#[]⟩).2.1 = 0 → (M.rdr M.dR fr mn ah d p ⟨#[]⟩).1.size = 0 + 64 * ah := fun e => M.rdr_size fr mn ah d p ⟨#[]⟩ h.inv e
  have hop := (M.rdr_keeps fr mn ah d p ⟨#[]⟩).2.2.1
  obtain ⟨R, hR⟩ : ∃ R, R = M.rdr M.dR fr mn m d p ⟨#[]⟩ := ⟨_, rfl⟩
  obtain ⟨x, hx⟩ : ∃ x, x = M.rdr M.dR fr mn ah d p ⟨#[]⟩ := ⟨_, rfl⟩
  rw [← hR, ← hx, ← hrest] at HX
  rw [← hx] at C1 hsz hop
  rw [← hR]
  have HM := Lib.hid (many_any w hr)
  have C2 : Hid (∀ y, Disk y a P x.2.2 → Kept P w y → Calls Tryz.prog 67 #[.pointer (some ⟨rb, 0, none⟩), .int .i64 0, .int .i64 (rest : Nat)] y fun e w' =>
      e = .returned (.tuple #[.string (M.rdr M.dR fr mn rest x.2.2 0 ⟨#[]⟩).1, .int .i64 (M.rdr M.dR fr mn rest x.2.2 0 ⟨#[]⟩).2.1]) ∧ Disk w' a P (M.rdr M.dR fr mn rest x.2.2 0 ⟨#[]⟩).2.2 ∧ Kept P w w') := fun y hd hk => by
    have := gread_any ((0 : Nat) : Int) (rest : Nat) y hd (hr.kept hk hP) hP (by omega) hf hmn (by omega)
    rw [M.gread_rdr x.2.2 fr mn 0 rest (by omega)] at this
    exact this.mono fun _ _ ⟨e1, e2, e3⟩ => ⟨e1, e2, hk.trans e3⟩
  have hsz2 : (M.rdr M.dR fr mn rest x.2.2 0 ⟨#[]⟩).2.1 = 0 → M.Inv x.2.2 → (M.rdr M.dR fr mn rest x.2.2 0 ⟨#[]⟩).1.size = 0 + 64 * rest := fun e hi => M.rdr_size fr mn rest x.2.2 0 ⟨#[]⟩ hi e
  obtain ⟨z, hz⟩ : ∃ z, z = M.rdr M.dR fr mn rest x.2.2 0 ⟨#[]⟩ := ⟨_, rfl⟩
  rw [← hz] at HX C2 hsz2
  obtain ⟨s1, E1, d1⟩ := x
  obtain ⟨s2, E2, d2⟩ := z
  have C1 := Lib.hid C1
  have HX := Lib.hid HX
  have HS1 := Lib.hid hsz
  have HS2 := Lib.hid hsz2
  have HO : Hid (ah ≤ 1000 ∧ rest ≤ 1000) := ⟨by omega, by omega⟩
  have m1 : (m : Int) ≤ 1000 := by omega
  have m2 : (mn : Int) ≤ 1000 := by omega
  have m3 : (p : Int) ≤ (mn : Int) := by omega
  have e1 : (m : Int) - (ah : Int) = (rest : Int) := by omega
  have hmin : (m ≤ mn - p ∧ ah = m) ∨ (mn - p < m ∧ ah = mn - p) := by omega
  obtain ⟨dif, hdif⟩ : ∃ dif, dif = mn - p := ⟨_, rfl⟩
  have e2 : (mn : Int) - (p : Int) = (dif : Int) := by omega
  rw [← hdif] at hmin
  have m4 : (ah : Int) ≤ 1000 := by omega
  have m5 : (dif : Int) ≤ 1000 := by omega
  clear h hr hP hf hmn hp hm ho hah hrest hR hx hz hop hsz hsz2 hdif
  have hE1 : E1 = 0 ∨ (E1 == 0) = false := by
    by_cases h : E1 = 0
    · exact Or.inl h
    · exact Or.inr (by rw [beq_eq_false_iff_ne]; exact h)
  have hE2 : E2 = 0 ∨ (E2 == 0) = false := by
    by_cases h : E2 = 0
    · exact Or.inl h
    · exact Or.inr (by rw [beq_eq_false_iff_ne]; exact h)
  have hmm : (if (dif : Int) < (m : Int) then (dif : Int) else (m : Int)) = (ah : Int) := by split <;> omega
  have hmm' : (if (m : Int) < (dif : Int) then (m : Int) else (dif : Int)) = (ah : Int) := by split <;> omega
  have hmn' : min (m : Int) (dif : Int) = (ah : Int) := by omega
  clear hmin
  rcases hE1 with rfl | hE1
  · rcases hE2 with rfl | hE2
    · have HR : Hid (R = (s1 ++ s2, 0, d2)) := by show R = _; rw [HX.out, if_pos rfl, if_pos rfl]
      have HSa : Hid (s1.size = 0 + 64 * ah) := HS1.out rfl
      have HSb : Hid (M.Inv d1 → s2.size = 0 + 64 * rest) := HS2.out rfl
      clear HX HS1 HS2
      go_enter Tryz.func154, Tryz.ntmps154
      go_wp2_with fail
      refine HM.out.mono ?_
      rintro e w1 ⟨rfl, rfl⟩
      go_wp2_with fail
      refine C1.out.mono ?_
      rintro e w2 ⟨rfl, h2, h3⟩
      have HZ : Hid (s1.size = 64 * ah ∧ s2.size = 64 * rest) := ⟨by have := HSa.out; omega, by have := HSb.out h2.inv; omega⟩
      have C3 := Lib.hid (C2.out w2 h2 h3)
      clear h2 h3 C2 C1
      go_wp2_with fail
      refine C3.out.mono ?_
      rintro e w3 ⟨rfl, h4, h5⟩
      have H4 := Lib.hid h4
      have H5 := Lib.hid h5
      clear h4 h5
      have z1 : (s1.size : Int) ≤ 64000 := by have := HZ.out; have := HO.out; omega
      have z2 : (s2.size : Int) ≤ 64000 := by have := HZ.out; have := HO.out; omega
      go_wp2_with fail
      go_ret2
      rw [HR.out]
      exact ⟨rfl, H4.out, H5.out⟩
    · have HR : Hid (R = (⟨#[]⟩, E2, d2)) := by show R = _; rw [HX.out, if_pos rfl, if_neg (by simpa using hE2)]
      clear HX
      go_enter Tryz.func154, Tryz.ntmps154
      go_wp2_with fail
      refine HM.out.mono ?_
      rintro e w1 ⟨rfl, rfl⟩
      go_wp2_with fail
      refine C1.out.mono ?_
      rintro e w2 ⟨rfl, h2, h3⟩
      have C3 := Lib.hid (C2.out w2 h2 h3)
      clear h2 h3 C2 C1
      go_wp2_with fail
      refine C3.out.mono ?_
      rintro e w3 ⟨rfl, h4, h5⟩
      have H4 := Lib.hid h4
      have H5 := Lib.hid h5
      clear h4 h5
      go_wp2_with fail
      go_ret2
      rw [HR.out]
      exact ⟨rfl, H4.out, H5.out⟩
  · have HR : Hid (R = (⟨#[]⟩, E1, d1)) := by show R = _; rw [HX.out, if_neg (by simpa using hE1)]
    clear HX hE2
    go_enter Tryz.func154, Tryz.ntmps154
    go_wp2_with fail
    refine HM.out.mono ?_
    rintro e w1 ⟨rfl, rfl⟩
    go_wp2_with fail
    refine C1.out.mono ?_
    rintro e w2 ⟨rfl, h2, h3⟩
    have H4 := Lib.hid h2
    have H5 := Lib.hid h3
    clear h2 h3
    go_wp2_with fail
    go_ret2
    rw [HR.out]
    exact ⟨rfl, H4.out, H5.out⟩
end Go.Proofs.YtmgchfjfkdkaoaaGreatDoor
namespace Go.Proofs.YtmgchfjfkdkaoaaGreatDoor
open Go.RowKit

theorem M.mod_at {p i mn : Nat} (hi : i < mn) : (p + i) % mn = if p % mn + i < mn then p % mn + i else p % mn + i - mn := by
  have hp : p % mn < mn := Nat.mod_lt _ (by omega)
  rw [Nat.add_mod, Nat.mod_eq_of_lt hi]
  split
  · exact Nat.mod_eq_of_lt (by assumption)
  · rw [Nat.mod_eq_sub_mod (by omega)]
    exact Nat.mod_eq_of_lt (by omega)
theorem M.mod_inj {p i j mn : Nat} (hi : i < mn) (hj : j < mn) (h : (p + i) % mn = (p + j) % mn) : i = j := by
  have hp : p % mn < mn := Nat.mod_lt _ (by omega)
  rw [M.mod_at hi, M.mod_at hj] at h
  split at h <;> split at h <;> omega
theorem M.seen_fold {k : Nat} {v : ByteArray} {B : List (Nat × ByteArray)} (o : Option ByteArray) (h : ∀ x ∈ B, x.1 = k → x.2 = v) (h2 : (∃ x ∈ B, x.1 = k) ∨ o = some v) : B.foldl (fun o p => if p.1 = k then some p.2 else o) o = some v := by
  induction B generalizing o with
  | nil => rcases h2 with ⟨x, hx, _⟩ | h2
           · cases hx
           · exact h2
  | cons y B ih =>
    rw [List.foldl_cons]
    refine ih _ (fun x hx => h x (List.mem_cons_of_mem _ hx)) ?_
    by_cases e : y.1 = k
    · exact Or.inr (by rw [if_pos e, h y (List.mem_cons_self ..) e])
    · rw [if_neg e]
      rcases h2 with ⟨x, hx, hk⟩ | h2
      · rcases List.mem_cons.1 hx with rfl | hx
        · exact absurd hk e
        · exact Or.inl ⟨x, hx, hk⟩
      · exact Or.inr h2
theorem M.seen_fold_no {k : Nat} {B : List (Nat × ByteArray)} (o : Option ByteArray) (h : ∀ x ∈ B, x.1 ≠ k) : B.foldl (fun o p => if p.1 = k then some p.2 else o) o = o := by
  induction B generalizing o with
  | nil => rfl
  | cons y B ih => rw [List.foldl_cons, if_neg (h y (List.mem_cons_self ..)), ih _ (fun x hx => h x (List.mem_cons_of_mem _ hx))]
theorem M.lay12_mem {fr mn p n : Nat} {s : ByteArray} {x : Nat × ByteArray} (h : x ∈ M.lay12 fr mn p n s) : ∃ i, i < n ∧ x = (fr + (p + i) % mn, M.piece s i) := by
  unfold M.lay12 at h
  obtain ⟨k, hk, e⟩ := List.mem_map.1 h
  have := List.mem_range.1 hk
  exact ⟨(k + 1) % n, Nat.mod_lt _ (by omega), e.symm⟩
theorem M.lay12_has {fr mn p n i : Nat} {s : ByteArray} (hi : i < n) : (fr + (p + i) % mn, M.piece s i) ∈ M.lay12 fr mn p n s := by
  unfold M.lay12
  refine List.mem_map.2 ⟨(i + (n - 1)) % n, List.mem_range.2 (Nat.mod_lt _ (by omega)), ?_⟩
  have e : ((i + (n - 1)) % n + 1) % n = i := by
    rw [Nat.mod_add_mod, show i + (n - 1) + 1 = i + n by omega, Nat.add_mod_right, Nat.mod_eq_of_lt hi]
  rw [e]

/-- What a disk of which no call fails is, for its reader. -/
structure M.Still (d : M.D) (fr mn : Nat) : Prop where
  calm : M.Calm d
  room : fr + mn ≤ d.S.length
  some_ : 0 < mn
theorem M.Still.begin {d : M.D} {fr mn : Nat} (h : M.Still d fr mn) : M.Still (M.beginD d) fr mn := by
  rw [h.calm.D]
  exact ⟨⟨h.calm.dn, h.calm.fails, h.calm.da⟩, h.room, h.some_⟩
theorem M.wr_still {fr mn : Nat} : ∀ (L : List (Nat × ByteArray)) (d : M.D), M.Still d fr mn → (∀ x ∈ L, x.1 < d.S.length ∧ x.2.size = 64) →
    (M.wr L d).1 = 0 ∧ M.Still (M.wr L d).2 fr mn ∧ (M.wr L d).2.S = d.S ∧ (M.wr L d).2.L = d.L ++ L ∧ (M.wr L d).2.ops = d.ops + L.length := by
  intro L
  induction L with
  | nil => intro d h _; exact ⟨rfl, h, rfl, by simp [M.wr], rfl⟩
  | cons p L ih =>
    intro d h hL
    obtain ⟨h1, h2⟩ := hL p (List.mem_cons_self ..)
    have hw : M.wrong d.S.length (p.1 : Int) p.2 = 0 := by
      have hb : M.hasB d.S.length (p.1 : Int) = true := by unfold M.hasB; simp; omega
      unfold M.wrong
      rw [if_pos hb, if_pos h2]
    have he : M.writeE d (p.1 : Int) p.2 = 0 := by rw [h.calm.writeE]; exact hw
    have hd : M.writeD d (p.1 : Int) p.2 = ⟨d.S, d.L ++ [p], d.ops + 1, d.fails, d.da, d.dn⟩ := by
      rw [h.calm.writeD]
      unfold M.writeC
      rw [if_pos hw, Int.toNat_natCast]
    rw [M.wr, if_pos he, hd]
    obtain ⟨i1, i2, i3, i4, i5⟩ := ih ⟨d.S, d.L ++ [p], d.ops + 1, d.fails, d.da, d.dn⟩ ⟨⟨h.calm.dn, h.calm.fails, h.calm.da⟩, h.room, h.some_⟩ (fun x hx => hL x (List.mem_cons_of_mem _ hx))
    refine ⟨i1, i2, i3, ?_, ?_⟩
    · rw [i4]; simp
    · rw [i5]; simp; omega
theorem M.piece_of (s : ByteArray) (n i : Nat) (hs : s.size = 64 * n) (hi : i < n) : (M.piece s i).size = 64 := by
  unfold M.piece
  rw [ByteArray.size_extract]
  omega
/-- What is put is seen, and nothing else is turned. -/
theorem M.put_still {fr mn p n : Nat} {s : ByteArray} {d : M.D} (h : M.Still d fr mn) (hs : s.size = 64 * n) (hn : n ≤ mn) :
    (M.wr (M.lay12 fr mn p n s) d).1 = 0 ∧ M.Still (M.wr (M.lay12 fr mn p n s) d).2 fr mn ∧ (M.wr (M.lay12 fr mn p n s) d).2.S = d.S ∧ (M.wr (M.lay12 fr mn p n s) d).2.ops = d.ops + n
    ∧ (∀ i, i < n → M.seen (M.wr (M.lay12 fr mn p n s) d).2.S (M.wr (M.lay12 fr mn p n s) d).2.L (fr + (p + i) % mn) = M.piece s i)
    ∧ (∀ j, j < mn → n ≤ j → M.seen (M.wr (M.lay12 fr mn p n s) d).2.S (M.wr (M.lay12 fr mn p n s) d).2.L (fr + (p + j) % mn) = M.seen d.S d.L (fr + (p + j) % mn)) := by
  have hm : ∀ k, (p + k) % mn < mn := fun k => Nat.mod_lt _ h.some_
  obtain ⟨h1, h2, h3, h4, h5⟩ := M.wr_still (M.lay12 fr mn p n s) d h (fun x hx => by
    obtain ⟨i, hi, rfl⟩ := M.lay12_mem hx
    exact ⟨by show fr + (p + i) % mn < _; have := hm i; have := h.room; omega, M.piece_of s n i hs hi⟩)
  refine ⟨h1, h2, h3, by rw [h5, M.lay12_len], fun i hi => ?_, fun j hj hnj => ?_⟩
  · rw [h3, h4, M.seen, M.seen0, List.foldl_append, M.seen_fold (v := M.piece s i) _ (fun x hx e => ?_) (Or.inl ⟨_, M.lay12_has hi, rfl⟩)]
    · rfl
    · obtain ⟨k, hk, rfl⟩ := M.lay12_mem hx
      have := M.mod_inj (p := p) (i := k) (j := i) (mn := mn) (by omega) (by omega) (by simp only at e; omega)
      rw [this]
  · rw [h3, h4, M.seen, M.seen0, List.foldl_append, M.seen_fold_no _ (fun x hx e => ?_)]
    · rfl
    · obtain ⟨k, hk, rfl⟩ := M.lay12_mem hx
      have := M.mod_inj (p := p) (i := k) (j := j) (mn := mn) (by omega) hj (by simp only at e; omega)
      omega

/-- Reading a disk of which no call fails. -/
theorem M.rdr_still {fr mn : Nat} (n : Nat) (d : M.D) (p : Nat) (acc : ByteArray) (h : M.Still d fr mn) : (M.rdr M.dR fr mn n d p acc).2.1 = 0 ∧ M.Still (M.rdr M.dR fr mn n d p acc).2.2 fr mn := by
  induction n generalizing d p acc with
  | zero => exact ⟨rfl, h⟩
  | succ n ih =>
    have hk : fr + p % mn < d.S.length := by have := h.room; have : p % mn < mn := Nat.mod_lt _ h.some_; omega
    have he : M.dR.E d ((fr + p % mn : Nat) : Int) = 0 := (h.calm.readE hk).1
    rw [M.rdr, if_pos he]
    exact ih _ _ _ h.begin
theorem M.rdr_text {fr mn n : Nat} {s : ByteArray} : ∀ (m j : Nat) (d : M.D) (p : Nat), j + m = n → M.Still d fr mn → (∀ i, i < n → M.seen d.S d.L (fr + (p + i) % mn) = M.piece s i) →
    (M.rdr M.dR fr mn m d (p + j) (s.extract 0 (64 * j))).1 = s.extract 0 (64 * n) := by
  intro m
  induction m with
  | zero =>
    intro j d p hj _ _
    rw [show n = j by omega]
    rfl
  | succ m ih =>
    intro j d p hj h hT
    have hk : fr + (p + j) % mn < d.S.length := by have := h.room; have : (p + j) % mn < mn := Nat.mod_lt _ h.some_; omega
    have he : M.dR.E d ((fr + (p + j) % mn : Nat) : Int) = 0 := (h.calm.readE hk).1
    have hv : M.dR.S d ((fr + (p + j) % mn : Nat) : Int) = s.extract (64 * j) (64 * j + 64) := ((h.calm.readE hk).2).trans (hT j (by omega))
    rw [M.rdr, if_pos he, hv, M.ex_cut s 0 (64 * j) (64 * j + 64) (by omega) (by omega)]
    have hb : (M.dR.B d).S = d.S ∧ (M.dR.B d).L = d.L := ⟨rfl, rfl⟩
    exact ih (j + 1) (M.dR.B d) p (by omega) h.begin (fun i hi => by rw [hb.1, hb.2]; exact hT i hi)
theorem M.next_still {fr mn : Nat} {d : M.D} {p : Nat} {q : Int} {left : Nat} (h : M.Still d fr mn) : (M.next M.dR fr mn d p q left).1 = 0 ∧ M.Still (M.next M.dR fr mn d p q left).2.2.2 fr mn := by
  unfold M.next
  split
  · exact ⟨rfl, h⟩
  · obtain ⟨h1, h2⟩ := M.rdr_still 1 d p ⟨#[]⟩ h
    unfold M.next2
    rw [if_neg (fun e => e h1)]
    split
    · exact ⟨rfl, h2⟩
    · obtain ⟨h3, h4⟩ := M.rdr_still ((M.szN (M.rdr M.dR fr mn 1 d p ⟨#[]⟩).1 q).toNat - 1) (M.rdr M.dR fr mn 1 d p ⟨#[]⟩).2.2 (p + 1) ⟨#[]⟩ h2
      unfold M.next3
      rw [if_neg (fun e => e h3)]
      split
      · exact ⟨rfl, h4⟩
      · exact ⟨rfl, h4⟩
/-- A record that stands there is the next one. -/
theorem M.next_is {fr mn : Nat} {d : M.D} {p : Nat} {q : Int} {left n : Nat} {a : Nat → Int} {t : Nat → ByteArray} (h : M.Still d fr mn) (hr : M.rE a t q n = 0) (hl : n + 1 ≤ left)
    (hT : ∀ i, i < n + 1 → M.seen d.S d.L (fr + (p + i) % mn) = M.piece (M.rec a t q.toNat n) i) :
    (M.next M.dR fr mn d p q left).2.1 = n + 1 ∧ (M.next M.dR fr mn d p q left).2.2.1 = M.rec a t q.toNat n := by
  have hs : (M.rec a t q.toNat n).size = 64 * (n + 1) := by have := M.rS_size a t hr; rwa [M.rS_yes a t hr] at this
  obtain ⟨z1, z2⟩ := M.size_rec q hr
  have g1 := (M.get_rec q hr).1
  obtain ⟨s, hsd⟩ : ∃ s, s = M.rec a t q.toNat n := ⟨_, rfl⟩
  rw [← hsd] at hs z1 z2 g1 hT ⊢
  obtain ⟨h1, h2⟩ := M.rdr_still 1 d p ⟨#[]⟩ h
  have e0 : s.extract 0 0 = (⟨#[]⟩ : ByteArray) := by apply M.ba_ext; rw [M.ex_list]; rfl
  have f1 : (M.rdr M.dR fr mn 1 d p ⟨#[]⟩).1 = s.extract 0 64 := by
    have hk : fr + p % mn < d.S.length := by have := h.room; have : p % mn < mn := Nat.mod_lt _ h.some_; omega
    have he : M.dR.E d ((fr + p % mn : Nat) : Int) = 0 := (h.calm.readE hk).1
    have hv : M.dR.S d ((fr + p % mn : Nat) : Int) = s.extract 0 64 := ((h.calm.readE hk).2).trans (hT 0 (by omega))
    rw [M.rdr, if_pos he, M.rdr, hv, M.nil_app]
  have hk1 := M.rdr_keeps fr mn 1 d p ⟨#[]⟩
  have hall := M.rdr_text (n := n + 1) (s := s) n 1 (M.rdr M.dR fr mn 1 d p ⟨#[]⟩).2.2 p (by omega) h2 (fun i hi => by rw [hk1.1, hk1.2.1]; exact hT i hi)
  obtain ⟨h3, h4⟩ := M.rdr_still n (M.rdr M.dR fr mn 1 d p ⟨#[]⟩).2.2 (p + 1) ⟨#[]⟩ h2
  rw [M.rdr_front n _ (p + 1) (s.extract 0 (64 * 1)) h3, show s.extract 0 (64 * (n + 1)) = s by rw [← hs]; exact ByteArray.extract_zero_size] at hall
  have hN : (M.szN (s.extract 0 64) q).toNat = n + 1 := by rw [z2]; omega
  have hX : M.next M.dR fr mn d p q left = M.next3 (M.rdr M.dR fr mn n (M.rdr M.dR fr mn 1 d p ⟨#[]⟩).2.2 (p + 1) ⟨#[]⟩) (s.extract 0 64) (n + 1) := by
    rw [M.next, if_neg (by omega), M.next2, if_neg (fun e => e h1), f1, if_neg (fun e => e.elim (fun e => e z1) (fun e => by omega)), hN]
    rfl
  rw [hX, M.next3, if_neg (fun e => e h3), hall, if_neg (fun e => e g1)]
  exact ⟨rfl, rfl⟩
theorem M.scan_still {fr mn p0 : Nat} {q0 : Int} {most : Nat} (k : Nat) (d : M.D) (u : Nat) (l : List M.Rec) (h : M.Still d fr mn) : (M.scan M.dR fr mn p0 q0 most k d u l).1 = 0 ∧ ∃ r, (M.scan M.dR fr mn p0 q0 most k d u l).2.2.2 = l ++ r := by
  induction k generalizing d u l with
  | zero => exact ⟨rfl, [], by simp [M.scan]⟩
  | succ k ih =>
    obtain ⟨h1, h2⟩ := M.next_still (p := (p0 + u) % mn) (q := q0 + (l.length : Nat)) (left := mn - u) h
    rw [M.scan]
    unfold M.scanE
    split
    · exact ⟨h1, [], by simp⟩
    · split
      · obtain ⟨i1, r, i2⟩ := ih (M.next M.dR fr mn d ((p0 + u) % mn) (q0 + (l.length : Nat)) (mn - u)).2.2.2 (u + (M.next M.dR fr mn d ((p0 + u) % mn) (q0 + (l.length : Nat)) (mn - u)).2.1) (l ++ [⟨q0 + (l.length : Nat), (p0 + u) % mn, (M.next M.dR fr mn d ((p0 + u) % mn) (q0 + (l.length : Nat)) (mn - u)).2.2.1⟩]) h2
        exact ⟨i1, _, by rw [i2, List.append_assoc]⟩
      · exact ⟨rfl, _, rfl⟩

section
variable (A : Nat → Nat → Int) (T : Nat → Nat → ByteArray) (N : Nat → Nat)
/-- How many sectors the first so many have. -/
def M.us : Nat → Nat
  | 0 => 0
  | i + 1 => M.us i + (N i + 1)
def M.recs (mn p0 : Nat) (q0 : Int) (m : Nat) : List M.Rec := (List.range m).map fun i => ⟨q0 + (i : Nat), (p0 + M.us N i) % mn, M.rec (A i) (T i) (q0 + (i : Nat)).toNat (N i)⟩
theorem M.recs_len (mn p0 : Nat) (q0 : Int) (m : Nat) : (M.recs A T N mn p0 q0 m).length = m := by simp [M.recs]
theorem M.recs_succ (mn p0 : Nat) (q0 : Int) (m : Nat) : M.recs A T N mn p0 q0 (m + 1) = M.recs A T N mn p0 q0 m ++ [⟨q0 + (m : Nat), (p0 + M.us N m) % mn, M.rec (A m) (T m) (q0 + (m : Nat)).toNat (N m)⟩] := by
  simp [M.recs, List.range_succ]
/-- They stand one behind the other. -/
structure M.Chain (d : M.D) (fr mn p0 : Nat) (q0 : Int) (m : Nat) : Prop where
  ok : ∀ i, i < m → M.rE (A i) (T i) (q0 + (i : Nat)) (N i) = 0
  text : ∀ i, i < m → ∀ j, j < N i + 1 → M.seen d.S d.L (fr + (p0 + M.us N i + j) % mn) = M.piece (M.rec (A i) (T i) (q0 + (i : Nat)).toNat (N i)) j
  room : M.us N m ≤ mn
theorem M.us_mono {i j : Nat} (h : i ≤ j) : M.us N i ≤ M.us N j := by
  induction j with
  | zero => rw [show i = 0 by omega]; exact Nat.le_refl _
  | succ j ih =>
    by_cases e : i = j + 1
    · rw [e]; exact Nat.le_refl _
    · exact Nat.le_trans (ih (by omega)) (by rw [M.us]; omega)
theorem M.us_len (m : Nat) : m ≤ M.us N m := by
  induction m with
  | zero => exact Nat.le_refl _
  | succ m ih => rw [M.us]; omega
variable {A T N}
theorem M.chain_scan {d : M.D} {fr mn p0 : Nat} {q0 : Int} {m : Nat} (hc : M.Chain A T N d fr mn p0 q0 m) (h : M.Still d fr mn) (most : Nat) (hm : mn < most) :
    ∀ i, i ≤ m → ∃ k d', M.scan M.dR fr mn p0 q0 most (mn + 1) d 0 [] = M.scan M.dR fr mn p0 q0 most k d' (M.us N i) (M.recs A T N mn p0 q0 i) ∧ mn - M.us N i < k ∧ M.Still d' fr mn ∧ d'.S = d.S ∧ d'.L = d.L := by
  intro i
  induction i with
  | zero => intro _; exact ⟨mn + 1, d, rfl, by omega, h, rfl, rfl⟩
  | succ i ih =>
    intro hi
    obtain ⟨k, d', e, hk, hs, hS, hL⟩ := ih (by omega)
    have hu : M.us N (i + 1) ≤ mn := Nat.le_trans (M.us_mono N hi) hc.room
    have hu' : M.us N (i + 1) = M.us N i + (N i + 1) := rfl
    have hl := M.us_len N (i + 1)
    obtain ⟨k, rfl⟩ : ∃ k', k = k' + 1 := ⟨k - 1, by omega⟩
    obtain ⟨x1, x2⟩ := M.next_is (p := (p0 + M.us N i) % mn) (q := q0 + (i : Nat)) (left := mn - M.us N i) (n := N i) (a := A i) (t := T i) hs (hc.ok i (by omega)) (by omega) (fun j hj => by rw [Nat.mod_add_mod, hS, hL]; exact hc.text i (by omega) j hj)
    have hns := M.next_still (p := (p0 + M.us N i) % mn) (q := q0 + (i : Nat)) (left := mn - M.us N i) hs
    have hnk := M.next_keeps fr mn d' ((p0 + M.us N i) % mn) (q0 + (i : Nat)) (mn - M.us N i)
    refine ⟨k, (M.next M.dR fr mn d' ((p0 + M.us N i) % mn) (q0 + (i : Nat)) (mn - M.us N i)).2.2.2, ?_, by omega, hns.2, by rw [hnk.1, hS], by rw [hnk.2.1, hL]⟩
    rw [e, M.scan, M.recs_len, M.scanE, if_neg (by rw [hns.1, x1]; simp), M.recs_len, if_pos (by omega), x1, x2, M.recs_succ, hu']
/-- One more is put. -/
theorem M.Chain.put {d : M.D} {fr mn p0 : Nat} {q0 : Int} {m n : Nat} {a : Nat → Int} {t : Nat → ByteArray} (hc : M.Chain A T N d fr mn p0 q0 m) (h : M.Still d fr mn) (hr : M.rE a t (q0 + (m : Nat)) n = 0) (hn : n + 1 ≤ mn - M.us N m) :
    M.Chain (fun i => if i = m then a else A i) (fun i => if i = m then t else T i) (fun i => if i = m then n else N i) (M.wr (M.lay12 fr mn ((p0 + M.us N m) % mn) (n + 1) (M.rec a t (q0 + (m : Nat)).toNat n)) d).2 fr mn p0 q0 (m + 1)
    ∧ M.us (fun i => if i = m then n else N i) (m + 1) = M.us N m + (n + 1) := by
  have hs : (M.rec a t (q0 + (m : Nat)).toNat n).size = 64 * (n + 1) := by have := M.rS_size a t hr; rwa [M.rS_yes a t hr] at this
  have hroom := hc.room
  obtain ⟨p1, p2, p3, p4, p5, p6⟩ := M.put_still (p := (p0 + M.us N m) % mn) h hs (by omega)
  have hus : ∀ i, i ≤ m → M.us (fun i => if i = m then n else N i) i = M.us N i := by
    intro i
    induction i with
    | zero => intro _; rfl
    | succ i ih => intro hi; rw [M.us, M.us, ih (by omega), if_neg (by omega)]
  have hum : M.us (fun i => if i = m then n else N i) (m + 1) = M.us N m + (n + 1) := by rw [M.us, hus m (Nat.le_refl _), if_pos rfl]
  refine ⟨⟨fun i hi => ?_, fun i hi j hj => ?_, by rw [hum]; omega⟩, hum⟩
  · by_cases e : i = m
    · rw [if_pos e, if_pos e, if_pos e, e]; exact hr
    · rw [if_neg e, if_neg e, if_neg e]; exact hc.ok i (by omega)
  · by_cases e : i = m
    · rw [if_pos e] at hj
      rw [if_pos e, if_pos e, if_pos e, hus i (by omega), e, ← p5 j hj, Nat.mod_add_mod]
    · rw [if_neg e] at hj
      rw [if_neg e, if_neg e, if_neg e, hus i (by omega), ← hc.text i (by omega) j hj]
      have hlt : M.us N i + j < M.us N m := by have := M.us_mono N (i := i + 1) (j := m) (by omega); rw [M.us] at this; omega
      have hb := p6 (mn - M.us N m + M.us N i + j) (by omega) (by omega)
      have hx : ((p0 + M.us N m) % mn + (mn - M.us N m + M.us N i + j)) % mn = (p0 + M.us N i + j) % mn := by
        rw [Nat.mod_add_mod, show p0 + M.us N m + (mn - M.us N m + M.us N i + j) = p0 + M.us N i + j + mn by omega, Nat.add_mod_right]
      rw [hx] at hb
      exact hb
end
end Go.Proofs.YtmgchfjfkdkaoaaGreatDoor
