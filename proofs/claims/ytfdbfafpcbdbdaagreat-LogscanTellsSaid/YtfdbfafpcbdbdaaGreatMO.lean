/-
  What is written is read, and no other sector changes: the mathematics of 9.4. No function of the program is walked in this text. append([]T{}, v...): a row is copied into a new one; v an owned row, nil or empty too. No function of the program in this text. The document's disk (solderref08) in memory. Walks over has, may and call. Walks over solderref08's call, may, Read, and over disk.Fail and DownAt. Walks over solderref08's put and Write. Walks over solderref08's Write, Flush, Fail and Restart(nil). Walks over solderref08's Flush, Fail and Restart(nil). Walks over solderref08's Restart(nil) and New. Walk over solderref08.New. Walk over disk.Fail. Walks over solderref08's Fail, and over disk.Fail and disk.DownAt. The disk and the document's disk do the same: the mathematics. No function of the program is walked in this text. The disk and the document's disk side by side in memory: one contract a call over both, what stands beside them (F) kept. The document's parts of a disk (solderref09) in memory. Walks over its New and Read. Walks over solderref09's Split. Walks over solderref09's Write.
-/
import Derived.Test.YtfdbfafpcbdbdaaGreatMG
import Derived.Test.YtfdbfafpcbdbdaaGreatMA
import Derived.Test.YtfdbfafpcbdbdaaGreatMD
import Derived.Test.YtfdbfafpcbdbdaaGreatME
import Derived.Maps.AppendAt
import Derived.Laws.AppendOwnNone
import Derived.OwnWalk
import Derived.Deep.RegionLaw
import Derived.Deep.AppendLies
import Derived.Deep.RegionHeld3
namespace Go.Proofs.YtfdbfafpcbdbdaaGreat
open Go.RowKit

theorem M.ex_all (s : ByteArray) (n : Nat) (h : s.size = n) : s.extract 0 n = s := by
  apply M.ba_ext
  rw [M.ex_list, List.drop_zero, Nat.sub_zero, ← h, ← M.size_list, List.take_length]
theorem M.pad_head (s : ByteArray) : (M.pad s).extract 0 s.size = s := by
  apply M.ba_ext
  rw [M.ex_list, M.pad, M.app_list, List.drop_zero, Nat.sub_zero, ← M.size_list, List.take_left]
theorem M.piece_size (s : ByteArray) (n j : Nat) (h : s.size = 64 * n) (hj : j < n) : (M.piece s j).size = 64 := by
  unfold M.piece
  rw [ByteArray.size_extract]
  omega

theorem M.cut_snoc (n at_ : Nat) (s : ByteArray) : M.cut (n + 1) at_ s = M.cut n at_ s ++ [(at_ + n, M.piece s n)] := by simp [M.cut, List.range_succ]
theorem M.seen_cut (n at_ : Nat) (s : ByteArray) (k : Nat) : M.seen0 (M.cut n at_ s) k = if at_ ≤ k ∧ k < at_ + n then some (M.piece s (k - at_)) else none := by
  induction n with
  | zero => rw [if_neg (by omega)]; rfl
  | succ n ih =>
    rw [M.cut_snoc, M.seen0_snoc, ih]
    by_cases e : at_ + n = k
    · rw [if_pos e, if_pos (by omega), show k - at_ = n by omega]
    · rw [if_neg e]
      by_cases h : at_ ≤ k ∧ k < at_ + n
      · rw [if_pos h, if_pos (by omega)]
      · rw [if_neg h, if_neg (by omega)]
theorem M.cut_mem {n at_ : Nat} {s : ByteArray} {p : Nat × ByteArray} (h : p ∈ M.cut n at_ s) : ∃ j, j < n ∧ p = (at_ + j, M.piece s j) := by
  unfold M.cut at h
  obtain ⟨j, hj, e⟩ := List.mem_map.1 h
  exact ⟨j, List.mem_range.1 hj, e.symm⟩

/-- So much was written to a disk, and nothing else. -/
structure M.Holds (d : M.D) (L : List (Nat × ByteArray)) (o : Nat) : Prop where
  calm : M.Calm d
  S : d.S = List.replicate 12 M.zero
  L : d.L = L
  ops : d.ops = o
theorem M.holds_new : M.Holds (M.new 12) [] 0 := ⟨M.calm_new 12, rfl, rfl, rfl⟩
theorem M.Holds.len {d : M.D} {L : List (Nat × ByteArray)} {o : Nat} (h : M.Holds d L o) : d.S.length = 12 := by rw [h.S, List.length_replicate]
theorem M.Holds.begin {d : M.D} {L : List (Nat × ByteArray)} {o : Nat} (h : M.Holds d L o) : M.Holds (M.beginD d) L (o + 1) := by
  rw [h.calm.D]
  exact ⟨⟨h.calm.dn, h.calm.fails, h.calm.da⟩, h.S, h.L, by show d.ops + 1 = _; rw [h.ops]⟩
theorem M.wr_holds : ∀ (L L0 : List (Nat × ByteArray)) (d : M.D) (o : Nat), M.Holds d L0 o → (∀ p ∈ L, p.1 < 12 ∧ p.2.size = 64) → (M.wr L d).1 = 0 ∧ M.Holds (M.wr L d).2 (L0 ++ L) (o + L.length) := by
  intro L
  induction L with
  | nil => intro L0 d o h _; exact ⟨rfl, by simpa [M.wr] using h⟩
  | cons p L ih =>
    intro L0 d o h hL
    obtain ⟨h1, h2⟩ := hL p (List.mem_cons_self ..)
    have hw : M.wrong d.S.length (p.1 : Int) p.2 = 0 := by
      have hb : M.hasB 12 (p.1 : Int) = true := by unfold M.hasB; simp; omega
      rw [h.len]
      unfold M.wrong
      rw [if_pos hb, if_pos h2]
    have he : M.writeE d (p.1 : Int) p.2 = 0 := by rw [h.calm.writeE]; exact hw
    have hd : M.Holds (M.writeD d (p.1 : Int) p.2) (L0 ++ [p]) (o + 1) := by
      rw [h.calm.writeD]
      unfold M.writeC
      rw [if_pos hw]
      exact ⟨⟨h.calm.dn, h.calm.fails, h.calm.da⟩, h.S, by show d.L ++ [((p.1 : Int).toNat, p.2)] = _; rw [h.L, Int.toNat_natCast], by show d.ops + 1 = _; rw [h.ops]⟩
    rw [M.wr, if_pos he]
    have := ih (L0 ++ [p]) _ (o + 1) hd (fun q hq => hL q (List.mem_cons_of_mem _ hq))
    rw [List.append_assoc] at this
    refine ⟨this.1, ?_⟩
    have h3 := this.2
    rw [show o + 1 + L.length = o + (p :: L).length by simp; omega] at h3
    exact h3
theorem M.rd_holds (s : ByteArray) (n at_ : Nat) (hat : at_ + n ≤ 12) : ∀ (m j : Nat) (d : M.D) (o : Nat), j + m = n → M.Holds d (M.cut n at_ s) o →
    (M.rd m d (at_ + j) (s.extract 0 (64 * j))).1 = s.extract 0 (64 * n) ∧ (M.rd m d (at_ + j) (s.extract 0 (64 * j))).2.1 = 0 ∧ M.Holds (M.rd m d (at_ + j) (s.extract 0 (64 * j))).2.2 (M.cut n at_ s) (o + m) := by
  intro m
  induction m with
  | zero =>
    intro j d o hj h
    have e : j = n := by omega
    subst e
    exact ⟨rfl, rfl, h⟩
  | succ m ih =>
    intro j d o hj h
    obtain ⟨h1, h2⟩ := h.calm.readE (k := at_ + j) (by rw [h.len]; omega)
    have hs : M.seen d.S d.L (at_ + j) = M.piece s j := by
      unfold M.seen
      rw [h.L, M.seen_cut, if_pos (by omega), show at_ + j - at_ = j by omega]
      rfl
    rw [M.rd, if_pos h1, h2, hs, M.piece, M.ex_cut s 0 (64 * j) (64 * j + 64) (by omega) (by omega)]
    have := ih (j + 1) _ (o + 1) (by omega) h.begin
    rw [show 64 * (j + 1) = 64 * j + 64 by omega, show at_ + (j + 1) = at_ + j + 1 by omega] at this
    rw [show o + (m + 1) = o + 1 + m by omega]
    exact this
/-- A sector that is not one of those that were written is all 0. -/
theorem M.Holds.other {d : M.D} {n at_ : Nat} {s : ByteArray} {o : Nat} (h : M.Holds d (M.cut n at_ s) o) {k : Nat} (hk : k < 12) (hn : ¬ (at_ ≤ k ∧ k < at_ + n)) : M.seen d.S d.L k = M.zero := by
  unfold M.seen
  rw [h.L, M.seen_cut, if_neg hn, h.S, Option.getD_none, List.getD_eq_getElem?_getD, List.getElem?_replicate, if_pos hk]
  rfl

/-- What RegionOwn writes and reads. -/
theorem M.own_yes {fr mn a n : Nat} {s : ByteArray} (hfm : fr + mn ≤ 12) (han : a + n ≤ mn) (hs : s.size = 64 * n) :
    (M.gwrite (M.new 12) fr mn (a : Nat) s).1 = 0 ∧ M.Holds (M.gwrite (M.new 12) fr mn (a : Nat) s).2 (M.cut n (fr + a) s) n := by
  have hw : M.within (a : Int) ((n : Nat) : Int) (mn : Nat) = true := by unfold M.within; simp; omega
  have hg : M.gsplit fr mn (a : Nat) s = (M.cut n (fr + a) s, 0) := by
    unfold M.gsplit
    rw [if_pos (by omega), show s.size / 64 = n by omega, if_pos hw, Int.toNat_natCast]
  unfold M.gwrite
  rw [hg, if_pos rfl]
  have := M.wr_holds (M.cut n (fr + a) s) [] (M.new 12) 0 M.holds_new (fun p hp => by
    obtain ⟨j, hj, rfl⟩ := M.cut_mem hp
    exact ⟨by show fr + a + j < 12; omega, M.piece_size s n j hs hj⟩)
  rw [List.nil_append, M.cut_len, Nat.zero_add] at this
  exact this
theorem M.own_no {fr mn n : Nat} {i : Int} {s : ByteArray} (hs : s.size = 64 * n) (hw : M.within i ((n : Nat) : Int) (mn : Nat) = false) : M.gwrite (M.new 12) fr mn i s = (3, M.new 12) := by
  have hg : M.gsplit fr mn i s = ([], 3) := by
    unfold M.gsplit
    rw [if_pos (by omega), show s.size / 64 = n by omega, if_neg (by rw [hw]; simp)]
  unfold M.gwrite
  rw [hg, if_neg (by simp)]
theorem M.own_read {fr mn a n : Nat} {s : ByteArray} {d : M.D} {o : Nat} (hfm : fr + mn ≤ 12) (han : a + n ≤ mn) (hs : s.size = 64 * n) (h : M.Holds d (M.cut n (fr + a) s) o) :
    (M.gread d fr mn (a : Nat) (n : Nat)).1 = s ∧ (M.gread d fr mn (a : Nat) (n : Nat)).2.1 = 0 ∧ M.Holds (M.gread d fr mn (a : Nat) (n : Nat)).2.2 (M.cut n (fr + a) s) (o + n) := by
  have hw : M.within (a : Int) ((n : Nat) : Int) (mn : Nat) = true := by unfold M.within; simp; omega
  unfold M.gread
  rw [if_pos hw, Int.toNat_natCast, Int.toNat_natCast]
  have := M.rd_holds s n (fr + a) (by omega) n 0 d o (by omega) h
  rw [show 64 * 0 = 0 from rfl, show s.extract 0 0 = (⟨#[]⟩ : ByteArray) by apply M.ba_ext; rw [M.ex_list]; rfl, Nat.add_zero, M.ex_all s (64 * n) hs] at this
  exact this
end Go.Proofs.YtfdbfafpcbdbdaaGreat
namespace Go.Proofs.YtfdbfafpcbdbdaaGreat
open Go.RowKit

theorem owns_empty (u : World) (t : TypeId) (z : Nat) : (u.alloc (.cells #[] t)).ownsRow u.heap.size t z (.slice (some ⟨u.heap.size, 0, none⟩) 0 0) 0 [] :=
  ⟨by simp, Or.inr ⟨_, 0, #[], rfl, Nat.le_refl _, heap_alloc_new u _, Nat.le_refl _, Nat.zero_le _, by simp, by simp⟩⟩
theorem owns_mono {w : World} {B B' : Nat} {t : TypeId} {z n : Nat} {v : Value} {xs : List Value} (h : w.ownsRow B t z v n xs) (hB : B' ≤ B) : w.ownsRow B' t z v n xs :=
  ⟨h.1, h.2.imp id (fun ⟨g, cap, cur, e, h1, h2⟩ => ⟨g, cap, cur, e, Nat.le_trans hB h1, h2⟩)⟩

theorem wpList_append_copy {P : Program} {w : World} {ops : Array Oper} {rest : List Oper} {o : Oper} {a : Act} {Q : Exit → Act → World → Prop} (hgd : o.guard = none) (s x : Operand) (t : TypeId)
    (ho : o.op = .call { callee := .builtin .append, args := #[s, x], argTypes := #[t, t] })
    (e : TypeId) (i : TypeInfo) (z : Value) (size bytes : Nat) (ht : P.underlying t = some (.slice e)) (hi : P.info? e = some i) (hz : i.zero = some z)
    (hsize : i.size = size) (hby : i.bytes = bytes) (hzs : z.cells.size = size) (hsz : 0 < size)
    (H : Nat) (hH : w.heap.size = H) (hs : a.eval s = .slice (some ⟨H, 0, none⟩) 0 0) (v : Value) (n : Nat) (xs : List Value) (hx : a.eval x = v) (hown : w.ownsRow 0 e size v n xs) (h1 : ∀ u ∈ xs, u.oneCell' = true)
    (h63 : n ≤ maxLen) (hbytes : n * bytes ≤ 140737488355328)
    (h : ∀ g cap w', w'.ownsRow 0 e size (.slice (some ⟨g, 0, none⟩) n cap) n xs → Kept (fun _ => False) w w' → w.heap.size ≤ g → wpList P ops Q rest (a.put o.dst (.slice (some ⟨g, 0, none⟩) n cap)) w') :
    wpList P ops Q (o :: rest) a (w.alloc (.cells #[] e)) := by
  subst hH
  have he := owns_empty w e size
  have hk0 : Kept (fun _ => False) w (w.alloc (.cells #[] e)) := (Kept.refl _ w).alloc _
  rcases hown.2 with ⟨rfl, rfl⟩ | ⟨g0, c0, cur, rfl, hb0, hg0, hc0, _⟩
  · have hxs : xs = [] := List.eq_nil_of_length_eq_zero (by simpa using hown.1)
    subst hxs
    refine wpList_append_own_none hgd s x t ho w.heap.size e i size ht hi _ 0 [] hs he hx ?_
    exact h _ 0 _ (owns_mono he (Nat.zero_le _)) hk0 (Nat.le_refl _)
  · refine wpList_append_own_at _ hgd s x t ho w.heap.size e i z size bytes ht hi hz hsize hby hzs hsz _ 0 [] hs he ⟨g0, 0, none⟩ n c0 xs hx hown.1 (fun j u hj => ?_) h1 (by omega) (by rw [Nat.zero_add]; exact hbytes) (by rw [World.size_alloc]; omega) ?_
    · have hc := hown.cells (g := g0) rfl j u hj
      rw [blk_add] at hc ⊢
      exact (World.cell?_of_block (Below.heap_alloc w _ _ (lt_of_block hg0))).trans hc
    · intro v' w' ho' hgr hnil hat
      rw [Nat.zero_add, List.nil_append] at ho'
      have hk : Kept (fun _ => False) w w' := hk0.grown hgr (fun k e hk => by
        have : w.heap.size = k := by simpa [Value.ownBlock] using e
        omega)
      rcases ho'.2 with ⟨e1, _⟩ | ⟨g, cap, cur', rfl, hg, _⟩
      · exact absurd (hnil.1 e1).1 (by simp)
      · exact h g cap w' (owns_mono ho' (Nat.zero_le _)) hk hg
end Go.Proofs.YtfdbfafpcbdbdaaGreat
namespace Go.Proofs.YtfdbfafpcbdbdaaGreat
open Go.RowKit

/-- What the document's disk is. -/
structure M.R where
  sure : List ByteArray
  seen : List ByteArray
  wait : List (Nat × ByteArray)
  ops : Nat
  fails : List Int
  at_ : Int
  off : Bool

/-- It lies in block b of w. -/
structure RefAt (w : World) (b : Nat) (SV EV WV FV : Value) (r : M.R) : Prop where
  box : Box w b 44 #[SV, EV, WV, .int .i64 (r.ops : Nat), FV, .int .i64 r.at_, .bool r.off]
  sure : w.ownsRow 0 9 1 SV r.sure.length (r.sure.map Value.string)
  seen : w.ownsRow 0 9 1 EV r.seen.length (r.seen.map Value.string)
  wait : w.ownsRow 0 60 2 WV r.wait.length (M.cells r.wait)
  fails : w.ownsRow 0 3 1 FV r.fails.length (r.fails.map (Value.int .i64))
  len : r.seen.length = r.sure.length
  many : r.sure.length ≤ 1000
  lies : ∀ p ∈ r.wait, p.1 < r.sure.length
  some_ : r.wait.length ≤ r.ops
  few : r.fails.length ≤ 100
  ns : ∀ k, SV.ownBlock = some k → k ≠ b
  ne : ∀ k, EV.ownBlock = some k → k ≠ b
  nw : ∀ k, WV.ownBlock = some k → k ≠ b
  nf : ∀ k, FV.ownBlock = some k → k ≠ b
theorem RefAt.kept {P : Nat → Prop} {w w' : World} {b : Nat} {SV EV WV FV : Value} {r : M.R} (h : RefAt w b SV EV WV FV r) (hk : Kept P w w') (hb : ¬ P b) (h1 : ∀ k, SV.ownBlock = some k → ¬ P k) (h2 : ∀ k, EV.ownBlock = some k → ¬ P k) (h3 : ∀ k, WV.ownBlock = some k → ¬ P k) (h4 : ∀ k, FV.ownBlock = some k → ¬ P k) : RefAt w' b SV EV WV FV r :=
  ⟨hk.box h.box hb, hk.owns h.sure h1, hk.owns h.seen h2, hk.owns h.wait h3, hk.owns h.fails h4, h.len, h.many, h.lies, h.some_, h.few, h.ns, h.ne, h.nw, h.nf⟩
theorem RefAt.drewN {w : World} {b : Nat} {SV EV WV FV : Value} {r : M.R} (h : RefAt w b SV EV WV FV r) (n : Nat) : RefAt (w.drewN n) b SV EV WV FV r :=
  h.kept ((Kept.refl (fun _ => False) w).drewN n) id (fun _ _ => id) (fun _ _ => id) (fun _ _ => id) (fun _ _ => id)
/-- It lies in block b of w; all its blocks are among P. -/
def Ref (w : World) (b : Nat) (P : Nat → Prop) (r : M.R) : Prop :=
  ∃ SV EV WV FV, RefAt w b SV EV WV FV r ∧ P b ∧ (∀ k, SV.ownBlock = some k → P k) ∧ (∀ k, EV.ownBlock = some k → P k) ∧ (∀ k, WV.ownBlock = some k → P k) ∧ ∀ k, FV.ownBlock = some k → P k
theorem Ref.kept {P Q : Nat → Prop} {w w' : World} {b : Nat} {r : M.R} (h : Ref w b P r) (hk : Kept Q w w') (hpq : ∀ k, P k → ¬ Q k) : Ref w' b P r := by
  obtain ⟨SV, EV, WV, FV, h, p0, p1, p2, p3, p4⟩ := h
  exact ⟨SV, EV, WV, FV, h.kept hk (hpq _ p0) (fun k e => hpq _ (p1 k e)) (fun k e => hpq _ (p2 k e)) (fun k e => hpq _ (p3 k e)) (fun k e => hpq _ (p4 k e)), p0, p1, p2, p3, p4⟩
theorem Ref.mono {P Q : Nat → Prop} {w : World} {b : Nat} {r : M.R} (h : Ref w b P r) (hpq : ∀ k, k < w.heap.size → P k → Q k) : Ref w b Q r := by
  obtain ⟨SV, EV, WV, FV, h, p0, p1, p2, p3, p4⟩ := h
  exact ⟨SV, EV, WV, FV, h, hpq _ h.box.lt p0, fun k e => hpq _ (h.sure.lt k e).2 (p1 k e), fun k e => hpq _ (h.seen.lt k e).2 (p2 k e), fun k e => hpq _ (h.wait.lt k e).2 (p3 k e), fun k e => hpq _ (h.fails.lt k e).2 (p4 k e)⟩
theorem RefAt.ref {w : World} {b : Nat} {SV EV WV FV : Value} {r : M.R} (h : RefAt w b SV EV WV FV r) : Ref w b (fun _ => True) r := ⟨SV, EV, WV, FV, h, trivial, fun _ _ => trivial, fun _ _ => trivial, fun _ _ => trivial, fun _ _ => trivial⟩
section
variable {w : World} {b : Nat} {SV EV WV FV : Value} {r : M.R}
theorem RefAt.c0 (h : RefAt w b SV EV WV FV r) : w.cell? ⟨b, 0, none⟩ = some SV := by simpa using h.box.cell 0
theorem RefAt.c1 (h : RefAt w b SV EV WV FV r) : w.cell? ⟨b, 1, none⟩ = some EV := by simpa using h.box.cell 1
theorem RefAt.c2 (h : RefAt w b SV EV WV FV r) : w.cell? ⟨b, 2, none⟩ = some WV := by simpa using h.box.cell 2
theorem RefAt.c3 (h : RefAt w b SV EV WV FV r) : w.cell? ⟨b, 3, none⟩ = some (.int .i64 (r.ops : Nat)) := by simpa using h.box.cell 3
theorem RefAt.c4 (h : RefAt w b SV EV WV FV r) : w.cell? ⟨b, 4, none⟩ = some FV := by simpa using h.box.cell 4
theorem RefAt.c5 (h : RefAt w b SV EV WV FV r) : w.cell? ⟨b, 5, none⟩ = some (.int .i64 r.at_) := by simpa using h.box.cell 5
theorem RefAt.c6 (h : RefAt w b SV EV WV FV r) : w.cell? ⟨b, 6, none⟩ = some (.bool r.off) := by simpa using h.box.cell 6
end

/-- Is a number one of some? -/
theorem rhas_any (zs : List Int) (x : Int) (v : Value) (w : World) (hv : w.ownsRow 0 3 1 v zs.length (zs.map (Value.int .i64))) (hl : zs.length ≤ 1000) :
    Calls Tryz.prog 35 #[v, .int .i64 x] w fun e w' => e = .returned (.bool (decide (x ∈ zs))) ∧ w' = w := by
  obtain ⟨A, c, hA, hc⟩ : ∃ (A : Option Addr) (c : Nat), v = .slice A zs.length c ∧ ∀ j (hj : j < zs.length), ∃ g, A = some ⟨g, 0, none⟩ ∧ w.cell? ⟨g, j, none⟩ = some (.int .i64 (zs[j]'hj)) := by
    rcases owned_ints hv with ⟨e, hz⟩ | ⟨g, cap, e, _, _, _, h3, _⟩
    · refine ⟨none, 0, by rw [e, hz]; rfl, fun j hj => ?_⟩
      rw [hz] at hj
      simp at hj
    · refine ⟨_, cap, e, fun j hj => ⟨g, rfl, ?_⟩⟩
      have := h3 j hj
      rw [Nat.zero_add] at this
      rw [this]
      simp [hj]
  subst hA
  have HC := Lib.hid hc
  clear hv hc
  obtain ⟨n, hn⟩ : ∃ n, n = zs.length := ⟨_, rfl⟩
  rw [← hn] at hl ⊢
  have HN := Lib.hid hn
  obtain ⟨o, ho⟩ : ∃ o : Bool, o = decide (x ∈ zs) := ⟨_, rfl⟩
  rw [← ho]
  have HO := Lib.hid ho
  clear hn ho
  go_enter Tryz.func35, Tryz.ntmps35
  go_wp2_with fail
  go_loopw [5] (fun i wr => wr = w ∧ ∃ k : Nat, k ≤ n ∧ i = .int .i64 k ∧ ∀ j (hj : j < zs.length), j < k → zs[j]'hj ≠ x) (fun i _ => n - (intOf i).toNat)
  case atStart => exact ⟨rfl, 0, Nat.zero_le _, rfl, fun j _ h => absurd h (by omega)⟩
  case round =>
    obtain ⟨rfl, k, hk, rfl, hne⟩ := hrel
    have HNE := Lib.hid hne
    clear hne
    by_cases hlt : k < n
    · have hlt' : (k : Int) < (n : Int) := by omega
      have hk0 : (0 : Int) ≤ (k : Int) := by omega
      have hkz : k < zs.length := by have := HN.out; omega
      obtain ⟨g, rfl, hcell⟩ := HC.out k hkz
      by_cases he : zs[k]'hkz = x
      · have hm : x ∈ zs := by rw [← he]; exact List.getElem_mem hkz
        rw [he] at hcell
        have hxx : (x == x) = true := by simp
        have HM : Hid (o = true) := by show o = true; rw [HO.out]; simpa using hm
        clear he hm
        go_wp2_with fail
        go_ret
        exact ⟨by rw [HM.out]; rfl, rfl⟩
      · obtain ⟨y, hy⟩ : ∃ y, y = zs[k]'hkz := ⟨_, rfl⟩
        rw [← hy] at hcell he
        have hyx : (y == x) = false := by rw [beq_eq_false_iff_ne]; exact he
        have HY := Lib.hid hy
        have HE := Lib.hid he
        clear hy he
        go_wp2_with fail
        go_roundw
        case rel =>
          refine ⟨trivial, k + 1, by omega, by go_num, fun j hj hjk => ?_⟩
          by_cases e : j = k
          · subst e
            rw [← HY.out]
            exact HE.out
          · exact HNE.out j hj (by omega)
        case measure => simp [intOf]; omega
    · have HM : Hid (o = false) := by
        rw [HO.out]
        show decide (x ∈ zs) = false
        rw [decide_eq_false_iff_not]
        intro hm
        obtain ⟨j, hj, e⟩ := List.mem_iff_getElem.1 hm
        exact HNE.out j hj (by have := HN.out; omega) e
      have hlt' : ¬ (k : Int) < (n : Int) := by omega
      clear hlt
      go_wp2_with fail
      go_ret
      exact ⟨by rw [HM.out]; rfl, rfl⟩
end Go.Proofs.YtfdbfafpcbdbdaaGreat
namespace Go.Proofs.YtfdbfafpcbdbdaaGreat
open Go.RowKit

/-- What a call comes to ahead of what it does, and whether the disk goes down at it. -/
def M.callE (r : M.R) : Int := if r.off = true then 31 else if r.at_ = (r.ops + 1 : Nat) then 31 else if ((r.ops + 1 : Nat) : Int) ∈ r.fails then 30 else 0
def M.callL (r : M.R) : Bool := !r.off && decide (r.at_ = (r.ops + 1 : Nat))
def M.callR (r : M.R) : M.R := { r with ops := r.ops + 1, off := r.off || decide (r.at_ = (r.ops + 1 : Nat)) }

theorem RefAt.poke {w : World} {b : Nat} {SV EV WV FV : Value} {r r' : M.R} (h : RefAt w b SV EV WV FV r) {i : Nat} {u : Value} (h1 : r'.sure = r.sure) (h2 : r'.seen = r.seen) (h3 : r'.wait = r.wait) (h4 : r'.fails = r.fails) (ho : r.ops ≤ r'.ops)
    (hb : (#[SV, EV, WV, .int .i64 (r.ops : Nat), FV, .int .i64 r.at_, .bool r.off] : Array Value).setIfInBounds i u = #[SV, EV, WV, .int .i64 (r'.ops : Nat), FV, .int .i64 r'.at_, .bool r'.off]) : RefAt (w.setCell ⟨b, i, none⟩ u) b SV EV WV FV r' := by
  have hk : Kept (fun k => k = b) w (w.setCell ⟨b, i, none⟩ u) := Kept.set' (P := fun k => k = b) rfl i u
  refine ⟨?_, ?_, ?_, ?_, ?_, by rw [h1, h2]; exact h.len, by rw [h1]; exact h.many, by rw [h1, h3]; exact h.lies, by rw [h3]; exact Nat.le_trans h.some_ ho, by rw [h4]; exact h.few, h.ns, h.ne, h.nw, h.nf⟩
  · rw [← hb]
    exact h.box.set i u
  · rw [h1]
    exact hk.owns h.sure h.ns
  · rw [h2]
    exact hk.owns h.seen h.ne
  · rw [h3]
    exact hk.owns h.wait h.nw
  · rw [h4]
    exact hk.owns h.fails h.nf
theorem RefAt.counted {w : World} {b : Nat} {SV EV WV FV : Value} {r : M.R} (h : RefAt w b SV EV WV FV r) (n : Nat) (hn : n = r.ops + 1) : RefAt (w.setCell ⟨b, 3, none⟩ (.int .i64 (n : Nat))) b SV EV WV FV { r with ops := n } :=
  h.poke rfl rfl rfl rfl (by subst hn; exact Nat.le_succ _) rfl
theorem RefAt.downed {w : World} {b : Nat} {SV EV WV FV : Value} {r : M.R} (h : RefAt w b SV EV WV FV r) : RefAt (w.setCell ⟨b, 6, none⟩ (.bool true)) b SV EV WV FV { r with off := true } :=
  h.poke rfl rfl rfl rfl (Nat.le_refl _) rfl

set_option maxHeartbeats 1000000 in
theorem rcall_at (w : World) {b : Nat} {SV EV WV FV : Value} {r : M.R} (h : RefAt w b SV EV WV FV r) (ho : r.ops ≤ 1099511627776) :
    Calls Tryz.prog 77 #[.pointer (some ⟨b, 0, none⟩)] w fun e w' => e = .returned (.tuple #[.int .i64 (M.callE r), .bool (M.callL r)]) ∧ RefAt w' b SV EV WV FV (M.callR r) ∧ Kept (fun k => k = b) w w' := by
  obtain ⟨FA, fc, rfl, _⟩ := owns_shape h.fails
  have c3 := h.c3
  have f3 := h.box.frozen 3
  obtain ⟨n, hn⟩ : ∃ n, n = r.ops + 1 := ⟨_, rfl⟩
  have hni : (r.ops : Int) + 1 = (n : Int) := by omega
  have hn63 : (n : Int) ≤ 9223372036854775807 := by omega
  have hnw : wrap64 (n : Int) = (n : Int) := by unfold wrap64; omega
  have hc := h.counted n hn
  have HE : Hid (M.callE r = if r.off = true then 31 else if r.at_ = (n : Nat) then 31 else if (n : Int) ∈ r.fails then 30 else 0) := by rw [hn]; exact rfl
  have HL : Hid (M.callL r = (!r.off && decide (r.at_ = (n : Nat)))) := by rw [hn]; exact rfl
  have HR : Hid (M.callR r = { r with ops := n, off := r.off || decide (r.at_ = (n : Nat)) }) := by rw [hn]; exact rfl
  rw [HE.out, HL.out, HR.out]
  have HK1 : Hid (Kept (fun k => k = b) w (w.setCell ⟨b, 3, none⟩ (.int .i64 (n : Nat)))) := Kept.set' (P := fun k => k = b) rfl 3 _
  have hfl := h.few
  have c6s := hc.c6
  simp only at c6s
  clear HE HL HR hn h ho
  obtain ⟨w0, hw0⟩ : ∃ x, x = w.setCell ⟨b, 3, none⟩ (.int .i64 (n : Nat)) := ⟨_, rfl⟩
  rw [← hw0] at hc HK1
  have d3 := hc.c3
  have d4 := hc.c4
  have d5 := hc.c5
  have d6 := hc.c6
  have g6 := hc.box.frozen 6
  simp only at d3 d4 d5 d6
  have HH : Hid (∀ q m, Calls Tryz.prog 35 #[.slice FA r.fails.length fc, .int .i64 (n : Int)] ((w0.drewN q).drewN m) fun e w' => e = .returned (.bool (decide ((n : Int) ∈ r.fails))) ∧ w' = (w0.drewN q).drewN m) :=
    fun q m => rhas_any r.fails n _ _ ((hc.drewN q).drewN m).fails (by omega)
  have HA := Lib.hid hc
  have HW0 := Lib.hid hw0
  clear hw0 hc hfl
  cases hoff : r.off with
  | true =>
    rw [if_pos rfl, Bool.true_or, Bool.not_true, Bool.false_and]
    rw [hoff] at d6 c6s
    have HO := Lib.hid hoff
    clear hoff
    go_enter Tryz.func77, Tryz.ntmps77
    go_wp2_with fail
    rw [← HW0.out]
    go_ret2
    exact ⟨rfl, by have := HA.out; rw [HO.out] at this; exact this, HK1.out⟩
  | false =>
    rw [if_neg (by simp), Bool.false_or, Bool.not_false, Bool.true_and]
    rw [hoff] at d6 c6s
    have HO := Lib.hid hoff
    clear hoff
    by_cases hda : r.at_ = (n : Int)
    · rw [if_pos hda, decide_eq_true hda]
      have HDA := Lib.hid hda
      rw [hda] at d5
      have HX : Hid (∀ m, RefAt ((w0.drewN m).setCell ⟨b, 6, none⟩ (.bool true)) b SV EV WV (.slice FA r.fails.length fc) { r with ops := n, off := true } ∧ Kept (fun k => k = b) w ((w0.drewN m).setCell ⟨b, 6, none⟩ (.bool true))) :=
        fun m => ⟨(HA.out.drewN m).downed, (HK1.out.drewN m).trans (Kept.set' (P := fun k => k = b) rfl 6 _)⟩
      clear hda
      go_enter Tryz.func77, Tryz.ntmps77
      go_wp2_with fail
      rw [← HW0.out]
      go_quiet (fail)
      go_wp2_with fail
      go_ret2
      exact ⟨rfl, (HX.out _).1, (HX.out _).2⟩
    · rw [if_neg hda, decide_eq_false hda]
      have hdb : (r.at_ == (n : Int)) = false := by rw [beq_eq_false_iff_ne]; exact hda
      have HAA : Hid (RefAt w0 b SV EV WV (.slice FA r.fails.length fc) { r with ops := n, off := false }) := by have := HA.out; rw [HO.out] at this; exact this
      clear hda
      by_cases hff : (n : Int) ∈ r.fails
      · rw [if_pos hff]
        rw [decide_eq_true hff] at HH
        clear hff
        go_enter Tryz.func77, Tryz.ntmps77
        go_wp2_with fail
        rw [← HW0.out]
        go_quiet (fail)
        go_wp2_with fail
        obtain ⟨x, hx⟩ : ∃ x, x = w0.drewN nq := ⟨_, rfl⟩
        have e3 : x.cell? ⟨b, 3, none⟩ = some (.int .i64 (n : Nat)) := by rw [hx]; exact d3
        have e4 : x.cell? ⟨b, 4, none⟩ = some (.slice FA r.fails.length fc) := by rw [hx]; exact d4
        have HHx := Lib.hid (HH.out nq)
        rw [← hx] at HHx
        have HXA : Hid (∀ m, RefAt (x.drewN m) b SV EV WV (.slice FA r.fails.length fc) { r with ops := n, off := false }) := by rw [hx]; exact fun m => (HAA.out.drewN nq).drewN m
        have HXK : Hid (∀ m, Kept (fun k => k = b) w (x.drewN m)) := by rw [hx]; exact fun m => (HK1.out.drewN nq).drewN m
        rw [← hx]
        clear hx d3 d4 d5 d6 g6 HH HAA HK1
        go_quiet ((go_at_call 35; exact quiet_same (HHx.out _)))
        go_wp2_with fail
        go_ret2
        exact ⟨rfl, HXA.out _, HXK.out _⟩
      · rw [if_neg hff]
        rw [decide_eq_false hff] at HH
        clear hff
        go_enter Tryz.func77, Tryz.ntmps77
        go_wp2_with fail
        rw [← HW0.out]
        go_quiet (fail)
        go_wp2_with fail
        obtain ⟨x, hx⟩ : ∃ x, x = w0.drewN nq := ⟨_, rfl⟩
        have e3 : x.cell? ⟨b, 3, none⟩ = some (.int .i64 (n : Nat)) := by rw [hx]; exact d3
        have e4 : x.cell? ⟨b, 4, none⟩ = some (.slice FA r.fails.length fc) := by rw [hx]; exact d4
        have HHx := Lib.hid (HH.out nq)
        rw [← hx] at HHx
        have HXA : Hid (∀ m, RefAt (x.drewN m) b SV EV WV (.slice FA r.fails.length fc) { r with ops := n, off := false }) := by rw [hx]; exact fun m => (HAA.out.drewN nq).drewN m
        have HXK : Hid (∀ m, Kept (fun k => k = b) w (x.drewN m)) := by rw [hx]; exact fun m => (HK1.out.drewN nq).drewN m
        rw [← hx]
        clear hx d3 d4 d5 d6 g6 HH HAA HK1
        go_quiet ((go_at_call 35; exact quiet_same (HHx.out _)))
        go_wp2_with fail
        go_ret2
        exact ⟨rfl, HXA.out _, HXK.out _⟩

theorem rmay_at (i : Int) (s : ByteArray) (w : World) {b : Nat} {SV EV WV FV : Value} {r : M.R} (h : RefAt w b SV EV WV FV r) :
    Calls Tryz.prog 78 #[.pointer (some ⟨b, 0, none⟩), .int .i64 i, .string s] w fun e w' => e = .returned (.int .i64 (M.wrong r.seen.length i s)) ∧ w' = w := by
  obtain ⟨EA, ec, rfl, _⟩ := owns_shape h.seen
  have c1 := h.c1
  have hmany := h.many
  have hlen := h.len
  clear h
  obtain ⟨n, hn⟩ : ∃ n, n = r.seen.length := ⟨_, rfl⟩
  rw [← hn] at c1 ⊢
  clear hn hlen hmany
  unfold M.wrong M.hasB
  by_cases h0 : i < 0
  · have e : (decide (0 ≤ i) && decide (i < (n : Int))) = false := by simp; omega
    have hd : decide (i < 0) = true := by simpa using h0
    rw [e, if_neg (by simp)]
    clear e h0
    go_enter Tryz.func78, Tryz.ntmps78
    go_wp2_with fail
    go_ret
    exact ⟨rfl, rfl⟩
  · have hd : decide (i < 0) = false := by simpa using h0
    by_cases h1 : i < (n : Int)
    · have e : (decide (0 ≤ i) && decide (i < (n : Int))) = true := by simp; omega
      have hd1 : decide ((n : Int) ≤ i) = false := by simp; omega
      rw [e, if_pos rfl]
      clear e h0 h1
      by_cases h64 : s.size = 64
      · rw [if_pos h64]
        go_enter Tryz.func78, Tryz.ntmps78
        go_wp2_with fail
        go_ret
        exact ⟨rfl, rfl⟩
      · rw [if_neg h64]
        have h64' : ((s.size : Int) == 64) = false := by rw [beq_eq_false_iff_ne]; omega
        clear h64
        go_enter Tryz.func78, Tryz.ntmps78
        go_wp2_with fail
        go_ret
        exact ⟨rfl, rfl⟩
    · have e : (decide (0 ≤ i) && decide (i < (n : Int))) = false := by simp; omega
      have hd1 : decide ((n : Int) ≤ i) = true := by simp; omega
      rw [e, if_neg (by simp)]
      clear e h0 h1
      go_enter Tryz.func78, Tryz.ntmps78
      go_wp2_with fail
      go_ret
      exact ⟨rfl, rfl⟩

/-- What a read of the document's disk comes to. -/
def M.rreadE (r : M.R) (i : Int) : Int := if M.callE r = 0 then (if M.hasB r.seen.length i = true then 0 else 3) else M.callE r
def M.rreadS (r : M.R) (i : Int) : ByteArray := if M.callE r = 0 then (if M.hasB r.seen.length i = true then r.seen.getD i.toNat ByteArray.empty else ⟨#[]⟩) else ⟨#[]⟩
/-- The cells of an owned row of texts. -/
theorem owned_strs {w : World} {B g n cap : Nat} {L : List ByteArray} (h : w.ownsRow B 9 1 (.slice (some ⟨g, 0, none⟩) n cap) n (L.map Value.string)) {j : Nat} {s : ByteArray} (hj : L[j]? = some s) : w.cell? ⟨g, j, none⟩ = some (.string s) := by
  have := h.cells (g := g) rfl j (.string s) (by simp [hj])
  rwa [blk_add] at this

set_option maxHeartbeats 1000000 in
theorem rread_at (i : Int) (w : World) {b : Nat} {SV EV WV FV : Value} {r : M.R} (h : RefAt w b SV EV WV FV r) (ho : r.ops ≤ 1099511627776) :
    Calls Tryz.prog 57 #[.pointer (some ⟨b, 0, none⟩), .int .i64 i] w fun e w' => e = .returned (.tuple #[.string (M.rreadS r i), .int .i64 (M.rreadE r i)]) ∧ RefAt w' b SV EV WV FV (M.callR r) ∧ Kept (fun k => k = b) w w' := by
  have HC := Lib.hid (rcall_at w h ho)
  obtain ⟨EA, ec, hEA, _⟩ := owns_shape h.seen
  obtain ⟨n, hn⟩ : ∃ n, n = r.seen.length := ⟨_, rfl⟩
  have HV : Hid (∀ y, RefAt y b SV EV WV FV (M.callR r) → y.cell? ⟨b, 1, none⟩ = some (.slice EA n ec)) := fun y hy => by rw [hn, ← hEA]; exact hy.c1
  have HX : Hid (∀ y, RefAt y b SV EV WV FV (M.callR r) → ∀ k s, r.seen[k]? = some s → ∃ g, EA = some ⟨g, 0, none⟩ ∧ y.cell? ⟨g, k, none⟩ = some (.string s)) := fun y hy k s hk => by
    have hs : y.ownsRow 0 9 1 EV r.seen.length (r.seen.map Value.string) := hy.seen
    have hkl := (List.getElem?_eq_some_iff.1 hk).1
    rcases hs.2 with ⟨_, e⟩ | ⟨g, cap, cur, e, _⟩
    · omega
    · refine ⟨g, ?_, ?_⟩
      · rw [hEA] at e
        injection e with e
      · rw [e] at hs
        exact owned_strs hs hk
  unfold M.rreadS M.rreadE
  rw [← hn]
  have hmany : n ≤ 1000 := by rw [hn, h.len]; exact h.many
  by_cases hE : M.callE r = 0
  · rw [if_pos hE, if_pos hE]
    rw [hE] at HC
    clear hE
    unfold M.hasB
    by_cases h0 : i < 0
    · have e : (decide (0 ≤ i) && decide (i < (n : Int))) = false := by simp; omega
      have hd : decide (i < 0) = true := by simpa using h0
      rw [e, if_neg (by simp), if_neg (by simp)]
      clear e h0 h hn hEA
      go_enter Tryz.func57, Tryz.ntmps57
      go_wp2_with fail
      refine HC.out.mono ?_
      rintro e w1 ⟨rfl, hA, hk⟩
      have HA := Lib.hid hA
      have HK := Lib.hid hk
      clear hA hk
      go_wp2_with fail
      go_ret2
      exact ⟨rfl, HA.out, HK.out⟩
    · have hd : decide (i < 0) = false := by simpa using h0
      by_cases h1 : i < (n : Int)
      · have e : (decide (0 ≤ i) && decide (i < (n : Int))) = true := by simp; omega
        have hd1 : decide ((n : Int) ≤ i) = false := by simp; omega
        rw [e, if_pos rfl, if_pos rfl]
        obtain ⟨k, rfl⟩ : ∃ k : Nat, i = k := ⟨i.toNat, by omega⟩
        rw [Int.toNat_natCast]
        have hkn : k < r.seen.length := by omega
        have hg : r.seen.getD k ByteArray.empty = r.seen[k]'hkn := by simp [hkn]
        rw [hg]
        have hk? : r.seen[k]? = some (r.seen[k]'hkn) := List.getElem?_eq_getElem hkn
        obtain ⟨s, hs⟩ : ∃ s, s = r.seen[k]'hkn := ⟨_, rfl⟩
        rw [← hs] at hk? ⊢
        have HK? := Lib.hid hk?
        have hk0 : (0 : Int) ≤ (k : Int) := by omega
        clear e h0 h hn hEA hg hs hk? hkn
        go_enter Tryz.func57, Tryz.ntmps57
        go_wp2_with fail
        refine HC.out.mono ?_
        rintro e w1 ⟨rfl, hA, hk⟩
        have x1 := HV.out w1 hA
        obtain ⟨g, rfl, x2⟩ := HX.out w1 hA k s HK?.out
        have HA := Lib.hid hA
        have HK := Lib.hid hk
        clear hA hk HV HX HC
        go_wp2_with fail
        go_ret2
        exact ⟨rfl, HA.out, HK.out⟩
      · have e : (decide (0 ≤ i) && decide (i < (n : Int))) = false := by simp; omega
        have hd1 : decide ((n : Int) ≤ i) = true := by simp; omega
        rw [e, if_neg (by simp), if_neg (by simp)]
        clear e h0 h1 h hn hEA
        go_enter Tryz.func57, Tryz.ntmps57
        go_wp2_with fail
        refine HC.out.mono ?_
        rintro e w1 ⟨rfl, hA, hk⟩
        have x1 := HV.out w1 hA
        have HA := Lib.hid hA
        have HK := Lib.hid hk
        clear hA hk
        go_wp2_with fail
        go_ret2
        exact ⟨rfl, HA.out, HK.out⟩
  · rw [if_neg hE, if_neg hE]
    obtain ⟨E, hEE⟩ : ∃ E, E = M.callE r := ⟨_, rfl⟩
    rw [← hEE] at HC hE ⊢
    have hE' : (E == 0) = false := by rw [beq_eq_false_iff_ne]; exact hE
    clear hEE h hn hEA
    go_enter Tryz.func57, Tryz.ntmps57
    go_wp2_with fail
    refine HC.out.mono ?_
    rintro e w1 ⟨rfl, hA, hk⟩
    have HA := Lib.hid hA
    have HK := Lib.hid hk
    clear hA hk
    go_wp2_with fail
    go_ret2
    exact ⟨rfl, HA.out, HK.out⟩
end Go.Proofs.YtfdbfafpcbdbdaaGreat
namespace Go.Proofs.YtfdbfafpcbdbdaaGreat
open Go.RowKit

/-- One of an owned row is written. -/
theorem owns_set {w : World} {B g n cap : Nat} {t : TypeId} {xs : List Value} (h : w.ownsRow B t 1 (.slice (some ⟨g, 0, none⟩) n cap) n xs) (j : Nat) (u : Value) :
    (w.setCell ⟨g, j, none⟩ u).ownsRow B t 1 (.slice (some ⟨g, 0, none⟩) n cap) n (xs.set j u) ∧ w.frozen? ⟨g, j, none⟩ = false := by
  rcases h.2 with ⟨e, _⟩ | ⟨g', cap', cur, e, h1, h2, h3, h4, h5, h6⟩
  · cases e
  · injection e with e1 e2 e3
    injection e1 with e1
    injection e1 with e1
    subst e1
    subst e3
    have hB : Box w g t cur := h2
    refine ⟨⟨by rw [List.length_set]; exact h.1, Or.inr ⟨g, cap, cur.setIfInBounds j u, rfl, h1, hB.set j u, h3, h4, by simpa using h5, ?_⟩⟩, hB.frozen j⟩
    rw [← h6, Array.toList_setIfInBounds, ← List.take_set]
theorem RefAt.seen1 {w : World} {b g c : Nat} {SV EV WV FV : Value} {r : M.R} {L : List ByteArray} (h : RefAt w b SV EV WV FV r) (ho : w.ownsRow 0 9 1 (.slice (some ⟨g, 0, none⟩) L.length c) L.length (L.map Value.string)) (hl : L.length = r.sure.length) (hg : g ≠ b) :
    RefAt (w.setCell ⟨b, 1, none⟩ (.slice (some ⟨g, 0, none⟩) L.length c)) b SV (.slice (some ⟨g, 0, none⟩) L.length c) WV FV { r with seen := L } := by
  have hk : Kept (fun k => k = b) w (w.setCell ⟨b, 1, none⟩ (.slice (some ⟨g, 0, none⟩) L.length c)) := Kept.set' (P := fun k => k = b) rfl 1 _
  have hne : ∀ k, (Value.slice (some ⟨g, 0, none⟩) L.length c).ownBlock = some k → k ≠ b := fun k e => by
    have : g = k := by simpa [Value.ownBlock] using e
    rw [← this]; exact hg
  exact ⟨by simpa using h.box.set 1 (.slice (some ⟨g, 0, none⟩) L.length c), hk.owns h.sure h.ns, hk.owns ho hne, hk.owns h.wait h.nw, hk.owns h.fails h.nf, hl, h.many, h.lies, h.some_, h.few, h.ns, hne, h.nw, h.nf⟩
theorem RefAt.sure1 {w : World} {b g c : Nat} {SV EV WV FV : Value} {r : M.R} {L : List ByteArray} (h : RefAt w b SV EV WV FV r) (ho : w.ownsRow 0 9 1 (.slice (some ⟨g, 0, none⟩) L.length c) L.length (L.map Value.string)) (hl : L.length = r.sure.length) (hg : g ≠ b) :
    RefAt (w.setCell ⟨b, 0, none⟩ (.slice (some ⟨g, 0, none⟩) L.length c)) b (.slice (some ⟨g, 0, none⟩) L.length c) EV WV FV { r with sure := L } := by
  have hk : Kept (fun k => k = b) w (w.setCell ⟨b, 0, none⟩ (.slice (some ⟨g, 0, none⟩) L.length c)) := Kept.set' (P := fun k => k = b) rfl 0 _
  have hne : ∀ k, (Value.slice (some ⟨g, 0, none⟩) L.length c).ownBlock = some k → k ≠ b := fun k e => by
    have : g = k := by simpa [Value.ownBlock] using e
    rw [← this]; exact hg
  exact ⟨by simpa using h.box.set 0 (.slice (some ⟨g, 0, none⟩) L.length c), hk.owns ho hne, hk.owns h.seen h.ne, hk.owns h.wait h.nw, hk.owns h.fails h.nf, by show r.seen.length = L.length; rw [hl]; exact h.len, by show L.length ≤ 1000; rw [hl]; exact h.many, fun p hp => by show p.1 < L.length; rw [hl]; exact h.lies p hp, h.some_, h.few, hne, h.ne, h.nw, h.nf⟩
theorem RefAt.wait1 {w : World} {b : Nat} {SV EV WV WV' FV : Value} {r : M.R} {L : List (Nat × ByteArray)} (h : RefAt w b SV EV WV FV r) (ho : w.ownsRow 0 60 2 WV' L.length (M.cells L)) (hl : ∀ p ∈ L, p.1 < r.sure.length) (hn : L.length ≤ r.ops) (hg : ∀ k, WV'.ownBlock = some k → k ≠ b) :
    RefAt (w.setCell ⟨b, 2, none⟩ WV') b SV EV WV' FV { r with wait := L } := by
  have hk : Kept (fun k => k = b) w (w.setCell ⟨b, 2, none⟩ WV') := Kept.set' (P := fun k => k = b) rfl 2 _
  exact ⟨by simpa using h.box.set 2 WV', hk.owns h.sure h.ns, hk.owns h.seen h.ne, hk.owns ho hg, hk.owns h.fails h.nf, h.len, h.many, hl, hn, h.few, h.ns, h.ne, hg, h.nf⟩
theorem RefAt.fails1 {w : World} {b : Nat} {SV EV WV FV FV' : Value} {r : M.R} {L : List Int} (h : RefAt w b SV EV WV FV r) (ho : w.ownsRow 0 3 1 FV' L.length (L.map (Value.int .i64))) (hn : L.length ≤ 100) (hg : ∀ k, FV'.ownBlock = some k → k ≠ b) :
    RefAt (w.setCell ⟨b, 4, none⟩ FV') b SV EV WV FV' { r with fails := L } := by
  have hk : Kept (fun k => k = b) w (w.setCell ⟨b, 4, none⟩ FV') := Kept.set' (P := fun k => k = b) rfl 4 _
  exact ⟨by simpa using h.box.set 4 FV', hk.owns h.sure h.ns, hk.owns h.seen h.ne, hk.owns h.wait h.nw, hk.owns ho hg, h.len, h.many, h.lies, h.some_, hn, h.ns, h.ne, h.nw, hg⟩
theorem RefAt.write1 {w : World} {b g n c k : Nat} {SV WV FV : Value} {r : M.R} (h : RefAt w b SV (.slice (some ⟨g, 0, none⟩) n c) WV FV r) (hn : n = r.seen.length) (s : ByteArray) (h1 : SV.ownBlock ≠ some g) (h2 : WV.ownBlock ≠ some g) (h3 : FV.ownBlock ≠ some g) :
    RefAt (w.setCell ⟨g, k, none⟩ (.string s)) b SV (.slice (some ⟨g, 0, none⟩) n c) WV FV { r with seen := r.seen.set k s } ∧ w.frozen? ⟨g, k, none⟩ = false ∧ Kept (fun j => j = g) w (w.setCell ⟨g, k, none⟩ (.string s)) := by
  have hkk : Kept (fun j => j = g) w (w.setCell ⟨g, k, none⟩ (.string s)) := Kept.set' (P := fun j => j = g) rfl k _
  have hs := h.seen
  rw [← hn] at hs
  have ho := owns_set hs k (.string s)
  have hb := h.ne g rfl
  rw [← List.map_set] at ho
  refine ⟨⟨hkk.box h.box (Ne.symm hb), hkk.owns h.sure (fun j e e' => h1 (by rw [← e']; exact e)), ?_, hkk.owns h.wait (fun j e e' => h2 (by rw [← e']; exact e)), hkk.owns h.fails (fun j e e' => h3 (by rw [← e']; exact e)), by show (r.seen.set k s).length = _; rw [List.length_set]; exact h.len, h.many, h.lies, h.some_, h.few, h.ns, h.ne, h.nw, h.nf⟩, ho.2, hkk⟩
  show World.ownsRow _ _ _ _ _ (r.seen.set k s).length ((r.seen.set k s).map Value.string)
  rw [List.length_set, ← hn]
  exact ho.1

/-- What put needs to know once the texts are copied. -/
theorem RefAt.copied {w w1 : World} {b g c k n : Nat} {SV EV WV FV : Value} {r : M.R} (h : RefAt w b SV EV WV FV r) (hk : k < r.seen.length) (hn : n = r.seen.length) (s : ByteArray) (ho : w1.ownsRow 0 9 1 (.slice (some ⟨g, 0, none⟩) n c) n (r.seen.map Value.string)) (hk1 : Kept (fun _ => False) w w1) (hg : w.heap.size ≤ g) :
    w1.cell? ⟨b, 1, none⟩ = some EV ∧ w1.frozen? ⟨b, 1, none⟩ = false ∧ (w1.setCell ⟨b, 1, none⟩ (.slice (some ⟨g, 0, none⟩) n c)).cell? ⟨b, 1, none⟩ = some (.slice (some ⟨g, 0, none⟩) n c) ∧
      (∃ old, (w1.setCell ⟨b, 1, none⟩ (.slice (some ⟨g, 0, none⟩) n c)).cell? ⟨g, k, none⟩ = some (.string old)) ∧ (w1.setCell ⟨b, 1, none⟩ (.slice (some ⟨g, 0, none⟩) n c)).frozen? ⟨g, k, none⟩ = false ∧
      ((w1.setCell ⟨b, 1, none⟩ (.slice (some ⟨g, 0, none⟩) n c)).setCell ⟨g, k, none⟩ (.string s)).cell? ⟨b, 2, none⟩ = some WV ∧
      (((w1.setCell ⟨b, 1, none⟩ (.slice (some ⟨g, 0, none⟩) n c)).setCell ⟨g, k, none⟩ (.string s)).alloc (.cells #[] 60)).cell? ⟨b, 2, none⟩ = some WV ∧
      Hid (RefAt ((w1.setCell ⟨b, 1, none⟩ (.slice (some ⟨g, 0, none⟩) n c)).setCell ⟨g, k, none⟩ (.string s)) b SV (.slice (some ⟨g, 0, none⟩) n c) WV FV { r with seen := r.seen.set k s } ∧
        Kept (fun j => j = b) w ((w1.setCell ⟨b, 1, none⟩ (.slice (some ⟨g, 0, none⟩) n c)).setCell ⟨g, k, none⟩ (.string s))) := by
  subst hn
  have hbl := h.box.lt
  have hh := h.kept hk1 (fun e => e) (fun _ _ e => e) (fun _ _ e => e) (fun _ _ e => e) (fun _ _ e => e)
  have h1 := hh.seen1 ho h.len (by omega)
  have hkk : Kept (fun j => j = b) w1 (w1.setCell ⟨b, 1, none⟩ (.slice (some ⟨g, 0, none⟩) r.seen.length c)) := Kept.set' (P := fun j => j = b) rfl 1 _
  have hno : ∀ (V : Value), (∀ j, V.ownBlock = some j → j < w.heap.size) → V.ownBlock ≠ some g := fun V hV e => by have := hV g e; omega
  have h2 := h1.write1 (k := k) rfl s (hno SV (fun j e => (h.sure.lt j e).2)) (hno WV (fun j e => (h.wait.lt j e).2)) (hno FV (fun j e => (h.fails.lt j e).2))
  refine ⟨hh.c1, hh.box.frozen 1, h1.c1, ⟨_, owned_strs h1.seen (List.getElem?_eq_getElem hk)⟩, h2.2.1, h2.1.c2, (World.cell?_of_block (Below.heap_alloc _ _ _ h2.1.box.lt)).trans h2.1.c2, h2.1, ?_⟩
  exact ((hk1.mono (fun _ _ e => e.elim)).trans hkk).next h2.2.2 (fun j hj e => by omega)

set_option maxRecDepth 100000 in
set_option maxHeartbeats 1000000 in
theorem rput_at (k : Nat) (s : ByteArray) (w : World) {b : Nat} {SV EV WV FV : Value} {r : M.R} (h : RefAt w b SV EV WV FV r) (hk : k < r.seen.length) (hw : r.wait.length < r.ops) (hops : r.ops ≤ 1099511627777) :
    Calls Tryz.prog 79 #[.pointer (some ⟨b, 0, none⟩), .int .i64 k, .string s] w fun e w' => e = .returned (.tuple #[]) ∧
      ∃ EV' WV', RefAt w' b SV EV' WV' FV { r with seen := r.seen.set k s, wait := r.wait ++ [(k, s)] } ∧ (∀ g, EV'.ownBlock = some g → w.heap.size ≤ g) ∧ (∀ g, WV'.ownBlock = some g → w.heap.size ≤ g) ∧ Kept (fun j => j = b) w w' := by
  obtain ⟨i0, hi, hz0, hz1, hz2⟩ := info_parts infoS
  obtain ⟨i1, hj, hy0, hy1, hy2⟩ := info_parts infoSec
  obtain ⟨EA, ec, rfl, _⟩ := owns_shape h.seen
  obtain ⟨WA, wc, rfl, _⟩ := owns_shape h.wait
  have hmany := h.many
  have hlen := h.len
  have hbl := h.box.lt
  have c1 := h.c1
  have f1 := h.box.frozen 1
  obtain ⟨n, hn⟩ : ∃ n, n = r.seen.length := ⟨_, rfl⟩
  obtain ⟨m, hm⟩ : ∃ m, m = r.wait.length := ⟨_, rfl⟩
  obtain ⟨xs, hxs⟩ : ∃ xs, xs = r.seen.map Value.string := ⟨_, rfl⟩
  obtain ⟨ys, hys⟩ : ∃ ys, ys = M.cells r.wait := ⟨_, rfl⟩
  have HSeen : Hid (w.ownsRow 0 9 1 (.slice EA n ec) n xs) := by rw [hn, hxs]; exact h.seen
  have HOne : Hid (∀ u ∈ xs, u.oneCell' = true) := by
    rw [hxs]
    intro u hu
    obtain ⟨q, _, rfl⟩ := List.mem_map.1 hu
    rfl
  have HOne2 : Hid (∀ u ∈ ys, u.oneCell' = true) := by
    rw [hys]
    have : ∀ L : List (Nat × ByteArray), ∀ u ∈ M.cells L, u.oneCell' = true := by
      intro L
      induction L with
      | nil => intro u hu; cases hu
      | cons p L ih =>
        intro u hu
        rw [M.cells] at hu
        rcases List.mem_cons.1 hu with rfl | hu
        · rfl
        · rcases List.mem_cons.1 hu with rfl | hu
          · rfl
          · exact ih u hu
    exact this _
  have HN : Hid (n ≤ maxLen ∧ n * 16 ≤ 140737488355328 ∧ m ≤ maxLen ∧ m * 24 ≤ 140737488355328 ∧ m + 1 ≤ maxLen ∧ (m + 1) * 24 ≤ 140737488355328) := by refine ⟨?_, ?_, ?_, ?_, ?_, ?_⟩ <;> (try unfold maxLen) <;> omega
  have HL1 : Hid (∀ w1 g c, w1.ownsRow 0 9 1 (.slice (some ⟨g, 0, none⟩) n c) n xs → Kept (fun _ => False) w w1 → w.heap.size ≤ g → w1.cell? ⟨b, 1, none⟩ = some (.slice EA n ec) ∧ w1.frozen? ⟨b, 1, none⟩ = false ∧ (w1.setCell ⟨b, 1, none⟩ (.slice (some ⟨g, 0, none⟩) n c)).cell? ⟨b, 1, none⟩ = some (.slice (some ⟨g, 0, none⟩) n c) ∧
      (∃ old, (w1.setCell ⟨b, 1, none⟩ (.slice (some ⟨g, 0, none⟩) n c)).cell? ⟨g, k, none⟩ = some (.string old)) ∧ (w1.setCell ⟨b, 1, none⟩ (.slice (some ⟨g, 0, none⟩) n c)).frozen? ⟨g, k, none⟩ = false ∧
      ((w1.setCell ⟨b, 1, none⟩ (.slice (some ⟨g, 0, none⟩) n c)).setCell ⟨g, k, none⟩ (.string s)).cell? ⟨b, 2, none⟩ = some (.slice WA m wc) ∧
      (((w1.setCell ⟨b, 1, none⟩ (.slice (some ⟨g, 0, none⟩) n c)).setCell ⟨g, k, none⟩ (.string s)).alloc (.cells #[] 60)).cell? ⟨b, 2, none⟩ = some (.slice WA m wc) ∧
      Hid (RefAt ((w1.setCell ⟨b, 1, none⟩ (.slice (some ⟨g, 0, none⟩) n c)).setCell ⟨g, k, none⟩ (.string s)) b SV (.slice (some ⟨g, 0, none⟩) n c) (.slice WA m wc) FV { r with seen := r.seen.set k s } ∧
        Kept (fun j => j = b) w ((w1.setCell ⟨b, 1, none⟩ (.slice (some ⟨g, 0, none⟩) n c)).setCell ⟨g, k, none⟩ (.string s)))) := by
    rw [hxs, hm]
    intro w1 g c h1 h2 h3
    have := h.copied hk hn s h1 h2 h3
    rwa [← hn] at this
  have HL2 : Hid (∀ (y w3 w4 : World) (g1 c1 g3 c3 g4 c4 : Nat), RefAt y b SV (.slice (some ⟨g1, 0, none⟩) n c1) (.slice WA m wc) FV { r with seen := r.seen.set k s } → Kept (fun j => j = b) w y → Kept (fun _ => False) y w3 → y.heap.size ≤ g3 → (w3.alloc (.cells #[.int .i64 (k : Nat), .string s] 60)).grownBy w4 (some g3) → (some g3 = some g4 ∨ g4 = w3.heap.size + 1) →
      w4.ownsRow 0 60 2 (.slice (some ⟨g4, 0, none⟩) (m + 1) c4) (m + 1) (ys ++ [.int .i64 (k : Nat), .string s]) → w4.cell? ⟨b, 2, none⟩ = some (.slice WA m wc) ∧ w4.frozen? ⟨b, 2, none⟩ = false ∧
        Hid (RefAt (w4.setCell ⟨b, 2, none⟩ (.slice (some ⟨g4, 0, none⟩) (m + 1) c4)) b SV (.slice (some ⟨g1, 0, none⟩) n c1) (.slice (some ⟨g4, 0, none⟩) (m + 1) c4) FV { r with seen := r.seen.set k s, wait := r.wait ++ [(k, s)] } ∧ w.heap.size ≤ g4 ∧ Kept (fun j => j = b) w (w4.setCell ⟨b, 2, none⟩ (.slice (some ⟨g4, 0, none⟩) (m + 1) c4)))) := by
    intro y w3 w4 g1 c1 g3 c3 g4 c4 hy hky hk3 hg3 hgr hat ho4
    have hz := hky.size
    have hz3 := hk3.size
    have hby := hy.box.lt
    have hg4 : y.heap.size ≤ g4 := hat.elim (fun e => by injection e with e; omega) (fun e => by omega)
    have hk4 : Kept (fun _ => False) y w4 := (hk3.alloc _).grown hgr (fun j e hj => by injection e with e; omega)
    have hh := hy.kept hk4 (fun e => e) (fun _ _ e => e) (fun _ _ e => e) (fun _ _ e => e) (fun _ _ e => e)
    have hll : (r.wait ++ [(k, s)]).length = m + 1 := by rw [hm]; simp
    have ho4' : w4.ownsRow 0 60 2 (.slice (some ⟨g4, 0, none⟩) (m + 1) c4) (r.wait ++ [(k, s)]).length (M.cells (r.wait ++ [(k, s)])) := by
      rw [hll, M.cells_snoc, ← hys]
      exact ho4
    have hx := hh.wait1 ho4' (fun p hp => by
      rcases List.mem_append.1 hp with hp | hp
      · exact h.lies p hp
      · rw [List.mem_singleton.1 hp]; show k < r.sure.length; omega) (by rw [hll]; show m + 1 ≤ r.ops; omega) (fun j e => by
      have : g4 = j := by simpa [Value.ownBlock] using e
      omega)
    exact ⟨hh.c2, hh.box.frozen 2, hx, by omega, (hky.next hk4 (fun _ _ e => e.elim)).trans (Kept.set' (P := fun j => j = b) rfl 2 _)⟩
  have HY : Hid (∀ y g1 c1, RefAt y b SV (.slice (some ⟨g1, 0, none⟩) n c1) (.slice WA m wc) FV { r with seen := r.seen.set k s } → y.ownsRow 0 60 2 (.slice WA m wc) m ys) := fun y g1 c1 hy => by
    have := hy.wait
    rw [hys, hm]
    rw [hm] at this
    exact this
  have hk0 : (0 : Int) ≤ (k : Int) := by omega
  have hkn : (k : Int) < (n : Int) := by omega
  rw [← hn] at c1
  clear h hk hw hops hmany hlen hn hm hxs hys
  go_enter Tryz.func79, Tryz.ntmps79
  go_wp2_with (first
    | (at_builtin
       refine wpList_append_copy rfl _ _ 41 rfl 9 i0 (.string ⟨#[]⟩) 1 16 Tryz.underlying41 hi hz0 hz1 hz2 rfl (by decide) w.heap.size rfl rfl (.slice EA n ec) n xs rfl HSeen.out HOne.out HN.out.1 HN.out.2.1 ?_
       intro g1 k1 w1 ho1 hk1 hg1
       obtain ⟨p1, p2, p3, ⟨old, p4⟩, p5, p6, p7, HX1⟩ := HL1.out w1 g1 k1 ho1 hk1 hg1
       have HG1 := Lib.hid hg1
       clear ho1 hk1 hg1 HL1 HSeen c1 f1)
    | (at_builtin
       refine wpList_append_lies _ rfl _ _ 31 rfl 0 60 i1 (.agg #[.int .i64 0, .string ⟨#[]⟩]) 2 24 Tryz.underlying31 hj hy0 hy1 hy2 rfl (by decide) _ _ _ rfl (HW3.out.alloc _) ⟨w3.heap.size, 0, none⟩ 1 1 [.int .i64 (k : Nat), .string s] rfl rfl (cell2_new _ _ _ _) (fun x hx => by simp at hx; rcases hx with rfl | rfl <;> rfl) (by omega) HN.out.2.2.2.2.1 HN.out.2.2.2.2.2 (Nat.zero_le _) _ rfl ?_
       intro g4 k4 w4 ho4 hgr4 hat4 _
       obtain ⟨q1, q2, HX4⟩ := HL2.out _ w3 w4 g1 k1 g3 k3 g4 k4 HX1.out.1 HX1.out.2 HK3.out HG3.out hgr4 (hat4.imp id (fun e => by rw [e, World.size_alloc])) ho4
       clear ho4 hgr4 hat4 HL2 HW3)
    | (at_builtin
       refine wpList_append_copy rfl _ _ 31 rfl 60 i1 (.agg #[.int .i64 0, .string ⟨#[]⟩]) 2 24 Tryz.underlying31 hj hy0 hy1 hy2 rfl (by decide) w1.heap.size (by simp [World.setCell]) rfl (.slice WA m wc) m ys rfl (HY.out _ _ _ HX1.out.1) HOne2.out HN.out.2.2.1 HN.out.2.2.2.1 ?_
       intro g3 k3 w3 ho3 hk3 hg3
       have HW3 := Lib.hid ho3
       have HK3 := Lib.hid hk3
       have HG3 := Lib.hid hg3
       clear ho3 hk3 hg3))
  go_end0
  exact ⟨rfl, _, _, HX4.out.1, fun g e => (by have : g1 = g := (by simpa [Value.ownBlock] using e); rw [← this]; exact HG1.out), fun g e => (by have : g4 = g := (by simpa [Value.ownBlock] using e); rw [← this]; exact HX4.out.2.1), HX4.out.2.2⟩
end Go.Proofs.YtfdbfafpcbdbdaaGreat
namespace Go.Proofs.YtfdbfafpcbdbdaaGreat
open Go.RowKit

/-- Is a write laid? -/
def M.rlays (r : M.R) (i : Int) (s : ByteArray) : Bool := decide (M.wrong r.seen.length i s = 0) && (decide (M.callE r = 0) || M.callL r)
def M.rwriteR (r : M.R) (i : Int) (s : ByteArray) : M.R := if M.rlays r i s = true then { M.callR r with seen := r.seen.set i.toNat s, wait := r.wait ++ [(i.toNat, s)] } else M.callR r
def M.rwriteE (r : M.R) (i : Int) (s : ByteArray) : Int := M.or2 (M.callE r) (M.wrong r.seen.length i s)
theorem M.rbegins (r : M.R) : (M.callE r = 31 ∧ M.callL r = false) ∨ (M.callE r = 31 ∧ M.callL r = true) ∨ (M.callE r = 30 ∧ M.callL r = false) ∨ (M.callE r = 0 ∧ M.callL r = false) := by
  unfold M.callE M.callL
  cases h : r.off with
  | true => exact Or.inl ⟨rfl, rfl⟩
  | false =>
    by_cases h1 : r.at_ = (r.ops + 1 : Nat)
    · exact Or.inr (Or.inl ⟨by simp [h1], by simp [h1]⟩)
    · by_cases h2 : ((r.ops + 1 : Nat) : Int) ∈ r.fails
      · exact Or.inr (Or.inr (Or.inl ⟨by rw [if_neg (by simp), if_neg h1, if_pos h2], by simpa using h1⟩))
      · exact Or.inr (Or.inr (Or.inr ⟨by rw [if_neg (by simp), if_neg h1, if_neg h2], by simpa using h1⟩))

set_option maxHeartbeats 1000000 in
theorem rwrite_no (i : Int) (s : ByteArray) (w : World) {b : Nat} {SV EV WV FV : Value} {r : M.R} (h : RefAt w b SV EV WV FV r) (ho : r.ops ≤ 1099511627776) (hno : M.rlays r i s = false) :
    Calls Tryz.prog 55 #[.pointer (some ⟨b, 0, none⟩), .int .i64 i, .string s] w fun e w' => e = .returned (.int .i64 (M.rwriteE r i s)) ∧ RefAt w' b SV EV WV FV (M.callR r) ∧ Kept (fun k => k = b) w w' := by
  have HC := Lib.hid (rcall_at w h ho)
  have HM : Hid (∀ y, RefAt y b SV EV WV FV (M.callR r) → Calls Tryz.prog 78 #[.pointer (some ⟨b, 0, none⟩), .int .i64 i, .string s] y fun e w' => e = .returned (.int .i64 (M.wrong r.seen.length i s)) ∧ w' = y) := fun y hy => rmay_at (r := M.callR r) i s y hy
  have hbs := M.rbegins r
  unfold M.rwriteE M.or2
  unfold M.rlays at hno
  obtain ⟨F, hF⟩ : ∃ F, F = M.wrong r.seen.length i s := ⟨_, rfl⟩
  rw [← hF] at HM hno ⊢
  clear hF h ho
  rcases hbs with ⟨h1, h2⟩ | ⟨h1, h2⟩ | ⟨h1, h2⟩ | ⟨h1, h2⟩
  all_goals
    rw [h1, h2] at HC hno
    rw [h1]
    have hw : (F = 0) ∨ ((F == 0) = false) := by
      by_cases h : F = 0
      · exact Or.inl h
      · exact Or.inr (by rw [beq_eq_false_iff_ne]; exact h)
    clear h1 h2
    rcases hw with rfl | hw
    all_goals first | (exfalso; simp at hno; done) | skip
  all_goals
    clear hno
    go_enter Tryz.func55, Tryz.ntmps55
    go_wp2_with fail
    refine HC.out.mono ?_
    rintro e w1 ⟨rfl, hA, hk⟩
    have HA := Lib.hid hA
    have HK := Lib.hid hk
    clear hA hk HC
    go_wp2_with fail
    refine (HM.out _ HA.out).mono ?_
    rintro e w2 ⟨rfl, rfl⟩
    go_wp2_with fail
    go_ret
    exact ⟨rfl, HA.out, HK.out⟩

set_option maxHeartbeats 1000000 in
theorem rwrite_yes (k : Nat) (s : ByteArray) (w : World) {b : Nat} {SV EV WV FV : Value} {r : M.R} (h : RefAt w b SV EV WV FV r) (ho : r.ops ≤ 1099511627776) (hyes : M.rlays r k s = true) (hk : k < r.seen.length) :
    Calls Tryz.prog 55 #[.pointer (some ⟨b, 0, none⟩), .int .i64 k, .string s] w fun e w' => e = .returned (.int .i64 (M.rwriteE r k s)) ∧
      ∃ EV' WV', RefAt w' b SV EV' WV' FV { M.callR r with seen := r.seen.set k s, wait := r.wait ++ [(k, s)] } ∧ (∀ g, EV'.ownBlock = some g → w.heap.size ≤ g) ∧ (∀ g, WV'.ownBlock = some g → w.heap.size ≤ g) ∧ Kept (fun k => k = b) w w' := by
  have HC := Lib.hid (rcall_at w h ho)
  have hso := h.some_
  have HM : Hid (∀ y, RefAt y b SV EV WV FV (M.callR r) → Calls Tryz.prog 78 #[.pointer (some ⟨b, 0, none⟩), .int .i64 k, .string s] y fun e w' => e = .returned (.int .i64 (M.wrong r.seen.length k s)) ∧ w' = y) := fun y hy => rmay_at (r := M.callR r) k s y hy
  have HP : Hid (∀ y, RefAt y b SV EV WV FV (M.callR r) → Calls Tryz.prog 79 #[.pointer (some ⟨b, 0, none⟩), .int .i64 k, .string s] y fun e w' => e = .returned (.tuple #[]) ∧
      ∃ EV' WV', RefAt w' b SV EV' WV' FV { M.callR r with seen := r.seen.set k s, wait := r.wait ++ [(k, s)] } ∧ (∀ g, EV'.ownBlock = some g → y.heap.size ≤ g) ∧ (∀ g, WV'.ownBlock = some g → y.heap.size ≤ g) ∧ Kept (fun j => j = b) y w') :=
    fun y hy => rput_at k s y hy hk (by show r.wait.length < r.ops + 1; omega) (by show r.ops + 1 ≤ _; omega)
  have hbs := M.rbegins r
  unfold M.rwriteE M.or2
  unfold M.rlays at hyes
  obtain ⟨F, hF⟩ : ∃ F, F = M.wrong r.seen.length k s := ⟨_, rfl⟩
  rw [← hF] at HM hyes ⊢
  clear hF h ho hk hso
  rcases hbs with ⟨h1, h2⟩ | ⟨h1, h2⟩ | ⟨h1, h2⟩ | ⟨h1, h2⟩
  all_goals
    rw [h1, h2] at HC hyes
    rw [h1]
    clear h1 h2
    all_goals first | (exfalso; simp at hyes; done) | skip
  all_goals
    have hw : F = 0 := by simpa using hyes
    clear hyes
    subst hw
    go_enter Tryz.func55, Tryz.ntmps55
    go_wp2_with fail
    refine HC.out.mono ?_
    rintro e w1 ⟨rfl, hA, hk⟩
    have HA := Lib.hid hA
    have HK := Lib.hid hk
    clear hA hk HC
    go_wp2_with fail
    refine (HM.out _ HA.out).mono ?_
    rintro e w2 ⟨rfl, rfl⟩
    go_wp2_with fail
    refine (HP.out _ HA.out).mono ?_
    rintro e w3 ⟨rfl, EV', WV', hA3, he, hw3, hk3⟩
    have HX : Hid (∃ EV' WV', RefAt w3 b SV EV' WV' FV { M.callR r with seen := r.seen.set k s, wait := r.wait ++ [(k, s)] } ∧ (∀ g, EV'.ownBlock = some g → w.heap.size ≤ g) ∧ (∀ g, WV'.ownBlock = some g → w.heap.size ≤ g) ∧ Kept (fun k => k = b) w w3) :=
      ⟨EV', WV', hA3, fun g e => Nat.le_trans HK.out.size (he g e), fun g e => Nat.le_trans HK.out.size (hw3 g e), HK.out.trans hk3⟩
    clear hA3 he hw3 hk3
    go_wp2_with fail
    go_ret
    exact ⟨rfl, HX.out⟩

theorem rwrite_any (i : Int) (s : ByteArray) (w : World) {b : Nat} {P : Nat → Prop} {r : M.R} (h : Ref w b P r) (ho : r.ops ≤ 1099511627776) :
    Calls Tryz.prog 55 #[.pointer (some ⟨b, 0, none⟩), .int .i64 i, .string s] w fun e w' => e = .returned (.int .i64 (M.rwriteE r i s)) ∧ Ref w' b (M.plus P w.heap.size) (M.rwriteR r i s) ∧ Kept P w w' := by
  obtain ⟨SV, EV, WV, FV, h, p0, p1, p2, p3, p4⟩ := h
  unfold M.rwriteR
  cases hl : M.rlays r i s with
  | false =>
    refine (rwrite_no i s w h ho hl).mono ?_
    rintro e w' ⟨rfl, hA, hk⟩
    exact ⟨rfl, ⟨SV, EV, WV, FV, hA, Or.inl p0, fun k e => Or.inl (p1 k e), fun k e => Or.inl (p2 k e), fun k e => Or.inl (p3 k e), fun k e => Or.inl (p4 k e)⟩, hk.mono (fun k _ e => e ▸ p0)⟩
  | true =>
    have hw : M.wrong r.seen.length i s = 0 := by
      unfold M.rlays at hl
      simp at hl
      exact hl.1
    obtain ⟨k, rfl, hk, _⟩ := M.wrong_ok hw
    refine (rwrite_yes k s w h ho hl hk).mono ?_
    rintro e w' ⟨rfl, EV', WV', hA, he, hwv, hk⟩
    exact ⟨rfl, ⟨SV, EV', WV', FV, hA, Or.inl p0, fun k e => Or.inl (p1 k e), fun k e => Or.inr (he k e), fun k e => Or.inr (hwv k e), fun k e => Or.inl (p4 k e)⟩, hk.mono (fun k _ e => e ▸ p0)⟩
theorem rread_any (i : Int) (w : World) {b : Nat} {P : Nat → Prop} {r : M.R} (h : Ref w b P r) (ho : r.ops ≤ 1099511627776) :
    Calls Tryz.prog 57 #[.pointer (some ⟨b, 0, none⟩), .int .i64 i] w fun e w' => e = .returned (.tuple #[.string (M.rreadS r i), .int .i64 (M.rreadE r i)]) ∧ Ref w' b P (M.callR r) ∧ Kept P w w' := by
  obtain ⟨SV, EV, WV, FV, h, p0, p1, p2, p3, p4⟩ := h
  refine (rread_at i w h ho).mono ?_
  rintro e w' ⟨rfl, hA, hk⟩
  exact ⟨rfl, ⟨SV, EV, WV, FV, hA, p0, p1, p2, p3, p4⟩, hk.mono (fun k _ e => e ▸ p0)⟩
end Go.Proofs.YtfdbfafpcbdbdaaGreat
namespace Go.Proofs.YtfdbfafpcbdbdaaGreat
open Go.RowKit

theorem strs_one (L : List ByteArray) : ∀ u ∈ L.map Value.string, u.oneCell' = true := fun u hu => by
  obtain ⟨q, _, rfl⟩ := List.mem_map.1 hu
  rfl
theorem ints_one (L : List Int) : ∀ u ∈ L.map (Value.int .i64), u.oneCell' = true := fun u hu => by
  obtain ⟨q, _, rfl⟩ := List.mem_map.1 hu
  rfl
theorem own_slice {g n c k : Nat} (e : (Value.slice (some ⟨g, 0, none⟩) n c).ownBlock = some k) : g = k := by simpa [Value.ownBlock] using e

/-- The disk behind a flush. -/
def M.rflushR (r : M.R) : M.R := if M.callE r = 0 then { M.callR r with sure := r.seen, wait := [] } else M.callR r

/-- What is seen is copied to what is sure. -/
theorem RefAt.flushed {w w1 : World} {b g c n : Nat} {SV EV WV FV : Value} {r : M.R} (h : RefAt w b SV EV WV FV r) (hn : n = r.seen.length) (ho : w1.ownsRow 0 9 1 (.slice (some ⟨g, 0, none⟩) n c) n (r.seen.map Value.string)) (hk1 : Kept (fun _ => False) w w1) (hg : w.heap.size ≤ g) :
    w1.cell? ⟨b, 0, none⟩ = some SV ∧ w1.frozen? ⟨b, 0, none⟩ = false ∧ (w1.setCell ⟨b, 0, none⟩ (.slice (some ⟨g, 0, none⟩) n c)).cell? ⟨b, 2, none⟩ = some WV ∧ (w1.setCell ⟨b, 0, none⟩ (.slice (some ⟨g, 0, none⟩) n c)).frozen? ⟨b, 2, none⟩ = false ∧
      Hid (RefAt ((w1.setCell ⟨b, 0, none⟩ (.slice (some ⟨g, 0, none⟩) n c)).setCell ⟨b, 2, none⟩ (.slice none 0 0)) b (.slice (some ⟨g, 0, none⟩) n c) EV (.slice none 0 0) FV { r with sure := r.seen, wait := [] } ∧
        Kept (fun j => j = b) w ((w1.setCell ⟨b, 0, none⟩ (.slice (some ⟨g, 0, none⟩) n c)).setCell ⟨b, 2, none⟩ (.slice none 0 0))) := by
  subst hn
  have hbl := h.box.lt
  have hh := h.kept hk1 (fun e => e) (fun _ _ e => e) (fun _ _ e => e) (fun _ _ e => e) (fun _ _ e => e)
  have h1 := hh.sure1 ho h.len (by omega)
  have h2 := h1.wait1 (WV' := .slice none 0 0) (L := []) (World.ownsRow_nil _ _ _ _) (fun p hp => by cases hp) (Nat.zero_le _) (fun k e => by cases e)
  exact ⟨hh.c0, hh.box.frozen 0, h1.c2, h1.box.frozen 2, h2, ((hk1.mono (fun _ _ e => e.elim)).trans (Kept.set' (P := fun j => j = b) rfl 0 _)).trans (Kept.set' (P := fun j => j = b) rfl 2 _)⟩

end Go.Proofs.YtfdbfafpcbdbdaaGreat
namespace Go.Proofs.YtfdbfafpcbdbdaaGreat
open Go.RowKit

/-- The disk behind a restart of which nothing survives. -/
def M.restartR (r : M.R) : M.R := ⟨r.sure, r.sure, [], r.ops, [], 0, false⟩

theorem RefAt.again {w w2 : World} {b g c n : Nat} {SV EV WV FV : Value} {r : M.R} (h : RefAt w b SV EV WV FV r) (hn : n = r.seen.length) (he : r.seen = r.sure) (ho : w2.ownsRow 0 9 1 (.slice (some ⟨g, 0, none⟩) n c) n (r.seen.map Value.string)) (hk2 : Kept (fun _ => False) w w2) (hg : w.heap.size ≤ g) :
    w2.cell? ⟨b, 0, none⟩ = some SV ∧ w2.frozen? ⟨b, 0, none⟩ = false ∧ ∃ y2 y3 y4 y5 : World, (w2.setCell ⟨b, 0, none⟩ (.slice (some ⟨g, 0, none⟩) n c)).cell? ⟨b, 2, none⟩ = some WV ∧ (w2.setCell ⟨b, 0, none⟩ (.slice (some ⟨g, 0, none⟩) n c)).frozen? ⟨b, 2, none⟩ = false ∧
      (w2.setCell ⟨b, 0, none⟩ (.slice (some ⟨g, 0, none⟩) n c)).setCell ⟨b, 2, none⟩ (.slice none 0 0) = y2 ∧ y2.cell? ⟨b, 4, none⟩ = some FV ∧ y2.frozen? ⟨b, 4, none⟩ = false ∧
      y2.setCell ⟨b, 4, none⟩ (.slice none 0 0) = y3 ∧ y3.cell? ⟨b, 5, none⟩ = some (.int .i64 r.at_) ∧ y3.frozen? ⟨b, 5, none⟩ = false ∧
      y3.setCell ⟨b, 5, none⟩ (.int .i64 0) = y4 ∧ y4.cell? ⟨b, 6, none⟩ = some (.bool r.off) ∧ y4.frozen? ⟨b, 6, none⟩ = false ∧
      y4.setCell ⟨b, 6, none⟩ (.bool false) = y5 ∧ Hid (RefAt y5 b (.slice (some ⟨g, 0, none⟩) n c) EV (.slice none 0 0) (.slice none 0 0) (M.restartR r) ∧ Kept (fun j => j = b) w y5) := by
  subst hn
  have hbl := h.box.lt
  have hh := h.kept hk2 (fun e => e) (fun _ _ e => e) (fun _ _ e => e) (fun _ _ e => e) (fun _ _ e => e)
  have h1 := hh.sure1 ho h.len (by omega)
  have h2 := h1.wait1 (WV' := .slice none 0 0) (L := []) (World.ownsRow_nil _ _ _ _) (fun p hp => by cases hp) (Nat.zero_le _) (fun k e => by cases e)
  have h3 := h2.fails1 (FV' := .slice none 0 0) (L := []) (World.ownsRow_nil _ _ _ _) (Nat.zero_le _) (fun k e => by cases e)
  have h4 := h3.poke (i := 5) (u := .int .i64 0) (r' := ⟨r.seen, r.seen, [], r.ops, [], 0, r.off⟩) rfl rfl rfl rfl (Nat.le_refl _) rfl
  have h5 := h4.poke (i := 6) (u := .bool false) (r' := ⟨r.seen, r.seen, [], r.ops, [], 0, false⟩) rfl rfl rfl rfl (Nat.le_refl _) rfl
  refine ⟨hh.c0, hh.box.frozen 0, _, _, _, _, h1.c2, h1.box.frozen 2, rfl, h2.c4, h2.box.frozen 4, rfl, h3.c5, h3.box.frozen 5, rfl, h4.c6, h4.box.frozen 6, rfl, ?_, ?_⟩
  · show RefAt _ _ _ _ _ _ ⟨r.sure, r.sure, [], r.ops, [], 0, false⟩
    rw [← he]
    exact h5
  · exact (((((hk2.mono (fun _ _ e => e.elim)).trans (Kept.set' (P := fun j => j = b) rfl 0 _)).trans (Kept.set' (P := fun j => j = b) rfl 2 _)).trans (Kept.set' (P := fun j => j = b) rfl 4 _)).trans (Kept.set' (P := fun j => j = b) rfl 5 _)).trans (Kept.set' (P := fun j => j = b) rfl 6 _)

end Go.Proofs.YtfdbfafpcbdbdaaGreat
namespace Go.Proofs.YtfdbfafpcbdbdaaGreat
open Go.RowKit

/-- A new disk of the document's. -/
def M.newR (c : Nat) : M.R := ⟨List.replicate c M.zero, List.replicate c M.zero, [], 0, [], 0, false⟩

/-- While it is made: so many sectors are sure. -/
structure Making (w y : World) (b : Nat) (zz : ByteArray) (k : Nat) (SV : Value) : Prop where
  box : Box y b 44 #[SV, .slice none 0 0, .slice none 0 0, .int .i64 0, .slice none 0 0, .int .i64 0, .bool false]
  row : y.ownsRow 0 9 1 SV k (List.replicate k (.string zz))
  ne : ∀ g, SV.ownBlock = some g → w.heap.size ≤ g ∧ g ≠ b
  low : w.heap.size ≤ b
  below : Below w.heap.size w y
theorem Making.more {w y y3 : World} {b g c k : Nat} {zz : ByteArray} {SV : Value} (h : Making w y b zz k SV) {o1 o2 : Obj} (ho : y3.ownsRow 0 9 1 (.slice (some ⟨g, 0, none⟩) (k + 1) c) (k + 1) (List.replicate k (.string zz) ++ [.string zz])) (hgr : ((y.alloc o1).alloc o2).grownBy y3 SV.ownBlock) (hat : SV.ownBlock = some g ∨ g = y.heap.size + 2) :
    y3.cell? ⟨b, 0, none⟩ = some SV ∧ y3.frozen? ⟨b, 0, none⟩ = false ∧ Hid (Making w (y3.setCell ⟨b, 0, none⟩ (.slice (some ⟨g, 0, none⟩) (k + 1) c)) b zz (k + 1) (.slice (some ⟨g, 0, none⟩) (k + 1) c)) := by
  have hbl := h.box.lt
  have hsz := h.below.size
  have hk3 : Kept (fun j => SV.ownBlock = some j) y y3 := Kept.grown (Kept.alloc (Kept.alloc (Kept.refl _ y) o1) o2) hgr (fun j e _ => e)
  have hB := hk3.box h.box (fun e => (h.ne b e).2 rfl)
  have hk4 : Kept (fun j => j = b) y3 (y3.setCell ⟨b, 0, none⟩ (.slice (some ⟨g, 0, none⟩) (k + 1) c)) := Kept.set' (P := fun j => j = b) rfl 0 _
  have hgb : w.heap.size ≤ g ∧ g ≠ b := hat.elim (fun e => h.ne g e) (fun e => ⟨by omega, by omega⟩)
  refine ⟨by simpa using hB.cell 0, hB.frozen 0, by simpa using hB.set 0 (.slice (some ⟨g, 0, none⟩) (k + 1) c), ?_, fun j e => own_slice e ▸ hgb, h.low, ?_⟩
  · rw [List.replicate_succ']
    exact hk4.owns ho (fun j e => by rw [← own_slice e]; exact hgb.2)
  · have h1 : Below w.heap.size y y3 := hk3.below hsz (fun j hj e => by have := (h.ne j e).1; omega)
    exact (h.below.trans h1).trans (hk4.below (Nat.le_trans hsz hk3.size) (fun j hj e => by have := h.low; omega))
theorem Making.done {w y w2 : World} {b g c k : Nat} {SV : Value} (h : Making w y b M.zero k SV) (hk : k ≤ 1000) (ho : w2.ownsRow 0 9 1 (.slice (some ⟨g, 0, none⟩) k c) k (List.replicate k (.string M.zero))) (hk2 : Kept (fun _ => False) y w2) (hg : y.heap.size ≤ g) :
    w2.cell? ⟨b, 1, none⟩ = some (.slice none 0 0) ∧ w2.frozen? ⟨b, 1, none⟩ = false ∧ Hid (Ref (w2.setCell ⟨b, 1, none⟩ (.slice (some ⟨g, 0, none⟩) k c)) b (fun j => w.heap.size ≤ j) (M.newR k) ∧ Below w.heap.size w (w2.setCell ⟨b, 1, none⟩ (.slice (some ⟨g, 0, none⟩) k c))) := by
  have hbl := h.box.lt
  have hsz := h.below.size
  have hB := hk2.box h.box (fun e => e)
  have hk4 : Kept (fun j => j = b) w2 (w2.setCell ⟨b, 1, none⟩ (.slice (some ⟨g, 0, none⟩) k c)) := Kept.set' (P := fun j => j = b) rfl 1 _
  have hgb : g ≠ b := by omega
  have hr : (List.replicate k M.zero).map Value.string = List.replicate k (.string M.zero) := by simp
  refine ⟨by simpa using hB.cell 1, hB.frozen 1, ⟨SV, .slice (some ⟨g, 0, none⟩) k c, .slice none 0 0, .slice none 0 0, ⟨?_, ?_, ?_, World.ownsRow_nil _ _ _ _, World.ownsRow_nil _ _ _ _, rfl, by simpa [M.newR] using hk, fun p hp => (by cases hp), Nat.le_refl _, Nat.zero_le _, fun j e => (h.ne j e).2, fun j e => own_slice e ▸ hgb, fun j e => (by cases e), fun j e => (by cases e)⟩, h.low, fun j e => (h.ne j e).1, fun j e => (by rw [← own_slice e]; omega), fun j e => (by cases e), fun j e => (by cases e)⟩, ?_⟩
  · simpa [M.newR] using hB.set 1 (.slice (some ⟨g, 0, none⟩) k c)
  · show World.ownsRow _ _ _ _ _ (List.replicate k M.zero).length ((List.replicate k M.zero).map Value.string)
    rw [hr, List.length_replicate]
    exact hk4.owns (hk2.owns h.row (fun _ _ e => e)) (fun j e => (h.ne j e).2)
  · show World.ownsRow _ _ _ _ _ (List.replicate k M.zero).length ((List.replicate k M.zero).map Value.string)
    rw [hr, List.length_replicate]
    exact hk4.owns ho (fun j e => by rw [← own_slice e]; exact hgb)
  · exact (h.below.trans (hk2.below hsz (fun _ _ e => e))).trans (hk4.below (Nat.le_trans hsz hk2.size) (fun j hj e => by have := h.low; omega))

set_option maxRecDepth 100000 in
set_option maxHeartbeats 2000000 in
theorem rnew_any (n : Int) (w : World) : Calls Tryz.prog 19 #[.int .i64 n] w fun e w' => ∃ b, e = .returned (.pointer (some ⟨b, 0, none⟩)) ∧ Ref w' b (fun j => w.heap.size ≤ j) (M.newR (M.held n)) ∧ Below w.heap.size w w' := by
  obtain ⟨i0, hi, hz0, hz1, hz2⟩ := info_parts infoS
  have hmx : min (max n 0) 1000 = ((M.held n : Nat) : Int) := by
    unfold M.held
    split
    · omega
    · split <;> omega
  have hcl := M.held_le n
  obtain ⟨c, hc⟩ : ∃ c, c = M.held n := ⟨_, rfl⟩
  rw [← hc] at hmx hcl
  rw [← hc]
  clear hc
  obtain ⟨R, hR⟩ : ∃ R, R = M.nils 64 := ⟨_, rfl⟩
  obtain ⟨zz, hzz⟩ : ∃ zz, zz = M.zero := ⟨_, rfl⟩
  have hmk : ∀ W : World, (Instr.makeSlice 55 (.int .i64 64) (.int .i64 64)).run Tryz.prog W = .ok (.slice (some ⟨W.heap.size, 0, none⟩) 64 64) (W.alloc (.cells R 5)) := fun W => by rw [hR]; exact make_nils 64 (by omega) W
  have hcvA : ∀ W : World, Sem.run Tryz.prog (convert 55 9 (.slice (some ⟨W.heap.size, 0, none⟩) 64 64)) (W.alloc (.cells R 5)) = .ok (.string zz) (W.alloc (.cells R 5)) := fun W => by rw [hR, hzz]; exact conv_nils 64 _ _ (Box.new _ _ _)
  have hcvB : ∀ W : World, Sem.run Tryz.prog (convert 55 9 (.slice (some ⟨W.heap.size, 0, none⟩) 64 64)) (W.alloc (.cells R 5)).drew = .ok (.string zz) (W.alloc (.cells R 5)).drew := fun W => by rw [hR, hzz]; exact conv_nils 64 _ _ (Box.new _ _ _)
  have HZZ := Lib.hid hzz
  clear hR hzz
  have HM0 : Hid (Making w (w.alloc (.cells #[.slice none 0 0, .slice none 0 0, .slice none 0 0, .int .i64 0, .slice none 0 0, .int .i64 0, .bool false] 44)) w.heap.size zz 0 (.slice none 0 0)) :=
    ⟨Box.new _ _ _, World.ownsRow_nil _ _ _ _, fun g e => (by cases e), Nat.le_refl _, (Below.refl _ _).alloc (Nat.le_refl _) _⟩
  go_enter Tryz.func19, Tryz.ntmps19
  go_wp2_with fail
  obtain ⟨y0, hy0⟩ : ∃ y, y = w.alloc (.cells #[.slice none 0 0, .slice none 0 0, .slice none 0 0, .int .i64 0, .slice none 0 0, .int .i64 0, .bool false] 44) := ⟨_, rfl⟩
  obtain ⟨b, hb⟩ : ∃ b, b = w.heap.size := ⟨_, rfl⟩
  rw [← hy0, ← hb] at HM0
  rw [← hy0, ← hb]
  clear hy0 hb
  go_loopw [4] (fun i wr => ∃ k : Nat, k ≤ c ∧ i = .int .i64 k ∧ ∃ SV, Making w wr b zz k SV) (fun i _ => c - (intOf i).toNat)
  case atStart => exact ⟨0, Nat.zero_le _, rfl, _, HM0.out⟩
  case round =>
    clear HM0
    obtain ⟨k, hk, rfl, SV, hM⟩ := hrel
    obtain ⟨SA, sc, rfl, _⟩ := owns_shape hM.row
    have c0 := hM.box.cell 0
    simp only [List.getElem?_toArray, List.getElem?_cons_zero] at c0
    by_cases hlt : k < c
    · have hlt' : (k : Int) < (c : Int) := by omega
      have HN : Hid (k + 1 ≤ maxLen ∧ (k + 1) * 16 ≤ 140737488355328) := by refine ⟨?_, ?_⟩ <;> (try unfold maxLen) <;> omega
      have hbl := hM.box.lt
      have d1 : (wr.alloc (.cells R 5)).cell? ⟨b, 0, none⟩ = some (.slice SA k sc) := (World.cell?_of_block (Below.heap_alloc _ _ _ hbl)).trans c0
      have d2 : ((wr.alloc (.cells R 5)).alloc (.cells #[.string zz] 9)).cell? ⟨b, 0, none⟩ = some (.slice SA k sc) := (World.cell?_of_block (Below.heap_alloc _ _ _ (by rw [World.size_alloc]; show b < _; omega))).trans d1
      obtain ⟨xs, hxs⟩ : ∃ xs, xs = List.replicate k (Value.string zz) := ⟨_, rfl⟩
      have HO : Hid (((wr.alloc (.cells R 5)).alloc (.cells #[.string zz] 9)).drew.ownsRow 0 9 1 (.slice SA k sc) k xs) := by rw [hxs]; exact ((hM.row.alloc _).alloc _)
      have HC : Hid (∀ j u, [Value.string zz][j]? = some u → ((wr.alloc (.cells R 5)).alloc (.cells #[.string zz] 9)).drew.cell? ((⟨wr.heap.size + 1, 0, none⟩ : Addr).add j) = some u) := by
        have := cell_one_new (wr.alloc (.cells R 5)) (.string zz) 9
        rw [World.size_alloc] at this
        exact this
      have HL : Hid (∀ (y3 : World) (g c : Nat), y3.ownsRow 0 9 1 (.slice (some ⟨g, 0, none⟩) (k + 1) c) (k + 1) (xs ++ [.string zz]) → ((wr.alloc (.cells R 5)).alloc (.cells #[.string zz] 9)).drew.grownBy y3 (Value.slice SA k sc).ownBlock → ((Value.slice SA k sc).ownBlock = some g ∨ g = wr.heap.size + 2) →
          y3.cell? ⟨b, 0, none⟩ = some (.slice SA k sc) ∧ y3.frozen? ⟨b, 0, none⟩ = false ∧ Hid (Making w (y3.setCell ⟨b, 0, none⟩ (.slice (some ⟨g, 0, none⟩) (k + 1) c)) b zz (k + 1) (.slice (some ⟨g, 0, none⟩) (k + 1) c))) := by
        intro y3 g c p1 p2 p3
        rw [hxs] at p1
        have p2' : ((wr.alloc (.cells R 5)).alloc (.cells #[.string zz] 9)).grownBy y3 (Value.slice SA k sc).ownBlock := ⟨p2.os, p2.tape, p2.output, p2.size, p2.block⟩
        exact hM.more p1 p2' p3
      clear hM hxs HZZ
      go_wp2_with fail
      go_region_law (refine step_append_lies _ rfl _ _ 41 rfl 0 9 i0 (.string ⟨#[]⟩) 1 16 Tryz.underlying41 hi hz0 hz1 hz2 rfl (by decide) (.slice SA k sc) k xs rfl (by exact HO.out) ⟨wr.heap.size + 1, 0, none⟩ 1 1 [.string zz] rfl rfl (by exact HC.out) (fun x hx => by simp at hx; subst hx; rfl) (by omega) HN.out.1 HN.out.2 (Nat.zero_le _) (wr.heap.size + 2) (by simp [World.drew]) ?_; intro g3 k3 w3 hown3 hgrow3 hat3 _; obtain ⟨p1, p2, HX⟩ := HL.out w3 g3 k3 hown3 hgrow3 hat3; clear hown3 hgrow3 hat3)
      all_goals
        go_wp2_with fail
        go_roundw
        case rel => exact ⟨k + 1, by omega, by go_num, _, HX.out⟩
        case measure => simp [intOf]; omega
    · have hlt' : ¬ (k : Int) < (c : Int) := by omega
      have e : k = c := by omega
      subst e
      have c0a : (wr.alloc (.cells #[] 9)).cell? ⟨b, 0, none⟩ = some (.slice SA k sc) := (World.cell?_of_block (Below.heap_alloc _ _ _ hM.box.lt)).trans c0
      obtain ⟨xs, hxs⟩ : ∃ xs, xs = List.replicate k (Value.string zz) := ⟨_, rfl⟩
      have HO : Hid (wr.ownsRow 0 9 1 (.slice SA k sc) k xs) := by rw [hxs]; exact hM.row
      have HOne : Hid (∀ u ∈ xs, u.oneCell' = true) := by
        rw [hxs]
        intro u hu
        rw [List.eq_of_mem_replicate hu]
        rfl
      have HN : Hid (k ≤ maxLen ∧ k * 16 ≤ 140737488355328) := by refine ⟨?_, ?_⟩ <;> (try unfold maxLen) <;> omega
      have HL : Hid (∀ w2 g c, w2.ownsRow 0 9 1 (.slice (some ⟨g, 0, none⟩) k c) k xs → Kept (fun _ => False) wr w2 → wr.heap.size ≤ g → w2.cell? ⟨b, 1, none⟩ = some (.slice none 0 0) ∧ w2.frozen? ⟨b, 1, none⟩ = false ∧ Hid (Ref (w2.setCell ⟨b, 1, none⟩ (.slice (some ⟨g, 0, none⟩) k c)) b (fun j => w.heap.size ≤ j) (M.newR k) ∧ Below w.heap.size w (w2.setCell ⟨b, 1, none⟩ (.slice (some ⟨g, 0, none⟩) k c)))) := by
        intro w2 g c p1 p2 p3
        rw [hxs, HZZ.out] at p1
        rw [HZZ.out] at hM
        exact hM.done hcl p1 p2 p3
      clear hM hxs hlt hmk hcvA hcvB
      go_wp2_with (at_builtin
                   refine wpList_append_copy rfl _ _ 41 rfl 9 i0 (.string ⟨#[]⟩) 1 16 Tryz.underlying41 hi hz0 hz1 hz2 rfl (by decide) wr.heap.size rfl rfl (.slice SA k sc) k xs rfl HO.out HOne.out HN.out.1 HN.out.2 ?_
                   intro g2 k2 w2 ho2 hk2 hg2
                   obtain ⟨q1, q2, HX⟩ := HL.out w2 g2 k2 ho2 hk2 hg2
                   clear ho2 hk2 hg2 HL HO c0 c0a)
      go_ret
      exact ⟨b, rfl, HX.out⟩
end Go.Proofs.YtfdbfafpcbdbdaaGreat
namespace Go.Proofs.YtfdbfafpcbdbdaaGreat
open Go.RowKit Go.Maps

theorem infoN : (Tryz.prog.info? 3).map (fun i => (i.zero, i.size, i.bytes)) = some (some (.int .i64 0), 1, 8) := by kernel_rfl
/-- The disk behind Fail. -/
def M.failD (d : M.D) (x : Int) : M.D := if (d.ops : Int) < x ∧ d.fails.length < 100 ∧ x ∉ d.fails then { d with fails := d.fails ++ [x] } else d

theorem DiskAt.failed {w w3 : World} {b sb mb g c n : Nat} {WV FV : Value} {d : M.D} {x : Int} {o : Obj} (h : DiskAt w b sb mb WV FV d) (hn : n = d.fails.length) (hgr : (w.alloc o).grownBy w3 FV.ownBlock) (hat : FV.ownBlock = some g ∨ g = w.heap.size + 1)
    (ho : w3.ownsRow 0 3 1 (.slice (some ⟨g, 0, none⟩) (n + 1) c) (n + 1) (d.fails.map (Value.int .i64) ++ [.int .i64 x])) :
    w3.cell? ⟨b, 4, none⟩ = some FV ∧ w3.frozen? ⟨b, 4, none⟩ = false ∧
      Hid (DiskAt (w3.setCell ⟨b, 4, none⟩ (.slice (some ⟨g, 0, none⟩) (n + 1) c)) b sb mb WV (.slice (some ⟨g, 0, none⟩) (n + 1) c) { d with fails := d.fails ++ [x] } ∧ (FV.ownBlock = some g ∨ w.heap.size ≤ g) ∧ Kept (fun j => j = b ∨ FV.ownBlock = some j) w (w3.setCell ⟨b, 4, none⟩ (.slice (some ⟨g, 0, none⟩) (n + 1) c))) := by
  have hbl := h.box.lt
  have hsl := h.sure.lt
  have hml := h.mlt
  have hk3 : Kept (fun j => FV.ownBlock = some j) w w3 := Kept.grown (Kept.alloc (Kept.refl _ w) o) hgr (fun j e _ => e)
  have hgn : g ≠ b ∧ g ≠ sb ∧ g ≠ mb ∧ WV.ownBlock ≠ some g := hat.elim (fun e => h.fn g e) (fun e => ⟨by omega, by omega, by omega, fun e' => by have := (h.writes.lt g e').2; omega⟩)
  have hB3 := hk3.box h.box (fun e => (h.fn b e).1 rfl)
  have hk4 : Kept (fun j => j = b) w3 (w3.setCell ⟨b, 4, none⟩ (.slice (some ⟨g, 0, none⟩) (n + 1) c)) := Kept.set' (P := fun j => j = b) rfl 4 _
  have hk : Kept (fun j => j = b ∨ FV.ownBlock = some j) w (w3.setCell ⟨b, 4, none⟩ (.slice (some ⟨g, 0, none⟩) (n + 1) c)) := (hk3.mono (fun _ _ e => Or.inr e)).trans (hk4.mono (fun _ _ e => Or.inl e))
  have hll : (d.fails ++ [x]).length = n + 1 := by rw [hn]; simp
  have hgo : ∀ k, (Value.slice (some ⟨g, 0, none⟩) (n + 1) c).ownBlock = some k → g = k := fun k e => by simpa [Value.ownBlock] using e
  obtain ⟨m, hm1, hm2⟩ := h.map
  refine ⟨by simpa using hB3.cell 4, hB3.frozen 4, ⟨by simpa using hB3.set 4 (.slice (some ⟨g, 0, none⟩) (n + 1) c), hk.box h.sure (fun e => e.elim (fun e => h.bs e.symm) (fun e => (h.fn sb e).2.1 rfl)), ⟨m, hk.map hm1 (fun e => e.elim (fun e => h.bm e.symm) (fun e => (h.fn mb e).2.2.1 rfl)), hm2⟩, hk.owns h.writes (fun j e e' => e'.elim (fun e' => (h.wn j e).1 e') (fun e' => (h.fn j e').2.2.2 e)), ?_, ⟨h.inv.many, h.inv.sure, h.inv.lies, h.inv.wide, h.inv.some_⟩, h.bs, h.bm, h.sm, h.wn, fun k e => hgo k e ▸ hgn⟩, hat.imp id (fun e => by omega), hk⟩
  show World.ownsRow _ _ _ _ _ (d.fails ++ [x]).length ((d.fails ++ [x]).map (Value.int .i64))
  rw [hll, List.map_append]
  exact hk4.owns ho (fun k e => by rw [← hgo k e]; exact hgn.1)

theorem contains_any (zs : List Int) (x : Int) (v : Value) (w : World) (hv : w.ownsRow 0 3 1 v zs.length (zs.map (Value.int .i64))) :
    Calls Tryz.prog 34 #[v, .int .i64 x] w fun e w' => e = .returned (.bool (decide (x ∈ zs))) ∧ w' = w := by
  have hd : zs.contains x = decide (x ∈ zs) := by simp
  rw [← hd]
  rcases owned_ints hv with ⟨e, hz⟩ | ⟨g, cap, e, h1, h2, _, h3, _⟩
  · rw [e, hz]
    exact Tryz.slices_Contains_int_empty none 0 x w
  · rw [e]
    have := Tryz.slices_Contains_int g 0 zs.length cap zs x w (Nat.le_refl _) (by unfold maxLen at h2; omega) h3
    rwa [List.take_length] at this

set_option maxHeartbeats 1000000 in
theorem fail_at (x : Int) (w : World) {b sb mb : Nat} {WV FV : Value} {d : M.D} (h : DiskAt w b sb mb WV FV d) :
    Calls Tryz.prog 10 #[.pointer (some ⟨b, 0, none⟩), .int .i64 x] w fun e w' => e = .returned (.tuple #[]) ∧
      ∃ FV', DiskAt w' b sb mb WV FV' (M.failD d x) ∧ (∀ g, FV'.ownBlock = some g → FV.ownBlock = some g ∨ w.heap.size ≤ g) ∧ Kept (fun j => j = b ∨ FV.ownBlock = some j) w w' := by
  obtain ⟨i0, hi, hz0, hz1, hz2⟩ := info_parts infoN
  obtain ⟨FA, fc, rfl, _⟩ := owns_shape h.fails
  have c3 := h.c3
  have c4 := h.c4
  have HH := Lib.hid (contains_any d.fails x _ w h.fails)
  have HA := Lib.hid h
  unfold M.failD
  by_cases h1 : (d.ops : Int) < x
  · have h1' : decide (x ≤ (d.ops : Int)) = false := by simp; omega
    by_cases h3 : d.fails.length < 100
    · have h3' : decide ((100 : Int) ≤ (d.fails.length : Int)) = false := by simp; omega
      by_cases h2 : x ∈ d.fails
      · rw [if_neg (fun e => e.2.2 h2)]
        rw [decide_eq_true h2] at HH
        clear h h2 h1 h3
        go_enter Tryz.func10, Tryz.ntmps10
        go_wp2_with fail
        refine HH.out.mono ?_
        rintro e w1 ⟨rfl, rfl⟩
        go_wp2_with fail
        exact bodyPost_ret (results_none rfl _ _ _) rfl ⟨rfl, _, HA.out, fun g e => Or.inl e, Kept.refl _ _⟩
      · rw [if_pos ⟨h1, h3, h2⟩]
        rw [decide_eq_false h2] at HH
        obtain ⟨n, hn⟩ : ∃ n, n = d.fails.length := ⟨_, rfl⟩
        obtain ⟨xs, hxs⟩ : ∃ xs, xs = d.fails.map (Value.int .i64) := ⟨_, rfl⟩
        have HO1 : Hid (w.ownsRow 0 3 1 (.slice FA n fc) n xs) := by rw [hn, hxs]; exact h.fails
        have HN : Hid (n + 1 ≤ maxLen ∧ (n + 1) * 8 ≤ 140737488355328) := by refine ⟨?_, ?_⟩ <;> (try unfold maxLen) <;> omega
        have HL : Hid (∀ (w3 : World) (g c : Nat), (w.alloc (.cells #[.int .i64 x] 3)).grownBy w3 (Value.slice FA n fc).ownBlock → ((Value.slice FA n fc).ownBlock = some g ∨ g = w.heap.size + 1) → w3.ownsRow 0 3 1 (.slice (some ⟨g, 0, none⟩) (n + 1) c) (n + 1) (xs ++ [.int .i64 x]) →
            w3.cell? ⟨b, 4, none⟩ = some (.slice FA n fc) ∧ w3.frozen? ⟨b, 4, none⟩ = false ∧ Hid (DiskAt (w3.setCell ⟨b, 4, none⟩ (.slice (some ⟨g, 0, none⟩) (n + 1) c)) b sb mb WV (.slice (some ⟨g, 0, none⟩) (n + 1) c) { d with fails := d.fails ++ [x] } ∧ ((Value.slice FA n fc).ownBlock = some g ∨ w.heap.size ≤ g) ∧ Kept (fun j => j = b ∨ (Value.slice FA n fc).ownBlock = some j) w (w3.setCell ⟨b, 4, none⟩ (.slice (some ⟨g, 0, none⟩) (n + 1) c)))) := by
          intro w3 g c p1 p2 p3
          rw [hxs] at p3
          rw [hn] at p1 p2 p3 ⊢
          exact h.failed rfl p1 p2 p3
        rw [← hn] at c4 h3' HH ⊢
        clear h h1 h2 h3 hn hxs HA
        go_enter Tryz.func10, Tryz.ntmps10
        go_wp2_with fail
        refine HH.out.mono ?_
        rintro e w1 ⟨rfl, rfl⟩
        clear HH
        go_wp2_with (at_builtin
                     refine wpList_append_lies _ rfl _ _ 42 rfl 0 3 i0 (.int .i64 0) 1 8 Tryz.underlying42 hi hz0 hz1 hz2 rfl (by decide) _ _ _ rfl (HO1.out.alloc _) ⟨w1.heap.size, 0, none⟩ 1 1 [.int .i64 x] rfl rfl (cell_one_new _ _ _) (fun u hu => by simp at hu; subst hu; rfl) (by omega) HN.out.1 HN.out.2 (Nat.zero_le _) _ rfl ?_
                     intro g4 k4 w4 ho4 hgr4 hat4 _
                     obtain ⟨q1, q2, HX4⟩ := HL.out w4 g4 k4 hgr4 (hat4.imp id (fun e => by rw [e, World.size_alloc])) ho4
                     clear ho4 hgr4 hat4 HL HO1 c3 c4)
        go_end0
        exact ⟨rfl, _, HX4.out.1, fun g e => (by have : g4 = g := (by simpa [Value.ownBlock] using e); rw [← this]; exact HX4.out.2.1), HX4.out.2.2⟩
    · rw [if_neg (fun e => h3 e.2.1)]
      have h3' : decide ((100 : Int) ≤ (d.fails.length : Int)) = true := by simp; omega
      clear h h1 h3 HH
      go_enter Tryz.func10, Tryz.ntmps10
      go_wp2_with fail
      exact bodyPost_ret (results_none rfl _ _ _) rfl ⟨rfl, _, HA.out, fun g e => Or.inl e, Kept.refl _ _⟩
  · rw [if_neg (fun e => h1 e.1)]
    have h1' : decide (x ≤ (d.ops : Int)) = true := by simp; omega
    clear h h1 HH
    go_enter Tryz.func10, Tryz.ntmps10
    go_wp2_with fail
    exact bodyPost_ret (results_none rfl _ _ _) rfl ⟨rfl, _, HA.out, fun g e => Or.inl e, Kept.refl _ _⟩
theorem fail_any (x : Int) (w : World) {b : Nat} {P : Nat → Prop} {d : M.D} (h : Disk w b P d) :
    Calls Tryz.prog 10 #[.pointer (some ⟨b, 0, none⟩), .int .i64 x] w fun e w' => e = .returned (.tuple #[]) ∧ Disk w' b (M.plus P w.heap.size) (M.failD d x) ∧ Kept P w w' := by
  obtain ⟨sb, mb, WV, FV, h, p1, p2, p3, p4, p5⟩ := h
  refine (fail_at x w h).mono ?_
  rintro e w' ⟨rfl, FV', hA, hf, hk⟩
  exact ⟨rfl, ⟨sb, mb, WV, FV', hA, Or.inl p1, Or.inl p2, Or.inl p3, fun k e => Or.inl (p4 k e), fun k e => (hf k e).imp (p5 k) id⟩, hk.mono (fun k _ e => e.elim (fun e => e ▸ p1) (p5 k))⟩
end Go.Proofs.YtfdbfafpcbdbdaaGreat
namespace Go.Proofs.YtfdbfafpcbdbdaaGreat
open Go.RowKit

theorem infoI : (Tryz.prog.info? 3).map (fun i => (i.zero, i.size, i.bytes)) = some (some (.int .i64 0), 1, 8) := by kernel_rfl

/-- The document's disk behind Fail. -/
def M.rfailR (r : M.R) (x : Int) : M.R := if (r.ops : Int) < x ∧ x ∉ r.fails ∧ r.fails.length < 100 then { r with fails := r.fails ++ [x] } else r
theorem RefAt.failed {w w3 w4 : World} {b g c n : Nat} {SV EV WV FV : Value} {r : M.R} {x : Int} {o : Obj} (h : RefAt w b SV EV WV FV r) (hn : n = r.fails.length) (hl : r.fails.length < 100) {g3 : Nat} (hk3 : Kept (fun _ => False) w w3) (hg3 : w.heap.size ≤ g3) (hgr : (w3.alloc o).grownBy w4 (some g3)) (hat : some g3 = some g ∨ g = w3.heap.size + 1)
    (ho : w4.ownsRow 0 3 1 (.slice (some ⟨g, 0, none⟩) (n + 1) c) (n + 1) (r.fails.map (Value.int .i64) ++ [.int .i64 x])) :
    w4.cell? ⟨b, 4, none⟩ = some FV ∧ w4.frozen? ⟨b, 4, none⟩ = false ∧
      Hid (RefAt (w4.setCell ⟨b, 4, none⟩ (.slice (some ⟨g, 0, none⟩) (n + 1) c)) b SV EV WV (.slice (some ⟨g, 0, none⟩) (n + 1) c) { r with fails := r.fails ++ [x] } ∧ w.heap.size ≤ g ∧ Kept (fun j => j = b) w (w4.setCell ⟨b, 4, none⟩ (.slice (some ⟨g, 0, none⟩) (n + 1) c))) := by
  have hz3 := hk3.size
  have hbl := h.box.lt
  have hg : w.heap.size ≤ g := hat.elim (fun e => by injection e with e; omega) (fun e => by omega)
  have hk4 : Kept (fun _ => False) w w4 := (hk3.alloc _).grown hgr (fun j e hj => by injection e with e; omega)
  have hh := h.kept hk4 (fun e => e) (fun _ _ e => e) (fun _ _ e => e) (fun _ _ e => e) (fun _ _ e => e)
  have hll : (r.fails ++ [x]).length = n + 1 := by rw [hn]; simp
  have ho' : w4.ownsRow 0 3 1 (.slice (some ⟨g, 0, none⟩) (n + 1) c) (r.fails ++ [x]).length ((r.fails ++ [x]).map (Value.int .i64)) := by
    rw [hll, List.map_append]
    exact ho
  have hx := hh.fails1 ho' (by rw [hll]; omega) (fun j e => by have := own_slice e; omega)
  exact ⟨hh.c4, hh.box.frozen 4, hx, hg, (hk4.mono (fun _ _ e => e.elim)).trans (Kept.set' (P := fun j => j = b) rfl 4 _)⟩

set_option maxRecDepth 100000 in
set_option maxHeartbeats 1000000 in
theorem rfail_at (x : Int) (w : World) {b : Nat} {SV EV WV FV : Value} {r : M.R} (h : RefAt w b SV EV WV FV r) :
    Calls Tryz.prog 12 #[.pointer (some ⟨b, 0, none⟩), .int .i64 x] w fun e w' => e = .returned (.tuple #[]) ∧
      ∃ FV', RefAt w' b SV EV WV FV' (M.rfailR r x) ∧ (∀ g, FV'.ownBlock = some g → FV.ownBlock = some g ∨ w.heap.size ≤ g) ∧ Kept (fun k => k = b) w w' := by
  obtain ⟨i0, hi, hz0, hz1, hz2⟩ := info_parts infoI
  obtain ⟨FA, fc, rfl, _⟩ := owns_shape h.fails
  have c3 := h.c3
  have c4 := h.c4
  have hfew := h.few
  have HH := Lib.hid (rhas_any r.fails x _ w h.fails (by omega))
  have HA := Lib.hid h
  have c4a : (w.alloc (.cells #[] 3)).cell? ⟨b, 4, none⟩ = some (.slice FA r.fails.length fc) := (World.cell?_of_block (Below.heap_alloc _ _ _ h.box.lt)).trans h.c4
  unfold M.rfailR
  by_cases h1 : (r.ops : Int) < x
  · by_cases h2 : x ∈ r.fails
    · rw [if_neg (fun e => e.2.1 h2)]
      rw [decide_eq_true h2] at HH
      clear h h2
      go_enter Tryz.func12, Tryz.ntmps12
      go_wp2_with fail
      refine HH.out.mono ?_
      rintro e w1 ⟨rfl, rfl⟩
      go_wp2_with fail
      go_end0
      exact ⟨rfl, _, HA.out, fun g e => Or.inl e, Kept.refl _ _⟩
    · rw [decide_eq_false h2] at HH
      by_cases h3 : r.fails.length < 100
      · rw [if_pos ⟨h1, h2, h3⟩]
        obtain ⟨n, hn⟩ : ∃ n, n = r.fails.length := ⟨_, rfl⟩
        obtain ⟨xs, hxs⟩ : ∃ xs, xs = r.fails.map (Value.int .i64) := ⟨_, rfl⟩
        have HO1 : Hid (w.ownsRow 0 3 1 (.slice FA n fc) n xs) := by rw [hn, hxs]; exact h.fails
        have HOne : Hid (∀ u ∈ xs, u.oneCell' = true) := by rw [hxs]; exact ints_one _
        have HN : Hid (n ≤ maxLen ∧ n * 8 ≤ 140737488355328 ∧ n + 1 ≤ maxLen ∧ (n + 1) * 8 ≤ 140737488355328) := by refine ⟨?_, ?_, ?_, ?_⟩ <;> (try unfold maxLen) <;> omega
        have HL : Hid (∀ (w3 w4 : World) (g3 c3 g4 c4 : Nat), Kept (fun _ => False) w w3 → w.heap.size ≤ g3 → (w3.alloc (.cells #[.int .i64 x] 3)).grownBy w4 (some g3) → (some g3 = some g4 ∨ g4 = w3.heap.size + 1) → w4.ownsRow 0 3 1 (.slice (some ⟨g4, 0, none⟩) (n + 1) c4) (n + 1) (xs ++ [.int .i64 x]) →
            w4.cell? ⟨b, 4, none⟩ = some (.slice FA n fc) ∧ w4.frozen? ⟨b, 4, none⟩ = false ∧ Hid (RefAt (w4.setCell ⟨b, 4, none⟩ (.slice (some ⟨g4, 0, none⟩) (n + 1) c4)) b SV EV WV (.slice (some ⟨g4, 0, none⟩) (n + 1) c4) { r with fails := r.fails ++ [x] } ∧ w.heap.size ≤ g4 ∧ Kept (fun j => j = b) w (w4.setCell ⟨b, 4, none⟩ (.slice (some ⟨g4, 0, none⟩) (n + 1) c4)))) := by
          intro w3 w4 g3 c3 g4 c4 p1 p2 p3 p4 p5
          rw [hxs] at p5
          have := h.failed hn h3 p1 p2 p3 p4 p5
          rw [hn] at this ⊢
          exact this
        rw [← hn] at c4 c4a h3 HH
        have h3' : (n : Int) < 100 := by omega
        clear h h2 hn hxs hfew HA
        go_enter Tryz.func12, Tryz.ntmps12
        go_wp2_with fail
        refine HH.out.mono ?_
        rintro e w1 ⟨rfl, rfl⟩
        clear HH
        go_wp2_with (first
          | (at_builtin
             refine wpList_append_lies _ rfl _ _ 42 rfl 0 3 i0 (.int .i64 0) 1 8 Tryz.underlying42 hi hz0 hz1 hz2 rfl (by decide) _ _ _ rfl (HW3.out.alloc _) ⟨w3.heap.size, 0, none⟩ 1 1 [.int .i64 x] rfl rfl (cell_one_new _ _ _) (fun u hu => by simp at hu; subst hu; rfl) (by omega) HN.out.2.2.1 HN.out.2.2.2 (Nat.zero_le _) _ rfl ?_
             intro g4 k4 w4 ho4 hgr4 hat4 _
             obtain ⟨q1, q2, HX4⟩ := HL.out w3 w4 g3 k3 g4 k4 HK3.out HG3.out hgr4 (hat4.imp id (fun e => by rw [e, World.size_alloc])) ho4
             clear ho4 hgr4 hat4 HL HW3)
          | (at_builtin
             refine wpList_append_copy rfl _ _ 42 rfl 3 i0 (.int .i64 0) 1 8 Tryz.underlying42 hi hz0 hz1 hz2 rfl (by decide) w1.heap.size rfl rfl (.slice FA n fc) n xs rfl HO1.out HOne.out HN.out.1 HN.out.2.1 ?_
             intro g3 k3 w3 ho3 hk3 hg3
             have HW3 := Lib.hid ho3
             have HK3 := Lib.hid hk3
             have HG3 := Lib.hid hg3
             clear ho3 hk3 hg3))
        go_end0
        exact ⟨rfl, _, HX4.out.1, fun g e => Or.inr (by rw [← own_slice e]; exact HX4.out.2.1), HX4.out.2.2⟩
      · rw [if_neg (fun e => h3 e.2.2)]
        have h3' : ¬ (r.fails.length : Int) < 100 := by omega
        clear h h2 h3
        go_enter Tryz.func12, Tryz.ntmps12
        go_wp2_with fail
        refine HH.out.mono ?_
        rintro e w1 ⟨rfl, rfl⟩
        go_wp2_with fail
        go_end0
        exact ⟨rfl, _, HA.out, fun g e => Or.inl e, Kept.refl _ _⟩
  · rw [if_neg (fun e => h1 e.1)]
    have h1' : decide ((r.ops : Int) < x) = false := by simpa using h1
    clear h h1 HH
    go_enter Tryz.func12, Tryz.ntmps12
    go_wp2_with fail
    go_end0
    exact ⟨rfl, _, HA.out, fun g e => Or.inl e, Kept.refl _ _⟩
theorem rfail_any (x : Int) (w : World) {b : Nat} {P : Nat → Prop} {r : M.R} (h : Ref w b P r) :
    Calls Tryz.prog 12 #[.pointer (some ⟨b, 0, none⟩), .int .i64 x] w fun e w' => e = .returned (.tuple #[]) ∧ Ref w' b (M.plus P w.heap.size) (M.rfailR r x) ∧ Kept P w w' := by
  obtain ⟨SV, EV, WV, FV, h, p0, p1, p2, p3, p4⟩ := h
  refine (rfail_at x w h).mono ?_
  rintro e w' ⟨rfl, FV', hA, hf, hk⟩
  exact ⟨rfl, ⟨SV, EV, WV, FV', hA, Or.inl p0, fun k e => Or.inl (p1 k e), fun k e => Or.inl (p2 k e), fun k e => Or.inl (p3 k e), fun k e => (hf k e).imp (p4 k) id⟩, hk.mono (fun k _ e => e ▸ p0)⟩
end Go.Proofs.YtfdbfafpcbdbdaaGreat
namespace Go.Proofs.YtfdbfafpcbdbdaaGreat
open Go.RowKit

/-- The two are the same; of the numbers that fail those whose calls have not come. -/
structure M.Same (d : M.D) (r : M.R) : Prop where
  sure : r.sure = d.S
  slen : r.seen.length = d.S.length
  seen : ∀ j, j < d.S.length → r.seen[j]? = some (M.seen d.S d.L j)
  wait : r.wait = d.L
  ops : r.ops = d.ops
  at_ : r.at_ = d.da
  off : r.off = d.dn
  fails : ∀ x : Int, (d.ops : Int) < x → (x ∈ d.fails ↔ x ∈ r.fails)
  once : d.fails.Nodup

theorem M.same_new (c : Nat) : M.Same (M.new c) (M.newR c) :=
  ⟨rfl, rfl, fun j hj => by
    have hj' : j < c := by simpa [M.new] using hj
    simp [M.newR, M.new, M.seen, M.seen0, hj'], rfl, rfl, rfl, rfl, fun _ _ => Iff.rfl, List.nodup_nil⟩
section
variable {d : M.D} {r : M.R}
theorem M.Same.callE (h : M.Same d r) : M.callE r = M.beginE d := by
  unfold M.callE M.beginE
  rw [h.off, h.at_, h.ops]
  have := h.fails ((d.ops + 1 : Nat) : Int) (by omega)
  by_cases hm : ((d.ops + 1 : Nat) : Int) ∈ d.fails
  · rw [if_pos (this.1 hm), if_pos hm]
  · rw [if_neg (fun e => hm (this.2 e)), if_neg hm]
theorem M.Same.callL (h : M.Same d r) : M.callL r = ((M.beginD d).dn && !d.dn) := by
  unfold M.callL M.beginD
  rw [h.off, h.at_, h.ops]
  cases d.dn <;> simp
theorem M.Same.begin (h : M.Same d r) : M.Same (M.beginD d) (M.callR r) := by
  refine ⟨h.sure, h.slen, h.seen, h.wait, by show r.ops + 1 = d.ops + 1; rw [h.ops], h.at_, by show (r.off || decide (r.at_ = _)) = (d.dn || decide (d.da = _)); rw [h.off, h.at_, h.ops], fun x hx => ?_, h.once.erase _⟩
  have hx' : ((d.ops + 1 : Nat) : Int) < x := hx
  show x ∈ d.fails.erase ((d.ops + 1 : Nat) : Int) ↔ x ∈ r.fails
  rw [List.mem_erase_of_ne (by omega)]
  exact h.fails x (by omega)
theorem M.Same.readE (h : M.Same d r) (i : Int) : M.rreadE r i = M.readE d i := by
  unfold M.rreadE M.readE
  rw [h.callE, h.slen]
theorem M.Same.readS (h : M.Same d r) (i : Int) : M.rreadS r i = M.readS d i := by
  unfold M.rreadS M.readS
  rw [h.callE, h.slen]
  by_cases hE : M.beginE d = 0
  · rw [if_pos hE, if_pos hE]
    by_cases hb : M.hasB d.S.length i = true
    · rw [if_pos hb, if_pos hb]
      unfold M.hasB at hb
      simp at hb
      have := h.seen i.toNat (by omega)
      rw [List.getD_eq_getElem?_getD, this]
      rfl
    · rw [if_neg hb, if_neg hb]
  · rw [if_neg hE, if_neg hE]
theorem M.Same.writeE (h : M.Same d r) (i : Int) (s : ByteArray) : M.rwriteE r i s = M.writeE d i s := by
  unfold M.rwriteE M.writeE
  rw [h.callE, h.slen]
theorem M.Same.lays (h : M.Same d r) (i : Int) (s : ByteArray) : M.rlays r i s = M.lays d i s := by
  unfold M.rlays M.lays
  rw [h.callE, h.callL, h.slen]
theorem M.Same.write (h : M.Same d r) (i : Int) (s : ByteArray) : M.Same (M.writeD d i s) (M.rwriteR r i s) := by
  have hb := h.begin
  unfold M.writeD M.rwriteR
  rw [h.lays]
  by_cases hl : M.lays d i s = true
  · rw [if_pos hl, if_pos hl]
    refine ⟨hb.sure, by show (r.seen.set i.toNat s).length = _; rw [List.length_set]; exact hb.slen, fun j hj => ?_, by show r.wait ++ [(i.toNat, s)] = d.L ++ [(i.toNat, s)]; rw [h.wait], hb.ops, hb.at_, hb.off, hb.fails, hb.once⟩
    have hj' : j < d.S.length := hj
    show (r.seen.set i.toNat s)[j]? = some (M.seen d.S (d.L ++ [(i.toNat, s)]) j)
    unfold M.seen
    rw [M.seen0_snoc]
    by_cases e : i.toNat = j
    · rw [if_pos e, e, List.getElem?_set_self (by rw [h.slen]; exact hj')]
      rfl
    · rw [if_neg e, List.getElem?_set_ne e]
      exact h.seen j hj'
  · rw [if_neg hl, if_neg hl]
    exact hb
theorem M.Same.flush (h : M.Same d r) : M.Same (M.flushD d) (M.rflushR r) := by
  have hb := h.begin
  unfold M.flushD M.rflushR
  rw [h.callE]
  by_cases hE : M.beginE d = 0
  · rw [if_pos hE, if_pos hE]
    have hS : r.seen = M.rounds (fun _ => true) d.S d.L d.L.length := by
      apply List.ext_getElem?
      intro j
      by_cases hj : j < d.S.length
      · rw [h.seen j hj, M.rounds_all d.S d.L j hj d.L.length (Nat.le_refl _), List.take_length]
      · rw [List.getElem?_eq_none (by rw [h.slen]; omega), List.getElem?_eq_none (by rw [M.rounds_len]; omega)]
    refine ⟨hS, by show r.seen.length = (M.rounds (fun _ => true) d.S d.L d.L.length).length; rw [hS], fun j hj => ?_, rfl, hb.ops, hb.at_, hb.off, hb.fails, hb.once⟩
    have hj' : j < (M.rounds (fun _ => true) d.S d.L d.L.length).length := hj
    show r.seen[j]? = some ((M.seen0 [] j).getD ((M.rounds (fun _ => true) d.S d.L d.L.length).getD j ByteArray.empty))
    rw [hS, M.seen0_nil, Option.getD_none, List.getD_eq_getElem?_getD, List.getElem?_eq_getElem hj']
    rfl
  · rw [if_neg hE, if_neg hE]
    exact hb
theorem M.rounds_none (f : Nat → Bool) (hf : ∀ i, f i = false) (S : List ByteArray) (L : List (Nat × ByteArray)) (i : Nat) : M.rounds f S L i = S := by
  induction i with
  | zero => rfl
  | succ i ih =>
    unfold M.rounds
    split
    · rw [hf, if_neg (by simp)]
      exact ih
    · exact ih
theorem M.Same.restart (h : M.Same d r) (z : Nat → Int) : M.Same (M.restartD d (M.odd 0 z)) (M.restartR r) := by
  have hS : M.rounds (M.odd 0 z) d.S d.L d.L.length = d.S := M.rounds_none _ (fun i => by simp [M.odd]) _ _ _
  unfold M.restartD M.restartR
  rw [hS]
  refine ⟨h.sure, by show r.sure.length = d.S.length; rw [h.sure], fun j hj => ?_, rfl, h.ops, rfl, rfl, fun _ _ => Iff.rfl, List.nodup_nil⟩
  have hj' : j < d.S.length := hj
  show r.sure[j]? = some ((M.seen0 [] j).getD (d.S.getD j ByteArray.empty))
  rw [h.sure, M.seen0_nil, Option.getD_none, List.getD_eq_getElem?_getD, List.getElem?_eq_getElem hj']
  rfl
theorem M.Same.fail (h : M.Same d r) (x : Int) (h1 : d.fails.length < 100) (h2 : r.fails.length < 100) : M.Same (M.failD d x) (M.rfailR r x) := by
  unfold M.failD M.rfailR
  rw [h.ops]
  by_cases hx : (d.ops : Int) < x
  · by_cases hm : x ∈ d.fails
    · rw [if_neg (fun e => e.2.2 hm), if_neg (fun e => e.2.1 ((h.fails x hx).1 hm))]
      exact h
    · have hm' : x ∉ r.fails := fun e => hm ((h.fails x hx).2 e)
      rw [if_pos ⟨hx, h1, hm⟩, if_pos ⟨hx, hm', h2⟩]
      refine ⟨h.sure, h.slen, h.seen, h.wait, rfl, h.at_, h.off, fun y hy => ?_, ?_⟩
      · show y ∈ d.fails ++ [x] ↔ y ∈ r.fails ++ [x]
        rw [List.mem_append, List.mem_append, h.fails y hy]
      · show (d.fails ++ [x]).Nodup
        rw [List.nodup_append]
        exact ⟨h.once, by simp, fun a ha b hb e => by rw [List.mem_singleton.1 hb] at e; exact hm (e ▸ ha)⟩
  · rw [if_neg (fun e => hx e.1), if_neg (fun e => hx e.1)]
    exact h
theorem M.Same.down (h : M.Same d r) (x : Int) : M.Same { d with da := x } { r with at_ := x } := ⟨h.sure, h.slen, h.seen, h.wait, h.ops, rfl, h.off, h.fails, h.once⟩
end
/-- How many numbers are kept at most. -/
theorem M.failD_len (d : M.D) (x : Int) : (M.failD d x).fails.length ≤ d.fails.length + 1 := by
  unfold M.failD
  split <;> simp
theorem M.rfailR_len (r : M.R) (x : Int) : (M.rfailR r x).fails.length ≤ r.fails.length + 1 := by
  unfold M.rfailR
  split <;> simp
theorem M.beginD_len (d : M.D) : (M.beginD d).fails.length ≤ d.fails.length := List.length_erase_le ..
end Go.Proofs.YtfdbfafpcbdbdaaGreat
namespace Go.Proofs.YtfdbfafpcbdbdaaGreat
open Go.RowKit

/-- In y, which came of w: the disk d in block a, the document's disk r in block b; all of both is from block N on; F lies apart. -/
def Two (w y : World) (N a b : Nat) (F : Nat → Prop) (d : M.D) (r : M.R) : Prop :=
  ∃ P Q : Nat → Prop, Disk y a P d ∧ Ref y b Q r ∧ (∀ k, P k → ¬ Q k ∧ ¬ F k ∧ N ≤ k ∧ k < y.heap.size) ∧ (∀ k, Q k → ¬ F k ∧ N ≤ k ∧ k < y.heap.size) ∧ (∀ k, F k → k < y.heap.size) ∧ Below N w y ∧ N ≤ y.heap.size
section
variable {w y y' : World} {N a b : Nat} {F : Nat → Prop} {d d' : M.D} {r r' : M.R}
theorem Two.below (h : Two w y N a b F d r) : Below N w y := let ⟨_, _, _, _, _, _, _, h, _⟩ := h; h
theorem Two.le (h : Two w y N a b F d r) : N ≤ y.heap.size := let ⟨_, _, _, _, _, _, _, _, h⟩ := h; h
theorem Two.inv (h : Two w y N a b F d r) : M.Inv d := let ⟨_, _, h, _⟩ := h; h.inv
/-- A step of the one. -/
theorem Two.stepA {P : Nat → Prop} {Q : Nat → Prop} (hr : Ref y b Q r) (hP : ∀ k, P k → ¬ Q k ∧ ¬ F k ∧ N ≤ k ∧ k < y.heap.size) (hQ : ∀ k, Q k → ¬ F k ∧ N ≤ k ∧ k < y.heap.size) (hF : ∀ k, F k → k < y.heap.size) (hb : Below N w y) (hN : N ≤ y.heap.size)
    (hd : Disk y' a (M.plus P y.heap.size) d') (hk : Kept P y y') : Two w y' N a b F d' r ∧ Kept (fun k => ¬ F k) y y' := by
  have hz := hk.size
  refine ⟨⟨fun k => (P k ∨ y.heap.size ≤ k) ∧ k < y'.heap.size, Q, hd.mono (fun k hk e => ⟨e, hk⟩), hr.kept hk (fun k e e' => (hP k e').1 e), fun k e => ?_, fun k e => ⟨(hQ k e).1, (hQ k e).2.1, by have := (hQ k e).2.2; omega⟩, fun k e => by have := hF k e; omega, hb.trans (hk.below hN (fun k hk e => by have := (hP k e).2.2.1; omega)), by omega⟩, hk.mono (fun k _ e => (hP k e).2.1)⟩
  rcases e.1 with e1 | e1
  · exact ⟨(hP k e1).1, (hP k e1).2.1, (hP k e1).2.2.1, e.2⟩
  · exact ⟨fun e' => by have := (hQ k e').2.2; omega, fun e' => by have := hF k e'; omega, by omega, e.2⟩
theorem Two.stepB {P : Nat → Prop} {Q : Nat → Prop} (hd : Disk y a P d) (hP : ∀ k, P k → ¬ Q k ∧ ¬ F k ∧ N ≤ k ∧ k < y.heap.size) (hQ : ∀ k, Q k → ¬ F k ∧ N ≤ k ∧ k < y.heap.size) (hF : ∀ k, F k → k < y.heap.size) (hb : Below N w y) (hN : N ≤ y.heap.size)
    (hr : Ref y' b (M.plus Q y.heap.size) r') (hk : Kept Q y y') : Two w y' N a b F d r' ∧ Kept (fun k => ¬ F k) y y' := by
  have hz := hk.size
  refine ⟨⟨P, fun k => (Q k ∨ y.heap.size ≤ k) ∧ k < y'.heap.size, hd.kept hk (fun k e e' => (hP k e).1 e'), hr.mono (fun k hk e => ⟨e, hk⟩), fun k e => ⟨?_, (hP k e).2.1, (hP k e).2.2.1, by have := (hP k e).2.2.2; omega⟩, fun k e => ?_, fun k e => by have := hF k e; omega, hb.trans (hk.below hN (fun k hk e => by have := (hQ k e).2.1; omega)), by omega⟩, hk.mono (fun k _ e => (hQ k e).1)⟩
  · rintro ⟨e1 | e1, _⟩
    · exact (hP k e).1 e1
    · have := (hP k e).2.2.2; omega
  · rcases e.1 with e1 | e1
    · exact ⟨(hQ k e1).1, (hQ k e1).2.1, e.2⟩
    · exact ⟨fun e' => by have := hF k e'; omega, by omega, e.2⟩
theorem Two.kept (h : Two w y N a b F d r) {G : Nat → Prop} (hk : Kept G y y') (hG : ∀ k, G k → F k) (hGN : ∀ k, G k → N ≤ k) : Two w y' N a b F d r := by
  obtain ⟨P, Q, hd, hr, hP, hQ, hF, hb, hN⟩ := h
  have hz := hk.size
  exact ⟨P, Q, hd.kept hk (fun k e e' => (hP k e).2.1 (hG k e')), hr.kept hk (fun k e e' => (hQ k e).1 (hG k e')), fun k e => ⟨(hP k e).1, (hP k e).2.1, (hP k e).2.2.1, by have := (hP k e).2.2.2; omega⟩, fun k e => ⟨(hQ k e).1, (hQ k e).2.1, by have := (hQ k e).2.2; omega⟩, fun k e => by have := hF k e; omega, hb.trans (hk.below hN (fun k hk e => by have := hGN k e; omega)), by omega⟩
theorem Two.alloc (h : Two w y N a b F d r) (o : Obj) : Two w (y.alloc o) N a b F d r := h.kept ((Kept.refl (fun _ => False) y).alloc o) (fun _ e => e.elim) (fun _ e => e.elim)
theorem Two.drewN (h : Two w y N a b F d r) (n : Nat) : Two w (y.drewN n) N a b F d r := h.kept ((Kept.refl (fun _ => False) y).drewN n) (fun _ e => e.elim) (fun _ e => e.elim)
theorem Two.drew (h : Two w y N a b F d r) : Two w y.drew N a b F d r := h.drewN 1
/-- A new block stands apart. -/
theorem Two.beside (h : Two w y N a b F d r) (o : Obj) : Two w (y.alloc o) N a b (fun k => F k ∨ k = y.heap.size) d r := by
  obtain ⟨P, Q, hd, hr, hP, hQ, hF, hb, hN⟩ := h
  have h0 := World.size_alloc y o
  refine ⟨P, Q, hd.kept ((Kept.refl (fun _ => False) y).alloc o) (fun _ _ => id), hr.kept ((Kept.refl (fun _ => False) y).alloc o) (fun _ _ => id), fun k e => ⟨(hP k e).1, fun e' => e'.elim (hP k e).2.1 (fun e' => by have := (hP k e).2.2.2; omega), (hP k e).2.2.1, by have := (hP k e).2.2.2; omega⟩, fun k e => ⟨fun e' => e'.elim (hQ k e).1 (fun e' => by have := (hQ k e).2.2; omega), (hQ k e).2.1, by have := (hQ k e).2.2; omega⟩, fun k e => e.elim (fun e => by have := hF k e; omega) (fun e => by omega), hb.alloc hN o, by omega⟩

theorem tread (h : Two w y N a b F d r) (ho : d.ops ≤ 1000000) (i : Int) : Calls Tryz.prog 95 #[.pointer (some ⟨a, 0, none⟩), .int .i64 i] y fun e y' => e = .returned (.tuple #[.string (M.readS d i), .int .i64 (M.readE d i)]) ∧ Two w y' N a b F (M.beginD d) r ∧ Kept (fun k => ¬ F k) y y' := by
  obtain ⟨P, Q, hd, hr, hP, hQ, hF, hb, hN⟩ := h
  exact (read_any i y hd (by omega)).mono fun _ _ ⟨h1, h2, h3⟩ => ⟨h1, Two.stepA hr hP hQ hF hb hN (h2.mono (fun _ _ e => Or.inl e)) h3⟩
theorem twrite (h : Two w y N a b F d r) (ho : d.ops ≤ 1000000) (i : Int) (s : ByteArray) : Calls Tryz.prog 53 #[.pointer (some ⟨a, 0, none⟩), .int .i64 i, .string s] y fun e y' => e = .returned (.int .i64 (M.writeE d i s)) ∧ Two w y' N a b F (M.writeD d i s) r ∧ Kept (fun k => ¬ F k) y y' := by
  obtain ⟨P, Q, hd, hr, hP, hQ, hF, hb, hN⟩ := h
  exact (write_any i s y hd (by omega)).mono fun _ _ ⟨h1, h2, h3⟩ => ⟨h1, Two.stepA hr hP hQ hF hb hN h2 h3⟩
theorem tfail (h : Two w y N a b F d r) (x : Int) : Calls Tryz.prog 10 #[.pointer (some ⟨a, 0, none⟩), .int .i64 x] y fun e y' => e = .returned (.tuple #[]) ∧ Two w y' N a b F (M.failD d x) r ∧ Kept (fun k => ¬ F k) y y' := by
  obtain ⟨P, Q, hd, hr, hP, hQ, hF, hb, hN⟩ := h
  exact (fail_any x y hd).mono fun _ _ ⟨h1, h2, h3⟩ => ⟨h1, Two.stepA hr hP hQ hF hb hN h2 h3⟩
theorem tops (h : Two w y N a b F d r) : Calls Tryz.prog 11 #[.pointer (some ⟨a, 0, none⟩)] y fun e y' => e = .returned (.int .i64 (d.ops : Nat)) ∧ y' = y := by
  obtain ⟨P, Q, hd, _⟩ := h
  exact ops_any y hd
theorem tsectors (h : Two w y N a b F d r) : Calls Tryz.prog 45 #[.pointer (some ⟨a, 0, none⟩)] y fun e y' => e = .returned (.int .i64 (d.S.length : Nat)) ∧ y' = y := by
  obtain ⟨P, Q, hd, _⟩ := h
  exact sectors_any y hd
theorem urread (h : Two w y N a b F d r) (ho : r.ops ≤ 1000000) (i : Int) : Calls Tryz.prog 57 #[.pointer (some ⟨b, 0, none⟩), .int .i64 i] y fun e y' => e = .returned (.tuple #[.string (M.rreadS r i), .int .i64 (M.rreadE r i)]) ∧ Two w y' N a b F d (M.callR r) ∧ Kept (fun k => ¬ F k) y y' := by
  obtain ⟨P, Q, hd, hr, hP, hQ, hF, hb, hN⟩ := h
  exact (rread_any i y hr (by omega)).mono fun _ _ ⟨h1, h2, h3⟩ => ⟨h1, Two.stepB hd hP hQ hF hb hN (h2.mono (fun _ _ e => Or.inl e)) h3⟩
theorem urwrite (h : Two w y N a b F d r) (ho : r.ops ≤ 1000000) (i : Int) (s : ByteArray) : Calls Tryz.prog 55 #[.pointer (some ⟨b, 0, none⟩), .int .i64 i, .string s] y fun e y' => e = .returned (.int .i64 (M.rwriteE r i s)) ∧ Two w y' N a b F d (M.rwriteR r i s) ∧ Kept (fun k => ¬ F k) y y' := by
  obtain ⟨P, Q, hd, hr, hP, hQ, hF, hb, hN⟩ := h
  exact (rwrite_any i s y hr (by omega)).mono fun _ _ ⟨h1, h2, h3⟩ => ⟨h1, Two.stepB hd hP hQ hF hb hN h2 h3⟩
theorem urfail (h : Two w y N a b F d r) (x : Int) : Calls Tryz.prog 12 #[.pointer (some ⟨b, 0, none⟩), .int .i64 x] y fun e y' => e = .returned (.tuple #[]) ∧ Two w y' N a b F d (M.rfailR r x) ∧ Kept (fun k => ¬ F k) y y' := by
  obtain ⟨P, Q, hd, hr, hP, hQ, hF, hb, hN⟩ := h
  exact (rfail_any x y hr).mono fun _ _ ⟨h1, h2, h3⟩ => ⟨h1, Two.stepB hd hP hQ hF hb hN h2 h3⟩
/-- Its fields that are read from outside: how many sectors are seen, how many calls there were. -/
theorem Two.cells (h : Two w y N a b F d r) : ∃ EA ec, y.cell? ⟨b, 1, none⟩ = some (.slice EA r.seen.length ec) ∧ y.cell? ⟨b, 3, none⟩ = some (.int .i64 (r.ops : Nat)) ∧ b < y.heap.size := by
  obtain ⟨P, Q, hd, ⟨SV, EV, WV, FV, hr, _⟩, _⟩ := h
  obtain ⟨EA, ec, rfl, _⟩ := owns_shape hr.seen
  exact ⟨EA, ec, hr.c1, hr.c3, hr.box.lt⟩
end
/-- Both are made, one behind the other. -/
theorem tnew (n : Int) (w y : World) (hb : Below w.heap.size w y) : Calls Tryz.prog 18 #[.int .i64 n] y fun e y' => ∃ a, e = .returned (.pointer (some ⟨a, 0, none⟩)) ∧ Dk w y' w.heap.size a (fun k => w.heap.size ≤ k) (M.new (M.held n)) := knew n w y hb
theorem urnew (n : Int) {w y : World} {a : Nat} {d : M.D} (h : Dk w y w.heap.size a (fun k => w.heap.size ≤ k) d) : Calls Tryz.prog 19 #[.int .i64 n] y fun e y' => ∃ b, e = .returned (.pointer (some ⟨b, 0, none⟩)) ∧ Two w y' w.heap.size a b (fun _ => False) d (M.newR (M.held n)) := by
  refine (rnew_any n y).mono ?_
  rintro e y' ⟨b, rfl, hr, hb2⟩
  have hz := hb2.size
  have hle := h.le
  have hk : Kept (fun _ => False) y y' := Kept.of_below hb2 _
  refine ⟨b, rfl, fun k => w.heap.size ≤ k ∧ k < y.heap.size, fun k => y.heap.size ≤ k ∧ k < y'.heap.size, (h.disk.mono (fun k hk e => ⟨e, hk⟩)).kept hk (fun _ _ => id), hr.mono (fun k hk e => ⟨e, hk⟩), fun k e => ⟨fun e' => by omega, id, e.1, by omega⟩, fun k e => ⟨id, by omega, e.2⟩, fun k e => e.elim, h.below.trans (hb2.mono hle), by omega⟩
end Go.Proofs.YtfdbfafpcbdbdaaGreat
namespace Go.Proofs.YtfdbfafpcbdbdaaGreat
open Go.RowKit

/-- The document's part of the document's disk in block b: mn sectors from fr on. -/
def RReg (y : World) (rb b fr mn : Nat) : Prop := Box y rb 83 #[.pointer (some ⟨b, 0, none⟩), .int .i64 (fr : Nat), .int .i64 (mn : Nat)]
section
variable {y y' : World} {rb b fr mn : Nat}
theorem RReg.c0 (h : RReg y rb b fr mn) : y.cell? ⟨rb, 0, none⟩ = some (.pointer (some ⟨b, 0, none⟩)) := by simpa using Box.cell h 0
theorem RReg.c1 (h : RReg y rb b fr mn) : y.cell? ⟨rb, 1, none⟩ = some (.int .i64 (fr : Nat)) := by simpa using Box.cell h 1
theorem RReg.c2 (h : RReg y rb b fr mn) : y.cell? ⟨rb, 2, none⟩ = some (.int .i64 (mn : Nat)) := by simpa using Box.cell h 2
theorem RReg.lt (h : RReg y rb b fr mn) : rb < y.heap.size := Box.lt h
theorem RReg.kept {P : Nat → Prop} (h : RReg y rb b fr mn) (hk : Kept P y y') (hp : ¬ P rb) : RReg y' rb b fr mn := hk.box h hp
end
theorem Ref.seenCell {w : World} {b : Nat} {P : Nat → Prop} {r : M.R} (h : Ref w b P r) : ∃ EA ec, w.cell? ⟨b, 1, none⟩ = some (.slice EA r.seen.length ec) ∧ r.seen.length ≤ 1000 := by
  obtain ⟨SV, EV, WV, FV, hr, _⟩ := h
  obtain ⟨EA, ec, rfl, _⟩ := owns_shape hr.seen
  exact ⟨EA, ec, hr.c1, by rw [hr.len]; exact hr.many⟩
theorem Ref.plus {w : World} {b : Nat} {P : Nat → Prop} {r : M.R} (h : Ref w b P r) (n : Nat) : Ref w b (M.plus P n) r := h.mono (fun _ _ e => Or.inl e)

theorem hnew_yes (fr m : Int) (w : World) {b : Nat} {P : Nat → Prop} {r : M.R} (h : Ref w b P r) (hy : M.within fr m (r.seen.length : Nat) = true) :
    Calls Tryz.prog 20 #[.pointer (some ⟨b, 0, none⟩), .int .i64 fr, .int .i64 m] w fun e w' => e = .returned (.tuple #[.pointer (some ⟨w.heap.size, 0, none⟩), .int .i64 0]) ∧
      w' = w.alloc (.cells #[.pointer (some ⟨b, 0, none⟩), .int .i64 fr, .int .i64 m] 83) := by
  obtain ⟨EA, ec, c1, hl⟩ := h.seenCell
  obtain ⟨h0, h1, h2⟩ := M.within_yes hy
  obtain ⟨n, hn⟩ : ∃ n, n = r.seen.length := ⟨_, rfl⟩
  rw [← hn] at c1 hl h2
  have f0 : decide (fr < 0) = false := by simpa using h0
  have f1 : decide (m < 0) = false := by simpa using h1
  have f2 : decide ((n : Int) < fr) = false := by simp; omega
  have f3 : decide ((n : Int) - fr < m) = false := by simp; omega
  have g1 : fr ≤ (n : Int) := by omega
  have g2 : (n : Int) ≤ 1000 := by omega
  clear h hy hn hl
  go_enter Tryz.func20, Tryz.ntmps20
  go_wp2_with fail
  go_ret2
  exact ⟨rfl, rfl⟩
theorem hnew_no (fr m : Int) (w : World) {b : Nat} {P : Nat → Prop} {r : M.R} (h : Ref w b P r) (hy : M.within fr m (r.seen.length : Nat) = false) :
    Calls Tryz.prog 20 #[.pointer (some ⟨b, 0, none⟩), .int .i64 fr, .int .i64 m] w fun e w' => e = .returned (.tuple #[.pointer none, .int .i64 3]) ∧ w' = w := by
  obtain ⟨EA, ec, c1, hl⟩ := h.seenCell
  obtain ⟨n, hn⟩ : ∃ n, n = r.seen.length := ⟨_, rfl⟩
  rw [← hn] at c1 hl hy
  have hy' : ¬ (0 ≤ fr ∧ 0 ≤ m ∧ m ≤ (n : Int) - fr) := fun ⟨q1, q2, q3⟩ => by
    unfold M.within at hy
    simp at hy
    omega
  have g2 : (n : Int) ≤ 1000 := by omega
  clear h hy hn hl
  by_cases h0 : fr < 0
  · have f0 : decide (fr < 0) = true := by simpa using h0
    clear hy'
    go_enter Tryz.func20, Tryz.ntmps20
    go_wp2_with fail
    go_ret2
    exact ⟨rfl, rfl⟩
  · have f0 : decide (fr < 0) = false := by simpa using h0
    by_cases h1 : m < 0
    · have f1 : decide (m < 0) = true := by simpa using h1
      clear hy'
      go_enter Tryz.func20, Tryz.ntmps20
      go_wp2_with fail
      go_ret2
      exact ⟨rfl, rfl⟩
    · have f1 : decide (m < 0) = false := by simpa using h1
      by_cases h2 : (n : Int) < fr
      · have f2 : decide ((n : Int) < fr) = true := by simpa using h2
        clear hy'
        go_enter Tryz.func20, Tryz.ntmps20
        go_wp2_with fail
        go_ret2
        exact ⟨rfl, rfl⟩
      · have f2 : decide ((n : Int) < fr) = false := by simpa using h2
        have h3 : (n : Int) - fr < m := by omega
        have f3 : decide ((n : Int) - fr < m) = true := by simpa using h3
        clear hy'
        go_enter Tryz.func20, Tryz.ntmps20
        go_wp2_with fail
        go_ret2
        exact ⟨rfl, rfl⟩

/-- So many sectors are read, from one on, behind what was read before. -/
def M.rrd : Nat → M.R → Nat → ByteArray → ByteArray × Int × M.R
  | 0, r, _, acc => (acc, 0, r)
  | n + 1, r, at_, acc => if M.rreadE r at_ = 0 then M.rrd n (M.callR r) (at_ + 1) (acc ++ M.rreadS r at_) else (⟨#[]⟩, M.rreadE r at_, M.callR r)
theorem M.rreadS_size {r : M.R} (h : ∀ s ∈ r.seen, s.size = 64) {i : Int} (he : M.rreadE r i = 0) : (M.rreadS r i).size = 64 := by
  unfold M.rreadE at he
  unfold M.rreadS
  by_cases hE : M.callE r = 0
  · rw [if_pos hE] at he ⊢
    by_cases hb : M.hasB r.seen.length i = true
    · rw [if_pos hb]
      unfold M.hasB at hb
      simp at hb
      have hlt : i.toNat < r.seen.length := by omega
      rw [List.getD_eq_getElem?_getD, List.getElem?_eq_getElem hlt]
      exact h _ (List.getElem_mem hlt)
    · rw [if_neg hb] at he
      exact absurd he (by omega)
  · rw [if_neg hE] at he
    exact absurd he hE

set_option maxRecDepth 100000 in
set_option maxHeartbeats 1000000 in
theorem hread_at (i m : Nat) (w : World) {rb b fr mn : Nat} {P : Nat → Prop} {r : M.R} (h : Ref w b P r) (hr : RReg w rb b fr mn) (hp : ¬ P rb) (hq : ∀ s ∈ r.seen, s.size = 64) (hin : i + m ≤ mn) (hf : fr ≤ 1000) (hmn : mn ≤ 1000) (ho : r.ops ≤ 1000000000) :
    Calls Tryz.prog 38 #[.pointer (some ⟨rb, 0, none⟩), .int .i64 (i : Nat), .int .i64 (m : Nat)] w fun e w' =>
      e = .returned (.tuple #[.string (M.rrd m r (fr + i) ⟨#[]⟩).1, .int .i64 (M.rrd m r (fr + i) ⟨#[]⟩).2.1]) ∧ Ref w' b P (M.rrd m r (fr + i) ⟨#[]⟩).2.2 ∧ Kept P w w' := by
  have c2 := hr.c2
  have HC : Hid (∀ y, Kept P w y → y.cell? ⟨rb, 0, none⟩ = some (.pointer (some ⟨b, 0, none⟩)) ∧ y.cell? ⟨rb, 1, none⟩ = some (.int .i64 (fr : Nat))) := fun y hk => ⟨(hr.kept hk hp).c0, (hr.kept hk hp).c1⟩
  have HR0 : Hid (Ref w b P r ∧ Kept P w w) := ⟨h, Kept.refl _ _⟩
  obtain ⟨R, hR⟩ : ∃ R, R = M.rrd m r (fr + i) ⟨#[]⟩ := ⟨_, rfl⟩
  have HF := Lib.hid hR
  have HO := Lib.hid ho
  have HB1 := Lib.hid hin
  have HB2 := Lib.hid hf
  have HB3 := Lib.hid hmn
  have HQQ := Lib.hid hq
  rw [← hR]
  obtain ⟨q, hqe⟩ : ∃ q, q = fr + i := ⟨_, rfl⟩
  rw [← hqe] at HF
  have hwq : IntKind.i64.wrap ((fr : Int) + (i : Int)) = (q : Int) := by rw [IntKind.wrap_i64]; omega
  have HWP : Hid (∀ k : Nat, k < m → IntKind.i64.wrap ((q : Int) + (k : Int)) = ((q + k : Nat) : Int) ∧ wrap64 ((k : Int) + 1) = ((k + 1 : Nat) : Int)) := fun k hk => ⟨by rw [IntKind.wrap_i64]; omega, by unfold wrap64; omega⟩
  have f0 : decide ((i : Int) < 0) = false := by simp
  have f1 : decide ((m : Int) < 0) = false := by simp
  have f2 : decide (mn < i) = false := by simp; omega
  have f3 : decide ((mn : Int) - (i : Int) < (m : Int)) = false := by simp; omega
  have g1 : (i : Int) ≤ (mn : Int) := by omega
  have g2 : (mn : Int) ≤ 1000 := by omega
  clear h hr hp hin hf hmn ho hR hqe hq
  go_enter Tryz.func38, Tryz.ntmps38
  go_wp2_with fail
  clear c2 g1 g2
  go_loopw [8, 9] (fun v j wr => ∃ (k : Nat) (rk : M.R) (acc : ByteArray), k ≤ m ∧ j = .int .i64 k ∧ v = .string acc ∧ Hid (Ref wr b P rk ∧ Kept P w wr) ∧ acc.size = 64 * k ∧ Hid (rk.ops = r.ops + k ∧ rk.seen = r.seen) ∧ Hid (R = M.rrd (m - k) rk (q + k) acc)) (fun v j _ => m - (intOf j).toNat)
  case atStart => exact ⟨0, r, ⟨#[]⟩, Nat.zero_le _, rfl, rfl, HR0, rfl, ⟨rfl, rfl⟩, HF.out⟩
  case round =>
    clear HR0
    obtain ⟨k, rk, acc, hk, rfl, rfl, HA, hacc, HOk, HRk⟩ := hrel
    by_cases hlt : k < m
    · have hd : decide (k < m) = true := by simp; omega
      obtain ⟨c0, c1⟩ := HC.out wr HA.out.2
      obtain ⟨hwp, _⟩ := HWP.out k hlt
      obtain ⟨p, hpp⟩ : ∃ p, p = q + k := ⟨_, rfl⟩
      rw [← hpp] at hwp HRk
      have hm1 : m ≤ 1000 := by have := HB1.out; have := HB3.out; omega
      have HRD : Hid (∀ y, (Ref y b P rk ∧ Kept P w y) → Calls Tryz.prog 57 #[.pointer (some ⟨b, 0, none⟩), .int .i64 (p : Nat)] y fun e y' => e = .returned (.tuple #[.string (M.rreadS rk (p : Nat)), .int .i64 (M.rreadE rk (p : Nat))]) ∧ Ref y' b P (M.callR rk) ∧ Kept P w y') := fun y hy =>
        (rread_any (p : Nat) y hy.1 (by have := HOk.out.1; have := HO.out; omega)).mono fun _ _ ⟨h1, h2, h3⟩ => ⟨h1, h2, hy.2.trans h3⟩
      have HAd : Hid (Ref wr.drew b P rk ∧ Kept P w wr.drew) := ⟨HA.out.1.kept ((Kept.refl (fun _ => False) wr).drewN 1) (fun _ _ => id), HA.out.2.drew⟩
      have HON : Hid ((M.callR rk).ops = r.ops + (k + 1) ∧ (M.callR rk).seen = r.seen) := ⟨by show rk.ops + 1 = _; rw [HOk.out.1]; omega, HOk.out.2⟩
      have HKM : Hid (k + 1 ≤ m ∧ m ≤ 1000) := ⟨hlt, hm1⟩
      by_cases hE : M.rreadE rk (p : Nat) = 0
      · have hs64 := M.rreadS_size (r := rk) (by rw [HOk.out.2]; exact HQQ.out) hE
        rw [hE] at HRD
        have HRn : Hid (R = M.rrd (m - (k + 1)) (M.callR rk) (p + 1) (acc ++ M.rreadS rk (p : Nat))) := by
          show R = _
          rw [HRk.out, show m - k = (m - (k + 1)) + 1 by omega, M.rrd, if_pos hE]
        obtain ⟨t, ht⟩ : ∃ t, t = M.rreadS rk (p : Nat) := ⟨_, rfl⟩
        rw [← ht] at HRD hs64 HRn
        have HT : Hid ((acc ++ t).size = 64 * (k + 1)) := by show (acc ++ t).size = _; rw [ByteArray.size_append]; omega
        have ba : acc.size ≤ 100000 := by omega
        have bt : t.size ≤ 100000 := by omega
        have HPP := Lib.hid hpp
        clear ht hpp hE hs64 hacc hm1 hlt hk HA HRk HOk
        go_wp2_with fail
        go_region_held3 (fun y => y.cell? ⟨rb, 0, none⟩ = some (.pointer (some ⟨b, 0, none⟩)) ∧ y.cell? ⟨rb, 1, none⟩ = some (.int .i64 (fr : Nat))) (first | exact ⟨c0, c1⟩ | exact ⟨d0, d1⟩) (first
          | (go_at_call 57
             refine (HRD.out _ HAd.out).mono ?_
             rintro e w2 ⟨rfl, h2⟩
             obtain ⟨d0, d1⟩ := HC.out w2 h2.2
             have H2 := Lib.hid h2
             clear h2 HRD))
        clear hwp hwq
        have hkb : (k : Int) ≤ 1000 := by have := HKM.out; omega
        go_wp2_with fail
        go_roundw
        case rel => exact ⟨k + 1, _, _, HKM.out.1, by go_num, rfl, H2, HT.out, HON, by have := HRn.out; rwa [HPP.out] at this⟩
        case measure => have := HKM.out.1; simp [intOf]; omega
      · have HRn : Hid (R = (⟨#[]⟩, M.rreadE rk (p : Nat), M.callR rk)) := by
          show R = _
          rw [HRk.out, show m - k = (m - (k + 1)) + 1 by omega, M.rrd, if_neg hE]
        obtain ⟨E, hEE⟩ : ∃ E, E = M.rreadE rk (p : Nat) := ⟨_, rfl⟩
        rw [← hEE] at HRD HRn hE
        have hE' : (E == 0) = false := by rw [beq_eq_false_iff_ne]; exact hE
        clear hEE hpp hE hacc hm1 hlt hk HA HRk HOk
        go_wp2_with fail
        go_region_held3 (fun y => y.cell? ⟨rb, 0, none⟩ = some (.pointer (some ⟨b, 0, none⟩)) ∧ y.cell? ⟨rb, 1, none⟩ = some (.int .i64 (fr : Nat))) (first | exact ⟨c0, c1⟩ | exact ⟨d0, d1⟩) (first
          | (go_at_call 57
             refine (HRD.out _ HAd.out).mono ?_
             rintro e w2 ⟨rfl, h2⟩
             obtain ⟨d0, d1⟩ := HC.out w2 h2.2
             have H2 := Lib.hid h2
             clear h2 HRD))
        go_wp2_with fail
        go_ret2
        rw [HRn.out]
        exact ⟨rfl, H2.out⟩
    · have e : k = m := by omega
      subst e
      have HRn : Hid (R = (acc, 0, rk)) := by
        show R = _
        rw [HRk.out, Nat.sub_self, M.rrd]
      clear hacc hlt hk HRk HOk
      go_wp2_with fail
      go_ret2
      rw [HRn.out]
      exact ⟨rfl, HA.out⟩
theorem hread_no (i m : Int) (w : World) {rb b fr mn : Nat} (hr : RReg w rb b fr mn) (hmn : mn ≤ 1000) (hy : M.within i m (mn : Nat) = false) :
    Calls Tryz.prog 38 #[.pointer (some ⟨rb, 0, none⟩), .int .i64 i, .int .i64 m] w fun e w' => e = .returned (.tuple #[.string ⟨#[]⟩, .int .i64 3]) ∧ w' = w := by
  have c2 := hr.c2
  have hy' : ¬ (0 ≤ i ∧ 0 ≤ m ∧ m ≤ (mn : Int) - i) := fun ⟨q1, q2, q3⟩ => by
    unfold M.within at hy
    simp at hy
    omega
  have g2 : (mn : Int) ≤ 1000 := by omega
  clear hr hy hmn
  by_cases h0 : i < 0
  · have f0 : decide (i < 0) = true := by simpa using h0
    clear hy'
    go_enter Tryz.func38, Tryz.ntmps38
    go_wp2_with fail
    go_ret2
    exact ⟨rfl, rfl⟩
  · have f0 : decide (i < 0) = false := by simpa using h0
    by_cases h1 : m < 0
    · have f1 : decide (m < 0) = true := by simpa using h1
      clear hy'
      go_enter Tryz.func38, Tryz.ntmps38
      go_wp2_with fail
      go_ret2
      exact ⟨rfl, rfl⟩
    · have f1 : decide (m < 0) = false := by simpa using h1
      by_cases h2 : (mn : Int) < i
      · have f2 : decide ((mn : Int) < i) = true := by simpa using h2
        clear hy'
        go_enter Tryz.func38, Tryz.ntmps38
        go_wp2_with fail
        go_ret2
        exact ⟨rfl, rfl⟩
      · have f2 : decide ((mn : Int) < i) = false := by simpa using h2
        have h3 : (mn : Int) - i < m := by omega
        have f3 : decide ((mn : Int) - i < m) = true := by simpa using h3
        clear hy'
        go_enter Tryz.func38, Tryz.ntmps38
        go_wp2_with fail
        go_ret2
        exact ⟨rfl, rfl⟩
/-- What a read comes to, wherever. -/
def M.hread (r : M.R) (fr mn : Nat) (i m : Int) : ByteArray × Int × M.R := if M.within i m (mn : Nat) = true then M.rrd m.toNat r (fr + i.toNat) ⟨#[]⟩ else (⟨#[]⟩, 3, r)
theorem hread_any (i m : Int) (w : World) {rb b fr mn : Nat} {P : Nat → Prop} {r : M.R} (h : Ref w b P r) (hr : RReg w rb b fr mn) (hp : ¬ P rb) (hq : ∀ s ∈ r.seen, s.size = 64) (hf : fr ≤ 1000) (hmn : mn ≤ 1000) (ho : r.ops ≤ 1000000000) :
    Calls Tryz.prog 38 #[.pointer (some ⟨rb, 0, none⟩), .int .i64 i, .int .i64 m] w fun e w' =>
      e = .returned (.tuple #[.string (M.hread r fr mn i m).1, .int .i64 (M.hread r fr mn i m).2.1]) ∧ Ref w' b P (M.hread r fr mn i m).2.2 ∧ Kept P w w' := by
  unfold M.hread
  by_cases hy : M.within i m (mn : Nat) = true
  · rw [if_pos hy]
    obtain ⟨h0, h1, h2⟩ := M.within_yes hy
    obtain ⟨k, rfl⟩ : ∃ k : Nat, i = k := ⟨i.toNat, by omega⟩
    obtain ⟨n, rfl⟩ : ∃ k : Nat, m = k := ⟨m.toNat, by omega⟩
    rw [Int.toNat_natCast, Int.toNat_natCast]
    exact hread_at k n w h hr hp hq (by omega) hf hmn ho
  · rw [if_neg hy]
    refine (hread_no i m w hr hmn (by simpa using hy)).mono ?_
    rintro e w' ⟨rfl, rfl⟩
    exact ⟨rfl, h, Kept.refl _ _⟩
end Go.Proofs.YtfdbfafpcbdbdaaGreat
namespace Go.Proofs.YtfdbfafpcbdbdaaGreat
open Go.RowKit

theorem hsplit_size (i : Int) (s : ByteArray) (w : World) {rb : Nat} (hs : s.size % 64 ≠ 0) :
    Calls Tryz.prog 54 #[.pointer (some ⟨rb, 0, none⟩), .int .i64 i, .string s] w fun e w' => e = .returned (.tuple #[.slice none 0 0, .int .i64 12]) ∧ w' = w := by
  have h1 : (((s.size : Int) % 64) == 0) = false := by
    rw [beq_eq_false_iff_ne]
    omega
  have h2 : (((s.size : Int) % 64) != 0) = true := by
    rw [bne, h1]
    rfl
  clear hs
  go_enter Tryz.func54, Tryz.ntmps54
  go_wp2_with fail
  go_ret2
  exact ⟨rfl, rfl⟩
theorem hsplit_no (i : Int) (n : Nat) (s : ByteArray) (w : World) {rb b fr mn : Nat} (hr : RReg w rb b fr mn) (hs : s.size = 64 * n) (hn : n ≤ 1000000000) (hmn : mn ≤ 1000) (hy : M.within i (n : Nat) (mn : Nat) = false) :
    Calls Tryz.prog 54 #[.pointer (some ⟨rb, 0, none⟩), .int .i64 i, .string s] w fun e w' => e = .returned (.tuple #[.slice none 0 0, .int .i64 3]) ∧ w' = w := by
  have c2 := hr.c2
  have h1 : (s.size : Int).tmod 64 = 0 := by rw [Int.tmod_eq_emod_of_nonneg (by omega)]; omega
  have h2 : (s.size : Int).tdiv 64 = (n : Int) := by rw [Int.tdiv_eq_ediv_of_nonneg (by omega)]; omega
  have hn1 : (n : Int) ≤ 1000000000 := by omega
  have hy' : ¬ (0 ≤ i ∧ (n : Int) ≤ (mn : Int) - i) := fun ⟨q1, q3⟩ => by
    unfold M.within at hy
    simp at hy
    omega
  have g2 : (mn : Int) ≤ 1000 := by omega
  clear hr hy hmn hs hn
  by_cases h0 : i < 0
  · have f0 : decide (i < 0) = true := by simpa using h0
    clear hy'
    go_enter Tryz.func54, Tryz.ntmps54
    go_wp2_with fail
    go_ret2
    exact ⟨rfl, rfl⟩
  · have f0 : decide (i < 0) = false := by simpa using h0
    by_cases h2 : (mn : Int) < i
    · have f2 : decide ((mn : Int) < i) = true := by simpa using h2
      clear hy'
      go_enter Tryz.func54, Tryz.ntmps54
      go_wp2_with fail
      go_ret2
      exact ⟨rfl, rfl⟩
    · have f2 : decide ((mn : Int) < i) = false := by simpa using h2
      have h3 : (mn : Int) - i < (n : Int) := by omega
      have f3 : decide ((mn : Int) - i < (n : Int)) = true := by simpa using h3
      clear hy'
      go_enter Tryz.func54, Tryz.ntmps54
      go_wp2_with fail
      go_ret2
      exact ⟨rfl, rfl⟩

theorem cut_more {w wr y3 : World} {B k q g c : Nat} {LA : Option Addr} {lc : Nat} {s t : ByteArray} {p : Nat} (hb : Below B w wr) (hB : B = w.heap.size) (hrow : wr.ownsRow B 60 2 (.slice LA k lc) k (M.cells (M.cut k q s))) (hp : p = q + k) (ht : t = M.piece s k)
    (ho : y3.ownsRow B 60 2 (.slice (some ⟨g, 0, none⟩) (k + 1) c) (k + 1) (M.cells (M.cut k q s) ++ [.int .i64 (p : Nat), .string t]))
    (hg : (wr.alloc (.cells #[.int .i64 (p : Nat), .string t] 60)).drew.grownBy y3 (Value.slice LA k lc).ownBlock) :
    y3.ownsRow B 60 2 (.slice (some ⟨g, 0, none⟩) (k + 1) c) (k + 1) (M.cells (M.cut (k + 1) q s)) ∧ Below B w y3 := by
  have hz : B ≤ wr.heap.size := by rw [hB]; exact hb.size
  refine ⟨?_, ?_⟩
  · rw [M.cut_snoc, M.cells_snoc, ← hp, ← ht]
    exact ho
  · have hg' : (wr.alloc (.cells #[.int .i64 (p : Nat), .string t] 60)).grownBy y3 (Value.slice LA k lc).ownBlock := ⟨hg.os, hg.tape, hg.output, hg.size, hg.block⟩
    exact (hb.alloc hz _).grown hg' (by rw [World.size_alloc]; omega) (fun k e => (hrow.lt k e).1)

set_option maxRecDepth 100000 in
set_option maxHeartbeats 2000000 in
theorem hsplit_yes (i n : Nat) (s : ByteArray) (w : World) {rb b fr mn : Nat} (hr : RReg w rb b fr mn) (hs : s.size = 64 * n) (hin : i + n ≤ mn) (hf : fr ≤ 1000) (hmn : mn ≤ 1000) :
    Calls Tryz.prog 54 #[.pointer (some ⟨rb, 0, none⟩), .int .i64 (i : Nat), .string s] w fun e w' =>
      ∃ v, e = .returned (.tuple #[v, .int .i64 0]) ∧ w'.ownsRow w.heap.size 60 2 v n (M.cells (M.cut n (fr + i) s)) ∧ Below w.heap.size w w' := by
  obtain ⟨i0, hi, hz0, hz1, hz2⟩ := info_parts infoSec
  have c2 := hr.c2
  have hlt := hr.lt
  obtain ⟨B, hB⟩ : ∃ B, B = w.heap.size := ⟨_, rfl⟩
  rw [← hB]
  have HC : Hid (∀ y, Below B w y → y.cell? ⟨rb, 1, none⟩ = some (.int .i64 (fr : Nat))) := fun y hk => (World.cell?_of_block (hk.block rb (by rw [hB]; exact hlt))).trans hr.c1
  have h1 : (s.size : Int).tmod 64 = 0 := by rw [Int.tmod_eq_emod_of_nonneg (by omega)]; omega
  have h2 : (s.size : Int).tdiv 64 = (n : Int) := by rw [Int.tdiv_eq_ediv_of_nonneg (by omega)]; omega
  have hn1 : (n : Int) ≤ 1000 := by omega
  have f0 : decide ((i : Int) < 0) = false := by simp
  have f2 : decide (mn < i) = false := by simp; omega
  have f3 : decide ((mn : Int) - (i : Int) < (n : Int)) = false := by simp; omega
  have g1 : (i : Int) ≤ (mn : Int) := by omega
  have g2 : (mn : Int) ≤ 1000 := by omega
  obtain ⟨q, hq⟩ : ∃ q, q = fr + i := ⟨_, rfl⟩
  rw [← hq]
  have HBB := Lib.hid hB
  have HB := Lib.hid (And.intro hs (And.intro hin (And.intro hf (And.intro hmn hq))))
  clear hr hin hf hmn hlt hs hB hq
  go_enter Tryz.func54, Tryz.ntmps54
  go_wp2_with fail
  clear c2 g1 g2
  go_loopw [9, 10] (fun v j wr => ∃ k : Nat, k ≤ n ∧ j = .int .i64 k ∧ Hid (wr.ownsRow B 60 2 v k (M.cells (M.cut k q s)) ∧ Below B w wr)) (fun v j _ => n - (intOf j).toNat)
  case atStart => exact ⟨0, Nat.zero_le _, rfl, World.ownsRow_nil _ _ _ _, by rw [HBB.out]; exact Below.refl _ _⟩
  case round =>
    obtain ⟨k, hk, rfl, HW⟩ := hrel
    obtain ⟨LA, lc, rfl, _⟩ := owns_shape HW.out.1
    by_cases hlt : k < n
    · have hd : decide (k < n) = true := by simp; omega
      have c1 := HC.out wr HW.out.2
      obtain ⟨hs, hin, hf, hmn, hq⟩ := HB.out
      obtain ⟨p, hp⟩ : ∃ p, p = q + k := ⟨_, rfl⟩
      obtain ⟨st, hst⟩ : ∃ st, st = 64 * k := ⟨_, rfl⟩
      obtain ⟨en, hen⟩ : ∃ en, en = 64 * k + 64 := ⟨_, rfl⟩
      obtain ⟨k1, hk1⟩ : ∃ k1, k1 = k + 1 := ⟨_, rfl⟩
      have e1 : IntKind.i64.wrap ((fr : Int) + (i : Int)) = (q : Int) := by rw [IntKind.wrap_i64]; omega
      have e2 : IntKind.i64.wrap ((q : Int) + (k : Int)) = (p : Int) := by rw [IntKind.wrap_i64]; omega
      have e3 : IntKind.i64.wrap ((k : Int) * 64) = (st : Int) := by rw [IntKind.wrap_i64]; omega
      have e4 : IntKind.i64.wrap ((k : Int) + 1) = (k1 : Int) := by rw [IntKind.wrap_i64]; omega
      have e5 : IntKind.i64.wrap ((k1 : Int) * 64) = (en : Int) := by rw [IntKind.wrap_i64]; omega
      have b1 : (0 : Int) ≤ (st : Int) := by omega
      have b2 : (st : Int) ≤ (en : Int) := by omega
      have b3 : (en : Int) ≤ (s.size : Int) := by omega
      have b4 : (0 : Int) ≤ (en : Int) := by omega
      obtain ⟨t, ht⟩ : ∃ t, t = s.extract st en := ⟨_, rfl⟩
      have htp : t = M.piece s k := by rw [ht, hst, hen]; rfl
      have HTX : Hid (s.extract st en = t) := ht.symm
      obtain ⟨xs, hxs⟩ : ∃ xs, xs = M.cells (M.cut k q s) := ⟨_, rfl⟩
      have HN : Hid (k + 1 ≤ maxLen ∧ (k + 1) * 24 ≤ 140737488355328 ∧ B ≤ wr.heap.size + 1) := ⟨by unfold maxLen; omega, by omega, by have := HW.out.2.size; have := HBB.out; omega⟩
      have HO : Hid ((wr.alloc (.cells #[.int .i64 (p : Nat), .string (s.extract st en)] 60)).drew.ownsRow B 60 2 (.slice LA k lc) k xs) := by rw [hxs]; exact HW.out.1.alloc _
      have HCN : Hid (∀ j u, [Value.int .i64 (p : Nat), .string (s.extract st en)][j]? = some u → (wr.alloc (.cells #[.int .i64 (p : Nat), .string (s.extract st en)] 60)).drew.cell? ((⟨wr.heap.size, 0, none⟩ : Addr).add j) = some u) := cell2_new _ _ _ _
      have HL : Hid (∀ (y3 : World) (g c : Nat), y3.ownsRow B 60 2 (.slice (some ⟨g, 0, none⟩) (k + 1) c) (k + 1) (xs ++ [.int .i64 (p : Nat), .string (s.extract st en)]) → (wr.alloc (.cells #[.int .i64 (p : Nat), .string (s.extract st en)] 60)).drew.grownBy y3 (Value.slice LA k lc).ownBlock →
          Hid (y3.ownsRow B 60 2 (.slice (some ⟨g, 0, none⟩) (k + 1) c) (k + 1) (M.cells (M.cut (k + 1) q s)) ∧ Below B w y3)) := by
        intro y3 g c p1 p2
        rw [hxs, ← ht] at p1
        rw [← ht] at p2
        exact cut_more HW.out.2 HBB.out HW.out.1 hp htp p1 p2
      have HKN : Hid (k < n ∧ n ≤ 1000) := ⟨hlt, by omega⟩
      clear hs hin hf hmn hq hp hst hen hk1 ht htp hxs HW hlt hk HTX
      go_wp2_with fail
      go_region_law (refine step_append_lies _ rfl _ _ 31 rfl B 60 i0 (.agg #[.int .i64 0, .string ⟨#[]⟩]) 2 24 Tryz.underlying31 hi hz0 hz1 hz2 rfl (by decide) (.slice LA k lc) k xs rfl (by exact HO.out) ⟨wr.heap.size, 0, none⟩ 1 1 [.int .i64 (p : Nat), .string (s.extract st en)] rfl rfl (by exact HCN.out) (fun x hx => by simp at hx; rcases hx with rfl | rfl <;> rfl) (by omega) HN.out.1 HN.out.2.1 (by show B ≤ (wr.alloc _).heap.size; rw [World.size_alloc]; exact HN.out.2.2) (wr.heap.size + 1) (by simp [World.drew]) ?_; intro g3 k3 w3 hown3 hgrow3 _ _; have HX := HL.out w3 g3 k3 hown3 hgrow3; clear hown3 hgrow3)
      all_goals
        clear e1 e2 e3 e4 e5
        have hkb : (k : Int) ≤ 1000 := by have := HKN.out; omega
        go_wp2_with fail
        go_roundw
        case rel => exact ⟨k + 1, HKN.out.1, by go_num, HX⟩
        case measure => have := HKN.out; simp [intOf]; omega
    · have e : k = n := by omega
      subst e
      clear hlt hk
      go_wp2_with fail
      go_ret2
      exact ⟨_, rfl, HW.out⟩
end Go.Proofs.YtfdbfafpcbdbdaaGreat
namespace Go.Proofs.YtfdbfafpcbdbdaaGreat
open Go.RowKit

/-- Sectors are written, in order, up to the first error. -/
def M.rwr : List (Nat × ByteArray) → M.R → Int × M.R
  | [], r => (0, r)
  | p :: L, r => if M.rwriteE r p.1 p.2 = 0 then M.rwr L (M.rwriteR r p.1 p.2) else (M.rwriteE r p.1 p.2, M.rwriteR r p.1 p.2)
theorem M.rwriteR_ops (r : M.R) (i : Int) (s : ByteArray) : (M.rwriteR r i s).ops = r.ops + 1 := by unfold M.rwriteR; split <;> rfl

/-- The document's disk, its part and the sectors, in the midst of Write. -/
structure RWrAt (w y : World) (rb b fr mn : Nat) (P : Nat → Prop) (r : M.R) (v : Value) (L : List (Nat × ByteArray)) : Prop where
  ref : ∃ Q : Nat → Prop, Ref y b Q r ∧ (∀ k, Q k → k ≠ rb ∧ v.ownBlock ≠ some k ∧ k < y.heap.size ∧ (k < w.heap.size → P k))
  kept : Kept P w y
  reg : RReg y rb b fr mn
  row : y.ownsRow w.heap.size 60 2 v L.length (M.cells L)
section
variable {w y : World} {rb b fr mn : Nat} {P : Nat → Prop} {r : M.R} {v : Value} {L : List (Nat × ByteArray)}
theorem RWrAt.drew (h : RWrAt w y rb b fr mn P r v L) : RWrAt w y.drew rb b fr mn P r v L := by
  obtain ⟨Q, h1, h2⟩ := h.ref
  exact ⟨⟨Q, h1.kept ((Kept.refl (fun _ => False) y).drewN 1) (fun _ _ => id), h2⟩, h.kept.drew, h.reg.kept ((Kept.refl (fun _ => False) y).drew) id, ((Kept.refl (fun _ => False) y).drew).owns h.row (fun _ _ => id)⟩
theorem RWrAt.write (h : RWrAt w y rb b fr mn P r v L) (ho : r.ops ≤ 1099511627776) (i : Int) (s : ByteArray) :
    Calls Tryz.prog 55 #[.pointer (some ⟨b, 0, none⟩), .int .i64 i, .string s] y fun e y' => e = .returned (.int .i64 (M.rwriteE r i s)) ∧ RWrAt w y' rb b fr mn P (M.rwriteR r i s) v L := by
  obtain ⟨Q, h1, h2⟩ := h.ref
  refine (rwrite_any i s y h1 ho).mono ?_
  rintro e y' ⟨rfl, h3, h4⟩
  have hz := h4.size
  have hw := h.kept.size
  have hrl := h.reg.lt
  refine ⟨rfl, ⟨fun k => (Q k ∨ y.heap.size ≤ k) ∧ k < y'.heap.size, h3.mono (fun _ hk e => ⟨e, hk⟩), fun k e => ?_⟩, h.kept.next h4 (fun k hk e => (h2 k e).2.2.2 hk), h.reg.kept h4 (fun e => (h2 rb e).1 rfl), h4.owns h.row (fun k e e' => (h2 k e').2.1 e)⟩
  rcases e.1 with e1 | e1
  · exact ⟨(h2 k e1).1, (h2 k e1).2.1, e.2, (h2 k e1).2.2.2⟩
  · exact ⟨by omega, fun e' => by have := (h.row.lt k e').2; omega, e.2, fun h => by omega⟩
theorem RWrAt.out (h : RWrAt w y rb b fr mn P r v L) : Ref y b (M.plus P w.heap.size) r ∧ Kept P w y := by
  obtain ⟨Q, h1, h2⟩ := h.ref
  refine ⟨h1.mono (fun k _ e => ?_), h.kept⟩
  by_cases hlt : k < w.heap.size
  · exact Or.inl ((h2 k e).2.2.2 hlt)
  · exact Or.inr (by omega)
theorem RWrAt.cells (h : RWrAt w y rb b fr mn P r v L) {A : Option Addr} {c n : Nat} (hv : v = .slice A n c) {k : Nat} {p : Nat × ByteArray} (hp : L[k]? = some p) : ∃ g, A = some ⟨g, 0, none⟩ ∧ y.cell? ⟨g, k * 2, none⟩ = some (.int .i64 (p.1 : Nat)) ∧ y.cell? ⟨g, k * 2 + 1, none⟩ = some (.string p.2) := by
  have hl := (List.getElem?_eq_some_iff.1 hp).1
  rcases h.row.2 with ⟨_, e⟩ | ⟨g, cap, cur, e, _⟩
  · omega
  · have hr := h.row
    rw [e] at hr
    refine ⟨g, ?_, owned_writes hr hp⟩
    rw [hv] at e
    injection e
end

set_option maxRecDepth 100000 in
set_option maxHeartbeats 1000000 in
theorem hwrite_yes (i n : Nat) (s : ByteArray) (w : World) {rb b fr mn : Nat} {P : Nat → Prop} {r : M.R} (h : Ref w b P r) (hr : RReg w rb b fr mn) (hp : ¬ P rb) (hs : s.size = 64 * n) (hin : i + n ≤ mn) (hf : fr ≤ 1000) (hmn : mn ≤ 1000) (ho : r.ops ≤ 1000000000) :
    Calls Tryz.prog 33 #[.pointer (some ⟨rb, 0, none⟩), .int .i64 (i : Nat), .string s] w fun e w' =>
      e = .returned (.int .i64 (M.rwr (M.cut n (fr + i) s) r).1) ∧ Ref w' b (M.plus P w.heap.size) (M.rwr (M.cut n (fr + i) s) r).2 ∧ Kept P w w' := by
  have HSP := Lib.hid (hsplit_yes i n s w hr hs hin hf hmn)
  obtain ⟨L, hL⟩ : ∃ L, L = M.cut n (fr + i) s := ⟨_, rfl⟩
  have hLn : L.length = n := by rw [hL, M.cut_len]
  rw [← hL] at HSP ⊢
  have HST : Hid (∀ w1 v, w1.ownsRow w.heap.size 60 2 v n (M.cells L) → Below w.heap.size w w1 → RWrAt w w1 rb b fr mn P r v L) := by
    intro w1 v h1 h2
    have hk : Kept (fun _ => False) w w1 := Kept.of_below h2 _
    have hz := h2.size
    have hrl := hr.lt
    refine ⟨⟨fun k => P k ∧ k < w.heap.size, (h.mono (fun _ hk e => ⟨e, hk⟩)).kept hk (fun _ _ => id), fun k e => ⟨fun e' => hp (e' ▸ e.1), fun e' => by have := (h1.lt k e').1; omega, by omega, fun _ => e.1⟩⟩, hk.mono (fun _ _ e => e.elim), hr.kept hk id, ?_⟩
    rw [hLn]
    exact h1
  obtain ⟨R, hR⟩ : ∃ R, R = M.rwr L r := ⟨_, rfl⟩
  have HF := Lib.hid hR
  have HLN := Lib.hid hLn
  have HO : Hid (r.ops ≤ 1000000000 ∧ n ≤ 1000) := ⟨ho, by omega⟩
  have hn1 : (n : Int) ≤ 1000 := by omega
  rw [← hR]
  clear h hr hp hs hin hf hmn ho hL hLn hR
  go_enter Tryz.func33, Tryz.ntmps33
  go_wp2_with fail
  refine HSP.out.mono ?_
  rintro e w1 ⟨v, rfl, h1, h2⟩
  have HA0 := Lib.hid (HST.out w1 v h1 h2)
  obtain ⟨A, c, hv, _⟩ := owns_shape h1
  subst hv
  clear h1 h2 HST HSP
  go_wp2_with fail
  go_loopw [8, 9] (fun x j wr => ∃ (k : Nat) (rk : M.R) (E : Int), k ≤ n ∧ x = .int .i64 E ∧ j = .int .i64 k ∧ Hid (RWrAt w wr rb b fr mn P rk (.slice A n c) L) ∧ Hid (rk.ops = r.ops + k) ∧ ((E = 0 ∧ Hid (R = M.rwr (L.drop k) rk)) ∨ (E ≠ 0 ∧ Hid (R = (E, rk))))) (fun x j _ => n - (intOf j).toNat)
  case atStart => exact ⟨0, r, 0, Nat.zero_le _, rfl, rfl, HA0, rfl, Or.inl ⟨rfl, HF.out⟩⟩
  case round =>
    clear HA0 HF
    obtain ⟨k, rk, E, hk, rfl, rfl, HA, HOk, ⟨rfl, HRk⟩ | ⟨hE0, HRk⟩⟩ := hrel
    · by_cases hlt : k < n
      · have hk0 : (0 : Int) ≤ (k : Int) := by omega
        have hlt' : (k : Int) < (n : Int) := by omega
        obtain ⟨p, hp⟩ : ∃ p, L[k]? = some p := ⟨L[k]'(by have := HLN.out; omega), List.getElem?_eq_getElem _⟩
        obtain ⟨g, rfl, x0, x1⟩ := HA.out.cells rfl hp
        have HRn : Hid (R = M.rwr (p :: L.drop (k + 1)) rk) := by show R = _; rw [← M.drop_at hp]; exact HRk.out
        obtain ⟨at_, t⟩ := p
        simp only at x0 x1
        have c0 := HA.out.reg.c0
        have HW := Lib.hid (HA.out.drew.write (by have := HOk.out; have := HO.out; omega) (at_ : Nat) t)
        have HON : Hid ((M.rwriteR rk (at_ : Nat) t).ops = r.ops + (k + 1)) := by show (M.rwriteR rk (at_ : Nat) t).ops = _; rw [M.rwriteR_ops, HOk.out]; omega
        obtain ⟨E, hEE⟩ : ∃ E, E = M.rwriteE rk (at_ : Nat) t := ⟨_, rfl⟩
        have HRm : Hid ((E = 0 ∧ Hid (R = M.rwr (L.drop (k + 1)) (M.rwriteR rk (at_ : Nat) t))) ∨ (E ≠ 0 ∧ Hid (R = (E, M.rwriteR rk (at_ : Nat) t)))) := by
          by_cases hE : M.rwriteE rk (at_ : Nat) t = 0
          · refine Or.inl ⟨hEE.trans hE, ?_⟩
            show R = _
            rw [HRn.out, M.rwr, if_pos hE]
          · refine Or.inr ⟨hEE ▸ hE, ?_⟩
            show R = _
            rw [HRn.out, M.rwr, if_neg hE, hEE]
        rw [← hEE] at HW
        clear hp HA HRk HOk hk HRn hEE
        go_wp2_with fail
        go_still_tail 14, (by kernel_rfl)
        change wpList _ _ _ _ _ wr.drew
        go_wp2_with fail
        refine HW.out.mono ?_
        rintro e w2 ⟨rfl, h2⟩
        have H2 := Lib.hid h2
        clear h2 HW
        go_wp2_with fail
        go_roundw
        case rel => exact ⟨k + 1, _, E, hlt, rfl, by go_num, H2, HON, HRm.out⟩
        case measure => simp [intOf]; omega
      · have e : k = n := by omega
        subst e
        have HRn : Hid (R = (0, rk)) := by
          show R = _
          rw [HRk.out, List.drop_eq_nil_of_le (by rw [HLN.out]; exact Nat.le_refl _), M.rwr]
        clear hlt hk HRk HOk
        go_wp2_with fail
        go_ret
        rw [HRn.out]
        exact ⟨rfl, HA.out.out⟩
    · have hE' : (E == 0) = false := by rw [beq_eq_false_iff_ne]; exact hE0
      clear hE0
      by_cases hlt : k < n
      · have hd : decide (k < n) = true := by simp; omega
        clear hlt hk
        go_wp2_with fail
        go_ret
        rw [HRk.out]
        exact ⟨rfl, HA.out.out⟩
      · have hd : decide (k < n) = false := by simp; omega
        clear hlt hk
        go_wp2_with fail
        go_ret
        rw [HRk.out]
        exact ⟨rfl, HA.out.out⟩
theorem hwrite_bad (i E : Int) (s : ByteArray) (w : World) (rb : Nat) (_ : (E == 0) = false) (h : Calls Tryz.prog 54 #[.pointer (some ⟨rb, 0, none⟩), .int .i64 i, .string s] w fun e w' => e = .returned (.tuple #[.slice none 0 0, .int .i64 E]) ∧ w' = w) :
    Calls Tryz.prog 33 #[.pointer (some ⟨rb, 0, none⟩), .int .i64 i, .string s] w fun e w' => e = .returned (.int .i64 E) ∧ w' = w := by
  have HS := Lib.hid h
  clear h
  go_enter Tryz.func33, Tryz.ntmps33
  go_wp2_with fail
  refine HS.out.mono ?_
  rintro e w2 ⟨rfl, rfl⟩
  go_wp2_with fail
  go_loopw [8, 9] (fun x j wr => x = .int .i64 E ∧ j = .int .i64 0 ∧ wr = w2) (fun x j _ => 0)
  case atStart => exact ⟨rfl, rfl, rfl⟩
  case round =>
    obtain ⟨rfl, rfl, rfl⟩ := hrel
    go_wp2_with fail
    go_ret
    exact ⟨rfl, rfl⟩
/-- What a write comes to, wherever. -/
def M.hwrite (r : M.R) (fr mn : Nat) (i : Int) (s : ByteArray) : Int × M.R :=
  if (M.gsplit fr mn i s).2 = 0 then M.rwr (M.gsplit fr mn i s).1 r else ((M.gsplit fr mn i s).2, r)
theorem hwrite_any (i : Int) (s : ByteArray) (w : World) {rb b fr mn : Nat} {P : Nat → Prop} {r : M.R} (h : Ref w b P r) (hr : RReg w rb b fr mn) (hp : ¬ P rb) (hsz : s.size ≤ 1000000000) (hf : fr ≤ 1000) (hmn : mn ≤ 1000) (ho : r.ops ≤ 1000000000) :
    Calls Tryz.prog 33 #[.pointer (some ⟨rb, 0, none⟩), .int .i64 i, .string s] w fun e w' =>
      e = .returned (.int .i64 (M.hwrite r fr mn i s).1) ∧ Ref w' b (M.plus P w.heap.size) (M.hwrite r fr mn i s).2 ∧ Kept P w w' := by
  unfold M.hwrite M.gsplit
  by_cases hs : s.size % 64 = 0
  · rw [if_pos hs]
    obtain ⟨n, hn⟩ : ∃ n, n = s.size / 64 := ⟨_, rfl⟩
    have hsn : s.size = 64 * n := by omega
    rw [← hn]
    by_cases hy : M.within i ((n : Nat) : Int) (mn : Nat) = true
    · rw [if_pos hy, if_pos rfl]
      obtain ⟨h0, h1, h2⟩ := M.within_yes hy
      obtain ⟨k, rfl⟩ : ∃ k : Nat, i = k := ⟨i.toNat, by omega⟩
      rw [Int.toNat_natCast]
      exact hwrite_yes k n s w h hr hp hsn (by omega) hf hmn ho
    · rw [if_neg hy, if_neg (by simp)]
      refine (hwrite_bad i 3 s w rb (by decide) (hsplit_no i n s w hr hsn (by omega) hmn (by simpa using hy))).mono ?_
      rintro e w' ⟨rfl, rfl⟩
      exact ⟨rfl, h.plus _, Kept.refl _ _⟩
  · rw [if_neg hs, if_neg (by simp)]
    refine (hwrite_bad i 12 s w rb (by decide) (hsplit_size i s w hs)).mono ?_
    rintro e w' ⟨rfl, rfl⟩
    exact ⟨rfl, h.plus _, Kept.refl _ _⟩
end Go.Proofs.YtfdbfafpcbdbdaaGreat
