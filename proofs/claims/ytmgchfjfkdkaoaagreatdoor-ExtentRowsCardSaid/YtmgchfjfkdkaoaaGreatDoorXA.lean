/-
  Plain mathematics for layer 20 (extent): all extents' bytes, two sectors each; a row of texts. No program in this text. wal.Read and Stage at any place, at a wal on a disk of which no call fails; bytes of sectors that follow one another. Walks over extent.Load. Walks over extent.Save.
-/
import Derived.Test.YtmgchfjfkdkaoaaGreatDoorWC
import Derived.Test.YtmgchfjfkdkaoaaGreatDoorIA
import Derived.Test.YtmgchfjfkdkaoaaGreatDoorMA
import Derived.Test.YtmgchfjfkdkaoaaGreatDoorTA
import Derived.Test.YtmgchfjfkdkaoaaGreatDoorMG
namespace Go.Proofs.YtmgchfjfkdkaoaaGreatDoor
open Go.RowKit Go.Maps

/-- All extents' bytes, as the sectors have them. -/
def M.IE (E : Nat) (f : Nat → ByteArray) (V : Nat → ByteArray) : Prop := ∀ i, i < E → V (M.lx E + 2 * i) ++ V (M.lx E + 2 * i + 1) = f i
def M.setB (f : Nat → ByteArray) (i : Nat) (d : ByteArray) : Nat → ByteArray := fun j => if j = i then d else f j
theorem M.setB_same (f : Nat → ByteArray) (i : Nat) (d : ByteArray) : M.setB f i d i = d := if_pos rfl
theorem M.setB_other (f : Nat → ByteArray) {i j : Nat} (d : ByteArray) (h : j ≠ i) : M.setB f i d j = f j := if_neg h
set_option maxRecDepth 10000 in
theorem M.two20 (d : ByteArray) (h : d.size = 128) : d.extract 0 64 ++ d.extract 64 128 = d := by
  apply ByteArray.ext
  rw [ByteArray.data_append, ByteArray.data_extract, ByteArray.data_extract]
  have hs : d.data.size = 128 := h
  rw [Array.extract_append_extract]
  simp [hs]
theorem M.zeros_add (a b : Nat) : M.zeros a ++ M.zeros b = M.zeros (a + b) := by
  apply ByteArray.ext
  rw [ByteArray.data_append]
  show (List.replicate a (0 : UInt8)).toArray ++ (List.replicate b (0 : UInt8)).toArray = (List.replicate (a + b) (0 : UInt8)).toArray
  rw [List.append_toArray, List.replicate_append_replicate]
theorem M.zeros_two : M.zeros 64 ++ M.zeros 64 = M.zeros 128 := M.zeros_add 64 64
theorem M.IE_zero (E : Nat) : M.IE E (fun _ => M.zeros 128) (fun _ => M.zeros 64) := fun _ _ => M.zeros_two
theorem M.IE.put {E : Nat} {f V V' : Nat → ByteArray} (h : M.IE E f V) (i : Nat) (d : ByteArray) (hd : d.size = 128)
    (hV : ∀ j, V' j = if j = M.lx E + 2 * i then d.extract 0 64 else if j = M.lx E + 2 * i + 1 then d.extract 64 128 else V j) : M.IE E (M.setB f i d) V' := by
  intro j hj
  by_cases e : j = i
  · subst e
    rw [hV, hV, if_pos rfl, if_neg (by omega), if_pos rfl, M.setB_same, M.two20 d hd]
  · rw [hV, hV, if_neg (by omega), if_neg (by omega), if_neg (by omega), if_neg (by omega), M.setB_other f d e, h j hj]
theorem M.now_ins20 (s : M.Wl) (T : Nat → ByteArray) (k : Nat) (t : ByteArray) (j : Nat) : M.now { s with l := M.ins (k : Int) (.string t) s.l } T j = if j = k then t else M.now s T j := by
  by_cases e : j = k
  · subst e
    rw [if_pos rfl]
    exact M.now_some (M.find_ins_same _ _ _)
  · rw [if_neg e]
    unfold M.now
    rw [M.find_ins_other (k := (k : Int)) (j := (j : Int)) _ (by omega)]
/-- Two sectors staged, one behind the other. -/
theorem M.now_two20 (s : M.Wl) (T : Nat → ByteArray) (k : Nat) (t u : ByteArray) (j : Nat) :
    M.now { s with l := M.ins ((k + 1 : Nat) : Int) (.string u) (M.ins (k : Int) (.string t) s.l) } T j = if j = k then t else if j = k + 1 then u else M.now s T j := by
  have h1 := M.now_ins20 { s with l := M.ins (k : Int) (.string t) s.l } T (k + 1) u j
  have h2 := M.now_ins20 s T k t j
  rw [show M.now { s with l := M.ins ((k + 1 : Nat) : Int) (.string u) (M.ins (k : Int) (.string t) s.l) } T j = _ from h1, h2]
  by_cases e : j = k
  · rw [if_neg (by omega), if_pos e, if_pos e]
  · by_cases e' : j = k + 1
    · rw [if_pos e', if_neg e, if_pos e']
    · rw [if_neg e', if_neg e, if_neg e, if_neg e']

/-- Texts as cells. -/
def M.srow (f : Nat → ByteArray) (n : Nat) : List Value := (List.range n).map (fun i => Value.string (f i))
theorem M.srow_len (f : Nat → ByteArray) (n : Nat) : (M.srow f n).length = n := by simp [M.srow]
theorem M.srow_at (f : Nat → ByteArray) (n i : Nat) (h : i < n) : (M.srow f n)[i]? = some (.string (f i)) := by simp [M.srow, h]
theorem M.srow_congr {f g : Nat → ByteArray} {n : Nat} (h : ∀ j, j < n → f j = g j) : M.srow f n = M.srow g n := by
  apply List.ext_getElem?
  intro i
  by_cases e : i < n
  · rw [M.srow_at f n i e, M.srow_at g n i e, h i e]
  · rw [List.getElem?_eq_none (by rw [M.srow_len]; omega), List.getElem?_eq_none (by rw [M.srow_len]; omega)]
theorem M.srow_set (f : Nat → ByteArray) (n i : Nat) (d : ByteArray) : (M.srow f n).set i (.string d) = M.srow (M.setB f i d) n := by
  apply List.ext_getElem?
  intro j
  rw [List.getElem?_set]
  by_cases e : j < n
  · rw [M.srow_at _ n j e, M.srow_at _ n j e]
    by_cases e2 : i = j
    · subst e2
      rw [if_pos rfl, if_pos (by rw [M.srow_len]; exact e), M.setB_same]
    · rw [if_neg e2, M.setB_other f d (fun q => e2 q.symm)]
  · have h1 : (M.srow f n)[j]? = none := List.getElem?_eq_none (by rw [M.srow_len]; omega)
    have h2 : (M.srow (M.setB f i d) n)[j]? = none := List.getElem?_eq_none (by rw [M.srow_len]; omega)
    rw [h1, h2]
    by_cases e2 : i = j
    · rw [if_pos e2, if_neg (by rw [M.srow_len]; omega)]
    · rw [if_neg e2]
/-- A row of texts, whole. -/
abbrev StrB (x : World) (al E : Nat) (f : Nat → ByteArray) : Prop := Box x al 9 (M.srow f E).toArray
section
variable {x : World} {al E i : Nat} {f g : Nat → ByteArray}
theorem StrB.at (h : StrB x al E f) (hi : i < E) : x.cell? ⟨al, i, none⟩ = some (.string (f i)) := (Box.cell h i).trans (by simpa using M.srow_at f E i hi)
theorem StrB.fro (h : StrB x al E f) (j : Nat) : x.frozen? ⟨al, j, none⟩ = false := Box.frozen h j
theorem StrB.put (h : StrB x al E f) (i : Nat) (d : ByteArray) : StrB (x.setCell ⟨al, i, none⟩ (.string d)) al E (M.setB f i d) := by
  have h1 := Box.set h i (.string d)
  rw [List.setIfInBounds_toArray, M.srow_set] at h1
  exact h1
theorem StrB.congr (h : StrB x al E f) (hg : ∀ j, j < E → f j = g j) : StrB x al E g := by
  unfold StrB at h ⊢
  rw [← M.srow_congr hg]
  exact h
end
end Go.Proofs.YtmgchfjfkdkaoaaGreatDoor
namespace Go.Proofs.YtmgchfjfkdkaoaaGreatDoor
open Go.RowKit Go.Maps

/-- The bytes of sectors that follow one another. -/
def M.cat (V : Nat → ByteArray) (p : Nat) : Nat → ByteArray
  | 0 => ⟨#[]⟩
  | k + 1 => M.cat V p k ++ V (p + k)
theorem M.nil_app20 (t : ByteArray) : (⟨#[]⟩ : ByteArray) ++ t = t := ByteArray.empty_append
theorem M.cat_two (V : Nat → ByteArray) (p : Nat) : M.cat V p 2 = V p ++ V (p + 1) := by
  show ((⟨#[]⟩ : ByteArray) ++ V (p + 0)) ++ V (p + 1) = _
  rw [M.nil_app20, Nat.add_zero]
theorem M.cat_one (V : Nat → ByteArray) (p : Nat) : M.cat V p 1 = V p := by
  show (⟨#[]⟩ : ByteArray) ++ V (p + 0) = _
  rw [M.nil_app20, Nat.add_zero]
/-- What is staged where bytes are saved, behind so many sectors. -/
def M.rows20 (p0 : Int) (d : ByteArray) (L : List (Int × Value)) : Nat → List (Int × Value)
  | 0 => L
  | k + 1 => M.ins (p0 + (k : Nat)) (.string (d.extract (64 * k) (64 * k + 64))) (M.rows20 p0 d L k)
theorem M.rows20_len (p0 : Int) (d : ByteArray) (L : List (Int × Value)) : ∀ k, (M.rows20 p0 d L k).length ≤ L.length + k
  | 0 => Nat.le_refl _
  | k + 1 => by
    have h1 := M.rows20_len p0 d L k
    have h2 := M.ins_le (p0 + (k : Nat)) (Value.string (d.extract (64 * k) (64 * k + 64))) (M.rows20 p0 d L k)
    show (M.ins _ _ _).length ≤ _
    omega
theorem M.rows20_now (s : M.Wl) (T : Nat → ByteArray) (p : Nat) (d : ByteArray) (j : Nat) : ∀ k, M.now { s with l := M.rows20 (p : Nat) d s.l k } T j = if p ≤ j ∧ j < p + k then d.extract (64 * (j - p)) (64 * (j - p) + 64) else M.now s T j
  | 0 => by
    rw [if_neg (by omega)]
    rfl
  | k + 1 => by
    have h1 := M.rows20_now s T p d j k
    have h2 := M.now_ins20 { s with l := M.rows20 (p : Nat) d s.l k } T (p + k) (d.extract (64 * k) (64 * k + 64)) j
    rw [Int.natCast_add] at h2
    refine (show _ = _ from h2).trans ?_
    by_cases e : j = p + k
    · rw [if_pos e, if_pos (by omega), show j - p = k by omega]
    · rw [if_neg e, h1]
      by_cases e' : p ≤ j ∧ j < p + k
      · rw [if_pos e', if_pos (by omega)]
      · rw [if_neg e', if_neg (by omega)]
theorem M.cat_extract (V : Nat → ByteArray) (p m : Nat) (d : ByteArray) (hd : 64 * m ≤ d.size) (hV : ∀ j, j < m → V (p + j) = d.extract (64 * j) (64 * j + 64)) : ∀ k, k ≤ m → M.cat V p k = d.extract 0 (64 * k)
  | 0, _ => by
    apply ByteArray.ext
    simp [M.cat]
  | k + 1, hk => by
    show M.cat V p k ++ V (p + k) = _
    rw [M.cat_extract V p m d hd hV k (by omega), hV k (by omega)]
    apply ByteArray.ext
    rw [ByteArray.data_append, ByteArray.data_extract, ByteArray.data_extract, ByteArray.data_extract, Array.extract_append_extract]
    rw [show min 0 (64 * k) = 0 by omega, show max (64 * k) (64 * k + 64) = 64 * (k + 1) by omega]
theorem M.whole20 (d : ByteArray) : d.extract 0 d.size = d := by
  apply ByteArray.ext
  rw [ByteArray.data_extract]
  exact Array.extract_size

theorem M.readE_in {d : M.D} {i : Int} (h : M.readE d i = 0) : 0 ≤ i ∧ i < (d.S.length : Int) := by
  unfold M.readE at h
  by_cases hE : M.beginE d = 0
  · rw [if_pos hE] at h
    by_cases hb : M.hasB d.S.length i = true
    · unfold M.hasB at hb
      simpa using hb
    · rw [if_neg hb] at h
      exact absurd h (by omega)
  · rw [if_neg hE] at h
    exact absurd h hE
theorem M.readS_le {d : M.D} (h : M.Inv d) (i : Int) : (M.readS d i).size ≤ 64 := by
  by_cases he : M.readE d i = 0
  · rw [M.readS_size h he]
    exact Nat.le_refl _
  · have : M.readS d i = ⟨#[]⟩ := by
      unfold M.readE at he
      unfold M.readS
      by_cases hE : M.beginE d = 0
      · rw [if_pos hE] at he ⊢
        by_cases hb : M.hasB d.S.length i = true
        · rw [if_pos hb] at he
          exact absurd rfl he
        · rw [if_neg hb]
      · rw [if_neg hE]
    rw [this]
    exact Nat.zero_le _

section
variable {w y z : World} {b a ra rr sb fr mn : Nat} {P PD PS Q : Nat → Prop} {s : M.Wl}
/-- The disk has done something, in its own blocks. -/
theorem WalM.diskS {d' : M.D} (h : WalM y b a ra rr sb PD PS fr mn s) (hd : Disk z a PD d') (hk : Kept PD y z) : WalM z b a ra rr sb PD PS fr mn { s with d := d' } :=
  ⟨hk.box h.box h.db, hd, h.all.kept hk h.dra, h.recs.kept hk h.drr, h.sh.kept hk (fun j e e' => h.ds j e' e), fun j e => Nat.lt_of_lt_of_le (h.dl j e) hk.size, fun j e => Nat.lt_of_lt_of_le (h.sl j e) hk.size, h.db, h.dra, h.drr, h.sb_, h.sra, h.srr, h.bra, h.brr, h.ds, h.dk⟩
theorem Wal.inv20 (h : Wal y b P fr mn s) : M.Inv s.d := by
  obtain ⟨a, ra, rr, sb, PD, PS, h, -⟩ := h
  exact h.disk.inv
set_option maxHeartbeats 1000000 in
theorem read20_disk (h : Wal w b P fr mn s) (i : Int) (hw : (Lit.int .i64 i).wf = true) (hg : M.get13 i s.l s.k = none) (ho : s.d.ops ≤ 1000000000) :
    Calls Tryz.prog 42 #[.pointer (some ⟨b, 0, none⟩), .int .i64 i] w fun e w' => e = .returned (.tuple #[.string (M.readS s.d i), .int .i64 (M.readE s.d i)]) ∧ Wal w' b P fr mn { s with d := M.beginD s.d } ∧ Kept P w w' := by
  obtain ⟨a, ra, rr, sb, PD, PS, h, h1, h2, h3, h4, h5⟩ := h
  have c10 := h.c10
  have c0 := h.c0
  have C1 := Lib.hid (Q.get13_any w h.sh i hw)
  rw [hg] at C1
  have C2 := Lib.hid (read_any i w h.disk (by omega))
  have HF : Hid (∀ y, Disk y a PD (M.beginD s.d) → Kept PD w y → Wal y b P fr mn { s with d := M.beginD s.d } ∧ Kept P w y) := by
    intro y hd hk
    exact ⟨⟨a, ra, rr, sb, PD, PS, h.diskS hd hk, h1, h2, h3, h4, h5⟩, hk.mono (fun j _ e => h4 j e)⟩
  obtain ⟨rs, hrs⟩ : ∃ x, x = M.readS s.d i := ⟨_, rfl⟩
  obtain ⟨re, hre⟩ : ∃ x, x = M.readE s.d i := ⟨_, rfl⟩
  rw [← hrs, ← hre] at C2 ⊢
  clear h hw hg ho h1 h2 h3 h4 h5 hrs hre
  go_enter Tryz.func42, Tryz.ntmps42
  go_wp2_with fail
  refine C1.out.mono ?_
  rintro e w1 ⟨rfl, rfl⟩
  go_wp2_with fail
  refine C2.out.mono ?_
  rintro e w2 ⟨rfl, hd, hk⟩
  have HR := Lib.hid (HF.out w2 hd hk)
  clear hd hk HF C1
  go_wp2_with fail
  go_returns
  exact ⟨rfl, HR.out⟩
end

section
variable {a : M.Geo} {R P : Nat → Prop} {w y z : World} {b n g : Nat} {s : M.Wl} {T : Nat → ByteArray} {acc : ByteArray}
theorem WA.seen20 (h : WA a y b P s T n) {k : Nat} (hk : k < a.N) : (M.seen s.d.S s.d.L k).size = 64 := (Wal.inv20 h.wal).seen (by rw [h.ws.ok.len]; exact hk)
theorem WA.now_size (h : WA a y b P s T n) {k : Nat} (hk : M.gd a k) : (M.now s T k).size = 64 := by
  cases hl : M.find (k : Int) s.l with
  | some v =>
    obtain ⟨k', t, e1, e2, e3⟩ := h.ws.loose _ (M.find_mem hl)
    obtain rfl : v = .string t := (Prod.mk.inj e1).2
    rw [M.now_some hl]
    exact e3
  | none =>
    rw [M.now_none hl]
    obtain ⟨V, g, q, p, C, v1, v2⟩ := h.ws.wv
    rcases v2.kept k hk with e | ⟨e, eV⟩
    · obtain ⟨k', t, e1, e2, e3⟩ := h.ws.kept _ (M.find_mem e)
      have h9 := (Prod.mk.inj e1).2
      injection h9 with h9
      rw [h9]
      exact e3
    · rw [← eV, ← v1 k (M.gd44 hk)]
      exact h.seen20 (M.gd44 hk)
/-- A read at any place: a text of a sector's bytes at most; none of the log's blocks is new. -/
theorem WA.read20 (H : WA a y b P s T n) (hn : n ≤ 450000) (i : Int) (hw : (Lit.int .i64 i).wf = true) :
    Calls Tryz.prog 42 #[.pointer (some ⟨b, 0, none⟩), .int .i64 i] y fun e z => ∃ (t : ByteArray) (er : Int), e = .returned (.tuple #[.string t, .int .i64 er]) ∧ t.size ≤ 64 ∧ (er = 0 → 0 ≤ i ∧ i < 800) ∧ (∀ k : Nat, i = k → M.gd a k → t = M.now s T k ∧ er = 0) ∧ ∃ d', WA a z b P { s with d := d' } T (n + 1) ∧ Kept P y z := by
  have hops := H.ws.ops
  have hlen := H.ws.ok.len
  have hfew := a.few
  cases hg : M.get13 i s.l s.k with
  | some v =>
    have hm : ∃ (k : Nat) (t : ByteArray), i = k ∧ v = .string t ∧ M.gd a k ∧ t.size = 64 := by
      unfold M.get13 at hg
      cases hl : M.find i s.l with
      | some u =>
        rw [hl] at hg
        obtain rfl : u = v := by simpa using hg
        obtain ⟨k, t, e1, e2, e3⟩ := H.ws.loose _ (M.find_mem hl)
        exact ⟨k, t, (Prod.mk.inj e1).1, (Prod.mk.inj e1).2, e2, e3⟩
      | none =>
        rw [hl] at hg
        have hg' : M.find i s.k = some v := by simpa using hg
        obtain ⟨k, t, e1, e2, e3⟩ := H.ws.kept _ (M.find_mem hg')
        exact ⟨k, t, (Prod.mk.inj e1).1, (Prod.mk.inj e1).2, e2, e3⟩
    obtain ⟨k, t, rfl, rfl, h2, h3⟩ := hm
    have hk9 := M.gd44 h2
    refine (read14_found H.wal (k : Nat) t hw hg).mono ?_
    rintro e z ⟨e1, rfl⟩
    refine ⟨t, 0, e1, by omega, fun _ => by omega, fun k' ek hk => ⟨?_, rfl⟩, s.d, H.more (Nat.le_succ _), Kept.refl _ _⟩
    obtain rfl : k = k' := by omega
    unfold M.get13 at hg
    cases hl : M.find (k : Int) s.l with
    | some u =>
      rw [hl] at hg
      obtain rfl : u = .string t := by simpa using hg
      rw [M.now_some hl]
    | none =>
      rw [hl] at hg
      have hg' : M.find (k : Int) s.k = some (.string t) := by simpa using hg
      rw [M.now_none hl]
      obtain ⟨V, g, q, p, C, v1, v2⟩ := H.ws.wv
      rcases v2.kept k hk with e | ⟨e, eV⟩
      · rw [e] at hg'
        have h9 := Option.some.inj hg'
        injection h9 with h9
        exact h9.symm
      · rw [e] at hg'
        cases hg'
  | none =>
    refine (read20_disk H.wal i hw hg (by omega)).mono ?_
    rintro e z ⟨e1, e2, e3⟩
    refine ⟨_, _, e1, M.readS_le (Wal.inv20 H.wal) i, fun e0 => ?_, ?_, M.beginD s.d, ⟨e2, H.ws.read, M.none_less (M.begin_len s.d) H.calm⟩, e3⟩
    · have h1 := M.readE_in e0
      omega
    · rintro k rfl hk
      obtain ⟨V, g, q, p, C, v1, v2⟩ := H.ws.wv
      unfold M.get13 at hg
      cases hl : M.find (k : Int) s.l with
      | some u =>
        rw [hl] at hg
        cases hg
      | none =>
        rw [hl] at hg
        have hg' : M.find (k : Int) s.k = none := by simpa using hg
        rw [M.now_none hl]
        rcases v2.kept k hk with e | ⟨e, eV⟩
        · rw [e] at hg'
          cases hg'
        · rcases H.ws.ok.read v1 k (M.gd44 hk) with ⟨x1, x2⟩ | ⟨_, x2⟩
          · exact ⟨by rw [x2, eV], x1⟩
          · rw [H.calm] at x2
            exact absurd x2 (by simp)
/-- A sector staged at any place. -/
theorem QA.stage20 (H : QA a R y b s T n) (hact : s.act = true) (hl : s.l.length ≤ 15) (i : Int) (hw : (Lit.int .i64 i).wf = true) (t : ByteArray) (ht : t.size = 64) :
    Calls Tryz.prog 41 #[.pointer (some ⟨b, 0, none⟩), .int .i64 i, .string t] y fun e z => ((M.guards a.N a.fr a.mn i = true ∧ e = .returned (.int .i64 0) ∧ QA a R z b { s with l := M.ins i (.string t) s.l } T n) ∨ (M.guards a.N a.fr a.mn i = false ∧ e = .returned (.int .i64 3) ∧ QA a R z b s T n)) ∧ Kept R y z := by
  refine (H.wa.stage i t hw).mono ?_
  rintro e z ⟨e1, e2, e3⟩
  refine ⟨?_, e3⟩
  cases hg : M.guards a.N a.fr a.mn i with
  | true =>
    have hE : M.wlStageE a.fr a.mn s i t = 0 := by
      unfold M.wlStageE
      rw [hact, H.wa.ws.ok.len, hg, if_neg (by decide), if_neg (by decide), if_neg (fun e => e ht), if_neg (fun e => by omega)]
    rw [hE] at e1
    unfold M.wlStage at e2
    rw [if_pos hE] at e2
    exact Or.inl ⟨rfl, e1, H.did e2 e3⟩
  | false =>
    have hE : M.wlStageE a.fr a.mn s i t = 3 := by
      unfold M.wlStageE
      rw [hact, H.wa.ws.ok.len, hg, if_neg (by decide), if_pos rfl]
    rw [hE] at e1
    unfold M.wlStage at e2
    rw [hE, if_neg (by decide)] at e2
    exact Or.inr ⟨rfl, e1, H.did e2 e3⟩

/-- A wal, and what was read of it, in the midst of Load; g: the builder's block. -/
structure Ld20 (a : M.Geo) (P : Nat → Prop) (w y : World) (b n : Nat) (s : M.Wl) (T : Nat → ByteArray) (g : Nat) (acc : ByteArray) : Prop where
  wa : ∃ d', WA a y b P { s with d := d' } T n
  bld : Lib.IsBuilder 92 5 g g (Lib.byteCells acc.data.toList) y
  kept : Kept P w y
  le : g ≤ y.heap.size
theorem Ld20.start (H : WA a y b P s T n) : Ld20 a P y (y.alloc (.cells #[.pointer none, .slice none 0 0] 92)) b n s T y.heap.size ⟨#[]⟩ :=
  ⟨⟨s.d, H.kept (Kept.of_below ((Below.refl y.heap.size y).alloc (Nat.le_refl _) _) (fun _ => False)) (fun _ _ => id)⟩, Lib.fresh_isBuilder _ _ y, (Kept.refl P y).alloc _, by rw [World.size_alloc]; omega⟩
theorem Ld20.read (h : Ld20 a P w y b n s T g acc) (hP : ∀ k, P k → k < g) (hn : n ≤ 450000) (i : Int) (hw : (Lit.int .i64 i).wf = true) :
    Calls Tryz.prog 42 #[.pointer (some ⟨b, 0, none⟩), .int .i64 i] y fun e z => ∃ (t : ByteArray) (er : Int), e = .returned (.tuple #[.string t, .int .i64 er]) ∧ t.size ≤ 64 ∧ (er = 0 → 0 ≤ i ∧ i < 800) ∧ (∀ k : Nat, i = k → M.gd a k → t = M.now s T k ∧ er = 0) ∧ Ld20 a P w z b (n + 1) s T g acc := by
  obtain ⟨d', h1⟩ := h.wa
  refine (h1.read20 hn i hw).mono ?_
  rintro e z ⟨t, er, e1, e2, e3, e4, d2, e5, e6⟩
  exact ⟨t, er, e1, e2, e3, e4, ⟨d2, e5⟩, isBuilder_kept h.bld e6 hP, h.kept.trans e6, Nat.le_trans h.le e6.size⟩
theorem Ld20.put (h : Ld20 a P w y b n s T g acc) (hP : ∀ k, P k → k < g) (hw : w.heap.size ≤ g) (u : ByteArray) (hl : acc.size + u.size ≤ 1000000) :
    Calls Tryz.prog 43 #[.pointer (some ⟨g, 0, none⟩), .string u] y fun e z => e = .returned (.tuple #[.int .i64 u.size, .nilIface]) ∧ Ld20 a P w z b n s T g (acc ++ u) := by
  obtain ⟨d', h9⟩ := h.wa
  exact (wstr_any g g acc u y h.bld hl h.le).mono fun _ _ ⟨h1, h2, h3⟩ => ⟨h1, ⟨d', h9.kept (Kept.of_low h3) (fun k e e' => by have := hP k e; omega)⟩, h2, h.kept.next (Kept.of_low h3) (fun k hk e => by omega), Nat.le_trans h.le h3.size⟩
theorem Ld20.str (h : Ld20 a P w y b n s T g acc) (hP : ∀ k, P k → k < g) (hw : w.heap.size ≤ g) :
    Calls Tryz.prog 44 #[.pointer (some ⟨g, 0, none⟩)] y fun e z => e = .returned (.string acc) ∧ (∃ d', WA a z b P { s with d := d' } T n) ∧ Kept P w z := by
  obtain ⟨d', h9⟩ := h.wa
  exact (str_any g g acc y h.bld h.le).mono fun _ _ ⟨h1, h3⟩ => ⟨h1, ⟨d', h9.kept (Kept.of_low h3) (fun k e e' => by have := hP k e; omega)⟩, h.kept.next (Kept.of_low h3) (fun k hk e => by omega)⟩
end
end Go.Proofs.YtmgchfjfkdkaoaaGreatDoor
namespace Go.Proofs.YtmgchfjfkdkaoaaGreatDoor
open Go.RowKit Go.Maps

set_option maxHeartbeats 1000000 in
/-- So many may not be. -/
theorem load20_bad (wp : Option Addr) (p0 m : Int) (hm : m < 0 ∨ 16 < m) (y : World) : Calls Tryz.prog 19 #[.pointer wp, .int .i64 p0, .int .i64 m] y fun e z => e = .returned (.tuple #[.string ⟨#[]⟩, .int .i64 3]) ∧ Below y.heap.size y z := by
  have hc : m < 0 ∨ (¬ m < 0 ∧ 16 < m) := by omega
  clear hm
  rcases hc with h1 | ⟨h1, h2⟩
  all_goals
    go_enter Tryz.func19, Tryz.ntmps19
    go_wp2_with fail
    go_ret2
    exact ⟨rfl, Below.refl _ _⟩
set_option maxHeartbeats 1000000 in
/-- Over a wal that is none. -/
theorem load20_nil (p0 : Int) (y : World) : Calls Tryz.prog 19 #[.pointer none, .int .i64 p0, .int .i64 2] y fun e z => e = .returned (.tuple #[.string ⟨#[]⟩, .int .i64 10]) ∧ Below y.heap.size y z := by
  have C1 := Lib.hid (fun i x => read14_nil i x)
  have HB := Lib.hid (ib1 y (.cells #[.pointer none, .slice none 0 0] 92))
  go_enter Tryz.func19, Tryz.ntmps19
  go_wp2_with fail
  obtain ⟨y0, hy0⟩ : ∃ v, v = y.alloc (.cells #[.pointer none, .slice none 0 0] 92) := ⟨_, rfl⟩
  rw [← hy0] at HB ⊢
  clear hy0
  go_loopw [19] (fun i wr => i = .int .i64 0 ∧ wr = y0) (fun _ _ => 0)
  case atStart => exact ⟨rfl, rfl⟩
  case round =>
    obtain ⟨rfl, rfl⟩ := hrel
    go_wp2_with fail
    refine (C1.out _ _).mono ?_
    rintro e z1 ⟨rfl, rfl⟩
    go_wp2_with fail
    go_ret2
    exact ⟨rfl, HB.out⟩

section
variable {a : M.Geo} {R : Nat → Prop} {y : World} {b n : Nat} {s : M.Wl} {T : Nat → ByteArray}
set_option maxRecDepth 100000 in
set_option maxHeartbeats 400000 in
theorem load20 (H : QA a R y b s T n) (hn : n ≤ 400000) (p0 : Int) (h0 : -9223372036854775808 ≤ p0) (h9 : p0 ≤ 9223372036854775807) (m : Nat) (hm : m ≤ 16) :
    Calls Tryz.prog 19 #[.pointer (some ⟨b, 0, none⟩), .int .i64 p0, .int .i64 (m : Nat)] y fun e z => ∃ (t : ByteArray) (er : Int), e = .returned (.tuple #[.string t, .int .i64 er]) ∧ (∀ p : Nat, p0 = p → (∀ j, j < m → M.gd a (p + j)) → t = M.cat (M.now s T) p m ∧ er = 0) ∧ (∃ d', QA a R z b { s with d := d' } T (n + m)) ∧ Kept R y z := by
  obtain ⟨P, hPd⟩ : ∃ P : Nat → Prop, P = fun j => R j ∧ j < y.heap.size := ⟨_, rfl⟩
  obtain ⟨g, hg⟩ : ∃ g, g = y.heap.size := ⟨_, rfl⟩
  have hP : ∀ k, P k → k < g := fun k e => by rw [hPd] at e; rw [hg]; exact e.2
  have HP := Lib.hid hP
  have hwa : WA a y b P s T n := H.wa.mono (fun j hj e => by rw [hPd]; exact ⟨e, hj⟩)
  have HS : Hid (Ld20 a P y (y.alloc (.cells #[.pointer none, .slice none 0 0] 92)) b n s T g ⟨#[]⟩) := by
    rw [hg]
    exact Ld20.start hwa
  have HZ : Hid (∀ z k, (∃ d', WA a z b P { s with d := d' } T (n + k)) → k ≤ m → Kept P y z → (∃ d', QA a R z b { s with d := d' } T (n + m)) ∧ Kept R y z) := by
    rintro z k ⟨d', e1⟩ hk e2
    have hk2 : Kept R y z := e2.mono (fun j _ e => by rw [hPd] at e; exact e.1)
    exact ⟨⟨d', (e1.more (by omega)).mono (fun j _ e => by rw [hPd] at e; exact e.1), hk2.newR H.new⟩, hk2⟩
  have HW : Hid (∀ k : Nat, k < m → (k = 0 ∨ (0 ≤ p0 + (k : Nat) - 1 ∧ p0 + (k : Nat) - 1 < 800)) → wrap64 (p0 + (k : Nat)) = p0 + (k : Nat) ∧ (Lit.int .i64 (p0 + (k : Nat))).wf = true) := by
    intro k hk hc
    exact ⟨by unfold wrap64; omega, WalkArith.wf_i64 (by omega)⟩
  have HG : Hid (y.heap.size ≤ g) := by show _ ≤ _; omega
  have HN := Lib.hid hn
  have hm9 : (m : Int) ≤ 16 := by omega
  have hm0 : (0 : Int) ≤ (m : Int) := by omega
  have HGE := Lib.hid hg
  clear hPd hP hwa H hn h0 h9 hm hg
  go_enter Tryz.func19, Tryz.ntmps19
  go_wp2_with fail
  rw [← HGE.out]
  obtain ⟨y0, hy0⟩ : ∃ v, v = y.alloc (.cells #[.pointer none, .slice none 0 0] 92) := ⟨_, rfl⟩
  rw [← hy0] at HS ⊢
  clear hy0
  go_loopw [19] (fun i wr => ∃ (k : Nat) (acc : ByteArray), k ≤ m ∧ i = .int .i64 (k : Nat) ∧ Hid (Ld20 a P y wr b (n + k) s T g acc) ∧ Hid (acc.size ≤ 64 * k) ∧ Hid (∀ p : Nat, p0 = p → (∀ j, j < m → M.gd a (p + j)) → acc = M.cat (M.now s T) p k) ∧ Hid (k = 0 ∨ (0 ≤ p0 + (k : Nat) - 1 ∧ p0 + (k : Nat) - 1 < 800))) (fun i _ => m - (intOf i).toNat)
  case atStart => exact ⟨0, _, Nat.zero_le _, rfl, HS, Nat.zero_le _, fun _ _ _ => rfl, Or.inl rfl⟩
  case round =>
    clear HS
    obtain ⟨k, acc, hk, rfl, HA, HC, HE, HD⟩ := hrel
    by_cases hlt : k < m
    · have hd : decide (k < m) = true := by simpa using hlt
      have hwk : IntKind.i64.wrap ((k : Int) + 1) = ((k + 1 : Nat) : Int) := by rw [IntKind.wrap_i64]; omega
      obtain ⟨hwp0, hwf⟩ := HW.out k hlt HD.out
      obtain ⟨q, hq⟩ : ∃ q, q = p0 + (k : Nat) := ⟨_, rfl⟩
      have hwp : wrap64 (p0 + (k : Int)) = q := hwp0.trans hq.symm
      rw [← hq] at hwf
      have C1 := Lib.hid (HA.out.read HP.out (by have := HN.out; omega) q hwf)
      have HQ := Lib.hid hq
      have HK : Hid (k < m ∧ m ≤ 16) := ⟨hlt, by omega⟩
      clear hwp0 hwf hq hk hlt HD HA hm9 hm0
      go_wp2_with fail
      refine C1.out.mono ?_
      rintro e w1 ⟨t, er, rfl, f1, f2, f3, f4⟩
      have F1 := Lib.hid f1
      have F2 := Lib.hid f2
      have F3 := Lib.hid f3
      have F4 := Lib.hid f4
      clear f1 f2 f3 f4 C1
      by_cases her : er = 0
      · subst her
        have CP := Lib.hid (F4.out.put HP.out HG.out t (by have := F1.out; have := HC.out; have := HK.out; omega))
        clear F4
        go_wp2_with fail
        refine CP.out.mono ?_
        rintro e w2 ⟨rfl, h2⟩
        have G2 := Lib.hid h2
        clear h2 CP
        have R1 : Hid ((acc ++ t).size ≤ 64 * (k + 1)) := by show _ ≤ _; rw [ByteArray.size_append]; have := F1.out; have := HC.out; omega
        have R2 : Hid (∀ p : Nat, p0 = p → (∀ j, j < m → M.gd a (p + j)) → acc ++ t = M.cat (M.now s T) p (k + 1)) := fun p e1 e2 => by
          rw [HE.out p e1 e2, (F3.out (p + k) (by rw [HQ.out, e1, Int.natCast_add]) (e2 k HK.out.1)).1]
          rfl
        have R3 : Hid (k + 1 = 0 ∨ (0 ≤ p0 + ((k + 1 : Nat) : Int) - 1 ∧ p0 + ((k + 1 : Nat) : Int) - 1 < 800)) := by
          have h3 := F2.out (by first | rfl | trivial)
          rw [HQ.out] at h3
          exact Or.inr (by omega)
        go_wp2_with fail
        go_roundw
        case rel => exact ⟨k + 1, _, HK.out.1, by go_num, G2, R1, R2, R3⟩
        case measure => have := HK.out.1; simp [intOf]; omega
      · have hb1 : (er == 0) = false := by rw [beq_eq_false_iff_ne]; exact her
        have hb2 : (er != 0) = true := by rw [bne, hb1]; rfl
        have R1 : Hid (∀ p : Nat, p0 = p → (∀ j, j < m → M.gd a (p + j)) → (⟨#[]⟩ : ByteArray) = M.cat (M.now s T) p m ∧ er = 0) := fun p e1 e2 =>
          absurd (F3.out (p + k) (by rw [HQ.out, e1, Int.natCast_add]) (e2 k HK.out.1)).2 her
        have R2 := Lib.hid (HZ.out w1 (k + 1) F4.out.wa HK.out.1 F4.out.kept)
        clear F1 F2 F3 F4 HC HE HZ HP
        go_wp2_with fail
        go_ret2
        exact ⟨_, _, rfl, R1.out, R2.out.1, R2.out.2⟩
    · have e : k = m := by omega
      subst e
      have hd9 : decide (k < k) = false := by simp
      have CS := Lib.hid (HA.out.str HP.out HG.out)
      clear hlt hk HA HC HD HW
      go_wp2_with fail
      refine CS.out.mono ?_
      rintro e w1 ⟨rfl, h1, h2⟩
      have R2 := Lib.hid (HZ.out w1 k h1 (Nat.le_refl _) h2)
      clear h1 h2 CS HZ HP
      go_wp2_with fail
      go_ret2
      exact ⟨_, _, rfl, fun p e1 e2 => ⟨HE.out p e1 e2, rfl⟩, R2.out.1, R2.out.2⟩
end
end Go.Proofs.YtmgchfjfkdkaoaaGreatDoor
namespace Go.Proofs.YtmgchfjfkdkaoaaGreatDoor
open Go.RowKit Go.Maps

set_option maxHeartbeats 1000000 in
/-- Bytes that are no whole sectors, none, or too many. -/
theorem save20_bad (wp : Option Addr) (p0 : Int) (t : ByteArray) (hs : t.size ≤ 1000000) (hb : t.size % 64 ≠ 0 ∨ t.size / 64 < 1 ∨ 16 < t.size / 64) (y : World) : Calls Tryz.prog 18 #[.pointer wp, .int .i64 p0, .string t] y fun e z => e = .returned (.int .i64 12) ∧ z = y := by
  obtain ⟨m, hm⟩ : ∃ m, m = t.size / 64 := ⟨_, rfl⟩
  obtain ⟨r, hr⟩ : ∃ r, r = t.size % 64 := ⟨_, rfl⟩
  have h1 : (t.size : Int).tmod 64 = (r : Int) := by rw [Int.tmod_eq_emod_of_nonneg (by omega)]; omega
  have h2 : (t.size : Int).tdiv 64 = (m : Int) := by rw [Int.tdiv_eq_ediv_of_nonneg (by omega)]; omega
  have h3 : (t.size : Int) % 64 = (r : Int) := by omega
  have h4 : (t.size : Int) / 64 = (m : Int) := by omega
  have h5 : (m : Int) ≤ 1000000 := by omega
  have h6 : (0 : Int) ≤ (m : Int) := by omega
  have hc : r ≠ 0 ∨ (r = 0 ∧ m = 0) ∨ (r = 0 ∧ 17 ≤ m) := by omega
  clear hs hb hm hr
  rcases hc with hc | ⟨rfl, rfl⟩ | ⟨rfl, hc⟩
  · have d1 : ((r : Int) == 0) = false := by rw [beq_eq_false_iff_ne]; omega
    have d2 : ((r : Int) != 0) = true := by rw [bne, d1]; rfl
    have d3 : ¬ (r : Int) = 0 := by omega
    clear hc
    go_enter Tryz.func18, Tryz.ntmps18
    go_wp2_with fail
    go_ret
    exact ⟨rfl, rfl⟩
  · go_enter Tryz.func18, Tryz.ntmps18
    go_wp2_with fail
    go_ret
    exact ⟨rfl, rfl⟩
  · have d1 : decide ((m : Int) < 1) = false := by simp; omega
    have d2 : ¬ (m : Int) < 1 := by omega
    have d3 : decide ((16 : Int) < (m : Int)) = true := by simp; omega
    have d4 : (16 : Int) < (m : Int) := by omega
    clear hc
    go_enter Tryz.func18, Tryz.ntmps18
    go_wp2_with fail
    go_ret
    exact ⟨rfl, rfl⟩

set_option maxHeartbeats 1000000 in
/-- Over a wal that is none. -/
theorem save20_nil (p0 : Int) (t : ByteArray) (ht : t.size = 128) (y : World) : Calls Tryz.prog 18 #[.pointer none, .int .i64 p0, .string t] y fun e z => e = .returned (.int .i64 10) ∧ Below y.heap.size y z := by
  have C1 := Lib.hid (fun i s x => stage14_nil i s x)
  have h1 : (t.size : Int).tmod 64 = 0 := by rw [ht]; rfl
  have h2 : (t.size : Int).tdiv 64 = 2 := by rw [ht]; rfl
  have h3 : (t.size : Int) % 64 = 0 := by omega
  have h4 : (t.size : Int) / 64 = 2 := by omega
  have b3 : (64 : Int) ≤ (t.size : Int) := by omega
  clear ht
  go_enter Tryz.func18, Tryz.ntmps18
  go_wp2_with fail
  go_loopw [27] (fun i wr => i = .int .i64 0 ∧ wr = y) (fun _ _ => 0)
  case atStart => exact ⟨rfl, rfl⟩
  case round =>
    obtain ⟨rfl, rfl⟩ := hrel
    go_wp2_with fail
    refine (C1.out _ _ _).mono ?_
    rintro e z1 ⟨rfl, rfl⟩
    go_wp2_with fail
    go_ret
    exact ⟨rfl, Below.refl _ _⟩

section
variable {a : M.Geo} {R : Nat → Prop} {y : World} {b n : Nat} {s : M.Wl} {T : Nat → ByteArray}
theorem M.guards_in {p0 : Int} (h : M.guards a.N a.fr a.mn p0 = true) : 0 ≤ p0 ∧ p0 < 800 := by
  have := a.few
  unfold M.guards at h
  simp at h
  omega
set_option maxRecDepth 100000 in
set_option maxHeartbeats 400000 in
theorem save20 (H : QA a R y b s T n) (hact : s.act = true) (p0 : Int) (h0 : -9223372036854775808 ≤ p0) (h9 : p0 ≤ 9223372036854775807) (t : ByteArray) (m : Nat) (ht : t.size = 64 * m) (h1 : 1 ≤ m) (hl : s.l.length + m ≤ 16) :
    Calls Tryz.prog 18 #[.pointer (some ⟨b, 0, none⟩), .int .i64 p0, .string t] y fun e z =>
      (((∀ j : Nat, j < m → M.guards a.N a.fr a.mn (p0 + (j : Nat)) = true) ∧ e = .returned (.int .i64 0) ∧ QA a R z b { s with l := M.rows20 p0 t s.l m } T n) ∨
       ((∃ j : Nat, j < m ∧ M.guards a.N a.fr a.mn (p0 + (j : Nat)) = false) ∧ e = .returned (.int .i64 3) ∧ ∃ l', QA a R z b { s with l := l' } T n)) ∧ Kept R y z := by
  have HS : Hid (QA a R y b { s with l := M.rows20 p0 t s.l 0 } T n ∧ Kept R y y) := ⟨H, Kept.refl _ _⟩
  have HC : Hid (∀ (k : Nat) (x : World), k < m → (QA a R x b { s with l := M.rows20 p0 t s.l k } T n ∧ Kept R y x) → (Lit.int .i64 (p0 + (k : Nat))).wf = true →
      Calls Tryz.prog 41 #[.pointer (some ⟨b, 0, none⟩), .int .i64 (p0 + (k : Nat)), .string (t.extract (64 * k) (64 * k + 64))] x fun e z =>
        (M.guards a.N a.fr a.mn (p0 + (k : Nat)) = true ∧ e = .returned (.int .i64 0) ∧ (QA a R z b { s with l := M.rows20 p0 t s.l (k + 1) } T n ∧ Kept R y z)) ∨ (M.guards a.N a.fr a.mn (p0 + (k : Nat)) = false ∧ e = .returned (.int .i64 3) ∧ ((∃ l', QA a R z b { s with l := l' } T n) ∧ Kept R y z))) := by
    rintro k x hk ⟨q1, q2⟩ hw
    have hlen := M.rows20_len p0 t s.l k
    refine (q1.stage20 hact (by show (M.rows20 p0 t s.l k).length ≤ 15; omega) _ hw _ (by rw [ByteArray.size_extract]; omega)).mono ?_
    rintro e z ⟨⟨e1, e2, e3⟩ | ⟨e1, e2, e3⟩, e4⟩
    · exact Or.inl ⟨e1, e2, e3, q2.trans e4⟩
    · exact Or.inr ⟨e1, e2, ⟨_, e3⟩, q2.trans e4⟩
  have HW : Hid (∀ k : Nat, k < m → (∀ j : Nat, j < k → M.guards a.N a.fr a.mn (p0 + (j : Nat)) = true) → wrap64 (p0 + (k : Nat)) = p0 + (k : Nat) ∧ (Lit.int .i64 (p0 + (k : Nat))).wf = true) := by
    intro k hk hc
    have hb : k = 0 ∨ (0 ≤ p0 + (k : Nat) - 1 ∧ p0 + (k : Nat) - 1 < 800) := by
      cases k with
      | zero => exact Or.inl rfl
      | succ k => have := M.guards_in (hc k (by omega)); exact Or.inr (by omega)
    exact ⟨by unfold wrap64; omega, WalkArith.wf_i64 (by omega)⟩
  have HT : Hid (t.size = 64 * m ∧ m ≤ 16) := ⟨ht, by omega⟩
  have d1 : (t.size : Int).tmod 64 = 0 := by rw [Int.tmod_eq_emod_of_nonneg (by omega)]; omega
  have d2 : (t.size : Int).tdiv 64 = (m : Int) := by rw [Int.tdiv_eq_ediv_of_nonneg (by omega)]; omega
  have d3 : (t.size : Int) % 64 = 0 := by omega
  have d4 : (t.size : Int) / 64 = (m : Int) := by omega
  have d5 : (m : Int) ≤ 16 := by omega
  have d6 : (1 : Int) ≤ (m : Int) := by omega
  clear H hact h0 h9 ht h1 hl
  go_enter Tryz.func18, Tryz.ntmps18
  go_wp2_with fail
  go_loopw [27] (fun i wr => ∃ k : Nat, k ≤ m ∧ i = .int .i64 (k : Nat) ∧ Hid (QA a R wr b { s with l := M.rows20 p0 t s.l k } T n ∧ Kept R y wr) ∧ Hid (∀ j : Nat, j < k → M.guards a.N a.fr a.mn (p0 + (j : Nat)) = true)) (fun i _ => m - (intOf i).toNat)
  case atStart => exact ⟨0, Nat.zero_le _, rfl, HS, fun j hj => absurd hj (by omega)⟩
  case round =>
    clear HS
    obtain ⟨k, hk, rfl, HA, HD⟩ := hrel
    by_cases hlt : k < m
    · have hd : decide (k < m) = true := by simpa using hlt
      have hlt' : (k : Int) < (m : Int) := by omega
      have hk0 : (0 : Int) ≤ (k : Int) := by omega
      obtain ⟨hwp0, hwf⟩ := HW.out k hlt HD.out
      have C1 := Lib.hid (HC.out k wr hlt HA.out hwf)
      obtain ⟨q, hq⟩ : ∃ q, q = p0 + (k : Nat) := ⟨_, rfl⟩
      obtain ⟨st, hst⟩ : ∃ st, st = 64 * k := ⟨_, rfl⟩
      obtain ⟨en, hen⟩ : ∃ en, en = st + 64 := ⟨_, rfl⟩
      have HQ := Lib.hid hq
      obtain ⟨ht, hm⟩ := HT.out
      have e3 : (k : Int) * 64 = (st : Int) := by omega
      have e4 : IntKind.i64.wrap ((st : Int) + 64) = (en : Int) := by rw [IntKind.wrap_i64]; omega
      have b1 : (0 : Int) ≤ (st : Int) := by omega
      have b2 : (st : Int) ≤ (en : Int) := by omega
      have b3 : (en : Int) ≤ (t.size : Int) := by omega
      have b4 : (0 : Int) ≤ (en : Int) := by omega
      have hwp : wrap64 (p0 + (k : Int)) = q := hwp0.trans hq.symm
      rw [← hq] at C1
      rw [← hst, ← hen] at C1
      have HK := Lib.hid hlt
      clear hwp0 hwf hq hst hen ht hm hk hlt HA
      go_wp2_with fail
      refine C1.out.mono ?_
      rintro e w1 (⟨g1, rfl, g2⟩ | ⟨g1, rfl, g2⟩)
      · have G2 := Lib.hid g2
        have R1 : Hid (∀ j : Nat, j < k + 1 → M.guards a.N a.fr a.mn (p0 + (j : Nat)) = true) := fun j hj => by
          by_cases ej : j = k
          · rw [ej, ← HQ.out]; exact g1
          · exact HD.out j (by omega)
        clear g1 g2 C1 HD
        go_wp2_with fail
        go_roundw
        case rel => exact ⟨k + 1, HK.out, by go_num, G2, R1⟩
        case measure => have := HK.out; simp [intOf]; omega
      · have G2 := Lib.hid g2
        have R1 : Hid (∃ j : Nat, j < m ∧ M.guards a.N a.fr a.mn (p0 + (j : Nat)) = false) := ⟨k, HK.out, by rw [← HQ.out]; exact g1⟩
        clear g1 g2 C1 HD
        go_wp2_with fail
        go_ret
        exact ⟨Or.inr ⟨R1.out, rfl, G2.out.1⟩, G2.out.2⟩
    · have e : k = m := by omega
      subst e
      have hd9 : decide (k < k) = false := by simp
      clear hlt hk HW HC
      go_wp2_with fail
      go_ret
      exact ⟨Or.inl ⟨HD.out, rfl, HA.out.1⟩, HA.out.2⟩
end
end Go.Proofs.YtmgchfjfkdkaoaaGreatDoor
