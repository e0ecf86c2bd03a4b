/-
  The document's disk (solderref08) in memory. Walks over has, may and call.
-/
import Derived.Test.YtnjhbmpdpejpcaaDBegin
import Derived.Test.YtnjhbmpdpejpcaaECopy
namespace Go.Proofs.Ytnjhbmpdpejpcaa
open Go.RowKit

/-- What the document's disk is. -/
structure M.R where
  sure : List ByteArray
  seen : List ByteArray
  wait : List (Nat × ByteArray)
  ops : Nat
  fails : List Int
  at_ : Int
  off : Bool

/-- It lies in block b of w. -/
structure RefAt (w : World) (b : Nat) (SV EV WV FV : Value) (r : M.R) : Prop where
  box : Box w b 51 #[SV, EV, WV, .int .i64 (r.ops : Nat), FV, .int .i64 r.at_, .bool r.off]
  sure : w.ownsRow 0 9 1 SV r.sure.length (r.sure.map Value.string)
  seen : w.ownsRow 0 9 1 EV r.seen.length (r.seen.map Value.string)
  wait : w.ownsRow 0 80 2 WV r.wait.length (M.cells r.wait)
  fails : w.ownsRow 0 3 1 FV r.fails.length (r.fails.map (Value.int .i64))
  len : r.seen.length = r.sure.length
  many : r.sure.length ≤ 1000
  lies : ∀ p ∈ r.wait, p.1 < r.sure.length
  some_ : r.wait.length ≤ r.ops
  few : r.fails.length ≤ 100
  ns : ∀ k, SV.ownBlock = some k → k ≠ b
  ne : ∀ k, EV.ownBlock = some k → k ≠ b
  nw : ∀ k, WV.ownBlock = some k → k ≠ b
  nf : ∀ k, FV.ownBlock = some k → k ≠ b
theorem RefAt.kept {P : Nat → Prop} {w w' : World} {b : Nat} {SV EV WV FV : Value} {r : M.R} (h : RefAt w b SV EV WV FV r) (hk : Kept P w w') (hb : ¬ P b) (h1 : ∀ k, SV.ownBlock = some k → ¬ P k) (h2 : ∀ k, EV.ownBlock = some k → ¬ P k) (h3 : ∀ k, WV.ownBlock = some k → ¬ P k) (h4 : ∀ k, FV.ownBlock = some k → ¬ P k) : RefAt w' b SV EV WV FV r :=
  ⟨hk.box h.box hb, hk.owns h.sure h1, hk.owns h.seen h2, hk.owns h.wait h3, hk.owns h.fails h4, h.len, h.many, h.lies, h.some_, h.few, h.ns, h.ne, h.nw, h.nf⟩
theorem RefAt.drewN {w : World} {b : Nat} {SV EV WV FV : Value} {r : M.R} (h : RefAt w b SV EV WV FV r) (n : Nat) : RefAt (w.drewN n) b SV EV WV FV r :=
  h.kept ((Kept.refl (fun _ => False) w).drewN n) id (fun _ _ => id) (fun _ _ => id) (fun _ _ => id) (fun _ _ => id)
/-- It lies in block b of w; all its blocks are among P. -/
def Ref (w : World) (b : Nat) (P : Nat → Prop) (r : M.R) : Prop :=
  ∃ SV EV WV FV, RefAt w b SV EV WV FV r ∧ P b ∧ (∀ k, SV.ownBlock = some k → P k) ∧ (∀ k, EV.ownBlock = some k → P k) ∧ (∀ k, WV.ownBlock = some k → P k) ∧ ∀ k, FV.ownBlock = some k → P k
theorem Ref.kept {P Q : Nat → Prop} {w w' : World} {b : Nat} {r : M.R} (h : Ref w b P r) (hk : Kept Q w w') (hpq : ∀ k, P k → ¬ Q k) : Ref w' b P r := by
  obtain ⟨SV, EV, WV, FV, h, p0, p1, p2, p3, p4⟩ := h
  exact ⟨SV, EV, WV, FV, h.kept hk (hpq _ p0) (fun k e => hpq _ (p1 k e)) (fun k e => hpq _ (p2 k e)) (fun k e => hpq _ (p3 k e)) (fun k e => hpq _ (p4 k e)), p0, p1, p2, p3, p4⟩
theorem Ref.mono {P Q : Nat → Prop} {w : World} {b : Nat} {r : M.R} (h : Ref w b P r) (hpq : ∀ k, k < w.heap.size → P k → Q k) : Ref w b Q r := by
  obtain ⟨SV, EV, WV, FV, h, p0, p1, p2, p3, p4⟩ := h
  exact ⟨SV, EV, WV, FV, h, hpq _ h.box.lt p0, fun k e => hpq _ (h.sure.lt k e).2 (p1 k e), fun k e => hpq _ (h.seen.lt k e).2 (p2 k e), fun k e => hpq _ (h.wait.lt k e).2 (p3 k e), fun k e => hpq _ (h.fails.lt k e).2 (p4 k e)⟩
theorem RefAt.ref {w : World} {b : Nat} {SV EV WV FV : Value} {r : M.R} (h : RefAt w b SV EV WV FV r) : Ref w b (fun _ => True) r := ⟨SV, EV, WV, FV, h, trivial, fun _ _ => trivial, fun _ _ => trivial, fun _ _ => trivial, fun _ _ => trivial⟩
section
variable {w : World} {b : Nat} {SV EV WV FV : Value} {r : M.R}
theorem RefAt.c0 (h : RefAt w b SV EV WV FV r) : w.cell? ⟨b, 0, none⟩ = some SV := by simpa using h.box.cell 0
theorem RefAt.c1 (h : RefAt w b SV EV WV FV r) : w.cell? ⟨b, 1, none⟩ = some EV := by simpa using h.box.cell 1
theorem RefAt.c2 (h : RefAt w b SV EV WV FV r) : w.cell? ⟨b, 2, none⟩ = some WV := by simpa using h.box.cell 2
theorem RefAt.c3 (h : RefAt w b SV EV WV FV r) : w.cell? ⟨b, 3, none⟩ = some (.int .i64 (r.ops : Nat)) := by simpa using h.box.cell 3
theorem RefAt.c4 (h : RefAt w b SV EV WV FV r) : w.cell? ⟨b, 4, none⟩ = some FV := by simpa using h.box.cell 4
theorem RefAt.c5 (h : RefAt w b SV EV WV FV r) : w.cell? ⟨b, 5, none⟩ = some (.int .i64 r.at_) := by simpa using h.box.cell 5
theorem RefAt.c6 (h : RefAt w b SV EV WV FV r) : w.cell? ⟨b, 6, none⟩ = some (.bool r.off) := by simpa using h.box.cell 6
end

/-- Is a number one of some? -/
theorem rhas_any (zs : List Int) (x : Int) (v : Value) (w : World) (hv : w.ownsRow 0 3 1 v zs.length (zs.map (Value.int .i64))) (hl : zs.length ≤ 1000) :
    Calls Try.prog 44 #[v, .int .i64 x] w fun e w' => e = .returned (.bool (decide (x ∈ zs))) ∧ w' = w := by
  obtain ⟨A, c, hA, hc⟩ : ∃ (A : Option Addr) (c : Nat), v = .slice A zs.length c ∧ ∀ j (hj : j < zs.length), ∃ g, A = some ⟨g, 0, none⟩ ∧ w.cell? ⟨g, j, none⟩ = some (.int .i64 (zs[j]'hj)) := by
    rcases owned_ints hv with ⟨e, hz⟩ | ⟨g, cap, e, _, _, _, h3, _⟩
    · refine ⟨none, 0, by rw [e, hz]; rfl, fun j hj => ?_⟩
      rw [hz] at hj
      simp at hj
    · refine ⟨_, cap, e, fun j hj => ⟨g, rfl, ?_⟩⟩
      have := h3 j hj
      rw [Nat.zero_add] at this
      rw [this]
      simp [hj]
  subst hA
  have HC := Lib.hid hc
  clear hv hc
  obtain ⟨n, hn⟩ : ∃ n, n = zs.length := ⟨_, rfl⟩
  rw [← hn] at hl ⊢
  have HN := Lib.hid hn
  obtain ⟨o, ho⟩ : ∃ o : Bool, o = decide (x ∈ zs) := ⟨_, rfl⟩
  rw [← ho]
  have HO := Lib.hid ho
  clear hn ho
  go_enter Try.func44, Try.ntmps44
  go_wp2_with fail
  go_loopw [5] (fun i wr => wr = w ∧ ∃ k : Nat, k ≤ n ∧ i = .int .i64 k ∧ ∀ j (hj : j < zs.length), j < k → zs[j]'hj ≠ x) (fun i _ => n - (intOf i).toNat)
  case atStart => exact ⟨rfl, 0, Nat.zero_le _, rfl, fun j _ h => absurd h (by omega)⟩
  case round =>
    obtain ⟨rfl, k, hk, rfl, hne⟩ := hrel
    have HNE := Lib.hid hne
    clear hne
    by_cases hlt : k < n
    · have hlt' : (k : Int) < (n : Int) := by omega
      have hk0 : (0 : Int) ≤ (k : Int) := by omega
      have hkz : k < zs.length := by have := HN.out; omega
      obtain ⟨g, rfl, hcell⟩ := HC.out k hkz
      by_cases he : zs[k]'hkz = x
      · have hm : x ∈ zs := by rw [← he]; exact List.getElem_mem hkz
        rw [he] at hcell
        have hxx : (x == x) = true := by simp
        have HM : Hid (o = true) := by show o = true; rw [HO.out]; simpa using hm
        clear he hm
        go_wp2_with fail
        go_ret
        exact ⟨by rw [HM.out]; rfl, rfl⟩
      · obtain ⟨y, hy⟩ : ∃ y, y = zs[k]'hkz := ⟨_, rfl⟩
        rw [← hy] at hcell he
        have hyx : (y == x) = false := by rw [beq_eq_false_iff_ne]; exact he
        have HY := Lib.hid hy
        have HE := Lib.hid he
        clear hy he
        go_wp2_with fail
        go_roundw
        case rel =>
          refine ⟨trivial, k + 1, by omega, by go_num, fun j hj hjk => ?_⟩
          by_cases e : j = k
          · subst e
            rw [← HY.out]
            exact HE.out
          · exact HNE.out j hj (by omega)
        case measure => simp [intOf]; omega
    · have HM : Hid (o = false) := by
        rw [HO.out]
        show decide (x ∈ zs) = false
        rw [decide_eq_false_iff_not]
        intro hm
        obtain ⟨j, hj, e⟩ := List.mem_iff_getElem.1 hm
        exact HNE.out j hj (by have := HN.out; omega) e
      have hlt' : ¬ (k : Int) < (n : Int) := by omega
      clear hlt
      go_wp2_with fail
      go_ret
      exact ⟨by rw [HM.out]; rfl, rfl⟩
end Go.Proofs.Ytnjhbmpdpejpcaa
