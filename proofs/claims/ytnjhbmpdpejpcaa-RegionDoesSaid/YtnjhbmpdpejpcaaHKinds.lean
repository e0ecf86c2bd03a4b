/-
  What each kind of step of RegionDoes does, the answers by names of their own; the two disks and their parts are made.
-/
import Derived.Test.YtnjhbmpdpejpcaaHBoth
namespace Go.Proofs.Ytnjhbmpdpejpcaa
open Go.RowKit

section
variable {w : World} {N a b ra rb fr mn X : Nat} {V : Array Value} {d : M.D} {r : M.R} {k : Nat}
theorem kind0 (hrun : M.Run d r k) (hinv : M.Inv d) (hk : k ≤ 100) (hf : fr ≤ 1000) (hmn : mn ≤ 1000) (i m : Int) (hi : i ≤ 9223372036854775807) : ∃ (S : ByteArray) (E : Int) (d1 : M.D) (r1 : M.R), M.Run d1 r1 (k + 1) ∧
    (∀ y, Bo w y N a b ra rb fr mn X V d r → Calls Try.prog 12 #[.pointer (some ⟨ra, 0, none⟩), .int .i64 i, .int .i64 m] y fun e y' => e = .returned (.tuple #[.string S, .int .i64 E]) ∧ Bo w y' N a b ra rb fr mn X V d1 r) ∧
    (∀ y, Bo w y N a b ra rb fr mn X V d1 r → Calls Try.prog 13 #[.pointer (some ⟨rb, 0, none⟩), .int .i64 i, .int .i64 m] y fun e y' => e = .returned (.tuple #[.string S, .int .i64 E]) ∧ Bo w y' N a b ra rb fr mn X V d1 r1) := by
  obtain ⟨q1, q2, q3⟩ := hrun.read fr mn hmn i m
  have ho := hrun.ops
  have hro := hrun.rops
  refine ⟨_, _, _, _, q3, fun y h => h.read i m hi hf hmn (by omega), fun y h => ?_⟩
  have := h.rread i m (hrun.sizes hinv) hf hmn (by omega)
  rw [q1, q2] at this
  exact this
theorem kind1 (hrun : M.Run d r k) (hk : k ≤ 100) (hf : fr ≤ 1000) (hmn : mn ≤ 1000) (i : Int) (s : ByteArray) (hi : i ≤ 9223372036854775807) (hs : s.size ≤ 5000) : ∃ (L : List (Nat × ByteArray)) (G E : Int) (d1 : M.D) (r1 : M.R), M.Run d1 r1 (k + 1) ∧ L.length ≤ 1000 ∧
    (∀ y, Bo w y N a b ra rb fr mn X V d r → Calls Try.prog 14 #[.pointer (some ⟨ra, 0, none⟩), .int .i64 i, .string s] y fun e y' => ∃ A len c, e = .returned (.tuple #[.slice A len c, .int .i64 G]) ∧ SecsIs y' (.slice A len c) L ∧ Bo w y' N a b ra rb fr mn X V d r) ∧
    (∀ y v1, Bo w y N a b ra rb fr mn X V d r → SecsIs y v1 L → Calls Try.prog 15 #[.pointer (some ⟨rb, 0, none⟩), .int .i64 i, .string s] y fun e y' => ∃ A len c, e = .returned (.tuple #[.slice A len c, .int .i64 G]) ∧ SecsIs y' v1 L ∧ SecsIs y' (.slice A len c) L ∧ Bo w y' N a b ra rb fr mn X V d r) ∧
    (∀ y v1 v2, Bo w y N a b ra rb fr mn X V d r → SecsIs y v1 L → SecsIs y v2 L → Calls Try.prog 16 #[v1, v2] y fun e y' => e = .returned (.bool true) ∧ Bo w y' N a b ra rb fr mn X V d r) ∧
    (∀ y, Bo w y N a b ra rb fr mn X V d r → Calls Try.prog 17 #[.pointer (some ⟨ra, 0, none⟩), .int .i64 i, .string s] y fun e y' => e = .returned (.int .i64 E) ∧ Bo w y' N a b ra rb fr mn X V d1 r) ∧
    (∀ y, Bo w y N a b ra rb fr mn X V d1 r → Calls Try.prog 18 #[.pointer (some ⟨rb, 0, none⟩), .int .i64 i, .string s] y fun e y' => e = .returned (.int .i64 E) ∧ Bo w y' N a b ra rb fr mn X V d1 r1) := by
  obtain ⟨q1, q2⟩ := hrun.write fr mn hmn i s
  have ho := hrun.ops
  have hro := hrun.rops
  have hl := M.gsplit_len fr mn hmn i s
  refine ⟨(M.gsplit fr mn i s).1, (M.gsplit fr mn i s).2, _, _, _, q2, hl, fun y h => ?_, fun y v1 h h1 => ?_, fun y v1 v2 h h1 h2 => ?_, fun y h => h.write i s hi (by omega) hf hmn (by omega), fun y h => ?_⟩
  · exact (gsplit_any i s y h.reg hi (by omega) hf hmn).mono fun _ _ ⟨A, len, c, p1, p2, p3⟩ => ⟨A, len, c, p1, p2, h.keep p3⟩
  · exact (hsplit_any i s y h.rreg (by omega) hf hmn).mono fun _ _ ⟨A, len, c, p1, p2, p3⟩ => ⟨A, len, c, p1, h1.below p3, p2, h.keep p3⟩
  · exact (sectors9_any _ v1 v2 y h1 h2 hl).mono fun _ _ ⟨p1, p2⟩ => ⟨p1, h.keep p2⟩
  · have := h.rwrite i s (by omega) hf hmn (by omega)
    rw [q1] at this
    exact this
theorem kind2 (hrun : M.Run d r k) (hk : k ≤ 100) : ∃ (E : Int) (d1 : M.D) (r1 : M.R), M.Run d1 r1 (k + 1) ∧
    (∀ y, Bo w y N a b ra rb fr mn X V d r → Calls Try.prog 19 #[.pointer (some ⟨ra, 0, none⟩)] y fun e y' => e = .returned (.int .i64 E) ∧ Bo w y' N a b ra rb fr mn X V d1 r) ∧
    (∀ y, Bo w y N a b ra rb fr mn X V d1 r → Calls Try.prog 20 #[.pointer (some ⟨b, 0, none⟩)] y fun e y' => e = .returned (.int .i64 E) ∧ Bo w y' N a b ra rb fr mn X V d1 r1) := by
  obtain ⟨q1, q2⟩ := hrun.flush
  have ho := hrun.ops
  have hro := hrun.rops
  refine ⟨_, _, _, q2, fun y h => h.flush (by omega), fun y h => ?_⟩
  have := h.rflush (by omega)
  rw [q1] at this
  exact this
theorem kind3 (hrun : M.Run d r k) (hk : k < 100) (x : Int) : ∃ (d1 : M.D) (r1 : M.R), M.Run d1 r1 (k + 1) ∧ r1.ops = r.ops ∧
    (∀ y, Bo w y N a b ra rb fr mn X V d r → Calls Try.prog 21 #[.pointer (some ⟨a, 0, none⟩), .int .i64 x] y fun e y' => e = .returned (.tuple #[]) ∧ Bo w y' N a b ra rb fr mn X V d1 r) ∧
    (∀ y, Bo w y N a b ra rb fr mn X V d1 r → Calls Try.prog 23 #[.pointer (some ⟨b, 0, none⟩), .int .i64 x] y fun e y' => e = .returned (.tuple #[]) ∧ Bo w y' N a b ra rb fr mn X V d1 r1) :=
  ⟨_, _, hrun.fail hk x, by unfold M.rfailR; split <;> rfl, fun _ h => h.fail x, fun _ h => h.rfail x⟩
theorem kind4 (hrun : M.Run d r k) (hk : k ≤ 100) : ∃ (d1 : M.D) (r1 : M.R), M.Run d1 r1 (k + 1) ∧
    (∀ y, Bo w y N a b ra rb fr mn X V d r → Calls Try.prog 24 #[.pointer (some ⟨a, 0, none⟩), .slice none 0 0] y fun e y' => e = .returned (.tuple #[]) ∧ Bo w y' N a b ra rb fr mn X V d1 r) ∧
    (∀ y, Bo w y N a b ra rb fr mn X V d1 r → Calls Try.prog 25 #[.pointer (some ⟨b, 0, none⟩), .slice none 0 0] y fun e y' => e = .returned (.tuple #[]) ∧ Bo w y' N a b ra rb fr mn X V d1 r1) := by
  have ho := hrun.ops
  have hro := hrun.rops
  exact ⟨_, _, hrun.restart (fun _ => 0), fun y h => h.restart (by omega), fun y h => h.rrestart (by omega)⟩

/-- Where a step's place is. -/
theorem place_ways (at_ : Int) (mn : Nat) : (∃ kk : Nat, at_ = kk ∧ kk < mn) ∨ at_ < 0 ∨ (0 ≤ at_ ∧ ¬ at_ < (mn : Int)) := by
  by_cases h0 : at_ < 0
  · exact Or.inr (Or.inl h0)
  · by_cases h1 : at_ < (mn : Int)
    · exact Or.inl ⟨at_.toNat, by omega, by omega⟩
    · exact Or.inr (Or.inr ⟨by omega, h1⟩)
/-- Behind the step: what the rest of a round asks. -/
theorem Bo.rest {y : World} (h : Bo w y N a b ra rb fr mn X V d r) (hs : M.Run d r k) : ∃ oo : Nat, y.cell? ⟨b, 3, none⟩ = some (.int .i64 (oo : Nat)) ∧ Hid (∀ n, Calls Try.prog 22 #[.pointer (some ⟨a, 0, none⟩)] (y.drewN n) fun e y' => e = .returned (.int .i64 (oo : Nat)) ∧ y' = y.drewN n) :=
  ⟨d.ops, by rw [← hs.same.ops]; exact h.rops, fun n => (h.drewN n).ops⟩
end

/-- Both disks and a part of each are made. -/
theorem Two.news {w y : World} {N a b : Nat} {d : M.D} {r : M.R} (h : Two w y N a b (fun _ => False) d r) (fr mn : Nat) (hd : M.within (fr : Nat) (mn : Nat) (d.S.length : Nat) = true) (hr : r.seen.length = d.S.length) :
    Calls Try.prog 10 #[.pointer (some ⟨a, 0, none⟩), .int .i64 (fr : Nat), .int .i64 (mn : Nat)] y fun e y' => ∃ ra, e = .returned (.tuple #[.pointer (some ⟨ra, 0, none⟩), .int .i64 0]) ∧
      Calls Try.prog 11 #[.pointer (some ⟨b, 0, none⟩), .int .i64 (fr : Nat), .int .i64 (mn : Nat)] y' fun e y'' => ∃ rb, e = .returned (.tuple #[.pointer (some ⟨rb, 0, none⟩), .int .i64 0]) ∧ Bo0 w y'' N a b ra rb fr mn d r := by
  have h' := h
  obtain ⟨P, Q, hd', hr', _⟩ := h'
  obtain ⟨w1, w2, w3⟩ := M.within_yes hd
  have hm := h.inv.many
  refine (new9_yes (fr : Nat) (mn : Nat) y hd' (by omega) hd).mono ?_
  rintro e y' ⟨rfl, rfl⟩
  refine ⟨_, rfl, ?_⟩
  obtain ⟨o, ho⟩ : ∃ o : Obj, o = .cells #[.pointer (some ⟨a, 0, none⟩), .int .i64 (fr : Nat), .int .i64 (mn : Nat)] 70 := ⟨_, rfl⟩
  have hreg : Reg (y.alloc o) y.heap.size a fr mn := by rw [ho]; exact Box.new _ _ _
  rw [← ho]
  have h1 := h.beside o
  have h1' := h1
  obtain ⟨_, Q1, _, hr1, _⟩ := h1'
  refine (hnew_yes (fr : Nat) (mn : Nat) (y.alloc o) hr1 (by rw [hr]; exact hd)).mono ?_
  rintro e y'' ⟨rfl, rfl⟩
  refine ⟨_, rfl, (h1.beside _).less (fun k e => ?_), hreg.kept ((Kept.refl (fun _ => False) _).alloc _) id, Box.new _ _ _⟩
  rcases e with e | e
  · exact Or.inl (Or.inr e)
  · exact Or.inr e
theorem Two.none_ {w y : World} {N a b : Nat} {d : M.D} {r : M.R} (h : Two w y N a b (fun _ => False) d r) (fr mn : Int) (hf : fr ≤ 9223372036854775807) (hd : M.within fr mn (d.S.length : Nat) = false) (hr : r.seen.length = d.S.length) :
    (Calls Try.prog 10 #[.pointer (some ⟨a, 0, none⟩), .int .i64 fr, .int .i64 mn] y fun e y' => e = .returned (.tuple #[.pointer none, .int .i64 3]) ∧ y' = y) ∧
    (Calls Try.prog 11 #[.pointer (some ⟨b, 0, none⟩), .int .i64 fr, .int .i64 mn] y fun e y' => e = .returned (.tuple #[.pointer none, .int .i64 3]) ∧ y' = y) := by
  obtain ⟨P, Q, hd', hr', _⟩ := h
  exact ⟨new9_no fr mn y hd' hf hd, hnew_no fr mn y hr' (by rw [hr]; exact hd)⟩
end Go.Proofs.Ytnjhbmpdpejpcaa
