/-
  Both disks, a part of each and a step side by side in memory: one contract a call.
-/
import Derived.Test.YtnjhbmpdpejpcaaHOps
namespace Go.Proofs.Ytnjhbmpdpejpcaa
open Go.RowKit

theorem M.gsplit_len (fr mn : Nat) (hmn : mn ≤ 1000) (i : Int) (s : ByteArray) : (M.gsplit fr mn i s).1.length ≤ 1000 := by
  unfold M.gsplit
  split
  · split
    · rename_i hw
      obtain ⟨h0, h1, h2⟩ := M.within_yes hw
      show (M.cut _ _ _).length ≤ 1000
      rw [M.cut_len]
      omega
    · exact Nat.zero_le _
  · exact Nat.zero_le _
theorem gsplit_any (i : Int) (s : ByteArray) (y : World) {rb a fr mn : Nat} (hr : Reg y rb a fr mn) (hi : i ≤ 9223372036854775807) (hsz : s.size ≤ 1000000000) (hf : fr ≤ 1000) (hmn : mn ≤ 1000) :
    Calls Try.prog 14 #[.pointer (some ⟨rb, 0, none⟩), .int .i64 i, .string s] y fun e y' => ∃ A len c, e = .returned (.tuple #[.slice A len c, .int .i64 (M.gsplit fr mn i s).2]) ∧ SecsIs y' (.slice A len c) (M.gsplit fr mn i s).1 ∧ Below y.heap.size y y' := by
  unfold M.gsplit
  by_cases hs : s.size % 64 = 0
  · rw [if_pos hs]
    obtain ⟨n, hn⟩ : ∃ n, n = s.size / 64 := ⟨_, rfl⟩
    have hsn : s.size = 64 * n := by omega
    rw [← hn]
    by_cases hy : M.within i ((n : Nat) : Int) (mn : Nat) = true
    · rw [if_pos hy]
      obtain ⟨h0, h1, h2⟩ := M.within_yes hy
      obtain ⟨k, rfl⟩ : ∃ k : Nat, i = k := ⟨i.toNat, by omega⟩
      rw [Int.toNat_natCast]
      refine (gsplit_yes k n s y hr hsn (by omega) hf hmn).mono ?_
      rintro e y' ⟨rfl, h1, h2⟩
      exact ⟨_, _, _, rfl, SecsIs.box h1 n (by rw [M.cut_len]), h2⟩
    · rw [if_neg hy]
      refine (gsplit_no i n s y hr hsn (by omega) hi hmn (by simpa using hy)).mono ?_
      rintro e y' ⟨rfl, rfl⟩
      exact ⟨_, _, _, rfl, SecsIs.nil _, Below.refl _ _⟩
  · rw [if_neg hs]
    refine (gsplit_size i s y hs hr).mono ?_
    rintro e y' ⟨rfl, rfl⟩
    exact ⟨_, _, _, rfl, SecsIs.nil _, Below.refl _ _⟩
theorem hsplit_any (i : Int) (s : ByteArray) (y : World) {rb b fr mn : Nat} (hr : RReg y rb b fr mn) (hsz : s.size ≤ 1000000000) (hf : fr ≤ 1000) (hmn : mn ≤ 1000) :
    Calls Try.prog 15 #[.pointer (some ⟨rb, 0, none⟩), .int .i64 i, .string s] y fun e y' => ∃ A len c, e = .returned (.tuple #[.slice A len c, .int .i64 (M.gsplit fr mn i s).2]) ∧ SecsIs y' (.slice A len c) (M.gsplit fr mn i s).1 ∧ Below y.heap.size y y' := by
  unfold M.gsplit
  by_cases hs : s.size % 64 = 0
  · rw [if_pos hs]
    obtain ⟨n, hn⟩ : ∃ n, n = s.size / 64 := ⟨_, rfl⟩
    have hsn : s.size = 64 * n := by omega
    rw [← hn]
    by_cases hy : M.within i ((n : Nat) : Int) (mn : Nat) = true
    · rw [if_pos hy]
      obtain ⟨h0, h1, h2⟩ := M.within_yes hy
      obtain ⟨k, rfl⟩ : ∃ k : Nat, i = k := ⟨i.toNat, by omega⟩
      rw [Int.toNat_natCast]
      refine (hsplit_yes k n s y hr hsn (by omega) hf hmn).mono ?_
      rintro e y' ⟨v, rfl, h1, h2⟩
      have h3 := SecsIs.row h1 (by rw [M.cut_len])
      obtain ⟨A, c, rfl, _⟩ := owns_shape h1
      exact ⟨_, _, _, rfl, h3, h2⟩
    · rw [if_neg hy]
      refine (hsplit_no i n s y hr hsn (by omega) hmn (by simpa using hy)).mono ?_
      rintro e y' ⟨rfl, rfl⟩
      exact ⟨_, _, _, rfl, SecsIs.nil _, Below.refl _ _⟩
  · rw [if_neg hs]
    refine (hsplit_size i s y hs).mono ?_
    rintro e y' ⟨rfl, rfl⟩
    exact ⟨_, _, _, rfl, SecsIs.nil _, Below.refl _ _⟩

theorem Two.less {w y : World} {N a b : Nat} {F F' : Nat → Prop} {d : M.D} {r : M.R} (h : Two w y N a b F d r) (hF' : ∀ k, F' k → F k) : Two w y N a b F' d r := by
  obtain ⟨P, Q, hd, hr, hP, hQ, hF, hb, hN⟩ := h
  exact ⟨P, Q, hd, hr, fun k e => ⟨(hP k e).1, fun e' => (hP k e).2.1 (hF' k e'), (hP k e).2.2⟩, fun k e => ⟨fun e' => (hQ k e).1 (hF' k e'), (hQ k e).2⟩, fun k e => hF k (hF' k e), hb, hN⟩

/-- Both disks and a part of each. -/
structure Bo0 (w y : World) (N a b ra rb fr mn : Nat) (d : M.D) (r : M.R) : Prop where
  two : Two w y N a b (fun k => k = ra ∨ k = rb) d r
  reg : Reg y ra a fr mn
  rreg : RReg y rb b fr mn
/-- .. and a step beside them. -/
structure Bo (w y : World) (N a b ra rb fr mn X : Nat) (V : Array Value) (d : M.D) (r : M.R) : Prop where
  two : Two w y N a b (fun k => (k = ra ∨ k = rb) ∨ k = X) d r
  reg : Reg y ra a fr mn
  rreg : RReg y rb b fr mn
  box : Box y X 37 V
section
variable {w y y' : World} {N a b ra rb fr mn X : Nat} {V : Array Value} {d : M.D} {r : M.R}
theorem Bo0.step (h : Bo0 w y N a b ra rb fr mn d r) (V : Array Value) : Bo w (y.alloc (.cells V 37)) N a b ra rb fr mn y.heap.size V d r :=
  ⟨h.two.beside _, h.reg.kept ((Kept.refl (fun _ => False) y).alloc _) id, h.rreg.kept ((Kept.refl (fun _ => False) y).alloc _) id, Box.new _ _ _⟩
theorem Bo.end_ (h : Bo w y N a b ra rb fr mn X V d r) : Bo0 w y N a b ra rb fr mn d r := ⟨h.two.less (fun _ e => Or.inl e), h.reg, h.rreg⟩
theorem Bo.keep (h : Bo w y N a b ra rb fr mn X V d r) (hb : Below y.heap.size y y') : Bo w y' N a b ra rb fr mn X V d r := by
  have hk : Kept (fun _ => False) y y' := Kept.of_below hb _
  exact ⟨h.two.kept hk (fun _ e => e.elim) (fun _ e => e.elim), h.reg.kept hk id, h.rreg.kept hk id, hk.box h.box id⟩
theorem Bo.drewN (h : Bo w y N a b ra rb fr mn X V d r) (n : Nat) : Bo w (y.drewN n) N a b ra rb fr mn X V d r := h.keep (below_drewN (Below.refl _ _) n)
theorem Bo.drew (h : Bo w y N a b ra rb fr mn X V d r) : Bo w y.drew N a b ra rb fr mn X V d r := h.drewN 1
theorem Bo.below (h : Bo w y N a b ra rb fr mn X V d r) : Below N w y := h.two.below
theorem Bo.stepA (h : Bo w y N a b ra rb fr mn X V d r) {f : FuncId} {args : Array Value} {v : Ending} {d' : M.D} (H : ∀ P : Nat → Prop, Disk y a P d → ¬ P ra → Calls Try.prog f args y fun e y' => e = v ∧ Disk y' a (M.plus P y.heap.size) d' ∧ Kept P y y') :
    Calls Try.prog f args y fun e y' => e = v ∧ Bo w y' N a b ra rb fr mn X V d' r := by
  obtain ⟨P, Q, hd, hr, hP, hQ, hF, hb, hN⟩ := h.two
  refine (H P hd (fun e => (hP _ e).2.1 (Or.inl (Or.inl rfl)))).mono ?_
  rintro e y' ⟨he, h2, h3⟩
  obtain ⟨t1, t2⟩ := Two.stepA hr hP hQ hF hb hN h2 h3
  exact ⟨he, t1, h.reg.kept t2 (fun e => e (Or.inl (Or.inl rfl))), h.rreg.kept t2 (fun e => e (Or.inl (Or.inr rfl))), t2.box h.box (fun e => e (Or.inr rfl))⟩
theorem Bo.stepB (h : Bo w y N a b ra rb fr mn X V d r) {f : FuncId} {args : Array Value} {v : Ending} {r' : M.R} (H : ∀ P : Nat → Prop, Ref y b P r → ¬ P rb → Calls Try.prog f args y fun e y' => e = v ∧ Ref y' b (M.plus P y.heap.size) r' ∧ Kept P y y') :
    Calls Try.prog f args y fun e y' => e = v ∧ Bo w y' N a b ra rb fr mn X V d r' := by
  obtain ⟨P, Q, hd, hr, hP, hQ, hF, hb, hN⟩ := h.two
  refine (H Q hr (fun e => (hQ _ e).1 (Or.inl (Or.inr rfl)))).mono ?_
  rintro e y' ⟨he, h2, h3⟩
  obtain ⟨t1, t2⟩ := Two.stepB hd hP hQ hF hb hN h2 h3
  exact ⟨he, t1, h.reg.kept t2 (fun e => e (Or.inl (Or.inl rfl))), h.rreg.kept t2 (fun e => e (Or.inl (Or.inr rfl))), t2.box h.box (fun e => e (Or.inr rfl))⟩

theorem Bo.read (h : Bo w y N a b ra rb fr mn X V d r) (i m : Int) (hi : i ≤ 9223372036854775807) (hf : fr ≤ 1000) (hmn : mn ≤ 1000) (ho : d.ops ≤ 1000000000) :
    Calls Try.prog 12 #[.pointer (some ⟨ra, 0, none⟩), .int .i64 i, .int .i64 m] y fun e y' => e = .returned (.tuple #[.string (M.gread d fr mn i m).1, .int .i64 (M.gread d fr mn i m).2.1]) ∧ Bo w y' N a b ra rb fr mn X V (M.gread d fr mn i m).2.2 r :=
  h.stepA fun _ hd hp => (gread_any i m y hd h.reg hp hi hf hmn ho).mono fun _ _ ⟨h1, h2, h3⟩ => ⟨h1, h2.plus _, h3⟩
theorem Bo.rread (h : Bo w y N a b ra rb fr mn X V d r) (i m : Int) (hq : ∀ s ∈ r.seen, s.size = 64) (hf : fr ≤ 1000) (hmn : mn ≤ 1000) (ho : r.ops ≤ 1000000000) :
    Calls Try.prog 13 #[.pointer (some ⟨rb, 0, none⟩), .int .i64 i, .int .i64 m] y fun e y' => e = .returned (.tuple #[.string (M.hread r fr mn i m).1, .int .i64 (M.hread r fr mn i m).2.1]) ∧ Bo w y' N a b ra rb fr mn X V d (M.hread r fr mn i m).2.2 :=
  h.stepB fun _ hr hp => (hread_any i m y hr h.rreg hp hq hf hmn ho).mono fun _ _ ⟨h1, h2, h3⟩ => ⟨h1, h2.plus _, h3⟩
theorem Bo.write (h : Bo w y N a b ra rb fr mn X V d r) (i : Int) (s : ByteArray) (hi : i ≤ 9223372036854775807) (hs : s.size ≤ 1000000000) (hf : fr ≤ 1000) (hmn : mn ≤ 1000) (ho : d.ops ≤ 1000000000) :
    Calls Try.prog 17 #[.pointer (some ⟨ra, 0, none⟩), .int .i64 i, .string s] y fun e y' => e = .returned (.int .i64 (M.gwrite d fr mn i s).1) ∧ Bo w y' N a b ra rb fr mn X V (M.gwrite d fr mn i s).2 r :=
  h.stepA fun _ hd hp => gwrite_any i s y hd h.reg hp hi hs hf hmn ho
theorem Bo.rwrite (h : Bo w y N a b ra rb fr mn X V d r) (i : Int) (s : ByteArray) (hs : s.size ≤ 1000000000) (hf : fr ≤ 1000) (hmn : mn ≤ 1000) (ho : r.ops ≤ 1000000000) :
    Calls Try.prog 18 #[.pointer (some ⟨rb, 0, none⟩), .int .i64 i, .string s] y fun e y' => e = .returned (.int .i64 (M.hwrite r fr mn i s).1) ∧ Bo w y' N a b ra rb fr mn X V d (M.hwrite r fr mn i s).2 :=
  h.stepB fun _ hr hp => hwrite_any i s y hr h.rreg hp hs hf hmn ho
theorem Bo.flush (h : Bo w y N a b ra rb fr mn X V d r) (ho : d.ops ≤ 1000000000) :
    Calls Try.prog 19 #[.pointer (some ⟨ra, 0, none⟩)] y fun e y' => e = .returned (.int .i64 (M.beginE d)) ∧ Bo w y' N a b ra rb fr mn X V (M.flushD d) r :=
  h.stepA fun _ hd _ => (gflush_any y hd h.reg (by omega)).mono fun _ _ ⟨h1, h2, h3⟩ => ⟨h1, h2.plus _, h3⟩
theorem Bo.rflush (h : Bo w y N a b ra rb fr mn X V d r) (ho : r.ops ≤ 1000000000) :
    Calls Try.prog 20 #[.pointer (some ⟨b, 0, none⟩)] y fun e y' => e = .returned (.int .i64 (M.callE r)) ∧ Bo w y' N a b ra rb fr mn X V d (M.rflushR r) :=
  h.stepB fun _ hr _ => rflush_any y hr (by omega)
theorem Bo.fail (h : Bo w y N a b ra rb fr mn X V d r) (x : Int) :
    Calls Try.prog 21 #[.pointer (some ⟨a, 0, none⟩), .int .i64 x] y fun e y' => e = .returned (.tuple #[]) ∧ Bo w y' N a b ra rb fr mn X V (M.failD d x) r :=
  h.stepA fun _ hd _ => fail_any x y hd
theorem Bo.rfail (h : Bo w y N a b ra rb fr mn X V d r) (x : Int) :
    Calls Try.prog 23 #[.pointer (some ⟨b, 0, none⟩), .int .i64 x] y fun e y' => e = .returned (.tuple #[]) ∧ Bo w y' N a b ra rb fr mn X V d (M.rfailR r x) :=
  h.stepB fun _ hr _ => rfail_any x y hr
theorem Bo.restart (h : Bo w y N a b ra rb fr mn X V d r) (ho : d.ops ≤ 1000000000) :
    Calls Try.prog 24 #[.pointer (some ⟨a, 0, none⟩), .slice none 0 0] y fun e y' => e = .returned (.tuple #[]) ∧ Bo w y' N a b ra rb fr mn X V (M.restartD d (M.odd 0 (fun _ => 0))) r :=
  h.stepA fun _ hd _ => (restart_any none 0 0 (fun _ => 0) y hd (by omega) (fun i hi => absurd hi (by omega)) (fun hi => absurd hi (by omega))).mono fun _ _ ⟨h1, h2, h3⟩ => ⟨h1, h2.plus _, h3⟩
theorem Bo.rrestart (h : Bo w y N a b ra rb fr mn X V d r) (ho : r.ops ≤ 1000000000) :
    Calls Try.prog 25 #[.pointer (some ⟨b, 0, none⟩), .slice none 0 0] y fun e y' => e = .returned (.tuple #[]) ∧ Bo w y' N a b ra rb fr mn X V d (M.restartR r) :=
  h.stepB fun _ hr _ => rrestart_any y hr (by omega)
theorem Bo.ops (h : Bo w y N a b ra rb fr mn X V d r) : Calls Try.prog 22 #[.pointer (some ⟨a, 0, none⟩)] y fun e y' => e = .returned (.int .i64 (d.ops : Nat)) ∧ y' = y := tops h.two
theorem Bo.rops (h : Bo w y N a b ra rb fr mn X V d r) : y.cell? ⟨b, 3, none⟩ = some (.int .i64 (r.ops : Nat)) := let ⟨_, _, _, h, _⟩ := h.two.cells; h
theorem Bo.inv (h : Bo w y N a b ra rb fr mn X V d r) : M.Inv d := h.two.inv
theorem Bo.cells {kd at_ m : Int} {t : ByteArray} (h : Bo w y N a b ra rb fr mn X #[.int .i64 kd, .int .i64 at_, .int .i64 m, .string t] d r) : y.cell? ⟨X, 0, none⟩ = some (.int .i64 kd) ∧ y.cell? ⟨X, 1, none⟩ = some (.int .i64 at_) ∧ y.cell? ⟨X, 2, none⟩ = some (.int .i64 m) ∧ y.cell? ⟨X, 3, none⟩ = some (.string t) :=
  ⟨by simpa using h.box.cell 0, by simpa using h.box.cell 1, by simpa using h.box.cell 2, by simpa using h.box.cell 3⟩
end
end Go.Proofs.Ytnjhbmpdpejpcaa
