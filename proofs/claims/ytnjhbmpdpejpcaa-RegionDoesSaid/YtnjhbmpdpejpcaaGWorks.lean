/-
  A walk over works() of layer 9, and over RegionNone.
-/
import Derived.Test.YtnjhbmpdpejpcaaGPad
namespace Go.Proofs.Ytnjhbmpdpejpcaa
open Go.RowKit

/-- A disk that a call has made, and its part beside it. -/
structure Gk (w y : World) (N rb a fr mn : Nat) (d : M.D) : Prop where
  disk : Disk y a (fun k => N ≤ k ∧ k ≠ rb) d
  reg : Reg y rb a fr mn
  below : Below N w y
  le : N ≤ y.heap.size
  low : N ≤ rb
section
variable {w y : World} {N rb a fr mn : Nat} {d : M.D}
theorem Dk.part {P : Nat → Prop} (h : Dk w y N a P d) (o : Obj) (hr : Reg (y.alloc o) y.heap.size a fr mn) : Gk w (y.alloc o) N y.heap.size a fr mn d :=
  ⟨(h.disk.mono (fun k hk e => ⟨h.low k e, Nat.ne_of_lt hk⟩)).kept ((Kept.refl (fun _ => False) y).alloc o) (fun _ _ => id), hr, h.below.alloc h.le o, by rw [World.size_alloc]; have := h.le; omega, h.le⟩
theorem Gk.step {y' : World} {d' : M.D} (h : Gk w y N rb a fr mn d) (hd : Disk y' a (M.plus (fun k => N ≤ k ∧ k ≠ rb) y.heap.size) d') (hk : Kept (fun k => N ≤ k ∧ k ≠ rb) y y') : Gk w y' N rb a fr mn d' := by
  have hle := h.le
  have hrl := h.reg.lt
  exact ⟨hd.mono (fun k _ e => e.elim id (fun e => ⟨by omega, by omega⟩)), h.reg.kept hk (fun e => e.2 rfl), h.below.trans (hk.below hle (fun k hk e => by omega)), by have := hk.size; omega, h.low⟩
theorem Gk.keep {y' : World} (h : Gk w y N rb a fr mn d) (hb : Below y.heap.size y y') : Gk w y' N rb a fr mn d :=
  ⟨h.disk.kept (Kept.of_below hb (fun _ => False)) (fun _ _ => id), h.reg.kept (Kept.of_below hb (fun _ => False)) id, h.below.trans (hb.mono h.le), Nat.le_trans h.le hb.size, h.low⟩
theorem Gk.write (h : Gk w y N rb a fr mn d) (i : Int) (s : ByteArray) (hi : i ≤ 9223372036854775807) (hsz : s.size ≤ 1000000000) (hf : fr ≤ 1000) (hmn : mn ≤ 1000) (ho : d.ops ≤ 1000000000) :
    Calls Try.prog 17 #[.pointer (some ⟨rb, 0, none⟩), .int .i64 i, .string s] y fun e y' => e = .returned (.int .i64 (M.gwrite d fr mn i s).1) ∧ Gk w y' N rb a fr mn (M.gwrite d fr mn i s).2 :=
  (gwrite_any i s y h.disk h.reg (fun e => e.2 rfl) hi hsz hf hmn ho).mono fun _ _ ⟨h1, h2, h3⟩ => ⟨h1, h.step h2 h3⟩
theorem Gk.read (h : Gk w y N rb a fr mn d) (i m : Int) (hi : i ≤ 9223372036854775807) (hf : fr ≤ 1000) (hmn : mn ≤ 1000) (ho : d.ops ≤ 1000000000) :
    Calls Try.prog 12 #[.pointer (some ⟨rb, 0, none⟩), .int .i64 i, .int .i64 m] y fun e y' => e = .returned (.tuple #[.string (M.gread d fr mn i m).1, .int .i64 (M.gread d fr mn i m).2.1]) ∧ Gk w y' N rb a fr mn (M.gread d fr mn i m).2.2 :=
  (gread_any i m y h.disk h.reg (fun e => e.2 rfl) hi hf hmn ho).mono fun _ _ ⟨h1, h2, h3⟩ => ⟨h1, h.step (h2.mono (fun _ _ e => Or.inl e)) h3⟩
end

theorem M.works_write : (M.gwrite (M.new 6) 3 2 1 (M.pad ⟨#[120]⟩)).1 = 0 := by decide
set_option maxRecDepth 100000 in
set_option maxHeartbeats 1000000 in
theorem works_any (w : World) : Calls Try.prog 6 #[] w fun e w' => e = .returned (.bool true) ∧ Below w.heap.size w w' := by
  have HN := Lib.hid (knew 6 w w (Below.refl _ _))
  rw [show M.held 6 = 6 by decide] at HN
  have HW0 := M.works_write
  obtain ⟨x, hx⟩ : ∃ x, x = M.pad ⟨#[120]⟩ := ⟨_, rfl⟩
  have hx64 : x.size = 64 := by rw [hx, M.pad_size]; decide
  have HPD : Hid (∀ y : World, Calls Try.prog 28 #[.string ⟨#[120]⟩] y fun e w' => e = .returned (.string x) ∧ Below y.heap.size y w') := fun y => by
    rw [hx]
    exact pad_any _ (by decide) y
  rw [← hx] at HW0
  obtain ⟨d0, hd0⟩ : ∃ d, d = M.new 6 := ⟨_, rfl⟩
  have HD0 := Lib.hid hd0
  rw [← hd0] at HN HW0
  have HNW : Hid (∀ (y : World) (a : Nat), Dk w y w.heap.size a (fun k => w.heap.size ≤ k) d0 → Calls Try.prog 10 #[.pointer (some ⟨a, 0, none⟩), .int .i64 3, .int .i64 2] y fun e w' => ∃ rb, e = .returned (.tuple #[.pointer (some ⟨rb, 0, none⟩), .int .i64 0]) ∧ Gk w w' w.heap.size rb a 3 2 d0) := fun y a h =>
    (new9_yes 3 2 y h.disk (by omega) (by rw [hd0]; decide)).mono fun _ _ ⟨h1, h2⟩ => ⟨_, h1, h2 ▸ h.part _ (Box.new _ _ _)⟩
  have HWR : Hid (∀ (y : World) (rb a : Nat), Gk w y w.heap.size rb a 3 2 d0 → Calls Try.prog 17 #[.pointer (some ⟨rb, 0, none⟩), .int .i64 1, .string x] y fun e y' => e = .returned (.int .i64 0) ∧ ∃ d1, Gk w y' w.heap.size rb a 3 2 d1) := fun y rb a h => by
    have := h.write 1 x (by omega) (by omega) (by omega) (by omega) (by rw [hd0]; decide)
    rw [HW0] at this
    exact this.mono fun _ _ ⟨h1, h2⟩ => ⟨h1, _, h2⟩
  clear hx HW0 hd0
  go_enter Try.func6, Try.ntmps6
  go_wp2_with fail
  refine HN.out.mono ?_
  rintro e w1 ⟨a, rfl, h1⟩
  have H1 := Lib.hid h1
  clear h1 HN
  go_wp2_with fail
  refine (HNW.out _ _ H1.out).mono ?_
  rintro e w2 ⟨rb, rfl, h2⟩
  have H2 := Lib.hid h2
  clear h2 HNW H1
  go_wp2_with fail
  refine (place_yes 1 w2 H2.out.reg (by omega) (by omega) (by omega)).mono ?_
  rintro e w3 ⟨rfl, rfl⟩
  go_wp2_with fail
  refine (place_no 2 w3 H2.out.reg (by omega) (by omega) (by decide)).mono ?_
  rintro e w4 ⟨rfl, rfl⟩
  go_wp2_with fail
  refine (HPD.out _).mono ?_
  rintro e w5 ⟨rfl, h5⟩
  have H5 := Lib.hid (HWR.out _ _ _ (H2.out.keep h5))
  clear h5 H2 HWR
  go_wp2_with fail
  refine H5.out.mono ?_
  rintro e w6 ⟨rfl, d1, h6⟩
  have H6 := Lib.hid h6
  clear h6 H5
  go_wp2_with fail
  refine (many_any _ H6.out.reg).mono ?_
  rintro e w7 ⟨rfl, rfl⟩
  go_wp2_with fail
  refine (HPD.out _).mono ?_
  rintro e w8 ⟨rfl, h8⟩
  have H8 := Lib.hid (H6.out.keep h8)
  clear h8 H6 HPD
  go_wp2_with fail
  go_ret
  exact ⟨rfl, H8.out.below⟩

set_option maxRecDepth 100000 in
theorem regionNone_walk (i : Int) (_ : -9223372036854775808 ≤ i) (_ : i ≤ 9223372036854775807) (m : Int) (_ : -9223372036854775808 ≤ m) (_ : m ≤ 9223372036854775807) (s : ByteArray) (w : World) : Calls Try.prog 5 #[.int .i64 i, .int .i64 m, .string s] w fun e w' => e = .returned (.bool true) ∧ Below w.heap.size w w' := by
  go_enter Try.func5, Try.ntmps5
  go_wp2_with fail
  refine (works_any w).mono ?_
  rintro e w1 ⟨rfl, h1⟩
  have H1 := Lib.hid h1
  clear h1
  go_wp2_with fail
  refine (place_nil i _).mono ?_
  rintro e w2 ⟨rfl, rfl⟩
  go_wp2_with fail
  refine (gread_nil i m _).mono ?_
  rintro e w3 ⟨rfl, rfl⟩
  go_wp2_with fail
  refine (gsplit_nil i s _).mono ?_
  rintro e w4 ⟨rfl, rfl⟩
  go_wp2_with fail
  refine (new9_nil _).mono ?_
  rintro e w5 ⟨rfl, rfl⟩
  go_wp2_with fail
  refine (gwrite_nil i s _).mono ?_
  rintro e w6 ⟨rfl, rfl⟩
  go_wp2_with fail
  refine (gflush_nil _).mono ?_
  rintro e w7 ⟨rfl, rfl⟩
  go_wp2_with fail
  refine (many_nil _).mono ?_
  rintro e w8 ⟨rfl, rfl⟩
  go_wp2_with fail
  go_ret
  exact ⟨rfl, H1.out⟩
end Go.Proofs.Ytnjhbmpdpejpcaa
