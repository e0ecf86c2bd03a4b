/-
  What told and End answer of a log. Walks over works() of layer 12, and over LogscanNone.
-/
import Derived.Test.YtfdbfafpcbdbdaaGreatMJ
import Derived.Test.YtfdbfafpcbdbdaaGreatMK
import Derived.Test.YtfdbfafpcbdbdaaGreatMG
import Derived.Test.YtfdbfafpcbdbdaaGreatMA
namespace Go.Proofs.YtfdbfafpcbdbdaaGreat
open Go.RowKit

/-- The callback's part of run. -/
def toldI (N lb mb most : Nat) : World → List M.Rec → Prop := fun z l => ∃ L : List M.RecV, L.map M.RecV.told = l ∧ Told N z lb mb most L
theorem toldI_step (N lb mb most : Nat) {P : Nat → Prop} {sb : Nat} (hlow : ∀ k, P k → k < N ∧ k ≠ lb ∧ k ≠ mb) (hs : sb < N ∧ sb ≠ lb ∧ sb ≠ mb) (hmo : most ≤ 1000000) (y0 y : World) (l : List M.Rec) (q : Int) (p : Nat) (s : ByteArray) (VA : Option Addr) (VL VC : Nat) (h : toldI N lb mb most y0 l) (hN : N ≤ y0.heap.size)
    (hk : Kept (fun k => P k ∨ k = sb) y0 y) (hg : M.getE s = 0) (hV : SecV y (.slice VA VL VC) (M.gN s) (M.gA s) (M.gT s)) (hn : NewV y0 (.slice VA VL VC)) (hl : l.length ≤ 1000) :
    Calls Tryz.prog 37 #[.agg #[.int .i64 q, .int .i64 (p : Nat), .slice VA VL VC], .pointer (some ⟨lb, 0, none⟩), .pointer (some ⟨mb, 0, none⟩)] y fun e y' => e = .returned (.bool (decide (l.length + 1 < most))) ∧ toldI N lb mb most y' (l ++ [⟨q, p, s⟩]) ∧ Kept (fun k => k = lb ∨ N ≤ k) y y' := by
  obtain ⟨L, rfl, hT⟩ := h
  obtain ⟨A, c, e, h1, h2, h3⟩ := hV
  injection e with e1 e2 e3
  subst e1
  subst e2
  subst e3
  rw [List.length_map] at hl ⊢
  refine (told1_any q p s VA VC N lb mb most L y0 y (fun k => P k ∨ k = sb) hT (fun k e => e.elim (hlow k) (fun e => e ▸ hs)) hk hN hg ⟨h1, h2, h3⟩ hn (by omega) hmo).mono ?_
  rintro e y' ⟨he, hT', hk'⟩
  exact ⟨he, ⟨_, by rw [List.map_append]; rfl, hT'⟩, hk'⟩

set_option maxHeartbeats 1000000 in
theorem told_yes (p0 : Nat) (q0 : Int) (most : Nat) (w : World) {rb a fr mn : Nat} {P : Nat → Prop} {d : M.D} (h : Disk w a P d) (hr : Reg w rb a fr mn) (hP : ¬ P rb) (hlow : ∀ k, P k → k < w.heap.size) (hf : fr ≤ 1000) (hmn : mn ≤ 1000) (hp : p0 < mn) (ho : d.ops ≤ 1000000) (hmo : most ≤ 1000000) :
    Calls Tryz.prog 13 #[.pointer (some ⟨rb, 0, none⟩), .int .i64 (p0 : Nat), .int .i64 q0, .int .i64 (most : Nat)] w fun e w' => ∃ (E : Int) (d' : M.D) (u : Nat) (L : List M.RecV) (v : Value),
      M.scan M.dR fr mn p0 q0 most (mn + 1) d 0 [] = (E, d', u, L.map M.RecV.told) ∧ e = .returned (.tuple #[v, .int .i64 E]) ∧ RecsAt (w.heap.size + 3) w' v L ∧ Disk w' a P d' ∧ Kept P w w' ∧ u ≤ mn := by
  obtain ⟨fv, hfv⟩ : ∃ fv, fv = Value.func (.func 37) #[] #[.pointer (some ⟨w.heap.size + 1, 0, none⟩), .pointer (some ⟨w.heap.size, 0, none⟩)] := ⟨_, rfl⟩
  obtain ⟨w2, hw2⟩ : ∃ w2, w2 = (w.alloc (.cells #[.int .i64 (most : Nat)] 3)).alloc (.cells #[.slice none 0 0] 45) := ⟨_, rfl⟩
  have hz2 : w2.heap.size = w.heap.size + 2 := by rw [hw2, World.size_alloc, World.size_alloc]
  obtain ⟨w3, hw3⟩ : ∃ w3, w3 = w2.alloc (.cells #[.pointer (some ⟨rb, 0, none⟩), .int .i64 (p0 : Nat), .int .i64 q0, .int .i64 0, fv] 100) := ⟨_, rfl⟩
  have hz3 : w3.heap.size = w.heap.size + 3 := by rw [hw3, World.size_alloc, hz2]
  have k1 : Kept (fun _ => False) w w2 := by rw [hw2]; exact ((Kept.refl _ w).alloc _).alloc _
  have k3 : Kept (fun _ => False) w2 w3 := by rw [hw3]; exact (Kept.refl _ w2).alloc _
  have hbl : Box w2 (w.heap.size + 1) 45 #[.slice none 0 0] := by
    have := Box.new (w.alloc (.cells #[.int .i64 (most : Nat)] 3)) 45 #[.slice none 0 0]
    rw [World.size_alloc] at this
    rw [hw2]; exact this
  have hbm : Box w2 w.heap.size 3 #[.int .i64 (most : Nat)] := by
    rw [hw2]
    exact ((Kept.refl (fun _ => False) _).alloc _).box (Box.new w 3 #[.int .i64 (most : Nat)]) id
  have hbs : Box w3 (w.heap.size + 2) 100 #[.pointer (some ⟨rb, 0, none⟩), .int .i64 (p0 : Nat), .int .i64 q0, .int .i64 0, fv] := by
    rw [hw3, ← hz2]; exact Box.new _ _ _
  have hrl := hr.lt
  have o : RunOf w3 (w.heap.size + 2) rb a mn P (fun k => k = w.heap.size + 1 ∨ w.heap.size + 3 ≤ k) (toldI (w.heap.size + 3) (w.heap.size + 1) w.heap.size most) :=
    ⟨hP, fun e => by have := hlow _ e; omega, by omega, by omega, fun k e => by have := hlow k e; omega, fun k e => ⟨fun e' => by have := hlow k e'; omega, by omega, by omega⟩, fun y z l ⟨L, e, hT⟩ hk _ => ⟨L, e, hT.kept hk (fun k e => by
      rcases e with e | e
      · have := hlow k e; omega
      · omega)⟩⟩
  have hA : RunAt w3 w3 (w.heap.size + 2) rb a fr mn p0 q0 fv P (fun k => k = w.heap.size + 1 ∨ w.heap.size + 3 ≤ k) (toldI (w.heap.size + 3) (w.heap.size + 1) w.heap.size most) d 0 [] := by
    refine ⟨(h.kept k1 (fun _ _ => id)).kept k3 (fun _ _ => id), (hr.kept k1 id).kept k3 id, ?_, ⟨[], rfl, ⟨⟨_, k3.box hbl id, RecsAt.nil _ _⟩, k3.box hbm id, by omega, by omega, by omega⟩⟩, Kept.refl _ _⟩
    have e1 : (p0 + 0) % mn = p0 := Nat.mod_eq_of_lt hp
    have e2 : q0 + ((([] : List M.Rec).length : Nat) : Int) = q0 := by simp
    rw [e1, e2]
    exact hbs
  rw [hfv] at hA
  have C := runT_any (w.heap.size + 1) w.heap.size p0 q0 most w3 o hA (fun y0 y l q p s VA VL VC a1 a2 a3 a4 a5 a6 a7 => toldI_step (w.heap.size + 3) (w.heap.size + 1) w.heap.size most (P := P) (sb := w.heap.size + 2) (fun k e => by have := hlow k e; omega) (by omega) hmo y0 y l q p s VA VL VC a1 (by omega) a3 a4 a5 a6 a7) hf hmn hp ho
  have CE : Hid (Calls Tryz.prog 36 #[.pointer (some ⟨rb, 0, none⟩), .int .i64 (p0 : Nat), .int .i64 q0, .func (.func 37) #[] #[.pointer (some ⟨w.heap.size + 1, 0, none⟩), .pointer (some ⟨w.heap.size, 0, none⟩)]] w2 fun e w' => ∃ (E : Int) (d' : M.D) (u : Nat) (L : List M.RecV) (v : Value),
      M.scan M.dR fr mn p0 q0 most (mn + 1) d 0 [] = (E, d', u, L.map M.RecV.told) ∧ e = .returned (.int .i64 E) ∧ w'.cell? ⟨w.heap.size + 1, 0, none⟩ = some v ∧ RecsAt (w.heap.size + 3) w' v L ∧ Disk w' a P d' ∧ Kept P w w' ∧ u ≤ mn) := by
    have C0 := Lib.hid C
    have HW3 : Hid (w3 = w2.alloc (.cells #[.pointer (some ⟨rb, 0, none⟩), .int .i64 (p0 : Nat), .int .i64 q0, .int .i64 0, .func (.func 37) #[] #[.pointer (some ⟨w.heap.size + 1, 0, none⟩), .pointer (some ⟨w.heap.size, 0, none⟩)]] 100)) := by show _ = _; rw [hw3, hfv]
    have HZ2 := Lib.hid hz2
    have HKK : Hid (Kept (fun _ => False) w w3) := k1.trans k3
    have HLO : Hid (∀ k, P k → k < w.heap.size) := hlow
    clear C hA o hbs hbm hbl k3 k1 hz3 hw3 hw2 hfv h hr hP hlow hf hmn hp ho hmo hrl hz2
    go_enter Tryz.func36, Tryz.ntmps36
    go_wp2_with fail
    rw [HZ2.out, ← HW3.out]
    refine C0.out.mono ?_
    rintro e w4 ⟨d', u, l, ⟨E, hS, rfl⟩, hR, hu⟩
    have HS := Lib.hid hS
    have HR := Lib.hid hR
    have HU := Lib.hid hu
    clear hS hR hu C0
    go_wp2_with fail
    go_ret
    obtain ⟨L, hL, hT⟩ := HR.out.inv
    obtain ⟨v, hv, hv2⟩ := hT.box
    refine ⟨E, d', u, L, v, by rw [HS.out, hL], rfl, hv, hv2, HR.out.disk, ?_, HU.out⟩
    have hk := (HKK.out.mono (Q := fun k => P k ∨ k = w.heap.size + 2 ∨ (k = w.heap.size + 1 ∨ w.heap.size + 3 ≤ k)) (fun _ _ e => e.elim)).trans HR.out.kept
    exact hk.mono (fun k hk e => e.elim id (fun e => by omega))
  have HW2 := Lib.hid hw2
  clear C hA o hbs hbm hbl k3 k1 hz3 hw3 hw2 hfv h hr hP hlow hf hmn hp ho hmo hrl hz2
  go_enter Tryz.func13, Tryz.ntmps13
  go_wp2_with fail
  rw [← HW2.out]
  refine CE.out.mono ?_
  rintro e w4 ⟨E, d', u, L, v, hS, rfl, hc, hx⟩
  have HS := Lib.hid hS
  have HX := Lib.hid hx
  clear hS hx CE
  go_wp2_with fail
  go_ret2
  exact ⟨E, d', u, L, v, HS.out, rfl, HX.out⟩

set_option maxHeartbeats 1000000 in
theorem end_yes (p0 : Nat) (q0 : Int) (w : World) {rb a fr mn : Nat} {P : Nat → Prop} {d : M.D} (h : Disk w a P d) (hr : Reg w rb a fr mn) (hP : ¬ P rb) (hlow : ∀ k, P k → k < w.heap.size) (hf : fr ≤ 1000) (hmn : mn ≤ 1000) (hp : p0 < mn) (ho : d.ops ≤ 1000000) (most : Nat) (hmo : mn < most) :
    Calls Tryz.prog 16 #[.pointer (some ⟨rb, 0, none⟩), .int .i64 (p0 : Nat), .int .i64 q0] w fun e w' => ∃ (E : Int) (d' : M.D) (u : Nat) (l : List M.Rec),
      M.scan M.dR fr mn p0 q0 most (mn + 1) d 0 [] = (E, d', u, l) ∧ e = .returned (if E = 0 then .tuple #[.int .i64 (((p0 + u) % mn : Nat) : Int), .int .i64 (q0 + (l.length : Nat)), .int .i64 (u : Nat), .int .i64 0] else .tuple #[.int .i64 0, .int .i64 0, .int .i64 0, .int .i64 E]) ∧ Disk w' a P d' ∧ Kept P w w' ∧ u ≤ mn := by
  have hsm := M.scan_most (X := M.dR) (fr := fr) (p0 := p0) (q0 := q0) hmo (show mn < 2000 by omega) (mn + 1) d 0 [] (Nat.le_refl _) (Nat.zero_le _)
  rw [hsm]
  obtain ⟨fv, hfv⟩ : ∃ fv, fv = Value.func (.func 42) #[] #[] := ⟨_, rfl⟩
  obtain ⟨w3, hw3⟩ : ∃ w3, w3 = w.alloc (.cells #[.pointer (some ⟨rb, 0, none⟩), .int .i64 (p0 : Nat), .int .i64 q0, .int .i64 0, fv] 100) := ⟨_, rfl⟩
  have hz3 : w3.heap.size = w.heap.size + 1 := by rw [hw3, World.size_alloc]
  have k3 : Kept (fun _ => False) w w3 := by rw [hw3]; exact (Kept.refl _ w).alloc _
  have hbs : Box w3 w.heap.size 100 #[.pointer (some ⟨rb, 0, none⟩), .int .i64 (p0 : Nat), .int .i64 q0, .int .i64 0, fv] := by
    rw [hw3]; exact Box.new _ _ _
  have hrl := hr.lt
  have o : RunOf w3 w.heap.size rb a mn P (fun _ => False) (fun _ _ => True) :=
    ⟨hP, fun e => by have := hlow _ e; omega, by omega, by omega, fun k e => by have := hlow k e; omega, fun _ e => e.elim, fun _ _ _ _ _ _ => trivial⟩
  have hA : RunAt w3 w3 w.heap.size rb a fr mn p0 q0 fv P (fun _ => False) (fun _ _ => True) d 0 [] := by
    refine ⟨h.kept k3 (fun _ _ => id), hr.kept k3 id, ?_, trivial, Kept.refl _ _⟩
    have e1 : (p0 + 0) % mn = p0 := Nat.mod_eq_of_lt hp
    have e2 : q0 + ((([] : List M.Rec).length : Nat) : Int) = q0 := by simp
    rw [e1, e2]
    exact hbs
  rw [hfv] at hA
  have C := runE_any p0 q0 2000 w3 o hA (fun y0 y l q p s VA VL VC a1 a2 a3 a4 a5 a6 a7 => (end1_any _ _ _ y).mono fun e y' ⟨e1, e2⟩ => ⟨by rw [e1, decide_eq_true (by omega)], trivial, by rw [e2]; exact (Kept.refl _ y).alloc _⟩) hf hmn hp ho
  have C0 := Lib.hid C
  have HW3 : Hid (w3 = w.alloc (.cells #[.pointer (some ⟨rb, 0, none⟩), .int .i64 (p0 : Nat), .int .i64 q0, .int .i64 0, .func (.func 42) #[] #[]] 100)) := by show _ = _; rw [hw3, hfv]
  have HKK := Lib.hid k3
  obtain ⟨S, hSS⟩ : ∃ S, S = M.scan M.dR fr mn p0 q0 2000 (mn + 1) d 0 [] := ⟨_, rfl⟩
  rw [← hSS] at C0 ⊢
  clear C hA o hbs k3 hz3 hw3 hfv h hr hP hlow hf hmn hp ho hmo hrl hsm hSS
  go_enter Tryz.func16, Tryz.ntmps16
  go_wp2_with fail
  rw [← HW3.out]
  refine C0.out.mono ?_
  rintro e w4 ⟨d', u, l, ⟨E, hS, rfl⟩, hR, hu⟩
  have HS := Lib.hid hS
  have HR := Lib.hid hR
  have HU := Lib.hid hu
  have HK : Hid (Kept P w w4) := ((HKK.out.mono (Q := fun k => P k ∨ k = w.heap.size ∨ False) (fun _ _ e => e.elim)).trans HR.out.kept).mono (fun k hk e => e.elim id (fun e => by rcases e with e | e; omega; exact e.elim))
  obtain ⟨c0, c1, c2, c3, c4⟩ := HR.out.sc.cells
  clear hS hR hu C0
  obtain ⟨at_, hat⟩ : ∃ at_, at_ = (p0 + u) % mn := ⟨_, rfl⟩
  obtain ⟨q, hq⟩ : ∃ q : Int, q = q0 + (l.length : Nat) := ⟨_, rfl⟩
  rw [← hat] at c1
  rw [← hq] at c2
  have HQ : Hid (at_ = (p0 + u) % mn ∧ q = q0 + (l.length : Nat)) := ⟨hat, hq⟩
  clear hat hq
  rcases zero_or E with rfl | hE
  · go_wp2_with fail
    go_quiet (fail)
    go_wp2_with fail
    go_returns
    exact ⟨0, d', u, l, HS.out, by rw [if_pos rfl, ← HQ.out.1, ← HQ.out.2], HR.out.disk.drewN _, HK.out.drewN _, HU.out⟩
  · have hE0 : E ≠ 0 := by simpa using hE
    go_wp2_with fail
    go_returns
    exact ⟨E, d', u, l, HS.out, by rw [if_neg hE0], HR.out.disk, HK.out, HU.out⟩
end Go.Proofs.YtfdbfafpcbdbdaaGreat
namespace Go.Proofs.YtfdbfafpcbdbdaaGreat
open Go.RowKit Go.Deep Go.ChangeAt

section
variable {w y : World} {N rb a fr mn : Nat} {d : M.D}
theorem Gk.lput (h : Gk w y N rb a fr mn d) (p : Int) (s : ByteArray) (hs : s.size ≤ 1000000) (hf : fr ≤ 1000) (hmn : mn ≤ 1000) (hp : p ≤ 9223372036854775807) (ho : d.ops ≤ 100000000) :
    Calls Tryz.prog 8 #[.pointer (some ⟨rb, 0, none⟩), .int .i64 p, .string s] y fun e y' => e = .returned (.int .i64 (M.lput d fr mn p s).1) ∧ Gk w y' N rb a fr mn (M.lput d fr mn p s).2 :=
  (lput_any p s y h.disk h.reg (fun e => e.2 rfl) hs hf hmn hp ho).mono fun _ _ ⟨h1, h2, h3⟩ => ⟨h1, h.step h2 h3⟩
theorem Gk.end_ (h : Gk w y N rb a fr mn d) (p0 : Nat) (q0 : Int) (hf : fr ≤ 1000) (hmn : mn ≤ 1000) (hp : p0 < mn) (ho : d.ops ≤ 1000000) (most : Nat) (hmo : mn < most) :
    Calls Tryz.prog 16 #[.pointer (some ⟨rb, 0, none⟩), .int .i64 (p0 : Nat), .int .i64 q0] y fun e w' => ∃ (E : Int) (d' : M.D) (u : Nat) (l : List M.Rec),
      M.scan M.dR fr mn p0 q0 most (mn + 1) d 0 [] = (E, d', u, l) ∧ e = .returned (if E = 0 then .tuple #[.int .i64 (((p0 + u) % mn : Nat) : Int), .int .i64 (q0 + (l.length : Nat)), .int .i64 (u : Nat), .int .i64 0] else .tuple #[.int .i64 0, .int .i64 0, .int .i64 0, .int .i64 E]) ∧ Gk w w' N rb a fr mn d' ∧ u ≤ mn :=
  (end_yes p0 q0 y (P := fun k => (N ≤ k ∧ k ≠ rb) ∧ k < y.heap.size) (h.disk.mono (fun _ hk e => ⟨e, hk⟩)) h.reg (fun e => e.1.2 rfl) (fun _ e => e.2) hf hmn hp ho most hmo).mono fun _ _ ⟨E, d', u, l, h1, h2, h3, h4, h5⟩ =>
    ⟨E, d', u, l, h1, h2, h.step (h3.mono (fun _ _ e => Or.inl e.1)) (h4.mono (fun _ _ e => e.1)), h5⟩
end

def M.ka (x : Int) : Nat → Int := fun _ => x
def M.kt : Nat → ByteArray := fun _ => M.zeros 64
theorem M.k_rE (x q : Int) (hx : x = 1 ∨ x = 2) (hq : q = 7 ∨ q = 8) : M.rE (M.ka x) M.kt q 1 = 0 := by
  have hz : ∀ i, (M.kt i).size = 64 := fun _ => M.zeros_size 64
  have s0 : M.secE (M.ka x) M.kt 0 = 0 := by unfold M.secE M.ka; rw [if_neg (by omega), if_neg (by simp [hz]), if_neg (by simp [M.twice])]
  have f1 : M.firstE (M.ka x) M.kt 1 = 0 := by rw [M.firstE_next _ _ _ rfl, s0]
  unfold M.rE M.chk
  rw [if_neg (by omega), if_neg (by decide), if_neg (by decide), f1]
theorem M.still_new : M.Still (M.new 5) 0 5 := ⟨M.calm_new 5, by simp [M.new], by omega⟩
def M.kr (x q : Int) : ByteArray := M.rec (M.ka x) M.kt q.toNat 1
theorem M.kr_size (x q : Int) (hx : x = 1 ∨ x = 2) (hq : q = 7 ∨ q = 8) : (M.kr x q).size = 128 := by
  have := M.rS_size (M.ka x) M.kt (M.k_rE x q hx hq)
  rwa [M.rS_yes _ _ (M.k_rE x q hx hq)] at this
set_option maxRecDepth 100000 in
/-- What works does to its disk, and what End answers of it. -/
theorem M.works12 : (M.lput (M.new 5) 0 5 4 (M.kr 1 7)).1 = 0 ∧ (M.lput (M.lput (M.new 5) 0 5 4 (M.kr 1 7)).2 0 5 1 (M.kr 2 8)).1 = 0 ∧ (M.lput (M.new 5) 0 5 4 (M.kr 1 7)).2.ops = 2 ∧ (M.lput (M.lput (M.new 5) 0 5 4 (M.kr 1 7)).2 0 5 1 (M.kr 2 8)).2.ops = 4
    ∧ ∃ d' l, M.scan M.dR 0 5 4 7 2000 (5 + 1) (M.lput (M.lput (M.new 5) 0 5 4 (M.kr 1 7)).2 0 5 1 (M.kr 2 8)).2 0 [] = (0, d', 4, l) ∧ l.length = 2 := by
  have z1 := M.kr_size 1 7 (Or.inl rfl) (Or.inl rfl)
  have z2 := M.kr_size 2 8 (Or.inr rfl) (Or.inr rfl)
  have e1 : M.lput (M.new 5) 0 5 4 (M.kr 1 7) = M.wr (M.lay12 0 5 4 2 (M.kr 1 7)) (M.new 5) := by
    unfold M.lput
    rw [z1, if_neg (by omega), if_neg (by omega)]
    rfl
  have e2 : ∀ d, M.lput d 0 5 1 (M.kr 2 8) = M.wr (M.lay12 0 5 1 2 (M.kr 2 8)) d := fun d => by
    unfold M.lput
    rw [z2, if_neg (by omega), if_neg (by omega)]
    rfl
  rw [e1, e2]
  have c0 : M.Chain (fun _ => M.ka 0) (fun _ => M.kt) (fun _ => 1) (M.new 5) 0 5 4 7 0 := ⟨fun i hi => absurd hi (by omega), fun i hi => absurd hi (by omega), Nat.zero_le _⟩
  obtain ⟨c1, u1⟩ := c0.put M.still_new (a := M.ka 1) (t := M.kt) (n := 1) (M.k_rE 1 7 (Or.inl rfl) (Or.inl rfl)) (by show 2 ≤ 5 - 0; omega)
  obtain ⟨p1, p2, p3, p4, p5, p6⟩ := M.put_still (p := 4) (n := 2) (s := M.kr 1 7) M.still_new z1 (by omega)
  have u1' : M.us (fun i => if i = 0 then 1 else 1) (0 + 1) = 2 := u1
  obtain ⟨c2, u2⟩ := c1.put p2 (a := M.ka 2) (t := M.kt) (n := 1) (M.k_rE 2 8 (Or.inr rfl) (Or.inr rfl)) (by rw [u1']; omega)
  obtain ⟨q1, q2, q3, q4, q5, q6⟩ := M.put_still (p := 1) (n := 2) (s := M.kr 2 8) p2 z2 (by omega)
  rw [u1'] at c2 u2
  have c2' : M.Chain (fun i => if i = 1 then M.ka 2 else if i = 0 then M.ka 1 else M.ka 0) (fun i => if i = 1 then M.kt else if i = 0 then M.kt else M.kt) (fun i => if i = 1 then 1 else if i = 0 then 1 else 1) (M.wr (M.lay12 0 5 1 2 (M.kr 2 8)) (M.wr (M.lay12 0 5 4 2 (M.kr 1 7)) (M.new 5)).2).2 0 5 4 7 2 := c2
  clear c2 c1 c0
  have p6' : M.seen (M.wr (M.lay12 0 5 4 2 (M.kr 1 7)) (M.new 5)).2.S (M.wr (M.lay12 0 5 4 2 (M.kr 1 7)) (M.new 5)).2.L (0 + 3) = M.zero := (p6 4 (by omega) (by omega)).trans rfl
  have po : (M.wr (M.lay12 0 5 4 2 (M.kr 1 7)) (M.new 5)).2.ops = 2 := p4
  obtain ⟨D1, hD1⟩ : ∃ D, D = (M.wr (M.lay12 0 5 4 2 (M.kr 1 7)) (M.new 5)).2 := ⟨_, rfl⟩
  rw [← hD1] at c2' p6' po p2 q1 q2 q3 q4 q5 q6 ⊢
  clear hD1 p3 p5 p6
  have q6' := q6 2 (by omega) (by omega)
  obtain ⟨D2, hD2⟩ : ∃ D, D = (M.wr (M.lay12 0 5 1 2 (M.kr 2 8)) D1).2 := ⟨_, rfl⟩
  rw [← hD2] at c2' q2 q4 q6' ⊢
  clear hD2 q3 q5 q6 p4
  obtain ⟨FA, FT, FN, hu2, hc⟩ : ∃ FA FT FN, M.us FN 2 = 4 ∧ M.Chain FA FT FN D2 0 5 4 7 2 := ⟨_, _, _, u2, c2'⟩
  clear c2' u2 u1 u1'
  obtain ⟨k, d', hs, hk, hst, hS, hL⟩ := M.chain_scan hc q2 2000 (by omega) 2 (Nat.le_refl _)
  rw [hu2] at hs hk
  refine ⟨p1, q1, po, by rw [q4, po], ?_⟩
  have hz : M.seen d'.S d'.L (0 + 3) = M.zero := by
    rw [hS, hL]
    exact q6'.trans p6'
  have hX : M.next M.dR 0 5 d' ((4 + 4) % 5) (7 + ((2 : Nat) : Int)) (5 - 4) = (0, 0, ⟨#[]⟩, (M.rdr M.dR 0 5 1 d' 3 ⟨#[]⟩).2.2) := by
    have hr := M.rdr_still 1 d' 3 ⟨#[]⟩ hst
    have hk' : 0 + 3 % 5 < d'.S.length := by have := hst.room; omega
    have he : M.dR.E d' ((0 + 3 % 5 : Nat) : Int) = 0 := (hst.calm.readE hk').1
    have hv : M.dR.S d' ((0 + 3 % 5 : Nat) : Int) = M.zero := ((hst.calm.readE hk').2).trans hz
    have hf : (M.rdr M.dR 0 5 1 d' 3 ⟨#[]⟩).1 = M.zero := by rw [M.rdr, if_pos he, M.rdr, hv, M.nil_app]
    have hzE : M.szE M.zero (7 + ((2 : Nat) : Int)) ≠ 0 := by
      have h1 : M.zero.extract 0 1 ≠ ⟨#[82]⟩ := by decide
      unfold M.szE
      rw [if_neg (by simp [M.zero_size]), if_neg (fun x => h1 x.1.1)]
      decide
    rw [M.next, if_neg (by omega), show (4 + 4) % 5 = 3 from rfl, M.next2, if_neg (fun e => e hr.1), if_pos (Or.inl (by rw [hf]; exact hzE))]
  obtain ⟨k, rfl⟩ : ∃ k', k = k' + 1 := ⟨k - 1, by omega⟩
  have hlen := M.recs_len FA FT FN 5 4 7 2
  obtain ⟨l2, hl2⟩ : ∃ l, l = M.recs FA FT FN 5 4 7 2 := ⟨_, rfl⟩
  rw [← hl2] at hs hlen
  refine ⟨(M.rdr M.dR 0 5 1 d' 3 ⟨#[]⟩).2.2, l2, ?_, hlen⟩
  refine hs.trans ?_
  rw [M.scan, hlen]
  show M.scanE 2000 (M.next M.dR 0 5 d' ((4 + 4) % 5) (7 + ((2 : Nat) : Int)) (5 - 4)) _ _ _ _ _ = _
  rw [hX, M.scanE, if_pos (Or.inr rfl)]

set_option maxRecDepth 100000 in
set_option maxHeartbeats 2000000 in
theorem works12_any (w : World) : Calls Tryz.prog 4 #[] w fun e w' => e = .returned (.bool true) ∧ Below w.heap.size w w' := by
  have HN : Hid (∀ y, Below w.heap.size w y → _) := fun y hb => knew 5 w y hb
  rw [show M.held 5 = 5 by decide] at HN
  have HNW : Hid (∀ (y : World) (a : Nat), Dk w y w.heap.size a (fun k => w.heap.size ≤ k) (M.new 5) → Calls Tryz.prog 17 #[.pointer (some ⟨a, 0, none⟩), .int .i64 0, .int .i64 5] y fun e w' => ∃ rb, e = .returned (.tuple #[.pointer (some ⟨rb, 0, none⟩), .int .i64 0]) ∧ Gk w w' w.heap.size rb a 0 5 (M.new 5)) := fun y a h =>
    (new9_yes 0 5 y h.disk (by omega) (by decide)).mono fun _ _ ⟨h1, h2⟩ => ⟨_, h1, h2 ▸ h.part _ (Box.new _ _ _)⟩
  have CP1 : Hid (∀ y g c, 1 ≤ c → c ≤ maxLen → SecF y (some ⟨g, 0, none⟩) 1 (M.ka 1) M.kt → _) := fun y g c h1 h2 h => put11_any (some ⟨g, 0, none⟩) 1 c (M.ka 1) M.kt 7 y h h1 h2
  have CP2 : Hid (∀ y g c, 1 ≤ c → c ≤ maxLen → SecF y (some ⟨g, 0, none⟩) 1 (M.ka 2) M.kt → _) := fun y g c h1 h2 h => put11_any (some ⟨g, 0, none⟩) 1 c (M.ka 2) M.kt 8 y h h1 h2
  have hE1 := M.k_rE 1 7 (Or.inl rfl) (Or.inl rfl)
  have hE2 := M.k_rE 2 8 (Or.inr rfl) (Or.inr rfl)
  rw [M.rS_yes _ _ hE1, hE1] at CP1
  rw [M.rS_yes _ _ hE2, hE2] at CP2
  have z1 := M.kr_size 1 7 (Or.inl rfl) (Or.inl rfl)
  have z2 := M.kr_size 2 8 (Or.inr rfl) (Or.inr rfl)
  obtain ⟨m1, m2, m3, m4, d9, l9, m5, m6⟩ := M.works12
  obtain ⟨d0, hd0⟩ : ∃ d, d = M.new 5 := ⟨_, rfl⟩
  have ho0 : d0.ops = 0 := by rw [hd0]; rfl
  rw [← hd0] at HN HNW m1 m2 m3 m4 m5
  obtain ⟨x1, hx1⟩ : ∃ x, x = M.kr 1 7 := ⟨_, rfl⟩
  obtain ⟨x2, hx2⟩ : ∃ x, x = M.kr 2 8 := ⟨_, rfl⟩
  rw [show M.rec (M.ka 1) M.kt (7 : Int).toNat 1 = x1 from hx1.symm] at CP1
  rw [show M.rec (M.ka 2) M.kt (8 : Int).toNat 1 = x2 from hx2.symm] at CP2
  rw [← hx1] at m1 m2 m3 m4 m5 z1
  rw [← hx2] at m2 m4 m5 z2
  obtain ⟨d1, hd1⟩ : ∃ d, d = (M.lput d0 0 5 4 x1).2 := ⟨_, rfl⟩
  rw [← hd1] at m2 m3 m4 m5
  obtain ⟨d2, hd2⟩ : ∃ d, d = (M.lput d1 0 5 1 x2).2 := ⟨_, rfl⟩
  rw [← hd2] at m4 m5
  have HL1 : Hid (∀ (y : World) (rb a : Nat), Gk w y w.heap.size rb a 0 5 d0 → Calls Tryz.prog 8 #[.pointer (some ⟨rb, 0, none⟩), .int .i64 4, .string x1] y fun e y' => e = .returned (.int .i64 0) ∧ Gk w y' w.heap.size rb a 0 5 d1) := fun y rb a h => by
    have := h.lput 4 x1 (by omega) (by omega) (by omega) (by omega) (by omega)
    rw [m1, ← hd1] at this
    exact this
  have HL2 : Hid (∀ (y : World) (rb a : Nat), Gk w y w.heap.size rb a 0 5 d1 → Calls Tryz.prog 8 #[.pointer (some ⟨rb, 0, none⟩), .int .i64 1, .string x2] y fun e y' => e = .returned (.int .i64 0) ∧ Gk w y' w.heap.size rb a 0 5 d2) := fun y rb a h => by
    have := h.lput 1 x2 (by omega) (by omega) (by omega) (by omega) (by omega)
    rw [m2, ← hd2] at this
    exact this
  have HEN : Hid (∀ (y : World) (rb a : Nat), Gk w y w.heap.size rb a 0 5 d2 → Calls Tryz.prog 16 #[.pointer (some ⟨rb, 0, none⟩), .int .i64 4, .int .i64 7] y fun e y' => e = .returned (.tuple #[.int .i64 3, .int .i64 9, .int .i64 4, .int .i64 0]) ∧ Below w.heap.size w y') := fun y rb a h => by
    refine (h.end_ 4 7 (by omega) (by omega) (by omega) (by omega) 2000 (by omega)).mono ?_
    rintro e y' ⟨E, d', u, l, e1, rfl, e3, _⟩
    rw [m5] at e1
    injection e1 with e1 e2
    injection e2 with e2 e4
    injection e4 with e4 e5
    subst e1
    subst e4
    subst e5
    rw [m6]
    exact ⟨rfl, e3.below⟩
  have hm : ∀ W : World, (Instr.makeSlice 55 (.int .i64 64) (.int .i64 64)).run Tryz.prog W = .ok (.slice (some ⟨W.heap.size, 0, none⟩) 64 64) (W.alloc (.cells (M.nils 64) 5)) := fun W => make_nils 64 (by decide) W
  have hcv : ∀ W : World, Sem.run Tryz.prog (convert 55 9 (.slice (some ⟨W.heap.size, 0, none⟩) 64 64)) (W.alloc (.cells (M.nils 64) 5)) = .ok (.string (M.zeros 64)) (W.alloc (.cells (M.nils 64) 5)) := fun W => conv_nils 64 _ _ (Box.new _ _ _)
  have HSF : Hid (∀ (x : Int) (W : World), x ≤ 2 → SecF (W.alloc (.cells #[.int .i64 x, .string (M.zeros 64)] 60)) (some ⟨W.heap.size, 0, none⟩) 1 (M.ka x) M.kt) := fun x W hx i hi => by
    have hB := Box.new W 60 #[.int .i64 x, .string (M.zeros 64)]
    have hlt := hB.lt
    obtain rfl : i = 0 := by omega
    exact ⟨_, rfl, hlt, hB.cell 0, hB.cell 1, by show x ≤ _; omega⟩
  have HB0 : Hid (Below w.heap.size w (w.alloc (.cells (M.nils 64) 5))) := (Below.refl w.heap.size w).alloc (Nat.le_refl _) _
  obtain ⟨NN, hNN⟩ : ∃ N, N = M.nils 64 := ⟨_, rfl⟩
  obtain ⟨Z, hZ⟩ : ∃ Z, Z = M.zeros 64 := ⟨_, rfl⟩
  rw [← hNN] at hm hcv HB0
  rw [← hZ] at hcv HSF
  clear hNN hZ hE1 hE2 z1 z2 m1 m2 m3 m4 m5 m6 hd0 hd1 hd2 hx1 hx2 ho0
  go_enter Tryz.func4, Tryz.ntmps4
  go_wp2_with fail
  refine (HN.out _ HB0.out).mono ?_
  rintro e w1 ⟨a, rfl, h1⟩
  have H1 := Lib.hid h1
  clear h1 HN HB0 hm hcv
  go_wp2_with fail
  refine (HNW.out _ _ H1.out).mono ?_
  rintro e w2 ⟨rb, rfl, h2⟩
  have H2 := Lib.hid h2
  clear h2 HNW H1
  go_wp2_with fail
  refine (CP1.out _ _ 1 (Nat.le_refl _) (by decide) (HSF.out 1 w2 (by omega))).mono ?_
  rintro e w3 ⟨rfl, hb3⟩
  have H3 := Lib.hid ((H2.out.keep ((Below.refl w2.heap.size w2).alloc (Nat.le_refl _) _)).keep hb3)
  clear hb3 H2 CP1
  go_wp2_with fail
  refine (CP2.out _ _ 1 (Nat.le_refl _) (by decide) (HSF.out 2 w3 (by omega))).mono ?_
  rintro e w4 ⟨rfl, hb4⟩
  have H4 := Lib.hid ((H3.out.keep ((Below.refl w3.heap.size w3).alloc (Nat.le_refl _) _)).keep hb4)
  clear hb4 H3 CP2 HSF
  go_wp2_with fail
  refine (HL1.out _ _ _ H4.out).mono ?_
  rintro e w5 ⟨rfl, h5⟩
  have H5 := Lib.hid h5
  clear h5 H4 HL1
  go_wp2_with fail
  refine (HL2.out _ _ _ H5.out).mono ?_
  rintro e w6 ⟨rfl, h6⟩
  have H6 := Lib.hid h6
  clear h6 H5 HL2
  go_wp2_with fail
  refine (HEN.out _ _ _ H6.out).mono ?_
  rintro e w7 ⟨rfl, h7⟩
  have H7 := Lib.hid h7
  clear h7 H6 HEN
  go_wp2_with fail
  go_ret
  exact ⟨rfl, H7.out⟩
end Go.Proofs.YtfdbfafpcbdbdaaGreat
