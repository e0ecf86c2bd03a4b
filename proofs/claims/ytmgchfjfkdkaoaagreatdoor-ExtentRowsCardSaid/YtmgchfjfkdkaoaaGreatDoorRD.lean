/-
  wal.Read of what the log does not hold; a disk of which all that waits survives.
-/
import Derived.Test.YtmgchfjfkdkaoaaGreatDoorPJ
import Derived.Test.YtmgchfjfkdkaoaaGreatDoorME
import Derived.Test.YtmgchfjfkdkaoaaGreatDoorNG
namespace Go.Proofs.YtmgchfjfkdkaoaaGreatDoor
open Go.RowKit

section
variable {w : World} {b fr mn : Nat} {P : Nat → Prop} {s : M.Wl}
theorem read14_disk (h : Wal w b P fr mn s) (i : Int) (hw : (Lit.int .i64 i).wf = true) (hg : M.get13 i s.l s.k = none) (ho : s.d.ops ≤ 1000000000) :
    Calls Tryz.prog 42 #[.pointer (some ⟨b, 0, none⟩), .int .i64 i] w fun e w' => e = .returned (.tuple #[.string (M.readS s.d i), .int .i64 (M.readE s.d i)]) ∧ Wal w' b (fun j => P j ∨ w.heap.size ≤ j) fr mn { s with d := M.beginD s.d } ∧ Kept P w w' := by
  obtain ⟨a, ra, rr, sb, PD, PS, h, h1, h2, h3, h4, h5⟩ := h
  have c10 := h.c10
  have c0 := h.c0
  have C1 := Lib.hid (Q.get13_any w h.sh i hw)
  rw [hg] at C1
  have C2 := Lib.hid (read_any i w h.disk (by omega))
  have HF : Hid (∀ y, Disk y a PD (M.beginD s.d) → Kept PD w y → Wal y b (fun j => P j ∨ w.heap.size ≤ j) fr mn { s with d := M.beginD s.d } ∧ Kept P w y) := by
    intro y hd hk
    exact ⟨(h.disk' (hd.mono (fun _ _ e => Or.inl e)) hk).out h (fun j e => e.1) (fun _ e => Or.inl e) h1 h2 h3 h4 h5, hk.mono (fun j _ e => h4 j e)⟩
  obtain ⟨rs, hrs⟩ : ∃ x, x = M.readS s.d i := ⟨_, rfl⟩
  obtain ⟨re, hre⟩ : ∃ x, x = M.readE s.d i := ⟨_, rfl⟩
  rw [← hrs, ← hre] at C2 ⊢
  clear h hw hg ho h1 h2 h3 h4 h5 hrs hre
  go_enter Tryz.func42, Tryz.ntmps42
  go_wp2_with fail
  refine C1.out.mono ?_
  rintro e w1 ⟨rfl, rfl⟩
  go_wp2_with fail
  refine C2.out.mono ?_
  rintro e w2 ⟨rfl, hd, hk⟩
  have HR := Lib.hid (HF.out w2 hd hk)
  clear hd hk HF C1
  go_wp2_with fail
  go_returns
  exact ⟨rfl, HR.out⟩
end

theorem M.rounds_same {f g : Nat → Bool} (S : List ByteArray) (L : List (Nat × ByteArray)) : ∀ n : Nat, (∀ i, i < n → f i = g i) → M.rounds f S L n = M.rounds g S L n
  | 0, _ => rfl
  | n + 1, h => by
    unfold M.rounds
    rw [M.rounds_same S L n (fun i hi => h i (by omega)), h n (by omega)]

/-- Where all that waits survives, nothing that is seen is another. -/
theorem M.yes14 (d : M.D) (n : Nat) (hn : n = d.L.length) : M.Calm (M.restartD d (M.odd n (fun _ => 1))) ∧ (M.restartD d (M.odd n (fun _ => 1))).S.length = d.S.length ∧ (M.restartD d (M.odd n (fun _ => 1))).ops = d.ops ∧ (M.restartD d (M.odd n (fun _ => 1))).L = []
    ∧ ∀ k, k < d.S.length → M.seen (M.restartD d (M.odd n (fun _ => 1))).S (M.restartD d (M.odd n (fun _ => 1))).L k = M.seen d.S d.L k := by
  have e : M.rounds (M.odd n (fun _ => 1)) d.S d.L d.L.length = M.rounds (fun _ => true) d.S d.L d.L.length := M.rounds_same _ _ _ (fun i hi => by
    unfold M.odd
    rw [decide_eq_true (by omega)]
    rfl)
  refine ⟨M.calm_restart _ _, ?_, rfl, rfl, fun k hk => ?_⟩
  · show (M.rounds _ _ _ _).length = _
    exact M.rounds_len _ _ _ _
  · have e1 := M.rounds_all d.S d.L k hk d.L.length (Nat.le_refl _)
    rw [List.take_length] at e1
    show (M.seen0 [] k).getD ((M.rounds (M.odd n (fun _ => 1)) d.S d.L d.L.length).getD k ByteArray.empty) = _
    rw [e, M.seen0_nil, List.getD_eq_getElem?_getD, e1]
    rfl
end Go.Proofs.YtmgchfjfkdkaoaaGreatDoor
