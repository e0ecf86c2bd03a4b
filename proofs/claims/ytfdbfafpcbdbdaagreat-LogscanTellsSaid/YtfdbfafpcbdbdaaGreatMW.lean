/-
  A walk over same() of layer 12: the program's records and the document's.
-/
import Derived.Test.YtfdbfafpcbdbdaaGreatMT
import Derived.Test.YtfdbfafpcbdbdaaGreatMP
import Derived.Test.YtfdbfafpcbdbdaaGreatMC
namespace Go.Proofs.YtfdbfafpcbdbdaaGreat
open Go.RowKit Go.Deep

set_option maxRecDepth 100000 in
set_option maxHeartbeats 2000000 in
theorem same12_any {N1 N2 : Nat} {v1 v2 : Value} {L1 L2 : List M.RecV} (w : World) (h1 : RecsAt N1 w v1 L1) (h2 : RRecsAt N2 w v2 L2) {t : List M.Rec} (ht : L2.map M.RecV.told = L1.map M.RecV.told ++ t) (hl : L2.length ≤ 1000) :
    Calls Tryz.prog 15 #[v1, v2] w fun e w' => e = .returned (.bool true) ∧ Below w.heap.size w w' := by
  have hlen : L1.length ≤ L2.length := by
    have := congrArg List.length ht
    rw [List.length_append, List.length_map, List.length_map] at this
    omega
  have HLR : Hid (∀ i, i < L1.length → ∃ x y, L1[i]? = some x ∧ L2[i]? = some y ∧ y.q = x.q ∧ y.at_ = x.at_ ∧ y.s = x.s) := fun i hi => by
    have e1 : L1[i]? = some L1[i] := List.getElem?_eq_getElem hi
    have e2 : L2[i]? = some (L2[i]'(by omega)) := List.getElem?_eq_getElem (by omega)
    have e : (L2.map M.RecV.told)[i]? = (L1.map M.RecV.told ++ t)[i]? := by rw [ht]
    rw [List.getElem?_append_left (by rw [List.length_map]; exact hi), List.getElem?_map, List.getElem?_map, e1, e2] at e
    simp only [Option.map_some, Option.some.injEq] at e
    exact ⟨_, _, e1, e2, congrArg M.Rec.q e, congrArg M.Rec.at_ e, congrArg M.Rec.s e⟩
  have H1 := Lib.hid h1
  have H2 := Lib.hid h2
  obtain ⟨A1, c1, hv1, hc1⟩ := owns_shape h1.own
  obtain ⟨A2, c2, hv2, hc2⟩ := owns_shape h2.own
  obtain ⟨n1, hn1⟩ : ∃ n, n = L1.length := ⟨_, rfl⟩
  obtain ⟨n2, hn2⟩ : ∃ n, n = L2.length := ⟨_, rfl⟩
  rw [← hn1] at hv1 hlen
  rw [← hn2] at hv2 hlen hl
  have HN : Hid (n1 = L1.length ∧ n2 = L2.length) := ⟨hn1, hn2⟩
  have hn9 : (n2 : Int) ≤ 1000 := by omega
  have hn12 : (n1 : Int) ≤ (n2 : Int) := by omega
  have hn12' : ¬ (n2 : Int) < (n1 : Int) := by omega
  have HL12 : Hid (n1 ≤ n2) := hlen
  clear h1 h2 ht hl hlen hn1 hn2 hc1 hc2
  subst hv1
  subst hv2
  go_enter Tryz.func15, Tryz.ntmps15
  go_wp2_with fail
  go_loopw [5] (fun j wr => ∃ k : Nat, k ≤ n1 ∧ j = .int .i64 k ∧ Hid (Below w.heap.size w wr)) (fun j _ => n1 - (intOf j).toNat)
  case atStart => exact ⟨0, Nat.zero_le _, rfl, Below.refl _ _⟩
  case round =>
    obtain ⟨k, hk, rfl, HBW⟩ := hrel
    by_cases hlt : k < n1
    · have hk0 : (0 : Int) ≤ (k : Int) := by omega
      have hlt1 : (k : Int) < (n1 : Int) := by omega
      have hlt2 : (k : Int) < (n2 : Int) := by omega
      obtain ⟨x, y, hx, hy, eq, ea, es⟩ := HLR.out k (by rw [← HN.out.1]; exact hlt)
      obtain ⟨a1, a2, a3, a4, a5⟩ := H1.out.secs x (List.mem_of_getElem? hx)
      obtain ⟨b1, b2, b3, b4, b5⟩ := H2.out.secs y (List.mem_of_getElem? hy)
      have hgn := M.get_n a1
      rcases H1.out.own.2 with ⟨e, e2⟩ | ⟨gb, gcap, gcur, hGA, -⟩
      · have := (List.getElem?_eq_some_iff.1 hx).1
        omega
      rcases H2.out.own.2 with ⟨e, e2⟩ | ⟨pb, pcap, pcur, hPA, -⟩
      · have := (List.getElem?_eq_some_iff.1 hy).1
        omega
      have hGA1 : A1 = some ⟨gb, 0, none⟩ := by injection hGA
      have hPA1 : A2 = some ⟨pb, 0, none⟩ := by injection hPA
      clear hGA hPA
      subst hGA1
      subst hPA1
      have r0 := H1.out.own.cells (g := gb) rfl _ _ (M.rcells_at hx).1
      have r1 := H1.out.own.cells (g := gb) rfl _ _ (M.rcells_at hx).2.1
      have r2 := H1.out.own.cells (g := gb) rfl _ _ (M.rcells_at hx).2.2
      have s0 := H2.out.own.cells (g := pb) rfl _ _ (M.rcells_at hy).1
      have s1 := H2.out.own.cells (g := pb) rfl _ _ (M.rcells_at hy).2.1
      have s2 := H2.out.own.cells (g := pb) rfl _ _ (M.rcells_at hy).2.2
      rw [ladd_one _ _ 1 (by omega)] at r1 s1
      rw [ladd_one _ _ 2 (by omega)] at r2 s2
      rw [eq] at s0
      rw [ea] at s1
      rw [es] at s2 b4
      obtain ⟨gad, hgad⟩ : ∃ gad : Addr, gad = ⟨gb, 0, none⟩ := ⟨_, rfl⟩
      obtain ⟨pad, hpad⟩ : ∃ pad : Addr, pad = ⟨pb, 0, none⟩ := ⟨_, rfl⟩
      rw [← hgad] at r0 r1 r2 ⊢
      rw [← hpad] at s0 s1 s2 ⊢
      clear hgad hpad
      obtain ⟨qt, hqt⟩ : ∃ qt : Int, qt = x.q := ⟨_, rfl⟩
      obtain ⟨pt, hpt⟩ : ∃ pt : Int, pt = (x.at_ : Nat) := ⟨_, rfl⟩
      obtain ⟨nn, hnn⟩ : ∃ nn, nn = M.gN x.s := ⟨_, rfl⟩
      obtain ⟨xA, hxA⟩ : ∃ xA, xA = x.A := ⟨_, rfl⟩
      obtain ⟨xc, hxc⟩ : ∃ xc, xc = x.c := ⟨_, rfl⟩
      obtain ⟨yA, hyA⟩ : ∃ xA, xA = y.A := ⟨_, rfl⟩
      obtain ⟨yc, hyc⟩ : ∃ xc, xc = y.c := ⟨_, rfl⟩
      rw [← hqt] at r0 s0
      rw [← hpt] at r1 s1
      rw [← hnn, ← hxA, ← hxc] at r2
      rw [← hnn, ← hyA, ← hyc] at s2
      rw [← hnn, ← hxA] at a4
      rw [← hnn, ← hyA] at b4
      rw [← hnn] at hgn
      have hqq : (qt == qt) = true := by simp
      have hqn : (qt != qt) = false := by simp
      have hpp : (pt == pt) = true := by simp
      have hpn : (pt != pt) = false := by simp
      have HC3 : Hid (∀ z, Below w.heap.size w z → (z.cell? (gad.add (k * 3)) = some (.int .i64 qt) ∧ z.cell? ⟨(gad.add (k * 3)).block, (gad.add (k * 3)).off + 1, none⟩ = some (.int .i64 pt) ∧ z.cell? ⟨(gad.add (k * 3)).block, (gad.add (k * 3)).off + 2, none⟩ = some (.slice xA nn xc)) ∧
          (z.cell? (pad.add (k * 3)) = some (.int .i64 qt) ∧ z.cell? ⟨(pad.add (k * 3)).block, (pad.add (k * 3)).off + 1, none⟩ = some (.int .i64 pt) ∧ z.cell? ⟨(pad.add (k * 3)).block, (pad.add (k * 3)).off + 2, none⟩ = some (.slice yA nn yc))) := fun z hb =>
        ⟨⟨(hb.cell (World.block_lt_of_cell? _ _ r0)).trans r0, (hb.cell (World.block_lt_of_cell? _ _ r1)).trans r1, (hb.cell (World.block_lt_of_cell? _ _ r2)).trans r2⟩, ⟨(hb.cell (World.block_lt_of_cell? _ _ s0)).trans s0, (hb.cell (World.block_lt_of_cell? _ _ s1)).trans s1, (hb.cell (World.block_lt_of_cell? _ _ s2)).trans s2⟩⟩
      have CS : Hid (∀ z, Below w.heap.size w z → Calls Tryz.prog 41 #[.slice xA nn xc, .slice yA nn yc] z fun e z' => e = .returned (.bool true) ∧ Below w.heap.size w z') := fun z hb =>
        (sectors11_any xA yA nn xc yc (M.gA x.s) (M.gT x.s) z (a4.below (Nat.le_refl _) hb) (b4.below (Nat.le_refl _) hb) (by omega)).mono fun _ _ ⟨h1, h2⟩ => ⟨h1, hb.trans (h2.mono hb.size)⟩
      obtain ⟨⟨c0, c1', c2'⟩, c3, c4, c5⟩ := HC3.out wr HBW.out
      have HBd : Hid (Below w.heap.size w wr.drew) := HBW.out.drew
      have HTM : Hid (k < n1) := hlt
      clear hx hy eq ea es a1 a2 a3 a4 a5 b1 b2 b3 b4 b5 hgn r0 r1 r2 s0 s1 s2 hqt hpt hnn hxA hxc hyA hyc hlt hk H1 H2 HLR
      go_wp2_with fail
      go_region_held3 (fun z => (z.cell? (gad.add (k * 3)) = some (.int .i64 qt) ∧ z.cell? ⟨(gad.add (k * 3)).block, (gad.add (k * 3)).off + 1, none⟩ = some (.int .i64 pt) ∧ z.cell? ⟨(gad.add (k * 3)).block, (gad.add (k * 3)).off + 2, none⟩ = some (.slice xA nn xc)) ∧
          (z.cell? (pad.add (k * 3)) = some (.int .i64 qt) ∧ z.cell? ⟨(pad.add (k * 3)).block, (pad.add (k * 3)).off + 1, none⟩ = some (.int .i64 pt) ∧ z.cell? ⟨(pad.add (k * 3)).block, (pad.add (k * 3)).off + 2, none⟩ = some (.slice yA nn yc))) (first | exact ⟨⟨c0, c1', c2'⟩, c3, c4, c5⟩ | exact ⟨⟨k0, k1, k2⟩, k3, k4, k5⟩) (first
        | (go_at_call 41
           refine (CS.out _ HBd.out).mono ?_
           rintro e w6 ⟨rfl, hb6⟩
           obtain ⟨⟨k0, k1, k2⟩, k3, k4, k5⟩ := HC3.out w6 hb6
           have HB6 := Lib.hid hb6
           clear hb6))
      go_wp2_with fail
      go_roundw
      case rel => exact ⟨k + 1, by have := HTM.out; omega, by go_num, by first | exact HB6 | exact Lib.hid HB6.out.drew⟩
      case measure => have := HTM.out; simp [intOf]; omega
    · have e : k = n1 := by omega
      subst e
      have hk2 : ¬ (k : Int) < (k : Int) := by omega
      have HB := Lib.hid HBW.out
      clear hlt hk H1 H2 HLR
      go_wp2_with fail
      go_ret
      exact ⟨rfl, HB.out⟩
end Go.Proofs.YtfdbfafpcbdbdaaGreat
