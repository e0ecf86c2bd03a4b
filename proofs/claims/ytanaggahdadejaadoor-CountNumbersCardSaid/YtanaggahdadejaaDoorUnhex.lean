/-
  Walks over count.hexValue and count.Unhex.
-/
import Derived.Test.YtanaggahdadejaaDoorHex
import Derived.Test.YtanaggahdadejaaDoorNat
namespace Go.Proofs.YtanaggahdadejaaDoor
open Go.RowKit

theorem ret_ib {a b : Int} {c : Bool} (h : a = b) : Ending.returned (.tuple #[.int .i64 a, .bool c]) = .returned (.tuple #[.int .i64 b, .bool c]) := by rw [h]
theorem hexValue_yes (r : Nat) (v : Nat) (hv : M.hexv r = v) (h : v < 16) (w : World) :
    Calls Tryd.prog 24 #[.int .i32 (r : Int)] w fun e w' => e = .returned (.tuple #[.int .i64 (v : Int), .bool true]) ∧ w = w' := by
  subst hv
  rcases M.hexv_cases r h with ⟨h1, h2, e⟩ | ⟨h1, h2, e⟩
  · have HE : Hid ((r : Int) - 48 = (M.hexv r : Nat)) := by show _ = _; omega
    clear e h
    go_enter Tryd.func24, Tryd.ntmps24
    go_wp2_with fail
    go_ret2
    exact ⟨ret_ib HE.out, rfl⟩
  · have HE : Hid ((r : Int) - 97 + 10 = (M.hexv r : Nat)) := by show _ = _; omega
    clear e h
    go_enter Tryd.func24, Tryd.ntmps24
    go_wp2_with fail
    go_ret2
    exact ⟨ret_ib HE.out, rfl⟩
theorem hexValue_no (r : Nat) (h : ¬ M.hexv r < 16) (w : World) :
    Calls Tryd.prog 24 #[.int .i32 (r : Int)] w fun e w' => e = .returned (.tuple #[.int .i64 0, .bool false]) ∧ w = w' := by
  have h1 := M.hexv_not r h
  clear h
  obtain ⟨h1, h2⟩ := h1
  rcases h1 with h1 | h1 <;> rcases h2 with h2 | h2
  all_goals first
    | (exfalso; omega)
    | (go_enter Tryd.func24, Tryd.ntmps24
       go_wp2_with fail
       go_ret2
       exact ⟨rfl, rfl⟩)

def unhexT (l : List UInt8) : Value := match M.unhexL l with | some u => .tuple #[.string ⟨u.toArray⟩, .int .i64 0] | none => .tuple #[.string ⟨#[]⟩, .int .i64 4]
theorem unhexT_none {l : List UInt8} (h : M.unhexL l = none) : Ending.returned (.tuple #[.string ⟨#[]⟩, .int .i64 4]) = .returned (unhexT l) := by rw [unhexT, h]
theorem unhexT_some {l u : List UInt8} (h : M.unhexL l = some u) : Ending.returned (.tuple #[.string ⟨u.toArray⟩, .int .i64 0]) = .returned (unhexT l) := by rw [unhexT, h]

theorem or_fin : ∀ h v : Fin 16, bits BinOp.or IntKind.i64 (((h.val : Nat) : Int) * 16) ((v.val : Nat) : Int) % 256 = ((UInt8.ofNat (16 * h.val + v.val)).toNat : Int) := by decide +kernel
theorem or_byte (h v : Nat) (hh : h < 16) (hv : v < 16) : bits BinOp.or IntKind.i64 ((h : Int) * 16) (v : Int) % 256 = ((UInt8.ofNat (16 * h + v)).toNat : Int) := or_fin ⟨h, hh⟩ ⟨v, hv⟩

theorem iter_kept {w w' : World} {B : Nat} {e : TypeId} {v : Value} {n : Nat} {xs : List Value} (hown : w.ownsRow B e 1 v n xs) (hg : w.grownBy w' v.ownBlock) {k : Nat} {s : ByteArray} {p : Nat} (hk : w.heap[k]? = some (Obj.stringIter s p)) : w'.heap[k]? = some (Obj.stringIter s p) := by
  rw [hg.block k (lt_of_block hk) ?_]
  · exact hk
  · intro e
    rcases hown.2 with ⟨rfl, _⟩ | ⟨g, cap, cur, rfl, _, hg, _⟩
    · simp [Value.ownBlock] at e
    · simp [Value.ownBlock] at e
      subst e
      rw [hk] at hg
      cases hg

set_option maxHeartbeats 2000000 in
theorem unhex_any (s : ByteArray) (w : World) (hs : s.size ≤ 100000) :
    Calls Tryd.prog 13 #[.string s] w fun e w' => e = .returned (unhexT s.data.toList) ∧ Below w.heap.size w w' := by
  obtain ⟨i0, hi, hz0, hz1, hz2⟩ := info_parts Tryd.info5
  have HSL := Lib.hid (M.size_list s)
  rcases Nat.mod_two_eq_zero_or_one s.size with hev | hod
  · have hmod : ((s.size : Int) % 2 != 0) = false := by simp; omega
    have HEV := Lib.hid hev
    clear hev
    go_enter Tryd.func13, Tryd.ntmps13
    go_wp2_with (at_make; refine wpList_make_own _ rfl _ _ 41 rfl w.heap.size 5 i0 (.int .u8 0) 1 Tryd.underlying41 hi hz0 hz1 _ _ _ (s.size / 2) rfl rfl (by omega) (by rw [hz2]; omega) (by unfold maxLen; omega) (Nat.le_refl _) ?_; intro w1 hown1 hgrow1)
    have hB1 := Below.grown (Below.refl w.heap.size w) hgrow1 (Nat.le_refl _) (fun k h => by cases h)
    have hK := hB1.size
    obtain ⟨K, hKe⟩ : ∃ K, K = w1.heap.size := ⟨_, rfl⟩
    have hit0 : (w1.iter s 0).heap[K]? = some (.stringIter s 0) := by rw [hKe]; exact World.iter_heap w1 s 0
    have hBi : Below w.heap.size w (w1.iter s 0) := hB1.alloc hK _
    have hown2 : (w1.iter s 0).ownsRow w.heap.size 5 1 (.slice (some ⟨w.heap.size, 0, none⟩) 0 (s.size / 2)) 0 [] := hown1.alloc _
    rw [← hKe] at hK ⊢
    clear hKe hown1 hgrow1 hB1
    go_loopw [4, 5] (fun v h wr => ∃ (pos high g cap : Nat) (acc : List UInt8), wr.heap[K]? = some (.stringIter s pos) ∧ pos ≤ s.size ∧ high < 16 ∧ v = .slice (some ⟨g, 0, none⟩) acc.length cap ∧ h = .int .i64 high ∧ wr.ownsRow w.heap.size 5 1 v acc.length (Lib.byteCells acc) ∧ Below w.heap.size w wr ∧ M.UR s.data.toList pos acc high) (fun _ _ wr => s.size - wr.iterPos K)
    case atStart => exact ⟨0, 0, _, _, [], hit0, Nat.zero_le _, by omega, rfl, rfl, hown2, hBi, M.UR.start _⟩
    case round =>
      clear hit0 hown2 hBi
      obtain ⟨pos, high, g, cap, acc, hit, hps, hh, rfl, rfl, hown, hbw, HU⟩ := hrel
      have HP := Lib.hid (iterPos_of hit)
      have hBs := hbw.size
      have hKlt := lt_of_block hit
      have hal := HU.len
      have hal2 : acc.length ≤ 100000 := by omega
      clear hal
      by_cases hp : pos < s.size
      · by_cases ha : (s[pos]'hp).toNat < 128
        · have hnx : ∀ ty, (Instr.next (.pointer (some ⟨K, 0, none⟩)) true ty).run Tryd.prog wr = _ := fun ty => Lib.run_next_ascii_at wr K s pos ty hit hp ha
          have hit2 := Lib.iterAt_heap wr K s pos (pos + 1) hit
          have hbw2 := Lib.below_iterAt hbw (k := K) hK s (pos + 1)
          have hown2 := ownsRow_iterAt' hown hit (pos + 1)
          obtain ⟨W1, hW1⟩ : ∃ W1, W1 = wr.iterAt K s (pos + 1) := ⟨_, rfl⟩
          rw [← hW1] at hnx hit2 hbw2 hown2
          clear hW1 hit hbw hown hBs hKlt
          have hBs := hbw2.size
          obtain ⟨c, hc⟩ : ∃ c, c = (s[pos]'hp).toNat := ⟨_, rfl⟩
          have hcl : s.data.toList[pos]'hp = s[pos]'hp := rfl
          by_cases hv : M.hexv c < 16
          · obtain ⟨v, hvv⟩ : ∃ v, v = M.hexv c := ⟨_, rfl⟩
            rw [← hvv] at hv
            have HV : Hid (M.hexv c = v) := hvv.symm
            rcases Nat.mod_two_eq_zero_or_one pos with hev | hod
            · have hm : (((pos : Int) % 2) == 0) = true := by simp; omega
              have HU2 := HU.first hev hp (by rw [hcl, ← hc, ← hvv]; exact hv)
              rw [hcl, ← hc, ← hvv] at HU2
              rw [← hc] at hnx
              clear hev HU hc hcl hvv ha
              go_wp2_with fail
              refine (hexValue_yes c v HV.out hv _).mono ?_
              rintro e w' ⟨rfl, rfl⟩
              go_wp2_with fail
              go_roundw
              case rel => exact ⟨pos + 1, v, g, cap, acc, hit2, by omega, hv, rfl, rfl, hown2, hbw2, HU2⟩
              case measure => rw [iterPos_of hit2, HP.out]; omega
            · have hm : (((pos : Int) % 2) == 0) = false := by simp; omega
              have HU2 := (HU.second hod hp (by rw [hcl, ← hc, ← hvv]; exact hv)).1
              rw [hcl, ← hc, ← hvv] at HU2
              rw [← hc] at hnx
              clear hod HU hc hcl hvv ha
              go_wp2_with fail
              refine (hexValue_yes c v HV.out hv _).mono ?_
              rintro e w' ⟨rfl, rfl⟩
              go_wp2_with (at_builtin; refine wpList_append_lies _ rfl _ _ 41 rfl w.heap.size 5 i0 (.int .u8 0) 1 1 Tryd.underlying41 hi hz0 hz1 hz2 rfl (by decide) _ _ _ rfl (hown2.alloc _) ⟨W1.heap.size, 0, none⟩ 1 1 [.int .u8 (bits BinOp.or IntKind.i64 ((high : Int) * 16) (v : Int) % 256)] rfl rfl (cell_one_new _ _ _) (fun x hx => by simp at hx; subst hx; rfl) (by omega) (by unfold maxLen; omega) (by omega) (by simp; omega) _ rfl ?_; intro g3 cap3 w3 hown3 hgrow3 hat3 hlt3; have X := Lib.hid (And.intro hown3 hgrow3); clear hown3 hgrow3 hat3 hlt3)
              have h4 : w3.ownsRow w.heap.size 5 1 (.slice (some ⟨g3, 0, none⟩) (acc.length + 1) cap3) (acc ++ [UInt8.ofNat (16 * high + v)]).length (Lib.byteCells (acc ++ [UInt8.ofNat (16 * high + v)])) := by
                have h := X.out.1
                rw [or_byte high v hh hv] at h
                rw [Lib.byteCells_append, List.length_append]
                exact h
              have hb4 : Below w.heap.size w w3 := Below.grown (hbw2.alloc hBs _) X.out.2 (by simp; omega) (fun j hj => (hown2.lt _ hj).1)
              have hit4 : w3.heap[K]? = some (.stringIter s (pos + 1)) := iter_kept (hown2.alloc _) X.out.2 (by rw [Below.heap_alloc _ _ _ (lt_of_block hit2)]; exact hit2)
              have Y := Lib.hid (And.intro h4 (And.intro hb4 hit4))
              clear X h4 hb4 hit4 hown2 hbw2 hit2
              go_wp2_with fail
              go_roundw
              case rel => exact ⟨pos + 1, high, g3, cap3, acc ++ [UInt8.ofNat (16 * high + v)], Y.out.2.2, by omega, hh, by rw [List.length_append]; rfl, rfl, Y.out.1, Y.out.2.1, HU2⟩
              case measure => rw [iterPos_of Y.out.2.2, HP.out]; omega
          · rw [← hc] at hnx
            have HN := Lib.hid (HU.bad (by rw [HSL.out]; exact HEV.out) hp (by rw [hcl, ← hc]; exact hv))
            clear HU hc hcl ha
            go_wp2_with fail
            refine (hexValue_no c hv _).mono ?_
            rintro e w' ⟨rfl, rfl⟩
            go_wp2_with fail
            go_ret2
            exact ⟨unhexT_none HN.out, hbw2⟩
        · have hnx : ∀ ty, (Instr.next (.pointer (some ⟨K, 0, none⟩)) true ty).run Tryd.prog wr = _ := fun ty => Lib.run_next_any_at wr K s pos ty hit hp
          have h128 := (M.decode_span s pos hp (by omega)).1
          obtain ⟨r, hr⟩ : ∃ r, r = (Utf8.decode s pos).1 := ⟨_, rfl⟩
          obtain ⟨d, hd⟩ : ∃ d, d = (Utf8.decode s pos).2 := ⟨_, rfl⟩
          rw [← hr] at h128
          rw [← hr, ← hd] at hnx
          have hbw2 := Lib.below_iterAt hbw (k := K) hK s (pos + d)
          obtain ⟨W1, hW1⟩ : ∃ W1, W1 = wr.iterAt K s (pos + d) := ⟨_, rfl⟩
          rw [← hW1] at hnx hbw2
          have HN := Lib.hid (HU.bad (by rw [HSL.out]; exact HEV.out) hp (M.hexv_high (by rw [M.list_at s pos hp]; omega)))
          clear hW1 hit hbw hr hd ha hown HU
          go_wp2_with fail
          refine (hexValue_no r (M.hexv_high h128) _).mono ?_
          rintro e w' ⟨rfl, rfl⟩
          go_wp2_with fail
          go_ret2
          exact ⟨unhexT_none HN.out, hbw2⟩
      · have hnx : ∀ ty, (Instr.next (.pointer (some ⟨K, 0, none⟩)) true ty).run Tryd.prog wr = _ := fun ty => Lib.run_next_end_at wr K s pos ty hit hp
        have HN := Lib.hid (HU.done (by rw [HSL.out]; exact HEV.out) (by rw [HSL.out]; omega))
        have hcv := run_convert_bytes_back (P := Tryd.prog) wr 41 9 5 ⟨g, 0, none⟩ cap acc Tryd.underlying41 Tryd.underlying5 Tryd.underlying9 (fun j hj => hown.cells (g := g) rfl j _ (by simp [Lib.byteCells, hj]))
        clear HU hown hit
        go_wp2_with fail
        go_ret2
        exact ⟨unhexT_some HN.out, hbw⟩
  · have hmod : ((s.size : Int) % 2 != 0) = true := by simp; omega
    have HN := Lib.hid (M.unhex_odd s.data.toList (by rw [M.size_list]; exact hod))
    clear hod
    go_enter Tryd.func13, Tryd.ntmps13
    go_wp2_with fail
    go_ret2
    exact ⟨unhexT_none HN.out, Below.refl _ _⟩
end Go.Proofs.YtanaggahdadejaaDoor
