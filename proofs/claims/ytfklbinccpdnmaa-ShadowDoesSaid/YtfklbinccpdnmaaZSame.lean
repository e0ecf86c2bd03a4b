/-
  Walks over shadow.walk, Fresh's and Kept's functions where they tell solderlaw13.same's function things, and over solderlaw13.same.
-/
import Derived.Test.YtfklbinccpdnmaaZTold
namespace Go.Proofs.Ytfklbinccpdnmaa
open Go.RowKit Go.Maps

/-- Things as the code's map holds them. -/
def M.vals13 (T : List (Int × Int)) : List (Int × Value) := T.map (fun p => (p.1, Value.int .i64 p.2))
theorem M.vals13_len (T : List (Int × Int)) : (M.vals13 T).length = T.length := by simp [M.vals13]
theorem M.vals13_at (T : List (Int × Int)) (k : Nat) (hk : k < T.length) (hk' : k < (M.vals13 T).length) : (M.vals13 T)[k]'hk' = ((T[k]'hk).1, Value.int .i64 (T[k]'hk).2) := by simp [M.vals13]
/-- How many of n things are told to one that takes q, but at least one. -/
def M.stops (q : Int) (n : Nat) : Nat := min n (max q 1).toNat
theorem M.stops_end {q : Int} {k : Nat} (h : k = 0 ∨ (k : Int) < q) : M.stops q k = k := by unfold M.stops; omega
theorem M.stops_at {q : Int} {k n : Nat} (h : k = 0 ∨ (k : Int) < q) (hk : k < n) (hq : ¬ (k : Int) + 1 < q) : M.stops q n = k + 1 := by unfold M.stops; omega

/-- The copy and the places that shadow.walk has made are kept where it writes elsewhere. -/
theorem made_kept2 {g cap : Nat} {o' : Option Nat} {L : List (Int × Value)} {w1 X W : World} {P : Nat → Prop} {B : Nat} (hm : MapV w1 o' L) (ho : ∀ k, o' = some k → B ≤ k) (hb : Below w1.heap.size w1 X) (hr : X.ownsRow w1.heap.size 3 1 (.slice (some ⟨g, 0, none⟩) L.length cap) L.length (M.ks L)) (hB : B ≤ w1.heap.size)
    (hk : Kept P X W) (hP : ∀ k, P k → k < B) : MapV W o' L ∧ ∀ k (hk : k < L.length), W.cell? ⟨g, k, none⟩ = some (.int .i64 (L[k]'hk).1) := by
  have hg := hr.lt g rfl
  have hm2 := (hm.kept (Kept.of_below hb (fun _ => False)) (fun _ _ => id)).kept hk (fun k e e' => by have := ho k e; have := hP k e'; omega)
  refine ⟨hm2, fun k hk' => ?_⟩
  have hc := hr.cells (g := g) rfl k _ (M.ks_at L k hk')
  rw [blk_add] at hc
  exact hk.cell hc (fun e => by have := hP _ e; simp only at this; omega)

set_option maxRecDepth 100000 in
set_option maxHeartbeats 2000000 in
theorem walk13_told (w : World) {o : Option Nat} {S N W Q : Nat} {v : Value} {T : List (Int × Int)} {q : Int} (hm : MapV w o (M.vals13 T)) (h : Told13 w S N W Q v T q 0) (hl : T.length ≤ 100000) :
    Calls Try.prog 31 #[.map o, .func (.func 29) #[] #[.pointer (some ⟨S, 0, none⟩), .pointer (some ⟨N, 0, none⟩), .pointer (some ⟨W, 0, none⟩), .pointer (some ⟨Q, 0, none⟩)]] w fun e w' => e = .returned (.tuple #[]) ∧
      Told13 w' S N W Q v T q (M.stops q T.length) ∧ Kept (fun k => k = S ∨ k = N) w w' := by
  have hfn : ∀ (f : Fn) (a b : Array Value) (W : World), (binOp .eql 50 (.func f a b) .nilFunc).run Try.prog W = .ok (.bool false) W := fun f a b W => eql_fn W _ f a b Try.underlying50
  have hS := h.same.lt
  have hN := h.num.lt
  have HC := Lib.hid (clone_any w hm)
  obtain ⟨len, hlen⟩ : ∃ x, x = T.length := ⟨_, rfl⟩
  have hvl : (M.vals13 T).length = len := by rw [M.vals13_len, hlen]
  have HP : Hid (∀ w (o : Option Nat), MapV w o (M.vals13 T) → Calls Try.prog 36 #[.map o] w fun e w' => ∃ g cap, e = .returned (.slice (some ⟨g, 0, none⟩) len cap) ∧
      w'.ownsRow w.heap.size 3 1 (.slice (some ⟨g, 0, none⟩) len cap) len (M.ks (M.vals13 T)) ∧ Below w.heap.size w w') := by
    rw [← hvl]
    exact fun w o h => places_any w h (by rw [hvl, hlen]; exact hl)
  have HM : Hid (∀ (o' : Option Nat) (w1 X : World) (g cap : Nat), MapV w1 o' (M.vals13 T) → (∀ k, o' = some k → w.heap.size ≤ k) → Below w.heap.size w w1 → Below w1.heap.size w1 X → X.ownsRow w1.heap.size 3 1 (.slice (some ⟨g, 0, none⟩) len cap) len (M.ks (M.vals13 T)) →
      Told13 X S N W Q v T q 0 ∧ Kept (fun k => k = S ∨ k = N) w X ∧ M.Rising (M.vals13 T) ∧ ∀ wr, Kept (fun k => k = S ∨ k = N) X wr → MapV wr o' (M.vals13 T) ∧ ∀ k (hk : k < (M.vals13 T).length), wr.cell? ⟨g, k, none⟩ = some (.int .i64 ((M.vals13 T)[k]'hk).1)) := by
    intro o' w1 X g cap h1 h2 h3 h4 h5
    have hb := h3.trans (h4.mono h3.size)
    rw [← hvl] at h5
    exact ⟨h.kept (Kept.of_below hb (fun _ => False)) id id id id (fun _ _ => id), Kept.of_below hb _, h1.up, fun wr hk => made_kept2 h1 h2 h4 h5 h3.size hk (fun k e => by omega)⟩
  have HT := Lib.hid (fun (w : World) (j : Nat) (hj : j < T.length) (h : Told13 w S N W Q v T q j) => told13_any w h hj hl)
  rw [← hlen] at hl
  rw [← hlen]
  have HN := Lib.hid hlen
  have HV := Lib.hid hvl
  clear hlen hvl h hm
  go_enter Try.func31, Try.ntmps31
  go_wp2_with fail
  refine HC.out.mono ?_
  rintro e w1 ⟨o', rfl, hm1, hb1, ho1⟩
  have HM1 := Lib.hid hm1
  have HB1 := Lib.hid hb1
  have HO1 := Lib.hid ho1
  clear hm1 hb1 ho1 HC
  go_wp2_with fail
  refine (HP.out _ _ HM1.out).mono ?_
  rintro e X ⟨g, cap, rfl, hr2, hb2⟩
  obtain ⟨hT0, hK0, hU, hkk⟩ := HM.out o' w1 X g cap HM1.out HO1.out HB1.out hb2 hr2
  have HU := Lib.hid hU
  have HK := Lib.hid hkk
  have HT0 := Lib.hid hT0
  have HK0 := Lib.hid hK0
  clear hr2 hb2 hT0 hK0 hU hkk HM HP HM1 HB1 HO1
  go_wp2_with fail
  go_loopw [14] (fun i wr => ∃ k : Nat, k ≤ len ∧ i = .int .i64 k ∧ Told13 wr S N W Q v T q k ∧ Kept (fun k => k = S ∨ k = N) X wr ∧ (k = 0 ∨ (k : Int) < q)) (fun i _ => len - (intOf i).toNat)
  case atStart => exact ⟨0, Nat.zero_le _, rfl, HT0.out, Kept.refl _ _, Or.inl rfl⟩
  case round =>
    obtain ⟨k, hk, rfl, hTk, hKk, hqk⟩ := hrel
    have HTk := Lib.hid hTk
    have HKk := Lib.hid hKk
    have HQk := Lib.hid hqk
    clear hTk hKk hqk
    by_cases hlt : k < len
    · have hlt' : (k : Int) < (len : Int) := by omega
      have hk0 : (0 : Int) ≤ (k : Int) := by omega
      have hkT : k < T.length := by rw [← HN.out]; exact hlt
      have hkl : k < (M.vals13 T).length := by rw [HV.out]; exact hlt
      obtain ⟨hmk, hck⟩ := HK.out wr HKk.out
      have hc := hck k hkl
      have hlk := hmk.look1 Try.underlying51 (zeroE13 wr) (M.find_of_mem HU.out (List.getElem_mem hkl))
      have HY := Lib.hid (HT.out wr k hkT HTk.out)
      rw [M.vals13_at T k hkT hkl] at hc hlk
      simp only at hc hlk
      obtain ⟨at_, hat⟩ : ∃ x, x = (T[k]'hkT).1 := ⟨_, rfl⟩
      obtain ⟨y, hy'⟩ : ∃ x, x = (T[k]'hkT).2 := ⟨_, rfl⟩
      rw [← hat] at hc hlk HY
      rw [← hy'] at hlk HY
      have hbr : (decide ((k : Int) + 1 < q) = true ∧ (k : Int) + 1 < q) ∨ (decide ((k : Int) + 1 < q) = false ∧ ¬ (k : Int) + 1 < q) := by
        by_cases h : (k : Int) + 1 < q
        · exact Or.inl ⟨by simpa using h, h⟩
        · exact Or.inr ⟨by simpa using h, h⟩
      clear hat hy' hmk hck HK hkl hkT HT
      rcases hbr with ⟨hd, hbr⟩ | ⟨hd, hbr⟩
      · rw [hd] at HY
        have HBR := Lib.hid hbr
        clear hd hbr
        go_wp2_with fail
        refine HY.out.mono ?_
        rintro e W3 ⟨rfl, hT3, hK3⟩
        have HT3 := Lib.hid hT3
        have HK3 := Lib.hid (HKk.out.trans hK3)
        clear hc hlk hT3 hK3
        go_wp2_with fail
        go_roundw
        case rel => exact ⟨k + 1, by omega, by go_num, HT3.out, HK3.out, Or.inr (by have := HBR.out; omega)⟩
        case measure => simp [intOf]; omega
      · rw [hd] at HY
        have HE : Hid (M.stops q len = k + 1) := M.stops_at HQk.out hlt hbr
        clear hd hbr
        go_wp2_with fail
        refine HY.out.mono ?_
        rintro e W3 ⟨rfl, hT3, hK3⟩
        rw [← HE.out] at hT3
        have HT3 := Lib.hid hT3
        have HK3 := Lib.hid (HK0.out.trans (HKk.out.trans hK3))
        clear hc hlk hT3 hK3
        go_wp2_with fail
        exact bodyPost_ret (results_none rfl _ _ _) rfl ⟨rfl, HT3.out, HK3.out⟩
    · have e : k = len := by omega
      subst e
      have HX : Hid (Told13 wr S N W Q v T q (M.stops q k)) := by rw [M.stops_end HQk.out]; exact HTk.out
      go_wp2_with fail
      go_end0
      exact ⟨rfl, HX.out, HK0.out.trans HKk.out⟩

set_option maxHeartbeats 1000000 in
theorem fresh1_told (w : World) {fb b : Nat} {P : Nat → Prop} {K : List (Int × Value)} {S N W Q : Nat} {v : Value} {T : List (Int × Int)} {q : Int} (hs : Sh 53 w b P (M.vals13 T) K) (hp : w.cell? ⟨fb, 0, none⟩ = some (.pointer (some ⟨b, 0, none⟩))) (h : Told13 w S N W Q v T q 0) (hl : T.length ≤ 100000) :
    Calls Try.prog 30 #[.func (.func 29) #[] #[.pointer (some ⟨S, 0, none⟩), .pointer (some ⟨N, 0, none⟩), .pointer (some ⟨W, 0, none⟩), .pointer (some ⟨Q, 0, none⟩)], .pointer (some ⟨fb, 0, none⟩)] w fun e w' => e = .returned (.tuple #[]) ∧
      Told13 w' S N W Q v T q (M.stops q T.length) ∧ Kept (fun k => k = S ∨ k = N) w w' := by
  obtain ⟨lo, so, hs, -⟩ := hs
  have c0 := hs.c0
  have HT := Lib.hid (walk13_told w hs.loose h hl)
  clear hs h
  go_enter Try.func30, Try.ntmps30
  go_wp2_with fail
  refine HT.out.mono ?_
  rintro e w1 ⟨rfl, h1, h2⟩
  have H1 := Lib.hid h1
  have H2 := Lib.hid h2
  clear h1 h2
  go_wp2_with fail
  go_end0
  exact ⟨rfl, H1.out, H2.out⟩
set_option maxHeartbeats 1000000 in
theorem kept1_told (w : World) {fb b : Nat} {P : Nat → Prop} {L : List (Int × Value)} {S N W Q : Nat} {v : Value} {T : List (Int × Int)} {q : Int} (hs : Sh 53 w b P L (M.vals13 T)) (hp : w.cell? ⟨fb, 0, none⟩ = some (.pointer (some ⟨b, 0, none⟩))) (h : Told13 w S N W Q v T q 0) (hl : T.length ≤ 100000) :
    Calls Try.prog 32 #[.func (.func 29) #[] #[.pointer (some ⟨S, 0, none⟩), .pointer (some ⟨N, 0, none⟩), .pointer (some ⟨W, 0, none⟩), .pointer (some ⟨Q, 0, none⟩)], .pointer (some ⟨fb, 0, none⟩)] w fun e w' => e = .returned (.tuple #[]) ∧
      Told13 w' S N W Q v T q (M.stops q T.length) ∧ Kept (fun k => k = S ∨ k = N) w w' := by
  obtain ⟨lo, so, hs, -⟩ := hs
  have c0 := hs.c1
  have HT := Lib.hid (walk13_told w hs.stays h hl)
  clear hs h
  go_enter Try.func32, Try.ntmps32
  go_wp2_with fail
  refine HT.out.mono ?_
  rintro e w1 ⟨rfl, h1, h2⟩
  have H1 := Lib.hid h1
  have H2 := Lib.hid h2
  clear h1 h2
  go_wp2_with fail
  go_end0
  exact ⟨rfl, H1.out, H2.out⟩

set_option maxHeartbeats 2000000 in
theorem same13_any (f fb : Nat) (ef : ∀ args y, (callFunc f args).run Try.prog y = .ok (.enter f args) y) (w : World) {v : Value} {T : List (Int × Int)} {q : Int} (hT : Things w v T)
    (hF : ∀ y S N W Q, Told13 y S N W Q v T q 0 → w.heap.size ≤ S → w.heap.size ≤ N → Below w.heap.size w y →
      Calls Try.prog f #[.func (.func 29) #[] #[.pointer (some ⟨S, 0, none⟩), .pointer (some ⟨N, 0, none⟩), .pointer (some ⟨W, 0, none⟩), .pointer (some ⟨Q, 0, none⟩)], .pointer (some ⟨fb, 0, none⟩)] y fun e w' => e = .returned (.tuple #[]) ∧
        Told13 w' S N W Q v T q (M.stops q T.length) ∧ Kept (fun k => k = S ∨ k = N) y w') :
    Calls Try.prog 17 #[.func (.func f) #[] #[.pointer (some ⟨fb, 0, none⟩)], v, .int .i64 q] w fun e w' => e = .returned (.bool true) ∧ Below w.heap.size w w' := by
  obtain ⟨A, c, rfl, hc⟩ := owns_shape13 hT
  obtain ⟨len, hlen⟩ : ∃ x, x = T.length := ⟨_, rfl⟩
  have hlv := fun k (e : (Value.slice A T.length c).ownBlock = some k) => (hT.lt k e).2
  rw [← hlen] at hT hF hlv
  rw [← hlen]
  obtain ⟨W4, hW4⟩ : ∃ x, x = (((w.alloc (.cells #[.slice A len c] 27)).alloc (.cells #[.int .i64 q] 3)).alloc (.cells #[.int .i64 0] 3)).alloc (.cells #[.bool true] 4) := ⟨_, rfl⟩
  have HT4 : Hid (Told13 W4 (w.heap.size + 3) (w.heap.size + 2) w.heap.size (w.heap.size + 1) (.slice A len c) T q 0 ∧ Below w.heap.size w W4) := by
    have hb : Below w.heap.size w W4 := by rw [hW4]; exact ((((Below.refl _ w).alloc (Nat.le_refl _) _).alloc (by simp) _).alloc (by simp; omega) _).alloc (by simp; omega) _
    refine ⟨⟨?_, ?_, ?_, ?_, ?_, by omega, ⟨by omega, by omega, by omega, by omega⟩, fun k e => by have := hlv k e; omega⟩, hb⟩
    · rw [hW4]
      have := Box.new (((w.alloc (.cells #[.slice A len c] 27)).alloc (.cells #[.int .i64 q] 3)).alloc (.cells #[.int .i64 0] 3)) 4 #[.bool true]
      simpa using this
    · rw [hW4]
      have := Box.new ((w.alloc (.cells #[.slice A len c] 27)).alloc (.cells #[.int .i64 q] 3)) 3 #[.int .i64 0]
      have e : ((w.alloc (.cells #[.slice A len c] 27)).alloc (.cells #[.int .i64 q] 3)).heap.size = w.heap.size + 2 := by simp
      rw [e] at this
      exact (Below.heap_alloc _ (.cells #[.bool true] 4) _ (by simp)).trans this
    · rw [hW4]
      have h1 := Box.new w 27 #[.slice A len c]
      have h2 : Box ((((w.alloc (.cells #[.slice A len c] 27)).alloc (.cells #[.int .i64 q] 3)).alloc (.cells #[.int .i64 0] 3)).alloc (.cells #[.bool true] 4)) w.heap.size _ _ := (Below.heap_alloc _ _ _ (by simp; omega)).trans ((Below.heap_alloc _ _ _ (by simp; omega)).trans ((Below.heap_alloc _ _ _ (by simp)).trans h1))
      simpa using h2.cell 0
    · show World.ownsRow _ _ _ _ _ T.length _
      have := (Kept.of_below hb (fun _ => False)).owns13 hT (fun _ _ => id)
      rwa [hlen] at this ⊢
    · rw [hW4]
      have h1 := Box.new (w.alloc (.cells #[.slice A len c] 27)) 3 #[.int .i64 q]
      have h2 : Box ((((w.alloc (.cells #[.slice A len c] 27)).alloc (.cells #[.int .i64 q] 3)).alloc (.cells #[.int .i64 0] 3)).alloc (.cells #[.bool true] 4)) _ _ _ := (Below.heap_alloc _ _ _ (by simp)).trans ((Below.heap_alloc _ _ _ (by simp)).trans h1)
      have h3 := h2.cell 0
      simpa using h3
  have HF := Lib.hid (hF W4 (w.heap.size + 3) (w.heap.size + 2) w.heap.size (w.heap.size + 1) HT4.out.1 (by omega) (by omega) HT4.out.2)
  have HB4 := Lib.hid HT4.out.2
  obtain ⟨st, hst⟩ : ∃ x, x = M.stops q len := ⟨_, rfl⟩
  have HE : Hid ((st : Int) = min (len : Int) (max q 1)) := by
    show (st : Int) = _
    rw [hst]
    unfold M.stops
    omega
  rw [← hst] at HF
  clear hF hT HT4 hlv hlen hst
  go_enter Try.func17, Try.ntmps17
  go_wp2_with fail
  simp only [Nat.add_assoc, Nat.reduceAdd]
  rw [← hW4]
  clear hW4
  refine HF.out.mono ?_
  rintro e w5 ⟨rfl, hT5, hK5⟩
  have s0 := (hT5.same.cell 0).trans (rfl : _ = some (Value.bool true))
  have n0 := (hT5.num.cell 0).trans (rfl : _ = some (Value.int .i64 (st : Nat)))
  have v0 := hT5.want
  have q0 := hT5.most
  have HX : Hid (Below w.heap.size w w5) := HB4.out.trans (hK5.below (B := w.heap.size) HB4.out.size (fun k hk e => by omega))
  clear hT5 hK5 HF HB4
  go_wp2_with fail
  go_ret
  exact ⟨by simp [HE.out], HX.out⟩
end Go.Proofs.Ytfklbinccpdnmaa
