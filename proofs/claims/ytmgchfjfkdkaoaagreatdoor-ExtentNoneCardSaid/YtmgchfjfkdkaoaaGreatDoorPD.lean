/-
  wal.inOrder and wal.cause whatever the steps end with. Steps as a list: wal.inOrder and wal.cause over a row of steps that lies in memory, on any disk.
-/
import Derived.Test.YtmgchfjfkdkaoaaGreatDoorPB
import Derived.Test.YtmgchfjfkdkaoaaGreatDoorNJ
namespace Go.Proofs.YtmgchfjfkdkaoaaGreatDoor
open Go.RowKit

/-- What inOrder says. -/
def Says14 (E : Int) (v : Value) (w : World) : Prop := (E = 0 ∧ v = .nilIface) ∨ (E ≠ 0 ∧ ∃ b, v = .iface 140 (.pointer (some ⟨b, 0, none⟩)) ∧ w.cell? ⟨b, 1, none⟩ = some (.iface 32 (.int .i64 E)))
/-- The variable that errors.As asks. -/
def ErrT (w : World) : Prop := w.cell? ⟨1, 0, none⟩ = some (.iface 203 (.agg #[.pointer (some ⟨3, 95, none⟩)]))

theorem cause_any (E : Int) (v : Value) (w : World) (h : Says14 E v w) (hg : E ≠ 0 → ErrT w) :
    Calls Tryz.prog 48 #[v] w fun e w' => e = .returned (.int .i64 E) ∧ Below w.heap.size w w' := by
  rcases h with ⟨rfl, rfl⟩ | ⟨hE, b, rfl, hc⟩
  · exact cause_nil w
  · exact cause_failed b E w hc (hg hE)

theorem inOrder_any (g n c : Nat) (hn : n ≤ 100) (fs : List (M.D → Int × M.D)) (hl : fs.length = n) (E : Nat → Int) (dk : Nat → M.D) (hd : ∀ k f, fs[k]? = some f → f (dk k) = (E k, dk (k + 1))) (S : Nat → ByteArray) (f : Nat → Nat) (bd cp : Nat → Array Value) {w W : World} {a : Nat} {P F : Nat → Prop}
    (h0 : At14 w W W a P F (dk 0))
    (hcell : ∀ k y, k < n → At14 w W y a P F (dk k) → y.cell? ⟨g, k * 2, none⟩ = some (.string (S k)) ∧ y.cell? ⟨g, k * 2 + 1, none⟩ = some (.func (.func (f k)) (bd k) (cp k)))
    (hen : ∀ k, k < n → ∀ args y, (callFunc (f k) args).run Tryz.prog y = .ok (.enter (f k) args) y)
    (hcall : ∀ k, k < n → ∀ y z, At14 w W y a P F (dk k) → Below y.heap.size y z → Calls Tryz.prog (f k) (bd k ++ cp k) z fun e y' => e = .returned (.int .i64 (E k)) ∧ At14 w W y' a P F (dk (k + 1)) ∧ Kept (fun j => j < y.heap.size) z y') :
    Calls Tryz.prog 49 #[.slice (some ⟨g, 0, none⟩) n c] W fun e w' => ∃ v, e = .returned v ∧ Says14 (M.steps14 fs (dk 0)).1 v w' ∧ At14 w W w' a P F (M.steps14 fs (dk 0)).2 := by
  rcases first_err14 E n with hz | ⟨m, hm, hE, hz⟩
  · rw [M.steps14_ok fs E dk hd (by rw [hl]; exact hz), hl]
    refine (inOrder_ok g n c hn S f bd cp (fun k y => At14 w W y a P F (dk k)) W h0 hcell (fun k y y' hJ hb => hJ.beside hb) hen ?_).mono ?_
    · intro k hk y hJ
      refine (hcall k hk y y hJ (Below.refl _ _)).mono ?_
      rintro e y' ⟨h1, h2, _⟩
      rw [hz k hk] at h1
      exact ⟨h1, h2⟩
    · rintro e w' ⟨h1, h2⟩
      exact ⟨_, h1, Or.inl ⟨rfl, rfl⟩, h2⟩
  · rw [M.steps14_no m fs E dk hd (by omega) hz hE]
    refine (inOrder_fails g n c m hn hm (E m) hE S f bd cp (fun k y => At14 w W y a P F (dk k)) W h0 (fun k y hk => hcell k y (by omega)) (fun k y y' hJ hb => hJ.beside hb) (fun k hk => hen k (by omega)) ?_ (fun y z hJ hb => hcall m hm y z hJ hb)).mono ?_
    · intro k hk y hJ
      refine (hcall k (by omega) y y hJ (Below.refl _ _)).mono ?_
      rintro e y' ⟨h1, h2, _⟩
      rw [hz k hk] at h1
      exact ⟨h1, h2⟩
    · rintro e w' ⟨⟨b, h1, h2⟩, h3⟩
      exact ⟨_, h1, Or.inr ⟨hE, b, rfl, h2⟩, h3⟩

end Go.Proofs.YtmgchfjfkdkaoaaGreatDoor
namespace Go.Proofs.YtmgchfjfkdkaoaaGreatDoor
open Go.RowKit

/-- A step: its name, its function value, what it does to the disk. -/
structure Stp where
  S : ByteArray
  f : Nat
  bd : Array Value
  cp : Array Value
  F : M.D → Int × M.D
def stp0 : Stp := ⟨⟨#[]⟩, 0, #[], #[], fun d => (0, d)⟩
def M.dks : List Stp → M.D → Nat → M.D
  | [], d, _ => d
  | _ :: _, d, 0 => d
  | s :: L, d, k + 1 => M.dks L (s.F d).2 k
theorem M.dks_zero (L : List Stp) (d : M.D) : M.dks L d 0 = d := by cases L <;> rfl
theorem M.dks_at : ∀ (L : List Stp) (d : M.D) (k : Nat) (s : Stp), L[k]? = some s → M.dks L d (k + 1) = (s.F (M.dks L d k)).2
  | [], _, _, _, h => by simp at h
  | s :: L, d, 0, t, h => by
    simp at h
    subst h
    exact M.dks_zero L _
  | s :: L, d, k + 1, t, h => M.dks_at L (s.F d).2 k t (by simpa using h)
theorem M.dks_ops : ∀ (L : List Stp) (d : M.D) (k : Nat), (∀ s ∈ L, ∀ dk, (s.F dk).2.ops ≤ dk.ops + 1000) → k ≤ L.length → (M.dks L d k).ops ≤ d.ops + 1000 * k
  | [], d, k, _, _ => by show d.ops ≤ _; omega
  | s :: L, d, 0, _, _ => Nat.le_refl _
  | s :: L, d, k + 1, h, hk => by
    have h1 := M.dks_ops L (s.F d).2 k (fun t ht => h t (List.mem_cons_of_mem _ ht)) (by simpa using hk)
    have h2 := h s (List.mem_cons_self ..) d
    show (M.dks L (s.F d).2 k).ops ≤ _
    omega
theorem Stp.at {L : List Stp} {k : Nat} (hk : k < L.length) : ∃ s, L[k]? = some s ∧ L.getD k stp0 = s ∧ s ∈ L :=
  ⟨L[k], List.getElem?_eq_getElem hk, by simp [hk], List.getElem_mem hk⟩

/-- What stands apart of the disk: old blocks that are none of its, and those that were made. -/
def FF (P : Nat → Prop) (w W : World) (j : Nat) : Prop := (j < w.heap.size ∧ ¬ P j) ∨ (w.heap.size ≤ j ∧ j < W.heap.size)

theorem order_list (L : List Stp) (hn : L.length ≤ 50) (g c : Nat) {w W : World} {a : Nat} {P F : Nat → Prop} {d : M.D} (h0 : At14 w W W a P F d)
    (hrow : ∀ k s, L[k]? = some s → W.cell? ⟨g, k * 2, none⟩ = some (.string s.S) ∧ W.cell? ⟨g, k * 2 + 1, none⟩ = some (.func (.func s.f) s.bd s.cp)) (fg : F g)
    (hen : ∀ s ∈ L, ∀ args y, (callFunc s.f args).run Tryz.prog y = .ok (.enter s.f args) y) (hops : ∀ s ∈ L, ∀ dk, (s.F dk).2.ops ≤ dk.ops + 1000)
    (hcall : ∀ s ∈ L, ∀ dk, dk.ops ≤ d.ops + 50000 → ∀ y Q, Kept (fun j => ¬ F j) W y → (∀ k, Q k → k < y.heap.size ∧ ¬ F k) → Disk y a Q dk → Calls Tryz.prog s.f (s.bd ++ s.cp) y fun e y' => e = .returned (.int .i64 (s.F dk).1) ∧ Disk y' a (M.plus Q y.heap.size) (s.F dk).2 ∧ Kept Q y y') :
    Calls Tryz.prog 49 #[.slice (some ⟨g, 0, none⟩) L.length c] W fun e w' => ∃ v, e = .returned v ∧ Says14 (M.steps14 (L.map Stp.F) d).1 v w' ∧ At14 w W w' a P F (M.steps14 (L.map Stp.F) d).2 := by
  have e0 := M.dks_zero L d
  have := inOrder_any g L.length c (by omega) (L.map Stp.F) (by simp) (fun k => ((L.getD k stp0).F (M.dks L d k)).1) (fun k => M.dks L d k) (by
    intro k f hf
    rw [List.getElem?_map] at hf
    obtain ⟨s, hs, rfl⟩ := Option.map_eq_some_iff.1 hf
    have hg : L.getD k stp0 = s := by rw [List.getD_eq_getElem?_getD, hs]; rfl
    rw [hg, M.dks_at L d k s hs]) (fun k => (L.getD k stp0).S) (fun k => (L.getD k stp0).f) (fun k => (L.getD k stp0).bd) (fun k => (L.getD k stp0).cp) (w := w) (W := W) (a := a) (P := P) (F := F) (by rw [e0]; exact h0)
    (by
      intro k y hk hJ
      obtain ⟨s, hs, hg, _⟩ := Stp.at hk
      obtain ⟨r1, r2⟩ := hrow k s hs
      rw [hg]
      exact ⟨hJ.kept.cell r1 (fun e => e fg), hJ.kept.cell r2 (fun e => e fg)⟩)
    (by
      intro k hk
      obtain ⟨s, hs, hg, hm⟩ := Stp.at hk
      rw [hg]
      exact hen s hm)
    (by
      intro k hk y z hJ hbz
      obtain ⟨s, hs, hg, hm⟩ := Stp.at hk
      have hz := hJ.beside hbz
      have ho := M.dks_ops L d k hops (by omega)
      show Calls Tryz.prog (L.getD k stp0).f ((L.getD k stp0).bd ++ (L.getD k stp0).cp) z fun e y' => e = .returned (.int .i64 ((L.getD k stp0).F (M.dks L d k)).1) ∧ At14 w W y' a P F (M.dks L d (k + 1)) ∧ Kept (fun j => j < y.heap.size) z y'
      rw [hg, M.dks_at L d k s hs]
      exact At14.late hJ hbz (fun Q hQ hq => hcall s hm _ (by omega) z Q hz.kept hQ hq))
  rw [← e0]
  exact this

/-- Steps in order, and what they met. -/
theorem order_cause (L : List Stp) (hn : L.length ≤ 50) (g c : Nat) {w W : World} {a : Nat} {P : Nat → Prop} {d : M.D} (hD : Disk w a P d) (hb : Below w.heap.size w W)
    (hrow : ∀ k s, L[k]? = some s → W.cell? ⟨g, k * 2, none⟩ = some (.string s.S) ∧ W.cell? ⟨g, k * 2 + 1, none⟩ = some (.func (.func s.f) s.bd s.cp)) (fg : FF P w W g)
    (hen : ∀ s ∈ L, ∀ args y, (callFunc s.f args).run Tryz.prog y = .ok (.enter s.f args) y) (hops : ∀ s ∈ L, ∀ dk, (s.F dk).2.ops ≤ dk.ops + 1000)
    (hcall : ∀ s ∈ L, ∀ dk, dk.ops ≤ d.ops + 50000 → ∀ y Q, Kept (fun j => ¬ FF P w W j) W y → (∀ k, Q k → k < y.heap.size ∧ ¬ FF P w W k) → Disk y a Q dk → Calls Tryz.prog s.f (s.bd ++ s.cp) y fun e y' => e = .returned (.int .i64 (s.F dk).1) ∧ Disk y' a (M.plus Q y.heap.size) (s.F dk).2 ∧ Kept Q y y')
    {R : Int × M.D} (hR : M.steps14 (L.map Stp.F) d = R) (hET : R.1 ≠ 0 → ErrT w ∧ ¬ P 1) :
    Calls Tryz.prog 49 #[.slice (some ⟨g, 0, none⟩) L.length c] W fun e w' => ∃ v, e = .returned v ∧ Hid (Calls Tryz.prog 48 #[v] w' fun e w3 => e = .returned (.int .i64 R.1) ∧ Hid (Disk w3 a (M.plus P w.heap.size) R.2 ∧ Kept P w w3)) := by
  have h0 : At14 w W W a P (FF P w W) d := ⟨(One.start hD).beside (Kept.of_below hb _), Kept.refl _ _⟩
  refine (order_list L hn g c h0 hrow fg hen hops hcall).mono ?_
  rintro e w' ⟨v, rfl, hs, hJ⟩
  rw [hR] at hs hJ
  refine ⟨v, rfl, ?_⟩
  show Calls _ _ _ _ _
  refine (cause_any R.1 v w' hs (fun hE => ?_)).mono ?_
  · obtain ⟨h1, h2⟩ := hET hE
    have hW : ErrT W := (Kept.of_below hb (fun _ => False)).cell h1 (fun e => e)
    exact hJ.kept.cell hW (fun e => e (Or.inl ⟨World.block_lt_of_cell? w _ h1, h2⟩))
  · rintro e w3 ⟨rfl, hb3⟩
    have := (hJ.beside hb3).one.out
    exact ⟨rfl, this.1, this.2⟩

section
variable {P Q : Nat → Prop} {w W y : World}
/-- What stands apart is kept, and is none of the disk's. -/
theorem FF.box {g : Nat} {t : TypeId} {cs : Array Value} (hk : Kept (fun j => ¬ FF P w W j) W y) (hB : Box W g t cs) (hg : FF P w W g) : Box y g t cs := hk.box hB (fun e => e hg)
theorem FF.new {j : Nat} (h1 : w.heap.size ≤ j) (h2 : j < W.heap.size) : FF P w W j := Or.inr ⟨h1, h2⟩
theorem FF.old {j : Nat} (h1 : j < w.heap.size) (h2 : ¬ P j) : FF P w W j := Or.inl ⟨h1, h2⟩
theorem FF.kept (hb : Below w.heap.size w W) (hk : Kept (fun j => ¬ FF P w W j) W y) : Kept (fun j => P j ∨ w.heap.size ≤ j) w y :=
  (Kept.of_below hb (fun j => P j ∨ w.heap.size ≤ j)).next hk (fun _ hj e => Classical.byContradiction fun hn => e (Or.inl ⟨hj, fun hp => hn (Or.inl hp)⟩))
end
/-- The values of a row of steps. -/
def stpVals (s : Stp) : List Value := [.string s.S, .func (.func s.f) s.bd s.cp]
/-- Steps in a block that is known whole. -/
theorem row_cells {W : World} {g : Nat} {t : TypeId} {cs : Array Value} (hB : Box W g t cs) (L : List Stp) (hcs : ∀ k s, L[k]? = some s → cs[k * 2]? = some (.string s.S) ∧ cs[k * 2 + 1]? = some (.func (.func s.f) s.bd s.cp)) :
    ∀ k s, L[k]? = some s → W.cell? ⟨g, k * 2, none⟩ = some (.string s.S) ∧ W.cell? ⟨g, k * 2 + 1, none⟩ = some (.func (.func s.f) s.bd s.cp) :=
  fun k s hs => ⟨(hB.cell _).trans (hcs k s hs).1, (hB.cell _).trans (hcs k s hs).2⟩
/-- A flush as a step of a row. -/
theorem flush_stp {a : Nat} {Q : Nat → Prop} {dk : M.D} (y : World) (hq : Disk y a Q dk) (ho : dk.ops ≤ 1099511627776) : Calls Tryz.prog 28 #[.pointer (some ⟨a, 0, none⟩)] y fun e y' => e = .returned (.int .i64 (M.fl14 dk).1) ∧ Disk y' a (M.plus Q y.heap.size) (M.fl14 dk).2 ∧ Kept Q y y' := flush14_any y hq ho
theorem M.fl14_ops (dk : M.D) : (M.fl14 dk).2.ops ≤ dk.ops + 1000 := by show (M.flushD dk).ops ≤ _; rw [M.flushD_ops14]; omega
theorem M.wr_ops15 (L : List (Nat × ByteArray)) (hl : L.length ≤ 1000) (dk : M.D) : (M.wr L dk).2.ops ≤ dk.ops + 1000 := by have := M.wr_ops14 L dk; omega
theorem M.headW_ops15 (fr mn g q k : Nat) (hm : 2 ≤ mn) (dk : M.D) : (M.headW dk fr mn g q k).2.ops ≤ dk.ops + 1000 := by have := M.headW_ops14 dk fr mn g q k hm; omega
theorem M.gwrite_ops15 (fr mn : Nat) (i : Int) (s : ByteArray) (hs : s.size ≤ 64000) (dk : M.D) : (M.gwrite dk fr mn i s).2.ops ≤ dk.ops + 1000 := by
  unfold M.gwrite
  split
  · refine M.wr_ops15 _ ?_ dk
    unfold M.gsplit
    split
    · split
      · rw [M.cut_len]; omega
      · simp
    · simp
  · show dk.ops ≤ _; omega
theorem M.lput_ops15 (fr mn : Nat) (i : Int) (s : ByteArray) (hs : s.size ≤ 64000) (dk : M.D) : (M.lput dk fr mn i s).2.ops ≤ dk.ops + 1000 := by
  unfold M.lput
  split
  · show dk.ops ≤ _; omega
  · split
    · show dk.ops ≤ _; omega
    · refine M.wr_ops15 _ ?_ dk
      rw [M.lay12_len]; omega
end Go.Proofs.YtmgchfjfkdkaoaaGreatDoor
