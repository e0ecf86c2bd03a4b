/-
  Plain mathematics for layer 1 (count): bytes as digits, and back. No program in this text.
-/
import Derived.Lib.Bytes
namespace Go.Proofs.YtanaggahdadejaaDoor.M

/-- A digit of 0 to 9, a to f. -/
def hexd (n : Nat) : UInt8 := UInt8.ofNat (if n < 10 then 48 + n else 87 + n)
def hexL : List UInt8 → List UInt8
  | [] => []
  | c :: r => hexd (c.toNat / 16) :: hexd (c.toNat % 16) :: hexL r
theorem hexL_append : ∀ a b : List UInt8, hexL (a ++ b) = hexL a ++ hexL b
  | [], b => rfl
  | c :: r, b => by simp [hexL, hexL_append r b]
theorem hexL_len : ∀ l : List UInt8, (hexL l).length = 2 * l.length
  | [] => rfl
  | c :: r => by simp [hexL, hexL_len r]; omega
theorem hexL_take (l : List UInt8) (i : Nat) (h : i < l.length) : hexL (l.take (i + 1)) = hexL (l.take i) ++ [hexd (l[i].toNat / 16), hexd (l[i].toNat % 16)] := by
  rw [List.take_succ_eq_append_getElem h, hexL_append]
  rfl
/-- The digits as one constant. -/
def digs : ByteArray := ⟨#[48, 49, 50, 51, 52, 53, 54, 55, 56, 57, 97, 98, 99, 100, 101, 102]⟩
theorem digs_at_fin : ∀ n : Fin 16, digs[n.val]'(show n.val < 16 from n.isLt) = hexd n.val := by decide
theorem digs_at (n : Nat) (h : n < 16) (h' : n < digs.size) : digs[n]'h' = hexd n := digs_at_fin ⟨n, h⟩
theorem digs_piece_fin : ∀ n : Fin 16, (digs.extract n.val (n.val + 1)).data.toList = [hexd n.val] := by decide
theorem digs_piece (n : Nat) (h : n < 16) : (digs.extract n (n + 1)).data.toList = [hexd n] := digs_piece_fin ⟨n, h⟩
theorem digs_cut (n : Nat) (h : n < 16) : digs.extract n (n + 1) = ⟨#[hexd n]⟩ := by
  have := digs_piece n h
  generalize digs.extract n (n + 1) = b at this
  cases b with | mk d => simp at this; cases d with | mk l => simp at this; subst this; rfl

/-- What a digit stands for: 16: it is none. -/
def hexv (c : Nat) : Nat := if 48 ≤ c ∧ c ≤ 57 then c - 48 else if 97 ≤ c ∧ c ≤ 102 then c - 87 else 16
/-- The bytes that pairs of digits say. -/
def unhexL : List UInt8 → Option (List UInt8)
  | [] => some []
  | [_] => none
  | a :: b :: r => if hexv a.toNat < 16 ∧ hexv b.toNat < 16 then (unhexL r).map (UInt8.ofNat (16 * hexv a.toNat + hexv b.toNat) :: ·) else none
theorem hexd_fin : ∀ n : Fin 16, hexv (hexd n.val).toNat = n.val := by decide
theorem hexd_val (n : Nat) (h : n < 16) : hexv (hexd n).toNat = n := hexd_fin ⟨n, h⟩
theorem hexv_fin : ∀ c : Fin 256, hexv c.val < 16 → hexd (hexv c.val) = UInt8.ofNat c.val := by decide +kernel
theorem hexv_back (c : UInt8) (h : hexv c.toNat < 16) : hexd (hexv c.toNat) = c := by
  have := hexv_fin ⟨c.toNat, c.toNat_lt⟩ h
  rwa [UInt8.ofNat_toNat] at this
theorem unhex_hex : ∀ l : List UInt8, unhexL (hexL l) = some l
  | [] => rfl
  | c :: r => by
    have hc := c.toNat_lt
    rw [hexL, unhexL, hexd_val _ (by omega), hexd_val _ (Nat.mod_lt _ (by omega)), unhex_hex r, if_pos ⟨by omega, Nat.mod_lt _ (by omega)⟩]
    simp only [Option.map_some]
    rw [show 16 * (c.toNat / 16) + c.toNat % 16 = c.toNat by omega, UInt8.ofNat_toNat]
theorem hex_unhex : ∀ (l u : List UInt8), unhexL l = some u → hexL u = l
  | [], u, h => by simp [unhexL] at h; subst h; rfl
  | [a], u, h => by simp [unhexL] at h
  | a :: b :: r, u, h => by
    rw [unhexL] at h
    split at h
    · rename_i hab
      obtain ⟨r', hr', rfl⟩ := Option.map_eq_some_iff.1 h
      rw [hexL, hex_unhex r r' hr']
      have ha := hab.1
      have hb := hab.2
      have e : (UInt8.ofNat (16 * hexv a.toNat + hexv b.toNat)).toNat = 16 * hexv a.toNat + hexv b.toNat := by
        rw [UInt8.toNat_ofNat']; omega
      rw [e, show (16 * hexv a.toNat + hexv b.toNat) / 16 = hexv a.toNat by omega, show (16 * hexv a.toNat + hexv b.toNat) % 16 = hexv b.toNat by omega, hexv_back a ha, hexv_back b hb]
    · cases h

theorem unhex_odd : ∀ l : List UInt8, l.length % 2 = 1 → unhexL l = none
  | [], h => by simp at h
  | [_], _ => rfl
  | a :: b :: r, h => by
    rw [unhexL, unhex_odd r (by simp at h; omega)]
    split <;> rfl
theorem unhex_len : ∀ (l u : List UInt8), unhexL l = some u → l.length = 2 * u.length
  | [], u, h => by simp [unhexL] at h; subst h; rfl
  | [_], u, h => by simp [unhexL] at h
  | a :: b :: r, u, h => by
    rw [unhexL] at h
    split at h
    · obtain ⟨r', hr', rfl⟩ := Option.map_eq_some_iff.1 h
      have := unhex_len r r' hr'
      simp; omega
    · cases h

/-- What the loops over pairs of digits keep, where they stand at pos. -/
structure UR (l : List UInt8) (pos : Nat) (acc : List UInt8) (high : Nat) : Prop where
  even : pos % 2 = 0 → unhexL l = (unhexL (l.drop pos)).map (acc ++ ·)
  odd : pos % 2 = 1 → ∃ a, l[pos - 1]? = some a ∧ hexv a.toNat < 16 ∧ high = hexv a.toNat ∧ unhexL l = (unhexL (l.drop (pos - 1))).map (acc ++ ·)
  len : acc.length = pos / 2
theorem UR.start (l : List UInt8) : UR l 0 [] 0 := ⟨fun _ => by simp, fun h => by omega, rfl⟩
theorem UR.first {l : List UInt8} {pos : Nat} {acc : List UInt8} {high : Nat} (h : UR l pos acc high) (he : pos % 2 = 0) (hp : pos < l.length) (hv : hexv l[pos].toNat < 16) : UR l (pos + 1) acc (hexv l[pos].toNat) :=
  ⟨fun h => by omega, fun _ => ⟨l[pos], by simp [hp], hv, rfl, by simpa using h.even he⟩, by have := h.len; omega⟩
theorem UR.second {l : List UInt8} {pos : Nat} {acc : List UInt8} {high : Nat} (h : UR l pos acc high) (ho : pos % 2 = 1) (hp : pos < l.length) (hv : hexv l[pos].toNat < 16) :
    UR l (pos + 1) (acc ++ [UInt8.ofNat (16 * high + hexv l[pos].toNat)]) high ∧ high < 16 := by
  obtain ⟨a, ha, hva, rfl, hu⟩ := h.odd ho
  refine ⟨⟨fun _ => ?_, fun h => by omega, by have := h.len; simp; omega⟩, hva⟩
  have ha' : l[pos - 1]'(by omega) = a := by
    rw [List.getElem?_eq_getElem (by omega)] at ha
    exact Option.some.inj ha
  rw [hu, List.drop_eq_getElem_cons (show pos - 1 < l.length by omega), ha']
  have e : l.drop (pos - 1 + 1) = l[pos] :: l.drop (pos + 1) := by
    rw [show pos - 1 + 1 = pos by omega]; exact List.drop_eq_getElem_cons hp
  rw [e, unhexL, if_pos ⟨hva, hv⟩]
  cases unhexL (l.drop (pos + 1)) <;> simp
theorem UR.bad {l : List UInt8} {pos : Nat} {acc : List UInt8} {high : Nat} (h : UR l pos acc high) (hl : l.length % 2 = 0) (hp : pos < l.length) (hv : ¬ hexv l[pos].toNat < 16) : unhexL l = none := by
  rcases Nat.mod_two_eq_zero_or_one pos with he | ho
  · rw [h.even he, List.drop_eq_getElem_cons hp, List.drop_eq_getElem_cons (show pos + 1 < l.length by omega), unhexL, if_neg (fun x => hv x.1)]
    rfl
  · obtain ⟨a, ha, hva, rfl, hu⟩ := h.odd ho
    rw [hu, List.drop_eq_getElem_cons (show pos - 1 < l.length by omega)]
    have e : l.drop (pos - 1 + 1) = l[pos] :: l.drop (pos + 1) := by
      rw [show pos - 1 + 1 = pos by omega]; exact List.drop_eq_getElem_cons hp
    rw [e, unhexL, if_neg (fun x => hv x.2)]
    rfl
theorem UR.done {l : List UInt8} {pos : Nat} {acc : List UInt8} {high : Nat} (h : UR l pos acc high) (hl : l.length % 2 = 0) (hp : pos = l.length) : unhexL l = some acc := by
  have := h.even (by omega)
  rw [this, List.drop_of_length_le (by omega)]
  simp [unhexL]
theorem UR.any {l : List UInt8} {pos : Nat} {acc : List UInt8} {high : Nat} (h : UR l pos acc high) (he : pos % 2 = 0) (k : Nat) : UR l pos acc k := ⟨h.even, fun x => by omega, h.len⟩
theorem hexv_high {c : Nat} (h : 128 ≤ c) : ¬ hexv c < 16 := by
  unfold hexv
  rw [if_neg (by omega), if_neg (by omega)]
  omega
theorem hexv_cases (c : Nat) (h : hexv c < 16) : (48 ≤ c ∧ c ≤ 57 ∧ hexv c = c - 48) ∨ (97 ≤ c ∧ c ≤ 102 ∧ hexv c = c - 87) := by
  unfold hexv at h ⊢
  by_cases h1 : 48 ≤ c ∧ c ≤ 57
  · rw [if_pos h1]; exact .inl ⟨h1.1, h1.2, rfl⟩
  · rw [if_neg h1] at h ⊢
    by_cases h2 : 97 ≤ c ∧ c ≤ 102
    · rw [if_pos h2]; exact .inr ⟨h2.1, h2.2, rfl⟩
    · rw [if_neg h2] at h; omega
theorem hexv_not (c : Nat) (h : ¬ hexv c < 16) : (c < 48 ∨ 57 < c) ∧ (c < 97 ∨ 102 < c) := by
  unfold hexv at h
  by_cases h1 : 48 ≤ c ∧ c ≤ 57
  · rw [if_pos h1] at h; omega
  · rw [if_neg h1] at h
    by_cases h2 : 97 ≤ c ∧ c ≤ 102
    · rw [if_pos h2] at h; omega
    · omega
end Go.Proofs.YtanaggahdadejaaDoor.M
