/-
  Plain mathematics for layer 1 (count): bytes as digits, and back. No program in this text.
-/
import Derived.Lib.Bytes
namespace Go.Proofs.YtanaggahdadejaaDoor.M

/-- A digit of 0 to 9, a to f. -/
def hexd (n : Nat) : UInt8 := UInt8.ofNat (if n < 10 then 48 + n else 87 + n)
def hexL : List UInt8 → List UInt8
  | [] => []
  | c :: r => hexd (c.toNat / 16) :: hexd (c.toNat % 16) :: hexL r
theorem hexL_append : ∀ a b : List UInt8, hexL (a ++ b) = hexL a ++ hexL b
  | [], b => rfl
  | c :: r, b => by simp [hexL, hexL_append r b]
theorem hexL_len : ∀ l : List UInt8, (hexL l).length = 2 * l.length
  | [] => rfl
  | c :: r => by simp [hexL, hexL_len r]; omega
theorem hexL_take (l : List UInt8) (i : Nat) (h : i < l.length) : hexL (l.take (i + 1)) = hexL (l.take i) ++ [hexd (l[i].toNat / 16), hexd (l[i].toNat % 16)] := by
  rw [List.take_succ_eq_append_getElem h, hexL_append]
  rfl
/-- The digits as one constant. -/
def digs : ByteArray := ⟨#[48, 49, 50, 51, 52, 53, 54, 55, 56, 57, 97, 98, 99, 100, 101, 102]⟩
theorem digs_at_fin : ∀ n : Fin 16, digs[n.val]'(show n.val < 16 from n.isLt) = hexd n.val := by decide
theorem digs_at (n : Nat) (h : n < 16) (h' : n < digs.size) : digs[n]'h' = hexd n := digs_at_fin ⟨n, h⟩
theorem digs_piece_fin : ∀ n : Fin 16, (digs.extract n.val (n.val + 1)).data.toList = [hexd n.val] := by decide
theorem digs_piece (n : Nat) (h : n < 16) : (digs.extract n (n + 1)).data.toList = [hexd n] := digs_piece_fin ⟨n, h⟩
theorem digs_cut (n : Nat) (h : n < 16) : digs.extract n (n + 1) = ⟨#[hexd n]⟩ := by
  have := digs_piece n h
  generalize digs.extract n (n + 1) = b at this
  cases b with | mk d => simp at this; cases d with | mk l => simp at this; subst this; rfl

/-- What a digit stands for: 16: it is none. -/
def hexv (c : Nat) : Nat := if 48 ≤ c ∧ c ≤ 57 then c - 48 else if 97 ≤ c ∧ c ≤ 102 then c - 87 else 16
/-- The bytes that pairs of digits say. -/
def unhexL : List UInt8 → Option (List UInt8)
  | [] => some []
  | [_] => none
  | a :: b :: r => if hexv a.toNat < 16 ∧ hexv b.toNat < 16 then (unhexL r).map (UInt8.ofNat (16 * hexv a.toNat + hexv b.toNat) :: ·) else none
theorem hexd_fin : ∀ n : Fin 16, hexv (hexd n.val).toNat = n.val := by decide
theorem hexd_val (n : Nat) (h : n < 16) : hexv (hexd n).toNat = n := hexd_fin ⟨n, h⟩
theorem hexv_fin : ∀ c : Fin 256, hexv c.val < 16 → hexd (hexv c.val) = UInt8.ofNat c.val := by decide +kernel
theorem hexv_back (c : UInt8) (h : hexv c.toNat < 16) : hexd (hexv c.toNat) = c := by
  have := hexv_fin ⟨c.toNat, c.toNat_lt⟩ h
  rwa [UInt8.ofNat_toNat] at this
theorem unhex_hex : ∀ l : List UInt8, unhexL (hexL l) = some l
  | [] => rfl
  | c :: r => by
    have hc := c.toNat_lt
    rw [hexL, unhexL, hexd_val _ (by omega), hexd_val _ (Nat.mod_lt _ (by omega)), unhex_hex r, if_pos ⟨by omega, Nat.mod_lt _ (by omega)⟩]
    simp only [Option.map_some]
    rw [show 16 * (c.toNat / 16) + c.toNat % 16 = c.toNat by omega, UInt8.ofNat_toNat]
theorem hex_unhex : ∀ (l u : List UInt8), unhexL l = some u → hexL u = l
  | [], u, h => by simp [unhexL] at h; subst h; rfl
  | [a], u, h => by simp [unhexL] at h
  | a :: b :: r, u, h => by
    rw [unhexL] at h
    split at h
    · rename_i hab
      obtain ⟨r', hr', rfl⟩ := Option.map_eq_some_iff.1 h
      rw [hexL, hex_unhex r r' hr']
      have ha := hab.1
      have hb := hab.2
      have e : (UInt8.ofNat (16 * hexv a.toNat + hexv b.toNat)).toNat = 16 * hexv a.toNat + hexv b.toNat := by
        rw [UInt8.toNat_ofNat']; omega
      rw [e, show (16 * hexv a.toNat + hexv b.toNat) / 16 = hexv a.toNat by omega, show (16 * hexv a.toNat + hexv b.toNat) % 16 = hexv b.toNat by omega, hexv_back a ha, hexv_back b hb]
    · cases h
end Go.Proofs.YtanaggahdadejaaDoor.M
