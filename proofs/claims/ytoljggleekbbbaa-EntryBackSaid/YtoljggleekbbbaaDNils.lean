/-
  string(make([]byte, n)): n bytes 0. No function of the program in this text.
-/
import Derived.Test.YtoljggleekbbbaaDMath
import Derived.Test.YtoljggleekbbbaaBox
import Derived.Laws.IdiomStrings
import Derived.Deep.OwnRows
namespace Go.Proofs.Ytoljggleekbbbaa
open Go.RowKit

theorem infoU : (Try.prog.info? 5).map (fun i => (i.zero, i.size, i.bytes)) = some (some (.int .u8 0), 1, 1) := by kernel_rfl
/-- A row of n bytes 0. -/
def M.nils (n : Nat) : Array Value := madeCells #[Value.int .u8 0] n
theorem M.nils_at (n j : Nat) (h : j < n) : (M.nils n)[j]? = some (.int .u8 0) := by
  simp [M.nils, madeCells, Nat.mod_one, h]
def M.zeros (n : Nat) : ByteArray := ⟨(List.replicate n (0 : UInt8)).toArray⟩
theorem conv_nils (n : Nat) (x : World) (B : Nat) (hB : Box x B 5 (M.nils n)) : Sem.run Try.prog (convert 37 9 (.slice (some ⟨B, 0, none⟩) n n)) x = .ok (.string (M.zeros n)) x := by
  have := run_convert_bytes_back (P := Try.prog) x 37 9 5 ⟨B, 0, none⟩ n (List.replicate n 0) Try.underlying37 Try.underlying5 Try.underlying9 (fun j hj => by
    rw [List.length_replicate] at hj
    rw [blk_add, List.getElem_replicate]
    exact (hB.cell j).trans (M.nils_at n j hj))
  rw [List.length_replicate] at this
  exact this
theorem make_nils (n : Nat) (hn : n ≤ 1000) (W : World) : (Instr.makeSlice 37 (.int .i64 (n : Int)) (.int .i64 (n : Int))).run Try.prog W = .ok (.slice (some ⟨W.heap.size, 0, none⟩) n n) (W.alloc (.cells (M.nils n) 5)) :=
  run_make_row' 37 5 (.int .u8 0) 1 Try.underlying37 infoU rfl .i64 .i64 n (by omega) (by omega) W
theorem M.zeros64 : M.zeros 64 = M.zero := rfl

end Go.Proofs.Ytoljggleekbbbaa
