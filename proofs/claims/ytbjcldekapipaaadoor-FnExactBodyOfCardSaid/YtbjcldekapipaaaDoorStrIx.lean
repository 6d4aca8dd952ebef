/-
  A string's byte at an index.
-/
import Derived.Test.YtbjcldekapipaaaDoorNamePure
import Derived.IntWalk
namespace Go.Proofs.YtbjcldekapipaaaDoor
open Go.ChangeShapes Go.WideShapes Go.ChangeAt Go.RowKit

theorem index_atW (s : ByteArray) (j : Nat) (h : j < s.size) : ∀ W, (Instr.index 9 (.string s) (.int .i64 (j : Int))).run Tryd.prog W = .ok (.int .u8 ((s[j]'h).toNat : Int)) W := by
  intro W
  rw [run_index_string W _ _ _ _ Tryd.underlying9, dif_pos ⟨by omega, by omega⟩]
  rfl
end Go.Proofs.YtbjcldekapipaaaDoor
