/-
  GrowMem: what it answers.
-/
import Derived.Test.YtoeofhhmkkpjbaaRepA
namespace Go.Proofs.Ytoeofhhmkkpjbaa
open Go.ChangeShapes Go.WideShapes Go.ChangeAt Go.RowKit Go.Deep

/-- Where the new bytes begin that may be free. -/
def growAt (x : Me) : Int := if (8 : Int) < (x.bytes.size : Int) then x.bytes.size else 8
def growL (x : Me) (m : Int) : List Bk := if growAt x < (x.bytes.size : Int) + m then giveL ⟨growAt x, (x.bytes.size : Int) + m - growAt x⟩ x.free else x.free
def memGrow (x : Me) (m : Int) : Me × Int :=
  if memOk x = true then (if m < 0 then (noMe, 2) else if 4096 - (x.bytes.size : Int) < m then (noMe, 4) else (⟨x.bytes ++ zeroB m.toNat, growL x m⟩, 0)) else (noMe, 1)
theorem growL_len (x : Me) (m : Int) : (growL x m).length ≤ x.free.length + 1 := by
  unfold growL
  split
  · exact giveL_len _ _
  · omega
theorem growAt_in (x : Me) : 8 ≤ growAt x ∧ (x.bytes.size : Int) ≤ growAt x := by
  unfold growAt
  split <;> omega
theorem grow_taken {x : Me} (hok : memOk x = true) (p s : Int) (hp : (x.bytes.size : Int) ≤ p) : taken x.free p s := fun b hb ⟨_, h⟩ => by
  have := okFrom_mem (memOk_iff.1 hok).2 hb
  omega
end Go.Proofs.Ytoeofhhmkkpjbaa
