/-
  The walk of the model's WriteMem.
-/
import Derived.Test.YtoeofhhmkkpjbaaMeWrI
import Derived.IntWalk
namespace Go.Proofs.Ytoeofhhmkkpjbaa
open Go.ChangeShapes Go.WideShapes Go.ChangeAt Go.RowKit Go.Deep

/-- A string cut at its head, at its end. -/
theorem cutHead7 (s : ByteArray) (p : Nat) (h : p ≤ s.size) (W : World) : (Instr.slice 9 (.string s) none (some (.int .i64 (p : Int))) none).run Try.prog W = .ok (.string (s.extract 0 p)) W := by
  simp [Instr.slice, run_underlying Try.underlying9, Instr.sliceBounds, run_sliceBound, show (p : Int) ≤ (s.size : Int) by omega]
theorem cutEnd7 (s : ByteArray) (p n : Nat) (h : p + n ≤ s.size) (W : World) : (Instr.slice 9 (.string s) (some (.int .i64 ((p : Int) + (n : Int)))) none none).run Try.prog W = .ok (.string (s.extract (p + n) s.size)) W := by
  simp [Instr.slice, run_underlying Try.underlying9, Instr.sliceBounds, run_sliceBound, show (p : Int) + (n : Int) ≤ (s.size : Int) by omega, show (0 : Int) ≤ (p : Int) + (n : Int) by omega]
  rw [show ((p : Int) + (n : Int)).toNat = p + n by omega]
theorem noMe_wt0 : noMe.wt ≤ 1048576 ∧ noMe.free.length ≤ 262144 := by
  simp [noMe, Me.wt, Bk.wts, ByteArray.size]
theorem pureWriteMem_len (x : Me) (hT : x.wt ≤ 1048576) (_hfin : x.Fin) (p : Int) (t : ByteArray) : (memWrite x p t).1.wt ≤ 1048576 ∧ (memWrite x p t).1.free.length ≤ 262144 := by
  unfold memWrite
  by_cases hok : memOk x = true
  · rw [if_pos hok]
    have h1 := memOk_len hok
    by_cases hi : 0 ≤ p ∧ 0 ≤ (t.size : Int) ∧ (t.size : Int) ≤ (x.bytes.size : Int) - p
    · rw [if_pos hi]
      unfold Me.wt at hT ⊢
      simp only
      rw [putOver_size (by omega)]
      exact ⟨hT, by omega⟩
    · rw [if_neg hi]
      exact noMe_wt0
  · rw [if_neg hok]
    exact noMe_wt0
end Go.Proofs.Ytoeofhhmkkpjbaa
