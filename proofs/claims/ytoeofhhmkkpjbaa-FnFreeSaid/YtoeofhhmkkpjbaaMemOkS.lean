/-
  The model's MemoryOk walks as memOk says.
-/
import Derived.Test.YtoeofhhmkkpjbaaMemPure
import Derived.Test.YtoeofhhmkkpjbaaStWMe
namespace Go.Proofs.Ytoeofhhmkkpjbaa
open Go.ChangeShapes Go.WideShapes Go.ChangeAt Go.RowKit Go.Deep

theorem memOk_no {x : Me} (h : ¬ (x.bytes.size : Int) ≤ 4096) : memOk x = false := by
  unfold memOk
  simp [h]
theorem memOk_no_len {x : Me} (h : ¬ x.free.length ≤ 4096) : memOk x = false := by
  cases e : memOk x with
  | false => rfl
  | true => exact absurd (memOk_len e) h
theorem memOk_at {x : Me} {k : Nat} {last : Int} (hb : (x.bytes.size : Int) ≤ 4096) (h : okFrom x.bytes.size 7 x.free = okFrom x.bytes.size last (x.free.drop k)) : memOk x = okFrom x.bytes.size last (x.free.drop k) := by
  unfold memOk
  simp [hb, h]
theorem okFrom_bad {n last : Int} {xs : List Bk} {k : Nat} {b : Bk} (hk : xs[k]? = some b) (h : ¬ (1 ≤ b.size ∧ last < b.pos ∧ b.pos ≤ n ∧ b.size ≤ n - b.pos)) : okFrom n last (xs.drop k) = false := by
  rw [drop_cons hk]
  simp only [okFrom, decide_eq_false h, Bool.false_and]
theorem okFrom_good {n last : Int} {xs : List Bk} {k : Nat} {b : Bk} (hk : xs[k]? = some b) (h : 1 ≤ b.size ∧ last < b.pos ∧ b.pos ≤ n ∧ b.size ≤ n - b.pos) : okFrom n last (xs.drop k) = okFrom n (b.pos + b.size) (xs.drop (k + 1)) := by
  rw [drop_cons hk]
  simp only [okFrom, decide_eq_true h, Bool.true_and]

end Go.Proofs.Ytoeofhhmkkpjbaa
