/-
  The join of two rows of kinds, as a list. No condition.
-/
import Derived.Test.YtlmmbheamicdaabBase
namespace Go.Proofs.Ytlmmbheamicdaab

/-- The greater of both where both are, and what there is beyond. -/
def join6 : List Int → List Int → List Int
  | [], q => q
  | x :: p, [] => x :: p
  | x :: p, y :: q => max x y :: join6 p q
theorem join6_nil (p : List Int) : join6 p [] = p := by cases p <;> rfl
theorem join6_len : ∀ p q : List Int, (join6 p q).length = max p.length q.length
  | [], q => by simp [join6]
  | x :: p, [] => by simp [join6]
  | x :: p, y :: q => by simp only [join6, List.length_cons, join6_len p q]; omega
theorem join6_both : ∀ (p q : List Int) (k : Nat) (x y : Int), p[k]? = some x → q[k]? = some y → (join6 p q)[k]? = some (max x y)
  | [], _, _, _, _, h, _ => by simp at h
  | _ :: _, [], _, _, _, _, h => by simp at h
  | x :: p, y :: q, 0, a, b, h, h' => by
    simp at h h'
    subst h h'
    simp [join6]
  | x :: p, y :: q, k + 1, a, b, h, h' => by
    simp only [join6, List.getElem?_cons_succ] at h h' ⊢
    exact join6_both p q k a b h h'
theorem join6_left : ∀ (p q : List Int) (k : Nat) (x : Int), p[k]? = some x → q.length ≤ k → (join6 p q)[k]? = some x
  | [], _, _, _, h, _ => by simp at h
  | x :: p, [], k, a, h, _ => h
  | x :: p, y :: q, 0, a, h, h' => by simp at h'
  | x :: p, y :: q, k + 1, a, h, h' => by
    simp only [join6, List.getElem?_cons_succ] at h ⊢
    exact join6_left p q k a h (by simpa using h')
theorem join6_comm : ∀ p q : List Int, join6 p q = join6 q p
  | [], q => by rw [join6_nil]; rfl
  | x :: p, [] => rfl
  | x :: p, y :: q => by simp only [join6, join6_comm p q, Int.max_comm]
theorem join6_right (p q : List Int) (k : Nat) (y : Int) (h : q[k]? = some y) (hl : p.length ≤ k) : (join6 p q)[k]? = some y := by
  rw [join6_comm]
  exact join6_left q p k y h hl
theorem take_step {l : List Int} {k : Nat} {x : Int} (h : l[k]? = some x) : l.take (k + 1) = l.take k ++ [x] := by
  obtain ⟨h1, h2⟩ := List.getElem?_eq_some_iff.1 h
  rw [List.take_succ_eq_append_getElem h1, h2]
end Go.Proofs.Ytlmmbheamicdaab
