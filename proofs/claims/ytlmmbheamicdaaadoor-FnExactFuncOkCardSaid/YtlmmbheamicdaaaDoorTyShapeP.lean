/-
  What a type's own fields must be. No condition.
-/
import Derived.Test.YtlmmbheamicdaaaDoorTyName
namespace Go.Proofs.YtlmmbheamicdaaaDoor
open Go.ChangeShapes Go.WideShapes Go.ChangeAt Go.RowKit Go.Deep

def IsRes (k : Int) : Prop := k = 20 ∨ k = 21
def IsLab (k : Int) : Prop := 16 ≤ k ∧ k ≤ 19
def HeadOk (T : Ty) : Prop := (IsRes T.kind → nmB T.name = true) ∧ (¬ IsRes T.kind → T.name.size = 0) ∧ (IsLab T.kind → LabelsOk T.labels) ∧ (¬ IsLab T.kind → T.labels.length = 0)
def BodyOk (T : Ty) : Prop :=
  if T.kind = 12 ∨ T.kind = 13 then T.kids.length = 1 ∧ ¬ UnitIn T.kids T.kids.length
  else if T.kind = 22 ∨ T.kind = 23 then T.kids.length = 1 ∧ ∀ t, T.kids[0]? = some t → t.has (inB 21 21) = false
  else if T.kind = 14 then T.kids.length = 2
  else if T.kind = 15 then (1 ≤ T.kids.length ∧ T.kids.length ≤ 6) ∧ ¬ UnitIn T.kids T.kids.length
  else if T.kind = 16 then T.kids.length = T.labels.length ∧ ¬ UnitIn T.kids T.kids.length
  else if T.kind = 17 then T.kids.length = T.labels.length
  else (1 ≤ T.kind ∧ T.kind ≤ 23) ∧ T.kids.length = 0
/-- A type's own fields are as the table asks. -/
def ShapeOk (T : Ty) : Prop := HeadOk T ∧ BodyOk T

theorem Ty.kid0 {T : Ty} (h : T.kids.length = 1) (p : Int → Bool) : (∀ t, T.kids[0]? = some t → t.has p = true) ∨ ∀ t, T.kids[0]? = some t → t.has p = false := by
  have h0 : T.kids[0]? = some (T.kids[0]'(by omega)) := List.getElem?_eq_getElem (by omega)
  cases hv : (T.kids[0]'(by omega)).has p with
  | true => exact Or.inl fun t ht => by rw [h0] at ht; cases ht; exact hv
  | false => exact Or.inr fun t ht => by rw [h0] at ht; cases ht; exact hv
end Go.Proofs.YtlmmbheamicdaaaDoor
