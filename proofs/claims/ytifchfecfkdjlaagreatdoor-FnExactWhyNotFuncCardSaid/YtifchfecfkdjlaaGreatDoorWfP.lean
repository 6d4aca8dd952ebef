/-
  Why one function type doesn't serve for another, as a pure function.
-/
import Derived.Test.YtifchfecfkdjlaaGreatDoorMG
import Derived.Test.YtifchfecfkdjlaaGreatDoorStWFn
namespace Go.Proofs.YtifchfecfkdjlaaGreatDoor
open Go.ChangeShapes Go.WideShapes Go.ChangeAt Go.RowKit Go.Deep

/-- A name in brackets, an arrow. -/
def sPar (s : ByteArray) : ByteArray := ⟨#[40]⟩ ++ s ++ ⟨#[41]⟩
def sArr : ByteArray := ⟨#[45, 62]⟩
def Fn.whyR (a b : Fn) : Option (Int × ByteArray) := match Ty.why 4 a.res b.res with
  | some x => preR sArr (some x)
  | none => if a.async = true ∧ b.async = false then some (8, ⟨#[]⟩) else none
def orR (r s : Option (Int × ByteArray)) : Option (Int × ByteArray) := match r with | some x => some x | none => s
def pmWhy (p q : Pm) : Option (Int × ByteArray) := if p.name = q.name then preR (sPar q.name) (Ty.why 4 q.ty p.ty) else some (7, sPar q.name)
def pmsWhy : List Pm → List Pm → Option (Int × ByteArray)
  | p :: ps, q :: qs => orR (pmWhy p q) (pmsWhy ps qs)
  | _, _ => none
def Fn.why (a b : Fn) : Option (Int × ByteArray) := if a.params.length = b.params.length then orR (pmsWhy a.params b.params) (a.whyR b) else some (7, ⟨#[]⟩)
/-- What a function in order gives. -/
def FnG (a : Fn) : Prop := a.wt ≤ 1048576 ∧ Gd 4 a.res ∧ ∀ p ∈ a.params, Gd 4 p.ty
theorem orR_assoc (r s t : Option (Int × ByteArray)) : orR (orR r s) t = orR r (orR s t) := by cases r <;> rfl
theorem orR_some (x : Int × ByteArray) (s : Option (Int × ByteArray)) : orR (some x) s = some x := rfl
theorem orR_none (s : Option (Int × ByteArray)) : orR none s = s := rfl
theorem pmsWhy_drop {ps qs : List Pm} {j : Nat} {p q : Pm} (hp : ps[j]? = some p) (hq : qs[j]? = some q) : pmsWhy (ps.drop j) (qs.drop j) = orR (pmWhy p q) (pmsWhy (ps.drop (j + 1)) (qs.drop (j + 1))) := by
  obtain ⟨h1, rfl⟩ := List.getElem?_eq_some_iff.1 hp
  obtain ⟨h2, rfl⟩ := List.getElem?_eq_some_iff.1 hq
  rw [List.drop_eq_getElem_cons h1, List.drop_eq_getElem_cons h2, pmsWhy]
theorem pmsWhy_end {ps qs : List Pm} : pmsWhy (ps.drop ps.length) qs = none := by
  rw [List.drop_length]
  rfl
theorem Fn.name_le {a : Fn} (h : a.wt ≤ 1048576) : a.params.length ≤ 1048576 ∧ ∀ (i : Nat) (p : Pm), a.params[i]? = some p → p.name.size ≤ 1048576 := by
  have h1 := Pm.wts_nonneg a.params
  have h2 := a.res.wt_nonneg
  unfold Fn.wt at h
  refine ⟨by omega, fun i p hp => ?_⟩
  have h3 := Pm.wt_mem hp
  have h4 := p.ty.wt_nonneg
  unfold Pm.wt at h3
  omega
end Go.Proofs.YtifchfecfkdjlaaGreatDoor
