/-
  Plain facts of types' trees: depth, number of parts, what has a part of some kind. No condition.
-/
import Derived.Test.YtbjcldekapipaaaGreatDoorTy
namespace Go.Proofs.YtbjcldekapipaaaGreatDoor
open Go.ChangeShapes Go.WideShapes Go.ChangeAt Go.RowKit

mutual
def Ty.depth : Ty → Nat | .mk _ _ _ ks => 1 + Ty.depths ks
def Ty.depths : List Ty → Nat | [] => 0 | t :: ts => max t.depth (Ty.depths ts)
end
theorem Ty.size_eq (T : Ty) : T.size = 1 + Ty.sizes T.kids := by
  cases T
  rw [Ty.size]
  rfl
theorem Ty.depth_eq (T : Ty) : T.depth = 1 + Ty.depths T.kids := by
  cases T
  rw [Ty.depth]
  rfl
theorem Ty.sizes_append : ∀ xs ys : List Ty, Ty.sizes (xs ++ ys) = Ty.sizes xs + Ty.sizes ys
  | [], ys => by simp [Ty.sizes]
  | x :: xs, ys => by simp [Ty.sizes, Ty.sizes_append xs ys, Nat.add_assoc]
theorem Ty.depths_append : ∀ xs ys : List Ty, Ty.depths (xs ++ ys) = max (Ty.depths xs) (Ty.depths ys)
  | [], ys => by simp [Ty.depths]
  | x :: xs, ys => by simp [Ty.depths, Ty.depths_append xs ys, Nat.max_assoc]
theorem Ty.take_succ {ks : List Ty} {i : Nat} {t : Ty} (h : ks[i]? = some t) : ks.take (i + 1) = ks.take i ++ [t] := by
  obtain ⟨hi, rfl⟩ := List.getElem?_eq_some_iff.1 h
  rw [List.take_succ_eq_append_getElem hi]
theorem Ty.sizes_take {ks : List Ty} {i : Nat} {t : Ty} (h : ks[i]? = some t) : Ty.sizes (ks.take (i + 1)) = Ty.sizes (ks.take i) + t.size := by
  rw [Ty.take_succ h, Ty.sizes_append]
  simp [Ty.sizes]
theorem Ty.depths_take {ks : List Ty} {i : Nat} {t : Ty} (h : ks[i]? = some t) : Ty.depths (ks.take (i + 1)) = max (Ty.depths (ks.take i)) t.depth := by
  rw [Ty.take_succ h, Ty.depths_append]
  simp [Ty.depths]
theorem Ty.sizes_take_le (ks : List Ty) (i : Nat) : Ty.sizes (ks.take i) ≤ Ty.sizes ks := by
  have := Ty.sizes_append (ks.take i) (ks.drop i)
  rw [List.take_append_drop] at this
  omega
theorem Ty.depths_take_le (ks : List Ty) (i : Nat) : Ty.depths (ks.take i) ≤ Ty.depths ks := by
  have := Ty.depths_append (ks.take i) (ks.drop i)
  rw [List.take_append_drop] at this
  omega
theorem Ty.size_pos (T : Ty) : 1 ≤ T.size := by
  rw [Ty.size_eq]
  omega
theorem Ty.depth_pos (T : Ty) : 1 ≤ T.depth := by
  rw [Ty.depth_eq]
  omega
theorem Ty.length_le : ∀ ks : List Ty, ks.length ≤ Ty.sizes ks
  | [] => by simp
  | x :: xs => by
    have := Ty.length_le xs
    have := x.size_pos
    simp [Ty.sizes]
    omega
theorem Ty.depths_get : ∀ {ks : List Ty} {i : Nat} {t : Ty}, ks[i]? = some t → t.depth ≤ Ty.depths ks
  | x :: xs, 0, t, h => by
    simp at h
    subst h
    simp [Ty.depths]
    omega
  | x :: xs, i + 1, t, h => by
    have := Ty.depths_get (ks := xs) (i := i) (t := t) (by simpa using h)
    simp [Ty.depths]
    omega

/-- The tree is small enough, its root being at that level. -/
def Ty.fits (T : Ty) (d : Nat) : Prop := d + T.depth ≤ 5 ∧ T.size ≤ 24
instance (T : Ty) (d : Nat) : Decidable (T.fits d) := inferInstanceAs (Decidable (_ ∧ _))
theorem Ty.fits_kid {T t : Ty} {d i : Nat} (h : T.fits d) (ht : T.kids[i]? = some t) : t.fits (d + 1) := by
  have h1 := Ty.depths_get ht
  have h2 := Ty.sizes_get _ _ _ ht
  have h3 := T.depth_eq
  have h4 := T.size_eq
  unfold Ty.fits at *
  omega
/-- The kids fit, as far as they were looked at, and there are no more: the tree fits. -/
theorem Ty.fits_of {T : Ty} {d : Nat} (hd : d ≤ 4) (hk : T.kids = [] ∨ d + 1 + Ty.depths T.kids ≤ 5) (hs : 1 + Ty.sizes T.kids ≤ 24) : T.fits d := by
  have h3 := T.depth_eq
  have h4 := T.size_eq
  unfold Ty.fits
  rcases hk with hk | hk
  · rw [hk] at h3
    simp [Ty.depths] at h3
    omega
  · omega

mutual
/-- Some part's kind is one of these. -/
def Ty.has (p : Int → Bool) : Ty → Bool | .mk k _ _ ks => p k || Ty.hass p ks
def Ty.hass (p : Int → Bool) : List Ty → Bool | [] => false | t :: ts => t.has p || Ty.hass p ts
end
theorem Ty.has_eq (p : Int → Bool) (T : Ty) : T.has p = (p T.kind || Ty.hass p T.kids) := by
  cases T
  rw [Ty.has]
  rfl
theorem Ty.hass_append (p : Int → Bool) : ∀ xs ys : List Ty, Ty.hass p (xs ++ ys) = (Ty.hass p xs || Ty.hass p ys)
  | [], ys => by simp [Ty.hass]
  | x :: xs, ys => by simp [Ty.hass, Ty.hass_append p xs ys, Bool.or_assoc]
theorem Ty.hass_take {p : Int → Bool} {ks : List Ty} {i : Nat} {t : Ty} (h : ks[i]? = some t) : Ty.hass p (ks.take (i + 1)) = (Ty.hass p (ks.take i) || t.has p) := by
  rw [Ty.take_succ h, Ty.hass_append]
  simp [Ty.hass]
theorem Ty.hass_of_take {p : Int → Bool} {ks : List Ty} {i : Nat} (h : Ty.hass p (ks.take i) = true) : Ty.hass p ks = true := by
  have := Ty.hass_append p (ks.take i) (ks.drop i)
  rw [List.take_append_drop, h] at this
  simpa using this

mutual
/-- The parts, from left to right. -/
def Ty.parts : Ty → List Ty | .mk k n l ks => .mk k n l ks :: Ty.partss ks
def Ty.partss : List Ty → List Ty | [] => [] | t :: ts => t.parts ++ Ty.partss ts
end
theorem Ty.parts_eq (T : Ty) : T.parts = T :: Ty.partss T.kids := by
  cases T
  rw [Ty.parts]
  rfl
theorem Ty.partss_append : ∀ xs ys : List Ty, Ty.partss (xs ++ ys) = Ty.partss xs ++ Ty.partss ys
  | [], ys => by simp [Ty.partss]
  | x :: xs, ys => by simp [Ty.partss, Ty.partss_append xs ys, List.append_assoc]
theorem Ty.partss_take {ks : List Ty} {i : Nat} {t : Ty} (h : ks[i]? = some t) : Ty.partss (ks.take (i + 1)) = Ty.partss (ks.take i) ++ t.parts := by
  rw [Ty.take_succ h, Ty.partss_append]
  simp [Ty.partss]
theorem Ty.partss_length_of {ks : List Ty} (h : ∀ (i : Nat) (t : Ty), ks[i]? = some t → t.parts.length = t.size) : (Ty.partss ks).length = Ty.sizes ks := by
  induction ks with
  | nil => rfl
  | cons x xs ih =>
    simp only [Ty.partss, Ty.sizes, List.length_append]
    rw [h 0 x rfl, ih fun i t ht => h (i + 1) t (by simpa using ht)]
theorem Ty.parts_length : ∀ T : Ty, T.parts.length = T.size := by
  intro T
  induction T using Ty.kidInd with
  | h T ih =>
    rw [Ty.parts_eq, Ty.size_eq, List.length_cons, Ty.partss_length_of ih]
    omega
theorem Ty.partss_length (ks : List Ty) : (Ty.partss ks).length = Ty.sizes ks := Ty.partss_length_of fun _ t _ => t.parts_length
end Go.Proofs.YtbjcldekapipaaaGreatDoor
