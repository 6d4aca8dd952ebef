/-
  What a module in order is. No program is named.
-/
import Derived.Test.YtbjcldekapipaaaGreatDoorStMo
import Derived.Test.YtbjcldekapipaaaGreatDoorIns
import Derived.Test.YtbjcldekapipaaaGreatDoorWord
namespace Go.Proofs.YtbjcldekapipaaaGreatDoor
open Go.ChangeShapes Go.WideShapes Go.ChangeAt Go.RowKit

def inV (x : In) : Bool := insV x.op x.a
def imV (x : Im) : Bool := wordV x.name && decide (0 ≤ x.params ∧ x.params ≤ 8)
def coV (x : Co) : Bool := wordV x.name && (decide (0 ≤ x.params ∧ x.params ≤ 8) && (decide (0 ≤ x.locals ∧ x.locals ≤ 8) && (decide (x.code.length ≤ 120) && x.code.all inV)))
/-- One of the first so many is not in order. -/
def BadE {α : Type} (v : α → Bool) (xs : List α) (k : Nat) : Prop := ∃ (i : Nat) (x : α), i < k ∧ xs[i]? = some x ∧ v x = false
theorem BadE.no_step {α : Type} {v : α → Bool} {xs : List α} {k : Nat} {x : α} (h : ¬ BadE v xs k) (hx : xs[k]? = some x) (ho : v x = true) : ¬ BadE v xs (k + 1) := fun ⟨i, u, hi, hu, hno⟩ => by
  by_cases e : i = k
  · subst e
    rw [hx] at hu
    cases hu
    rw [ho] at hno
    cases hno
  · exact h ⟨i, u, by omega, hu, hno⟩
theorem BadE.not_all {α : Type} {v : α → Bool} {xs : List α} {k : Nat} (h : BadE v xs k) : ¬ xs.all v = true := fun ha => by
  obtain ⟨i, x, _, hx, hv⟩ := h
  have := List.all_eq_true.mp ha x (List.mem_of_getElem? hx)
  rw [hv] at this
  cases this
theorem BadE.all {α : Type} {v : α → Bool} {xs : List α} (h : ¬ BadE v xs xs.length) : xs.all v = true := by
  rw [List.all_eq_true]
  intro x hx
  obtain ⟨i, hi⟩ := List.getElem?_of_mem hx
  cases hv : v x with
  | true => rfl
  | false => exact absurd ⟨i, x, (List.getElem?_eq_some_iff.1 hi).1, hi, hv⟩ h
/-- No two of the first so many texts are alike. -/
def DistTo (ls : List ByteArray) (n : Nat) : Prop := ∀ (i : Nat) (s : ByteArray), i < n → ls[i]? = some s → ∀ (j : Nat) (t : ByteArray), j < i → ls[j]? = some t → t ≠ s
/-- None of the first so many is s. -/
def NotIn (ls : List ByteArray) (n : Nat) (s : ByteArray) : Prop := ∀ (j : Nat) (t : ByteArray), j < n → ls[j]? = some t → t ≠ s
theorem DistTo.step {ls : List ByteArray} {k : Nat} {s : ByteArray} (h : DistTo ls k) (hs : ls[k]? = some s) (ha : NotIn ls k s) : DistTo ls (k + 1) := fun i u hi hu => by
  by_cases e : i = k
  · subst e
    rw [hs] at hu
    cases hu
    exact ha
  · exact h i u (by omega) hu
theorem NotIn.step {ls : List ByteArray} {k : Nat} {s t : ByteArray} (h : NotIn ls k s) (ht : ls[k]? = some t) (hne : t ≠ s) : NotIn ls (k + 1) s := fun j u hj hu => by
  by_cases e : j = k
  · subst e
    rw [ht] at hu
    cases hu
    exact hne
  · exact h j u (by omega) hu
def imN (x : Mo) : List ByteArray := x.imports.map Im.name
def coN (x : Mo) : List ByteArray := x.cores.map Co.name
/-- A module in order. -/
def ShapeP (x : Mo) : Prop := (1 ≤ x.pages ∧ x.pages ≤ 16) ∧ x.imports.length ≤ 12 ∧ x.cores.length ≤ 8 ∧ x.imports.all imV = true ∧ x.cores.all coV = true ∧ DistTo (imN x) (imN x).length ∧ DistTo (coN x) (coN x).length
end Go.Proofs.YtbjcldekapipaaaGreatDoor
