/-
  What a call says: small words.
-/
import Derived.Test.YtbjcldekapipaaaGreatDoorStrsP
namespace Go.Proofs.YtbjcldekapipaaaGreatDoor
open Go.ChangeShapes Go.WideShapes Go.ChangeAt Go.RowKit

theorem text_neM {a b : ByteArray} (h : a ≠ b) : (a.toList == b.toList) = false := by
  rw [beq_eq_false_iff_ne]
  intro e
  apply h
  apply ByteArray.ext
  apply Array.toList_inj.mp
  rw [← ByteArray.toList_eq, ← ByteArray.toList_eq]
  exact e
theorem iffM_T {p : Prop} (h : p) : true = true ↔ p := ⟨fun _ => h, fun _ => rfl⟩
theorem iffM_F {p : Prop} (h : ¬ p) : false = true ↔ p := ⟨(by intro e; cases e), fun e => absurd e h⟩
/-- The call answers whether p. -/
def SaysM (p : Prop) (w : World) (e : Ending) (w' : World) : Prop := ∃ v : Bool, e = .returned (.bool v) ∧ (v = true ↔ p) ∧ Below w.heap.size w w'
theorem SaysM.yes {p : Prop} {w : World} {e : Ending} {w' : World} (h : SaysM p w e w') (hp : p) : e = .returned (.bool true) ∧ Below w.heap.size w w' := by
  obtain ⟨v, rfl, hv, hb⟩ := h
  exact ⟨by rw [hv.mpr hp], hb⟩
theorem SaysM.no {p : Prop} {w : World} {e : Ending} {w' : World} (h : SaysM p w e w') (hp : ¬ p) : e = .returned (.bool false) ∧ Below w.heap.size w w' := by
  obtain ⟨v, rfl, hv, hb⟩ := h
  cases v with
  | false => exact ⟨rfl, hb⟩
  | true => exact absurd (hv.mp rfl) hp
/-- The call answers an index, or -1, by whether p. -/
def IdxM (p : Prop) (w : World) (e : Ending) (w' : World) : Prop := ∃ v : Int, e = .returned (.int .i64 v) ∧ -1 ≤ v ∧ (0 ≤ v ↔ p) ∧ Below w.heap.size w w'
end Go.Proofs.YtbjcldekapipaaaGreatDoor
