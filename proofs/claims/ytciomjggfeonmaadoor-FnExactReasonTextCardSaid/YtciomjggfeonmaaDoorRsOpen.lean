/-
  An argument that is a reason, opened. No condition.
-/
import Derived.Test.YtciomjggfeonmaaDoorBase
import Derived.Deep.DeepHandedRow
import Derived.OpenShut
namespace Go.Proofs.YtciomjggfeonmaaDoor
open Go.ChangeShapes Go.WideShapes Go.ChangeAt Go.RowKit

section
variable {H : Type} {enc : TypeId × Value → H} {w : World} {base : Nat} {spare : Nat → Bool} {held : Bool}
theorem list2 {α : Type} {l : List α} (h : l.length = 2) : ∃ a b, l = [a, b] := by
  match l, h with
  | [a, b], _ => exact ⟨a, b, rfl⟩
theorem open_rs {fuel : Nat} {cs : List Value} {x : DataW H × List MemPlace} (h : DataW.trod enc Tryd.prog w base spare held fuel 23 cs = some x) :
    ∃ (k : Int) (p : ByteArray), cs = [.int .i64 k, .string p] ∧ True ∧ p.size ≤ maxLen := by
  have hC : Tryd.prog.cellsOf 23 = 2 := by kernel_rfl
  have k0 : Tryd.prog.cellsOf 2 = 1 := by kernel_rfl
  have k1 : Tryd.prog.cellsOf 9 = 1 := by kernel_rfl
  obtain ⟨xs, n, rfl, _, hl, hlen, hf⟩ := DataW.trod_struct Tryd.underlying23 h
  rw [hC] at hl
  have hlen' : xs.length = 2 := hlen
  obtain ⟨c0, c1, rfl⟩ := list2 hl
  obtain ⟨y0, y1, rfl⟩ := list2 hlen'
  clear hl hlen hlen'
  have f0 := hf 0 _ rfl
  have f1 := hf 1 _ rfl
  simp [k0, k1] at f0 f1
  obtain ⟨v0, e0, _, _⟩ := DataW.trod_int Tryd.underlying2 f0
  obtain ⟨v1, e1, _, w1⟩ := DataW.trod_string Tryd.underlying9 f1
  simp at e0 e1
  subst e0 e1
  exact ⟨v0, v1, rfl, trivial, w1⟩
end
end Go.Proofs.YtciomjggfeonmaaDoor
