/-
  An argument that is a list of numbers, opened. No condition.
-/
import Derived.Test.YtmnkkpahbmcekaaDoorI6
import Derived.Test.YtmnkkpahbmcekaaDoorListChoose
import Derived.ChangeSlices
import Derived.OpenShut
namespace Go.Proofs.YtmnkkpahbmcekaaDoor
open Go.ChangeShapes Go.WideShapes Go.ChangeAt Go.RowKit Go.Deep

section
variable {H : Type} {enc : TypeId × Value → H} {w : World} {base : Nat} {spare : Nat → Bool} {held : Bool}
theorem cells6 : Tryd.prog.cellsOf 2 = 1 := by kernel_rfl
theorem open_i6 {fuel : Nat} {cs : List Value} {x : DataW H × List MemPlace} (h : DataW.trod enc Tryd.prog w base spare held fuel 22 cs = some x) :
    ∃ (P : List Int) (R : Option Addr) (cap : Nat), cs = [.slice R P.length cap] ∧ Row6 w P R ∧ P.length ≤ maxLen ∧ ∀ n ∈ P, -9223372036854775808 ≤ n ∧ n ≤ 9223372036854775807 := by
  rcases open_ints Tryd.underlying22 Tryd.underlying2 cells6 h with ⟨e, _⟩ | ⟨a, len, cap, zs, e, _, hle, hcap, hzl, _, hc, hw⟩
  · exact ⟨[], none, 0, by rw [e]; rfl, fun h => absurd h (by simp), by simp, by simp⟩
  have hlz : len ≤ zs.length := by
    rw [hzl]
    split
    · exact hle
    · exact Nat.le_refl _
  have hpl : (zs.take len).length = len := by rw [List.length_take]; omega
  refine ⟨zs.take len, some a, cap, by rw [e, hpl], fun hp => ?_, by rw [hpl]; omega, fun n hn => wf_i64_bounds (hw n (List.mem_of_mem_take hn))⟩
  rw [hpl] at hp
  have h0 := hc 0 (by omega)
  have ha : a.add 0 = a := by unfold Addr.add; simp
  rw [ha] at h0
  have hpl2 := plain_cell h0
  refine ⟨a.block, a.off, by rw [← hpl2], fun i n hn => ?_⟩
  obtain ⟨hi, hi2⟩ := List.getElem?_eq_some_iff.1 hn
  rw [hpl] at hi
  have h1 := hc i (by omega)
  rw [hpl2, add_plain0] at h1
  have h2 : zs.getD i 0 = n := by
    rw [List.getElem_take] at hi2
    simp [List.getD, List.getElem?_eq_getElem (show i < zs.length by omega), hi2]
  rw [h2] at h1
  exact h1
end
end Go.Proofs.YtmnkkpahbmcekaaDoor
