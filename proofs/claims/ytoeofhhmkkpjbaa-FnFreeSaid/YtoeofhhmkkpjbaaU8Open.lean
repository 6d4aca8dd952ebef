/-
  An argument that is a list of bytes, opened: the drawing source can read it. No condition.
-/
import Derived.Test.YtoeofhhmkkpjbaaMSrc
import Derived.Test.YtoeofhhmkkpjbaaListChoose
import Derived.ChangeSlices
import Derived.OpenShut
namespace Go.Proofs.Ytoeofhhmkkpjbaa
open Go.ChangeShapes Go.WideShapes Go.ChangeAt Go.RowKit

section
variable {H : Type} {enc : TypeId × Value → H} {w : World} {base : Nat} {spare : Nat → Bool} {held : Bool}
theorem wf_u8_bounds7 {a : Int} (h : (Lit.int .u8 a).wf = true) : 0 ≤ a ∧ a ≤ 255 := by
  simpa [Lit.wf, IntKind.min, IntKind.max, IntKind.signed, IntKind.bits] using h
theorem cellsU8 : Try.prog.cellsOf 5 = 1 := by kernel_rfl
theorem open_u8 {fuel : Nat} {R : Option Addr} {m c : Nat} {x : DataW H × List MemPlace} (h : DataW.trod enc Try.prog w base spare held fuel 34 [.slice R m c] = some x) :
    CodeOk w (.slice R m c) ∧ m ≤ maxLen := by
  rcases open_ints Try.underlying34 Try.underlying5 cellsU8 h with ⟨e, _⟩ | ⟨a, len, cap, zs, e, _, hle, hcap, hzl, _, hc, hw⟩
  · obtain ⟨rfl, rfl, rfl⟩ : R = none ∧ m = 0 ∧ c = 0 := by simpa using e
    exact ⟨Or.inl ⟨_, _, rfl⟩, by simp⟩
  obtain ⟨rfl, rfl, rfl⟩ : R = some a ∧ m = len ∧ c = cap := by simpa using e
  have hlz : m ≤ zs.length := by
    rw [hzl]
    split
    · exact hle
    · exact Nat.le_refl _
  refine ⟨?_, by omega⟩
  by_cases hm : m = 0
  · exact Or.inl ⟨_, _, by rw [hm]⟩
  · have h0 := hc 0 (by omega)
    have ha : a.add 0 = a := by unfold Addr.add; simp
    rw [ha] at h0
    have hpl2 := plain_cell h0
    refine Or.inr ⟨a.block, a.off, m, c, by rw [← hpl2], fun _ => ?_, by unfold maxLen at hcap; omega, fun i hi => ?_⟩
    · by_cases hl : a.block < w.heap.size
      · exact hl
      · have hn : w.heap[a.block]? = none := Array.getElem?_eq_none (by omega)
        simp [World.cell?, hn] at h0
    · have h1 := hc i (by omega)
      rw [hpl2, add_plain0] at h1
      have hwf := hw (zs.getD i 0) (by
        rw [List.getD_eq_getElem?_getD, List.getElem?_eq_getElem (show i < zs.length by omega)]
        exact List.getElem_mem _)
      have hb := wf_u8_bounds7 hwf
      exact ⟨zs.getD i 0, hb.1, by omega, h1⟩
end
end Go.Proofs.Ytoeofhhmkkpjbaa
