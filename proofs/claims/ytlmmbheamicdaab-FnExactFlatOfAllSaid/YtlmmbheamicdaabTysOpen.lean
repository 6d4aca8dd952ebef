/-
  An argument that is a list of types, opened. No condition.
-/
import Derived.Test.YtlmmbheamicdaabTyOpen
import Derived.Test.YtlmmbheamicdaabTyW3
import Derived.Test.YtlmmbheamicdaabListChoose
import Derived.Deep.DeepHandedRow
import Derived.OpenShut
namespace Go.Proofs.Ytlmmbheamicdaab
open Go.ChangeShapes Go.WideShapes Go.ChangeAt Go.RowKit Go.Deep

section
variable {H : Type} {enc : TypeId × Value → H} {w : World} {base : Nat} {spare : Nat → Bool} {held : Bool}
theorem cellsTy4 : Try.prog.cellsOf 25 = 4 := by kernel_rfl
theorem open_tys {fuel : Nat} {cs : List Value} {x : DataW H × List MemPlace} (h : DataW.trod enc Try.prog w base spare held fuel 23 cs = some x) :
    ∃ (ks : List Ty) (R : Option Addr) (cap : Nat), cs = [.slice R ks.length cap] ∧ Ty.RowAt w 0 ks R ∧ ks.length ≤ maxLen ∧ ∀ t ∈ ks, t.Fin := by
  rcases DataW.trod_slice Try.underlying23 h with ⟨e, _⟩ | ⟨a, len, cap, elems, rest, m, hnm, e, _, _, hle, hcap, hel, hi, _, _⟩
  · exact ⟨[], none, 0, by rw [e]; rfl, fun h => absurd h (by simp), by simp, by simp⟩
  have each : ∀ i, i < len → ∃ t : Ty, (∃ A B ca cb, w.cell? (a.add (i * 4)) = some (.int .i64 t.kind) ∧ w.cell? (a.add (i * 4 + 1)) = some (.string t.name) ∧ w.cell? (a.add (i * 4 + 2)) = some (.slice A t.labels.length ca) ∧ w.cell? (a.add (i * 4 + 3)) = some (.slice B t.kids.length cb) ∧ Ty.At w 0 t A B) ∧ t.Fin := by
    intro i hil
    have h1 := hi i hil
    rw [List.getElem?_eq_getElem (by omega), cellsTy4] at h1
    obtain ⟨cs', hc, ht⟩ := Option.bind_eq_some_iff.1 h1
    obtain ⟨t, A, B, ca, cb, rfl, hat, hfin⟩ := open_ty _ ht
    obtain ⟨_, _, hcell⟩ := World.cells?_some hc
    have a0 := hcell 0 (by omega)
    have a1 := hcell 1 (by omega)
    have a2 := hcell 2 (by omega)
    have a3 := hcell 3 (by omega)
    simp only [Go.Deep.add_add] at a0 a1 a2 a3
    exact ⟨t, ⟨A, B, ca, cb, a0, a1, a2, a3, hat⟩, hfin⟩
  obtain ⟨ks, hks, hp⟩ := list_choose len each
  refine ⟨ks, some a, cap, by rw [e, hks], fun hpos => ?_, by omega, fun t ht => ?_⟩
  · obtain ⟨⟨_, _, _, _, h0, _⟩, _⟩ := hp 0 _ (List.getElem?_eq_getElem hpos)
    rw [Nat.zero_mul] at h0
    have ha : a.add 0 = a := by unfold Addr.add; simp
    rw [ha] at h0
    have hpl := plain_cell h0
    refine ⟨a.block, a.off, by rw [← hpl], Nat.zero_le _, fun i t hti => ?_⟩
    obtain ⟨⟨A, B, ca, cb, h1, h2, h3, h4, h5⟩, _⟩ := hp i t hti
    rw [hpl, add_plain0] at h1 h2 h3 h4
    exact ⟨A, B, ca, cb, h1, h2, h3, h4, h5⟩
  · obtain ⟨i, hi'⟩ := List.getElem?_of_mem ht
    exact (hp i t hi').2
end
end Go.Proofs.Ytlmmbheamicdaab
