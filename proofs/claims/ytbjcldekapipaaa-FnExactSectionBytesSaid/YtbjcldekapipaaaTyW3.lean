/-
  Walks of copying and comparing types' trees: the trees themselves.
-/
import Derived.Test.YtbjcldekapipaaaTyW2
import Derived.Laws.IdiomCopy
namespace Go.Proofs.Ytbjcldekapipaaa
open Go.ChangeShapes Go.WideShapes Go.ChangeAt Go.RowKit Go.Deep

theorem Ty.len_le {T : Ty} (h : T.wt ≤ 1048576) : T.labels.length ≤ 1048576 ∧ T.kids.length ≤ 1048576 ∧ (∀ (i : Nat) (t : Ty), T.kids[i]? = some t → t.wt ≤ 1048576) ∧ T.name.size ≤ 1048576 ∧ ∀ s ∈ T.labels, s.size ≤ 1048576 := by
  have h1 := T.wt_eq
  have h2 := sumSz_nonneg T.labels
  have h3 := Ty.wts_nonneg T.kids
  refine ⟨by omega, by omega, fun i t ht => ?_, by omega, fun s hs => ?_⟩
  · have h4 := Ty.wts_take ht
    have h5 := Ty.wts_take_le T.kids (i + 1)
    have h6 := Ty.wts_nonneg (T.kids.take i)
    omega
  · obtain ⟨i, hi⟩ := List.getElem?_of_mem hs
    have := sumSz_mem hi
    omega

theorem Ty.RowAt.low {w : World} {lo lo' : Nat} {ks : List Ty} {B : Option Addr} (h : Ty.RowAt w lo ks B) (hl : lo' ≤ lo) : Ty.RowAt w lo' ks B := fun hp => by
  obtain ⟨b, o, hb, hlo, hr⟩ := h hp
  refine ⟨b, o, hb, by omega, fun i t ht => ?_⟩
  obtain ⟨A', B', ca, cb, hc⟩ := hr i t ht
  exact ⟨A', B', ca, cb, hc.kind, hc.name, hc.labels, hc.kids, hc.tree.low hl⟩
theorem Ty.At.of_row {w : World} {lo : Nat} {T : Ty} {A B : Option Addr} (h1 : Strs w lo T.labels A) (h2 : Ty.RowAt w lo T.kids B) : Ty.At w lo T A B := Ty.At.mk' h1 fun hp => by
  obtain ⟨b, o, hb, hlo, hr⟩ := h2 hp
  refine ⟨b, o, hb, hlo, fun i t ht => ?_⟩
  rw [Nat.mul_comm 4 i]
  exact hr i t ht

/-- Four cells of a block, stored one behind the other. -/
theorem four_set (w : World) (b : Nat) (v0 v1 v2 v3 : Value) (h : ∀ j, j < 4 → (w.cell? ⟨b, j, none⟩).isSome = true) :
    ((((w.setCell ⟨b, 0, none⟩ v0).setCell ⟨b, 1, none⟩ v1).setCell ⟨b, 2, none⟩ v2).setCell ⟨b, 3, none⟩ v3).cell? ⟨b, 0, none⟩ = some v0 ∧
    ((((w.setCell ⟨b, 0, none⟩ v0).setCell ⟨b, 1, none⟩ v1).setCell ⟨b, 2, none⟩ v2).setCell ⟨b, 3, none⟩ v3).cell? ⟨b, 1, none⟩ = some v1 ∧
    ((((w.setCell ⟨b, 0, none⟩ v0).setCell ⟨b, 1, none⟩ v1).setCell ⟨b, 2, none⟩ v2).setCell ⟨b, 3, none⟩ v3).cell? ⟨b, 2, none⟩ = some v2 ∧
    ((((w.setCell ⟨b, 0, none⟩ v0).setCell ⟨b, 1, none⟩ v1).setCell ⟨b, 2, none⟩ v2).setCell ⟨b, 3, none⟩ v3).cell? ⟨b, 3, none⟩ = some v3 := by
  have k := World.cell?_setCells_in b [v0, v1, v2, v3] 0 w (fun j hj => by rw [Nat.zero_add]; exact h j hj)
  exact ⟨k 0 (by simp), k 1 (by simp), k 2 (by simp), k 3 (by simp)⟩

end Go.Proofs.Ytbjcldekapipaaa
