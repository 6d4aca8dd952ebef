/-
  Walks of measuring, copying and comparing slices of Block.
-/
import Derived.Test.YtoeofhhmkkpjbaaStWBk
namespace Go.Proofs.Ytoeofhhmkkpjbaa
open Go.ChangeShapes Go.WideShapes Go.ChangeAt Go.RowKit Go.Deep


theorem Bk.wts_zero : ∀ xs : List Bk, Bk.wts xs = 0
  | [] => rfl
  | x :: xs => by
    have h := Bk.wts_zero xs
    have h2 : x.wt = 0 := rfl
    simp only [Bk.wts]
    omega
/-- One element in a row that is being made. -/
def Bk.El (_ : World) (lo : Nat) (f : Nat → Value) (x : Bk) : Prop := (f 0 = .int .i64 x.pos ∧ f 1 = .int .i64 x.size) ∧ lo ≤ lo
theorem Bk.El.keep {w w' : World} {lo : Nat} {f : Nat → Value} {x : Bk} (_hk : KeptFrom lo w w') (h : Bk.El w lo f x) : Bk.El w' lo f x := by
  obtain ⟨hc, ht⟩ := h
  exact ⟨hc, ht⟩
theorem Bks.of_row {g : Nat} {xs : List Bk} {wr : World} (h : RowGen Bk.El 44 2 g xs.length xs.length xs wr) : Bks wr g xs (some ⟨g, 0, none⟩) := fun _ => by
  obtain ⟨f, hr, hf⟩ := h
  refine ⟨g, 0, rfl, Nat.le_refl _, fun i x hx => ?_⟩
  have hi := (List.getElem?_eq_some_iff.1 hx).1
  obtain ⟨⟨e0, e1⟩, ht⟩ := hf i x hi hx
  rw [Nat.zero_add]
  exact ⟨by rw [hr.cell (by omega)]; exact congrArg some e0, by rw [hr.cell (by omega)]; exact congrArg some e1, Nat.le_refl _⟩
theorem infoBlock : (Try.prog.info? 44).map (fun i => (i.zero, i.size, decide (i.bytes ≤ 4096))) = some (some (.agg #[.int .i64 0, .int .i64 0]), 2, true) := by kernel_rfl
end Go.Proofs.Ytoeofhhmkkpjbaa
