/-
  StWSc, StWSSc: in one text.
-/
import Derived.Test.YtbjcldekapipaaaGreatDoorStSc
import Derived.Test.YtbjcldekapipaaaGreatDoorRowGen
import Derived.Test.YtbjcldekapipaaaGreatDoorStEx
namespace Go.Proofs.YtbjcldekapipaaaGreatDoor
open Go.ChangeShapes Go.WideShapes Go.ChangeAt Go.RowKit Go.Deep

theorem Sc.parts_le {x : Sc} (h : x.wt ≤ 1048576) : (x.name.size : Int) ≤ 1048576 ∧ (x.bytes.size : Int) ≤ 1048576 ∧ True := by
  unfold Sc.wt at h
  refine ⟨by omega, by omega, trivial⟩

/-- What copying leaves: the same in new memory. -/
def ToSectionPost (x : Sc) (w : World) (e : Ending) (w' : World) : Prop := e = .returned (.agg #[.int .i64 x.id, .string x.name, .string x.bytes]) ∧ True ∧ Below w.heap.size w w'
end Go.Proofs.YtbjcldekapipaaaGreatDoor

namespace Go.Proofs.YtbjcldekapipaaaGreatDoor
open Go.ChangeShapes Go.WideShapes Go.ChangeAt Go.RowKit Go.Deep


/-- One element in a row that is being made. -/
def Sc.El (_w : World) (lo : Nat) (f : Nat → Value) (x : Sc) : Prop := (f 0 = .int .i64 x.id ∧ f 1 = .string x.name ∧ f 2 = .string x.bytes) ∧ lo ≤ lo
theorem Sc.El.keep {w w' : World} {lo : Nat} {f : Nat → Value} {x : Sc} (_hk : KeptFrom lo w w') (h : Sc.El w lo f x) : Sc.El w' lo f x := by
  obtain ⟨hc, ht⟩ := h
  exact ⟨hc, ht⟩
theorem Scs.of_row {g : Nat} {xs : List Sc} {wr : World} (h : RowGen Sc.El 60 3 g xs.length xs.length xs wr) : Scs wr g xs (some ⟨g, 0, none⟩) := fun _ => by
  obtain ⟨f, hr, hf⟩ := h
  refine ⟨g, 0, rfl, Nat.le_refl _, fun i x hx => ?_⟩
  have hi := (List.getElem?_eq_some_iff.1 hx).1
  obtain ⟨⟨e0, e1, e2⟩, ht⟩ := hf i x hi hx
  rw [Nat.zero_add]
  exact ⟨by rw [hr.cell (by omega)]; exact congrArg some e0, by rw [hr.cell (by omega)]; exact congrArg some e1, by rw [hr.cell (by omega)]; exact congrArg some e2, Nat.le_refl _⟩
theorem infoSection : (Tryz.prog.info? 60).map (fun i => (i.zero, i.size, decide (i.bytes ≤ 4096))) = some (some (.agg #[.int .i64 0, .string ⟨#[]⟩, .string ⟨#[]⟩]), 3, true) := by kernel_rfl
end Go.Proofs.YtbjcldekapipaaaGreatDoor

