/-
  Copying a memory: the copy's blocks lie in a block of their own.
-/
import Derived.Test.YtoeofhhmkkpjbaaMeFr
namespace Go.Proofs.Ytoeofhhmkkpjbaa
open Go.ChangeShapes Go.WideShapes Go.ChangeAt Go.RowKit Go.Deep

theorem nums_of_row7 {g : Nat} {xs : List Bk} {wr : World} (h : RowGen Bk.El 44 2 g xs.length xs.length xs wr) : ∃ g', g ≤ g' ∧ g' < wr.heap.size ∧ Nums wr (bkNums xs) (some ⟨g, 0, none⟩) g' := by
  obtain ⟨f, hr, hf⟩ := h
  refine ⟨g, Nat.le_refl _, hr.lt, fun _ => ⟨rfl, Blk.rowIs hr, fun i n hn => ?_⟩⟩
  have hi := (List.getElem?_eq_some_iff.1 hn).1
  rw [bkNums_len] at hi
  have hz : xs[i / 2]? = some (xs[i / 2]'(by omega)) := List.getElem?_eq_getElem _
  obtain ⟨g0, g1⟩ := bkNums_get hz
  obtain ⟨⟨e0, e1⟩, _⟩ := hf (i / 2) _ (by omega) hz
  rw [hr.cell (by omega)]
  rcases Nat.mod_two_eq_zero_or_one i with e | e
  · have e2 : i / 2 * 2 = i := by omega
    rw [e2, hn] at g0
    replace e0 : f (i / 2 * 2 + 0) = _ := e0
    rw [Nat.add_zero, e2] at e0
    rw [e0, Option.some.inj g0]
  · have e2 : i / 2 * 2 + 1 = i := by omega
    rw [e2, hn] at g1
    replace e1 : f (i / 2 * 2 + 1) = _ := e1
    rw [e2] at e1
    rw [e1, Option.some.inj g1]
/-- What copying leaves: the same in memory of its own. -/
def ToMemoryOwn (x : Me) (w : World) (e : Ending) (w' : World) : Prop := ∃ (Rfree : Option Addr) (cfree g : Nat), e = .returned (.agg #[.string x.bytes, .slice Rfree x.free.length cfree]) ∧ w.heap.size ≤ g ∧ g < w'.heap.size ∧ Nums w' (bkNums x.free) Rfree g ∧ Below w.heap.size w w'
theorem OwnBk.num2 {w : World} {base : Nat} {xs : List Bk} {R : Option Addr} {n c : Nat} (h : OwnBk w base xs R n c) (hz : base < w.heap.size) : ∃ g, base ≤ g ∧ g < w.heap.size ∧ Nums w (bkNums xs) R g := by
  obtain ⟨g, h1, h2, h3⟩ := h.nums
  by_cases hp : 0 < n
  · exact ⟨g, h1, h2 hp, h3⟩
  · refine ⟨base, Nat.le_refl _, hz, fun hp2 => ?_⟩
    rw [bkNums_len] at hp2
    have := h.1
    omega
theorem Nums.kbn {w w' : World} {P : List Int} {R : Option Addr} {g : Nat} {bs : List Nat} (h : Nums w P R g) (hb : Kb bs w w') (hn : 0 < P.length → g ∈ bs → False) : Nums w' P R g := fun hp => (h.kb hb (fun _ hm => hn hp hm)) hp
end Go.Proofs.Ytoeofhhmkkpjbaa
