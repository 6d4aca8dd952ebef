/-
  What a function over a memory starts with: the memory's box, the box of the answer; and how it ends.
-/
import Derived.Test.YtoeofhhmkkpjbaaMeCpI
import Derived.Test.YtoeofhhmkkpjbaaMemOkI
namespace Go.Proofs.Ytoeofhhmkkpjbaa
open Go.ChangeShapes Go.WideShapes Go.ChangeAt Go.RowKit Go.Deep

/-- Nothing has turned but new memory, of which there is some. -/
def Grew (w w' : World) : Prop := Below w.heap.size w w' ∧ w.heap.size < w'.heap.size
theorem Grew.drew {w w' : World} (h : Grew w w') : Grew w w'.drew := ⟨h.1.drew, h.2⟩
/-- An answer: a memory in memory of its own, and a number. -/
def MeAns2 (r : Me) (k : Int) (w : World) (e : Ending) (w' : World) : Prop := ∃ (R : Option Addr) (c : Nat), e = .returned (.tuple #[.agg #[.string r.bytes, .slice R r.free.length c], .int .i64 k]) ∧ OwnBk w' w.heap.size r.free R r.free.length c ∧ Grew w w'
/-- The same with two numbers. -/
def MeAns3 (r : Me) (k j : Int) (w : World) (e : Ending) (w' : World) : Prop := ∃ (R : Option Addr) (c : Nat), e = .returned (.tuple #[.agg #[.string r.bytes, .slice R r.free.length c], .int .i64 k, .int .i64 j]) ∧ OwnBk w' w.heap.size r.free R r.free.length c ∧ Grew w w'
/-- The two boxes. -/
structure Fr (w W : World) (x : Me) (R : Option Addr) (c : Nat) : Prop where
  k0 : W.cell? ⟨w.heap.size, 0, none⟩ = some (.string x.bytes)
  k1 : W.cell? ⟨w.heap.size, 1, none⟩ = some (.slice R x.free.length c)
  q0 : W.cell? ⟨w.heap.size + 1, 0, none⟩ = some (.string ⟨#[]⟩)
  q1 : W.cell? ⟨w.heap.size + 1, 1, none⟩ = some (.slice none 0 0)
  qf : ∀ o, W.frozen? ⟨w.heap.size + 1, o, none⟩ = false
  hb : Below w.heap.size w W
  hz : w.heap.size + 2 ≤ W.heap.size
theorem Fr.new (w : World) (x : Me) (R : Option Addr) (c : Nat) : Fr w ((w.alloc (.cells #[.string x.bytes, .slice R x.free.length c] 38)).alloc (.cells #[.string ⟨#[]⟩, .slice none 0 0] 38)) x R c :=
  ⟨by go_simp, by go_simp, by go_simp, by go_simp, (fun o => by go_simp), below2 _ _ _, by simp⟩
theorem Fr.belowB {w W W' : World} {x : Me} {R : Option Addr} {c B : Nat} (h : Fr w W x R c) (hb : Below B W W') (hB : w.heap.size + 2 ≤ B) : Fr w W' x R c :=
  ⟨(hb.cell (by dsimp only; omega)).trans h.k0, (hb.cell (by dsimp only; omega)).trans h.k1, (hb.cell (by dsimp only; omega)).trans h.q0, (hb.cell (by dsimp only; omega)).trans h.q1, fun o => (hb.frozen (by dsimp only; omega)).trans (h.qf o), h.hb.trans (hb.mono (by omega)), Nat.le_trans h.hz hb.size⟩
theorem Fr.below {w W W' : World} {x : Me} {R : Option Addr} {c : Nat} (h : Fr w W x R c) (hb : Below W.heap.size W W') : Fr w W' x R c := h.belowB hb h.hz
/-- The answer is stored. -/
theorem Fr.ret {w W : World} {x : Me} {R : Option Addr} {c : Nat} (h : Fr w W x R c) (v0 v1 : Value) :
    ((W.setCell ⟨w.heap.size + 1, 0, none⟩ v0).setCell ⟨w.heap.size + 1, 1, none⟩ v1).cell? ⟨w.heap.size + 1, 0, none⟩ = some v0 ∧
    ((W.setCell ⟨w.heap.size + 1, 0, none⟩ v0).setCell ⟨w.heap.size + 1, 1, none⟩ v1).cell? ⟨w.heap.size + 1, 1, none⟩ = some v1 ∧
    Grew w ((W.setCell ⟨w.heap.size + 1, 0, none⟩ v0).setCell ⟨w.heap.size + 1, 1, none⟩ v1) :=
  ⟨(setTwo7 h.q0 h.q1).1, (setTwo7 h.q0 h.q1).2, (h.hb.setCell (by dsimp only; omega) _).setCell (by dsimp only; omega) _, by have := h.hz; simp; omega⟩
theorem OwnBk.ret {w W : World} {xs : List Bk} {R : Option Addr} {n c : Nat} {base : Nat} (h : OwnBk W base xs R n c) (hb : w.heap.size + 2 ≤ base) (v0 v1 : Value) : OwnBk ((W.setCell ⟨w.heap.size + 1, 0, none⟩ v0).setCell ⟨w.heap.size + 1, 1, none⟩ v1) w.heap.size xs R n c :=
  (((h.far _ (by dsimp only; omega) _).far _ (by dsimp only; omega) _).down (by omega))
/-- A row of one's own, beyond the two boxes, stays where the answer is stored. -/
theorem OwnBk.up {w : World} {base b2 : Nat} {xs : List Bk} {R : Option Addr} {n c : Nat} (h : OwnBk w base xs R n c) (hb : ∀ k, (Value.slice R n c).ownBlock = some k → b2 ≤ k) : OwnBk w b2 xs R n c := by
  refine ⟨h.1, h.2.1, ?_⟩
  rcases h.2.2 with h2 | ⟨g, cap, cur, hv, hg, r⟩
  · exact Or.inl h2
  · exact Or.inr ⟨g, cap, cur, hv, hb g (by rw [hv]; rfl), r⟩
end Go.Proofs.Ytoeofhhmkkpjbaa
