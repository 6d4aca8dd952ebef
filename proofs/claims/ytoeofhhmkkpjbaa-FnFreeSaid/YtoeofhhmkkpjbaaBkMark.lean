/-
  Rows of blocks that lie in a block of their own: marking one, asking a marked one.
-/
import Derived.Test.YtoeofhhmkkpjbaaStWMe
import Derived.Test.YtoeofhhmkkpjbaaTyOwn
namespace Go.Proofs.Ytoeofhhmkkpjbaa
open Go.ChangeShapes Go.WideShapes Go.ChangeAt Go.RowKit Go.Deep

/-- Nothing has turned but these blocks and new memory. -/
structure Kb (bs : List Nat) (w w' : World) : Prop where
  os : w'.os = w.os
  tape : w'.tape = w.tape
  output : w'.output = w.output
  but : KeptBut bs w w'
theorem Kb.refl (bs : List Nat) (w : World) : Kb bs w w := ⟨rfl, rfl, rfl, KeptBut.refl _ _⟩
theorem Kb.trans {bs : List Nat} {a b c : World} (h : Kb bs a b) (k : Kb bs b c) : Kb bs a c := ⟨k.os.trans h.os, k.tape.trans h.tape, k.output.trans h.output, h.but.trans k.but⟩
theorem Kb.of_below {bs : List Nat} {w w' : World} (h : Below w.heap.size w w') : Kb bs w w' := ⟨h.os, h.tape, h.output, KeptBut.of_below h⟩
theorem Kb.setCell {bs : List Nat} {w : World} {p : Addr} (hp : p.block ∈ bs) (v : Value) : Kb bs w (w.setCell p v) := ⟨rfl, rfl, rfl, KeptBut.setCell hp v⟩
theorem Kb.mono {bs cs : List Nat} {w w' : World} (h : Kb bs w w') (hs : ∀ b ∈ bs, b ∈ cs) : Kb cs w w' := ⟨h.os, h.tape, h.output, h.but.mono hs⟩
theorem Kb.below {bs : List Nat} {B : Nat} {w w' : World} (h : Kb bs w w') (hs : ∀ b ∈ bs, B ≤ b) (hB : B ≤ w.heap.size) : Below B w w' := ⟨h.os, h.tape, h.output, h.but.1, fun k hk => h.but.2 k (by omega) (fun hm => by have := hs k hm; omega)⟩
/-- The numbers lie from a plain block's start on. -/
def Nums (w : World) (P : List Int) (R : Option Addr) (g : Nat) : Prop := 0 < P.length → R = some ⟨g, 0, none⟩ ∧ Blk w g ∧ ∀ (i : Nat) (n : Int), P[i]? = some n → w.cell? ⟨g, i, none⟩ = some (.int .i64 n)
theorem Nums.same {w w' : World} {P : List Int} {R : Option Addr} {g : Nat} (h : Nums w P R g) (e : g < w.heap.size → w'.heap[g]? = w.heap[g]?) : Nums w' P R g := fun hp => by
  obtain ⟨h1, h2, h3⟩ := h hp
  have e := e h2.lt
  exact ⟨h1, h2.same e, fun i n hn => (World.cell?_of_block e).trans (h3 i n hn)⟩
theorem Nums.below {w w' : World} {P : List Int} {R : Option Addr} {g : Nat} (h : Nums w P R g) (hb : Below w.heap.size w w') : Nums w' P R g := h.same fun hl => hb.block g hl
theorem Nums.kb {w w' : World} {P : List Int} {R : Option Addr} {g : Nat} {bs : List Nat} (h : Nums w P R g) (hb : Kb bs w w') (hn : g < w.heap.size → g ∉ bs) : Nums w' P R g := h.same fun hl => hb.but.2 g hl (hn hl)
/-- So many numbers from one on. -/
def seqI (k n : Nat) : List Int := (List.range n).map fun i => ((k + i : Nat) : Int)
theorem seqI_len (k n : Nat) : (seqI k n).length = n := by simp [seqI]
theorem seqI_get {k n i : Nat} (h : i < n) : (seqI k n)[i]? = some ((k + i : Nat) : Int) := by simp [seqI, h]

theorem cell_two {w : World} {g i j : Nat} {u v x : Value} (h : w.cell? ⟨g, i, none⟩ = some x) (hj : w.cell? ⟨g, j, none⟩ = some u) : (w.setCell ⟨g, j, none⟩ v).cell? ⟨g, i, none⟩ = some (if i = j then v else x) := by
  by_cases e : i = j
  · subst e
    rw [if_pos rfl]
    exact World.cell?_setCell_same' w ⟨g, i, none⟩ v (by rw [hj]; rfl)
  · rw [if_neg e]
    exact (World.cell?_setCell_other _ _ _ _ (fun e2 => e (by injection e2 with _ e3; exact e3.symm))).trans h
theorem blk_set {w : World} {g : Nat} (h : Blk w g) (p : Addr) (v : Value) : Blk (w.setCell p v) g := by
  obtain ⟨c, t, hc⟩ := h
  by_cases e : p.block = g
  · subst e
    simp only [Blk, World.setCell, Array.getElem?_modify, if_pos, hc, Option.map_some]
    exact ⟨_, t, rfl⟩
  · refine ⟨c, t, ?_⟩
    simp [World.setCell, Array.getElem?_modify, e, hc]

end Go.Proofs.Ytoeofhhmkkpjbaa
