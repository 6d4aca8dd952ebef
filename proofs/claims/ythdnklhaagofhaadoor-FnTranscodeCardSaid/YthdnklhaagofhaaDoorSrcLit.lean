/-
  A drawn text of a row of texts as the Go text spells it, a drawn number of a row of numbers: some text, some number.
-/
import Derived.Test.YthdnklhaagofhaaDoorSrcMore
import Derived.Deep.AppendLies
namespace Go.Proofs.YthdnklhaagofhaaDoor
open Go.ChangeShapes Go.WideShapes Go.ChangeAt Go.RowKit

/-- Some text, so long at most. -/
def SomeText (B n d m : Nat) (sv : Value) (W : World) (e : Ending) (W' : World) : Prop := ∃ (t : ByteArray) (n' : Nat), e = .returned (.string t) ∧ t.size ≤ m ∧ n' ≤ n + d ∧ SrcAt W' B n' sv ∧ KeepB B W W'
/-- Some number. -/
def SomeNum (B n d : Nat) (lo hi : Int) (sv : Value) (W : World) (e : Ending) (W' : World) : Prop := ∃ (x : Int) (n' : Nat), e = .returned (.int .i64 x) ∧ (lo ≤ x ∧ x ≤ hi) ∧ n' ≤ n + d ∧ SrcAt W' B n' sv ∧ KeepB B W W'
def okText (m : Nat) : Value → Bool
  | .string s => decide (s.size ≤ m)
  | _ => false
def okNum (lo hi : Int) : Value → Bool
  | .int .i64 x => decide (lo ≤ x ∧ x ≤ hi)
  | _ => false
theorem lit_cell (W : World) (cs : Array Value) (t : TypeId) (i : Nat) : (W.alloc (.cells cs t)).cell? ⟨W.heap.size, i, none⟩ = cs[i]? :=
  cell_of_row _ _ i cs t (0, 0) (heap_alloc_new W _)
theorem text_lit (B n : Nat) (hn : n ≤ 900000) (sv : Value) (m : Nat) (cs : Array Value) (t : TypeId) (k c : Nat) (hk : k = cs.size) (h1 : 1 ≤ cs.size) (h2 : cs.size ≤ 1000) (hok : cs.toList.all (okText m) = true) (W : World) (h : SrcAt W B n sv) :
    Calls Tryd.prog 56 #[.pointer (some ⟨B, 0, none⟩), .slice (some ⟨W.heap.size, 0, none⟩) k c] (W.alloc (.cells cs t)) (SomeText B n 2 m sv W) := by
  subst hk
  have hB := h.lt
  have hall : ∀ i, i < cs.size → ∃ s : ByteArray, cs[i]? = some (.string s) ∧ s.size ≤ m := fun i hi => by
    have hm : cs[i] ∈ cs.toList := by simp
    have := List.all_eq_true.1 hok _ hm
    rw [Array.getElem?_eq_getElem hi]
    cases e : cs[i] <;> rw [e] at this <;> simp [okText] at this
    exact ⟨_, rfl, this⟩
  have hcell : ∀ i, i < cs.size → (W.alloc (.cells cs t)).cell? ⟨W.heap.size, i, none⟩ = some (.string (match cs[i]? with | some (.string s) => s | _ => ByteArray.empty)) := fun i hi => by
    obtain ⟨s, hs, _⟩ := hall i hi
    have := lit_cell W cs t i
    rw [hs] at this ⊢
    exact this
  have hb : Below W.heap.size W (W.alloc (.cells cs t)) := below1 W (.cells cs t)
  refine (text_of B n hn sv W.heap.size cs.size c h1 h2 _ (by omega) _ hcell (h.below hb)).mono ?_
  rintro e W1 ⟨i, n', rfl, hi, hn', hs, ho⟩
  obtain ⟨s, hs2, hs3⟩ := hall i hi
  refine ⟨_, n', rfl, ?_, hn', hs, ((KeepB.refl B W).below hb (by omega)).trans ho.keep⟩
  dsimp only
  rw [hs2]
  exact hs3
theorem among_lit (B n : Nat) (hn : n ≤ 900000) (sv : Value) (lo hi : Int) (cs : Array Value) (t : TypeId) (k c : Nat) (hk : k = cs.size) (h1 : 1 ≤ cs.size) (h2 : cs.size ≤ 1000) (hok : cs.toList.all (okNum lo hi) = true) (W : World) (h : SrcAt W B n sv) :
    Calls Tryd.prog 93 #[.pointer (some ⟨B, 0, none⟩), .slice (some ⟨W.heap.size, 0, none⟩) k c] (W.alloc (.cells cs t)) (SomeNum B n 2 lo hi sv W) := by
  subst hk
  have hB := h.lt
  have hall : ∀ i, i < cs.size → ∃ x : Int, cs[i]? = some (.int .i64 x) ∧ lo ≤ x ∧ x ≤ hi := fun i hi' => by
    have hm : cs[i] ∈ cs.toList := by simp
    have := List.all_eq_true.1 hok _ hm
    rw [Array.getElem?_eq_getElem hi']
    revert this
    generalize cs[i] = v
    intro this
    unfold okNum at this
    split at this
    · exact ⟨_, rfl, of_decide_eq_true this⟩
    · cases this
  have hcell : ∀ i, i < cs.size → (W.alloc (.cells cs t)).cell? ⟨W.heap.size, i, none⟩ = some (.int .i64 (match cs[i]? with | some (.int .i64 x) => x | _ => 0)) := fun i hi' => by
    obtain ⟨s, hs, _⟩ := hall i hi'
    have := lit_cell W cs t i
    rw [hs] at this ⊢
    exact this
  have hb : Below W.heap.size W (W.alloc (.cells cs t)) := below1 W (.cells cs t)
  refine (among_of B n hn sv W.heap.size cs.size c h1 h2 _ (by omega) _ hcell (h.below hb)).mono ?_
  rintro e W1 ⟨i, n', rfl, hi', hn', hs, ho⟩
  obtain ⟨s, hs2, hs3⟩ := hall i hi'
  refine ⟨_, n', rfl, ?_, hn', hs, ((KeepB.refl B W).below hb (by omega)).trans ho.keep⟩
  dsimp only
  rw [hs2]
  exact hs3
end Go.Proofs.YthdnklhaagofhaaDoor
