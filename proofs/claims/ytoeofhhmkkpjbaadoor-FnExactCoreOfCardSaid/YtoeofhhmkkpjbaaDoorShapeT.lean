/-
  The model's look whether a module is in order.
-/
import Derived.Test.YtoeofhhmkkpjbaaDoorShapeS
import Derived.BigQuiet
import Derived.Deep.RegionHeld3
namespace Go.Proofs.YtoeofhhmkkpjbaaDoor
open Go.ChangeShapes Go.WideShapes Go.ChangeAt Go.RowKit Go.Deep

theorem Ims.take {w : World} {lo : Nat} {xs : List Im} {R : Option Addr} (h : Ims w lo xs R) (k : Nat) : Ims w lo (xs.take k) R := fun hp => by
  have hl : 0 < xs.length := by rw [List.length_take] at hp; omega
  obtain ⟨b, o, e, hlo, hc⟩ := h hl
  refine ⟨b, o, e, hlo, fun i x hx => hc i x ?_⟩
  rw [List.getElem?_take] at hx
  split at hx
  · exact hx
  · cases hx
theorem Cos.take {w : World} {lo : Nat} {xs : List Co} {R : Option Addr} (h : Cos w lo xs R) (k : Nat) : Cos w lo (xs.take k) R := fun hp => by
  have hl : 0 < xs.length := by rw [List.length_take] at hp; omega
  obtain ⟨b, o, e, hlo, hc⟩ := h hl
  refine ⟨b, o, e, hlo, fun i x hx => hc i x ?_⟩
  rw [List.getElem?_take] at hx
  split at hx
  · exact hx
  · cases hx
/-- Not found among the first so many: just where none of them is it. -/
theorem ixGo_neg : ∀ (l : List ByteArray) (s : ByteArray) (j : Nat), ixGo l s j < 0 ↔ NotIn l l.length s
  | [], s, j => ⟨fun _ i t hi => by simp at hi, fun _ => by simp [ixGo]⟩
  | a :: l, s, j => by
    rw [ixGo]
    by_cases h : a = s
    · rw [if_pos h]
      exact ⟨fun e => by omega, fun e => absurd h (e 0 a (by simp) rfl)⟩
    · rw [if_neg h, ixGo_neg l s (j + 1)]
      constructor
      · intro e i t hi ht
        cases i with
        | zero => simp at ht; rw [← ht]; exact h
        | succ i => exact e i t (by simpa using hi) (by simpa using ht)
      · intro e i t hi ht
        exact e (i + 1) t (by simpa using hi) (by simpa using ht)
theorem notIn_take {l : List ByteArray} {k : Nat} {s : ByteArray} (hk : k ≤ l.length) : NotIn (l.take k) (l.take k).length s ↔ NotIn l k s := by
  have hl : (l.take k).length = k := by rw [List.length_take]; omega
  rw [hl]
  constructor
  · intro h i t hi ht
    exact h i t hi (by rw [List.getElem?_take, if_pos hi]; exact ht)
  · intro h i t hi ht
    rw [List.getElem?_take, if_pos hi] at ht
    exact h i t hi ht
theorem importAt_take (xs : List Im) (k : Nat) (hk : k ≤ xs.length) (s : ByteArray) (hl : xs.length ≤ 1048576) (R : Option Addr) (c lo : Nat) (w : World) (h : Ims w lo xs R) :
    Calls Tryd.prog 72 #[.slice R k c, .string s] w fun e w' => e = .returned (.int .i64 (ixGo ((xs.map Im.name).take k) s 0)) ∧ w = w' := by
  have h1 := l15ImportAt_any (xs.take k) s (by rw [List.length_take]; omega) R c lo w (h.take k)
  rw [List.length_take, Nat.min_eq_left hk, List.map_take] at h1
  exact h1
theorem coreAt_take (xs : List Co) (k : Nat) (hk : k ≤ xs.length) (s : ByteArray) (hl : xs.length ≤ 1048576) (R : Option Addr) (c lo : Nat) (w : World) (h : Cos w lo xs R) :
    Calls Tryd.prog 70 #[.slice R k c, .string s] w fun e w' => e = .returned (.int .i64 (ixGo ((xs.map Co.name).take k) s 0)) ∧ w = w' := by
  have h1 := l15CoreAt_any (xs.take k) s (by rw [List.length_take]; omega) R c lo w (h.take k)
  rw [List.length_take, Nat.min_eq_left hk, List.map_take] at h1
  exact h1
theorem belowN15 {W a : World} (h : Below W.heap.size W a) (n : Nat) : Below W.heap.size W (a.drewN n) := ⟨h.os, h.tape, h.output, h.size, h.block⟩
theorem below_drewN_alloc {W a : World} (h : Below W.heap.size W a) (n : Nat) (o : Obj) : Below W.heap.size W ((a.alloc o).drewN n) := belowN15 (h.alloc h.size _) n
/-- What the first loop has seen. -/
def ImTo (x : Mo) (k : Nat) : Prop := ¬ BadE imV x.imports k ∧ DistTo (imN x) k
def CoTo (x : Mo) (k : Nat) : Prop := ¬ BadE coV x.cores k ∧ DistTo (coN x) k
theorem ImTo.step {x : Mo} {k : Nat} {y : Im} (h : ImTo x k) (hy : x.imports[k]? = some y) (hv : imV y = true) (hn : ixGo ((imN x).take k) y.name 0 < 0) : ImTo x (k + 1) := by
  have hk : k < (imN x).length := by unfold imN; rw [List.length_map]; exact (List.getElem?_eq_some_iff.1 hy).1
  exact ⟨BadE.no_step h.1 hy hv, h.2.step (by unfold imN; rw [List.getElem?_map, hy]; rfl) ((notIn_take (by omega)).mp ((ixGo_neg _ _ _).mp hn))⟩
theorem CoTo.step {x : Mo} {k : Nat} {y : Co} (h : CoTo x k) (hy : x.cores[k]? = some y) (hv : coV y = true) (hn : ixGo ((coN x).take k) y.name 0 < 0) : CoTo x (k + 1) := by
  have hk : k < (coN x).length := by unfold coN; rw [List.length_map]; exact (List.getElem?_eq_some_iff.1 hy).1
  exact ⟨BadE.no_step h.1 hy hv, h.2.step (by unfold coN; rw [List.getElem?_map, hy]; rfl) ((notIn_take (by omega)).mp ((ixGo_neg _ _ _).mp hn))⟩
theorem shape_not_im {x : Mo} {k : Nat} {y : Im} (hy : x.imports[k]? = some y) (h : imV y = false ∨ ¬ ixGo ((imN x).take k) y.name 0 < 0) : ¬ ShapeP x := fun hs => by
  have hk : k < (imN x).length := by unfold imN; rw [List.length_map]; exact (List.getElem?_eq_some_iff.1 hy).1
  rcases h with h | h
  · have := List.all_eq_true.mp hs.2.2.2.1 y (List.mem_of_getElem? hy)
    rw [h] at this
    cases this
  · exact h ((ixGo_neg _ _ _).mpr ((notIn_take (by omega)).mpr (hs.2.2.2.2.2.1 k y.name hk (by unfold imN; rw [List.getElem?_map, hy]; rfl))))
theorem shape_not_co {x : Mo} {k : Nat} {y : Co} (hy : x.cores[k]? = some y) (h : coV y = false ∨ ¬ ixGo ((coN x).take k) y.name 0 < 0) : ¬ ShapeP x := fun hs => by
  have hk : k < (coN x).length := by unfold coN; rw [List.length_map]; exact (List.getElem?_eq_some_iff.1 hy).1
  rcases h with h | h
  · have := List.all_eq_true.mp hs.2.2.2.2.1 y (List.mem_of_getElem? hy)
    rw [h] at this
    cases this
  · exact h ((ixGo_neg _ _ _).mpr ((notIn_take (by omega)).mpr (hs.2.2.2.2.2.2 k y.name hk (by unfold coN; rw [List.getElem?_map, hy]; rfl))))
end Go.Proofs.YtoeofhhmkkpjbaaDoor
