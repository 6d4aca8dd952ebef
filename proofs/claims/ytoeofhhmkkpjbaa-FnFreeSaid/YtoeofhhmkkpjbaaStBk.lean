/-
  Block by value and in slices: what it means that one lies in memory, and that it stays there. No condition.
-/
import Derived.Test.YtoeofhhmkkpjbaaStrsP
namespace Go.Proofs.Ytoeofhhmkkpjbaa
open Go.ChangeShapes Go.WideShapes Go.ChangeAt Go.RowKit Go.Deep

structure Bk where
  pos : Int
  size : Int
/-- The weight. -/
def Bk.wt (_ : Bk) : Int := 0
def Bk.wts : List Bk → Int | [] => 0 | x :: xs => x.wt + Bk.wts xs
theorem Bk.wt_nonneg (x : Bk) : 0 ≤ x.wt := by
  unfold Bk.wt
  omega
theorem Bk.wts_append : ∀ xs ys : List Bk, Bk.wts (xs ++ ys) = Bk.wts xs + Bk.wts ys
  | [], ys => by simp [Bk.wts]
  | x :: xs, ys => by
    simp only [List.cons_append, Bk.wts, Bk.wts_append xs ys]
    omega
theorem Bk.wts_nonneg : ∀ xs : List Bk, 0 ≤ Bk.wts xs
  | [] => by simp [Bk.wts]
  | x :: xs => by
    have h1 := x.wt_nonneg
    have h2 := Bk.wts_nonneg xs
    simp only [Bk.wts]
    omega
theorem Bk.wts_take {xs : List Bk} {i : Nat} {x : Bk} (h : xs[i]? = some x) : Bk.wts (xs.take (i + 1)) = Bk.wts (xs.take i) + x.wt := by
  obtain ⟨hi, rfl⟩ := List.getElem?_eq_some_iff.1 h
  rw [List.take_succ_eq_append_getElem hi, Bk.wts_append]
  simp [Bk.wts]
theorem Bk.wts_take_le (xs : List Bk) (i : Nat) : Bk.wts (xs.take i) ≤ Bk.wts xs := by
  have h := Bk.wts_append (xs.take i) (xs.drop i)
  rw [List.take_append_drop] at h
  have := Bk.wts_nonneg (xs.drop i)
  omega
theorem Bk.wt_mem {xs : List Bk} {i : Nat} {x : Bk} (h : xs[i]? = some x) : x.wt ≤ Bk.wts xs := by
  have h1 := Bk.wts_take h
  have h2 := Bk.wts_take_le xs (i + 1)
  have h3 := Bk.wts_nonneg (xs.take i)
  omega
/-- What a machine holds. -/
def Bk.Fin (x : Bk) : Prop := (-9223372036854775808 ≤ x.pos ∧ x.pos ≤ 9223372036854775807) ∧ (-9223372036854775808 ≤ x.size ∧ x.size ≤ 9223372036854775807)
/-- One element's cells. -/
structure Bk.Cells (w : World) (lo : Nat) (x : Bk) (b o : Nat)  : Prop where
  c0_ : w.cell? ⟨b, o, none⟩ = some (.int .i64 x.pos)
  c1_ : w.cell? ⟨b, o + 1, none⟩ = some (.int .i64 x.size)
  at_ : lo ≤ lo
theorem Bk.Cells.keep {w w' : World} {lo : Nat} {x : Bk} {b o : Nat}  (h : Bk.Cells w lo x b o ) (hk : KeptFrom lo w w') (hlo : lo ≤ b) : Bk.Cells w' lo x b o  :=
  ⟨hk _ _ hlo h.c0_, hk _ _ hlo h.c1_, Nat.le_refl _⟩
/-- A slice's elements lie in memory, no block of them below lo. -/
def Bks (w : World) (lo : Nat) (xs : List Bk) (R : Option Addr) : Prop := 0 < xs.length → ∃ b o : Nat, R = some ⟨b, o, none⟩ ∧ lo ≤ b ∧ ∀ (i : Nat) (x : Bk), xs[i]? = some x → Bk.Cells w lo x b (o + i * 2) 
theorem Bks.keep {w w' : World} {lo : Nat} {xs : List Bk} {R : Option Addr} (h : Bks w lo xs R) (hk : KeptFrom lo w w') : Bks w' lo xs R := fun hp => by
  obtain ⟨b, o, hb, hlo, hr⟩ := h hp
  refine ⟨b, o, hb, hlo, fun i x hx => ?_⟩
  have hc := hr i x hx
  exact hc.keep hk hlo
theorem Bks.low {w : World} {lo lo' : Nat} {xs : List Bk} {R : Option Addr} (h : Bks w lo xs R) (hl : lo' ≤ lo) : Bks w lo' xs R := fun hp => by
  obtain ⟨b, o, hb, hlo, hr⟩ := h hp
  refine ⟨b, o, hb, by omega, fun i x hx => ?_⟩
  have hc := hr i x hx
  exact ⟨hc.c0_, hc.c1_, Nat.le_refl _⟩
theorem Bks.below {w w' : World} {lo : Nat} {xs : List Bk} {R : Option Addr} (h : Bks w lo xs R) (hb : Below w.heap.size w w') : Bks w' lo xs R := h.keep (KeptFrom.below hb lo)
theorem Bks.at_ {w : World} {lo : Nat} {xs : List Bk} {R : Option Addr} (h : Bks w lo xs R) {k : Nat} (hk : k < xs.length) : ∃ (b o : Nat) (x : Bk), R = some ⟨b, o, none⟩ ∧ lo ≤ b ∧ xs[k]? = some x ∧ Bk.Cells w lo x b (o + k * 2)  := by
  obtain ⟨b, o, ha, hlo, hc⟩ := h (by omega)
  have hc := hc k _ (List.getElem?_eq_getElem hk)
  exact ⟨b, o, xs[k], ha, hlo, List.getElem?_eq_getElem hk, hc⟩
end Go.Proofs.Ytoeofhhmkkpjbaa
