/-
  Int64 by value and in slices: what it means that one lies in memory, and that it stays there. No condition.
-/
import Derived.Test.YtbjcldekapipaaaStrsP
namespace Go.Proofs.Ytbjcldekapipaaa
open Go.ChangeShapes Go.WideShapes Go.ChangeAt Go.RowKit Go.Deep

structure Iv where
  n : Int
/-- The weight. -/
def Iv.wt (_ : Iv) : Int := 0
def Iv.wts : List Iv → Int | [] => 0 | x :: xs => x.wt + Iv.wts xs
theorem Iv.wt_nonneg (x : Iv) : 0 ≤ x.wt := by
  unfold Iv.wt
  omega
theorem Iv.wts_append : ∀ xs ys : List Iv, Iv.wts (xs ++ ys) = Iv.wts xs + Iv.wts ys
  | [], ys => by simp [Iv.wts]
  | x :: xs, ys => by
    simp only [List.cons_append, Iv.wts, Iv.wts_append xs ys]
    omega
theorem Iv.wts_nonneg : ∀ xs : List Iv, 0 ≤ Iv.wts xs
  | [] => by simp [Iv.wts]
  | x :: xs => by
    have h1 := x.wt_nonneg
    have h2 := Iv.wts_nonneg xs
    simp only [Iv.wts]
    omega
theorem Iv.wts_take {xs : List Iv} {i : Nat} {x : Iv} (h : xs[i]? = some x) : Iv.wts (xs.take (i + 1)) = Iv.wts (xs.take i) + x.wt := by
  obtain ⟨hi, rfl⟩ := List.getElem?_eq_some_iff.1 h
  rw [List.take_succ_eq_append_getElem hi, Iv.wts_append]
  simp [Iv.wts]
theorem Iv.wts_take_le (xs : List Iv) (i : Nat) : Iv.wts (xs.take i) ≤ Iv.wts xs := by
  have h := Iv.wts_append (xs.take i) (xs.drop i)
  rw [List.take_append_drop] at h
  have := Iv.wts_nonneg (xs.drop i)
  omega
theorem Iv.wt_mem {xs : List Iv} {i : Nat} {x : Iv} (h : xs[i]? = some x) : x.wt ≤ Iv.wts xs := by
  have h1 := Iv.wts_take h
  have h2 := Iv.wts_take_le xs (i + 1)
  have h3 := Iv.wts_nonneg (xs.take i)
  omega
/-- What a machine holds. -/
def Iv.Fin (x : Iv) : Prop := (-9223372036854775808 ≤ x.n ∧ x.n ≤ 9223372036854775807)
/-- One element's cells. -/
structure Iv.Cells (w : World) (lo : Nat) (x : Iv) (b o : Nat)  : Prop where
  c0_ : w.cell? ⟨b, o, none⟩ = some (.int .i64 x.n)
  at_ : lo ≤ lo
theorem Iv.Cells.keep {w w' : World} {lo : Nat} {x : Iv} {b o : Nat}  (h : Iv.Cells w lo x b o ) (hk : KeptFrom lo w w') (hlo : lo ≤ b) : Iv.Cells w' lo x b o  :=
  ⟨hk _ _ hlo h.c0_, Nat.le_refl _⟩
/-- A slice's elements lie in memory, no block of them below lo. -/
def Ivs (w : World) (lo : Nat) (xs : List Iv) (R : Option Addr) : Prop := 0 < xs.length → ∃ b o : Nat, R = some ⟨b, o, none⟩ ∧ lo ≤ b ∧ ∀ (i : Nat) (x : Iv), xs[i]? = some x → Iv.Cells w lo x b (o + i) 
theorem Ivs.keep {w w' : World} {lo : Nat} {xs : List Iv} {R : Option Addr} (h : Ivs w lo xs R) (hk : KeptFrom lo w w') : Ivs w' lo xs R := fun hp => by
  obtain ⟨b, o, hb, hlo, hr⟩ := h hp
  refine ⟨b, o, hb, hlo, fun i x hx => ?_⟩
  have hc := hr i x hx
  exact hc.keep hk hlo
theorem Ivs.low {w : World} {lo lo' : Nat} {xs : List Iv} {R : Option Addr} (h : Ivs w lo xs R) (hl : lo' ≤ lo) : Ivs w lo' xs R := fun hp => by
  obtain ⟨b, o, hb, hlo, hr⟩ := h hp
  refine ⟨b, o, hb, by omega, fun i x hx => ?_⟩
  have hc := hr i x hx
  exact ⟨hc.c0_, Nat.le_refl _⟩
theorem Ivs.below {w w' : World} {lo : Nat} {xs : List Iv} {R : Option Addr} (h : Ivs w lo xs R) (hb : Below w.heap.size w w') : Ivs w' lo xs R := h.keep (KeptFrom.below hb lo)
theorem Ivs.at_ {w : World} {lo : Nat} {xs : List Iv} {R : Option Addr} (h : Ivs w lo xs R) {k : Nat} (hk : k < xs.length) : ∃ (b o : Nat) (x : Iv), R = some ⟨b, o, none⟩ ∧ lo ≤ b ∧ xs[k]? = some x ∧ Iv.Cells w lo x b (o + k)  := by
  obtain ⟨b, o, ha, hlo, hc⟩ := h (by omega)
  have hc := hc k _ (List.getElem?_eq_getElem hk)
  exact ⟨b, o, xs[k], ha, hlo, List.getElem?_eq_getElem hk, hc⟩
end Go.Proofs.Ytbjcldekapipaaa
