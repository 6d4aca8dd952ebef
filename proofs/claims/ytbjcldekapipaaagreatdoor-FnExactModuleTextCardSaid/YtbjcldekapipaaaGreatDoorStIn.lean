/-
  Ins by value and in slices: what it means that one lies in memory, and that it stays there. No condition.
-/
import Derived.Test.YtbjcldekapipaaaGreatDoorStrsP
namespace Go.Proofs.YtbjcldekapipaaaGreatDoor
open Go.ChangeShapes Go.WideShapes Go.ChangeAt Go.RowKit Go.Deep

structure In where
  op : Int
  a : Int
/-- The weight. -/
def In.wt (_ : In) : Int := 0
def In.wts : List In → Int | [] => 0 | x :: xs => x.wt + In.wts xs
theorem In.wt_nonneg (x : In) : 0 ≤ x.wt := by
  unfold In.wt
  omega
theorem In.wts_append : ∀ xs ys : List In, In.wts (xs ++ ys) = In.wts xs + In.wts ys
  | [], ys => by simp [In.wts]
  | x :: xs, ys => by
    simp only [List.cons_append, In.wts, In.wts_append xs ys]
    omega
theorem In.wts_nonneg : ∀ xs : List In, 0 ≤ In.wts xs
  | [] => by simp [In.wts]
  | x :: xs => by
    have h1 := x.wt_nonneg
    have h2 := In.wts_nonneg xs
    simp only [In.wts]
    omega
theorem In.wts_take {xs : List In} {i : Nat} {x : In} (h : xs[i]? = some x) : In.wts (xs.take (i + 1)) = In.wts (xs.take i) + x.wt := by
  obtain ⟨hi, rfl⟩ := List.getElem?_eq_some_iff.1 h
  rw [List.take_succ_eq_append_getElem hi, In.wts_append]
  simp [In.wts]
theorem In.wts_take_le (xs : List In) (i : Nat) : In.wts (xs.take i) ≤ In.wts xs := by
  have h := In.wts_append (xs.take i) (xs.drop i)
  rw [List.take_append_drop] at h
  have := In.wts_nonneg (xs.drop i)
  omega
theorem In.wt_mem {xs : List In} {i : Nat} {x : In} (h : xs[i]? = some x) : x.wt ≤ In.wts xs := by
  have h1 := In.wts_take h
  have h2 := In.wts_take_le xs (i + 1)
  have h3 := In.wts_nonneg (xs.take i)
  omega
/-- What a machine holds. -/
def In.Fin (x : In) : Prop := (-9223372036854775808 ≤ x.op ∧ x.op ≤ 9223372036854775807) ∧ (-9223372036854775808 ≤ x.a ∧ x.a ≤ 9223372036854775807)
/-- One element's cells. -/
structure In.Cells (w : World) (lo : Nat) (x : In) (b o : Nat)  : Prop where
  c0_ : w.cell? ⟨b, o, none⟩ = some (.int .i64 x.op)
  c1_ : w.cell? ⟨b, o + 1, none⟩ = some (.int .i64 x.a)
  at_ : lo ≤ lo
theorem In.Cells.keep {w w' : World} {lo : Nat} {x : In} {b o : Nat}  (h : In.Cells w lo x b o ) (hk : KeptFrom lo w w') (hlo : lo ≤ b) : In.Cells w' lo x b o  :=
  ⟨hk _ _ hlo h.c0_, hk _ _ hlo h.c1_, Nat.le_refl _⟩
/-- A slice's elements lie in memory, no block of them below lo. -/
def Ins (w : World) (lo : Nat) (xs : List In) (R : Option Addr) : Prop := 0 < xs.length → ∃ b o : Nat, R = some ⟨b, o, none⟩ ∧ lo ≤ b ∧ ∀ (i : Nat) (x : In), xs[i]? = some x → In.Cells w lo x b (o + i * 2) 
theorem Ins.keep {w w' : World} {lo : Nat} {xs : List In} {R : Option Addr} (h : Ins w lo xs R) (hk : KeptFrom lo w w') : Ins w' lo xs R := fun hp => by
  obtain ⟨b, o, hb, hlo, hr⟩ := h hp
  refine ⟨b, o, hb, hlo, fun i x hx => ?_⟩
  have hc := hr i x hx
  exact hc.keep hk hlo
theorem Ins.low {w : World} {lo lo' : Nat} {xs : List In} {R : Option Addr} (h : Ins w lo xs R) (hl : lo' ≤ lo) : Ins w lo' xs R := fun hp => by
  obtain ⟨b, o, hb, hlo, hr⟩ := h hp
  refine ⟨b, o, hb, by omega, fun i x hx => ?_⟩
  have hc := hr i x hx
  exact ⟨hc.c0_, hc.c1_, Nat.le_refl _⟩
theorem Ins.below {w w' : World} {lo : Nat} {xs : List In} {R : Option Addr} (h : Ins w lo xs R) (hb : Below w.heap.size w w') : Ins w' lo xs R := h.keep (KeptFrom.below hb lo)
theorem Ins.at_ {w : World} {lo : Nat} {xs : List In} {R : Option Addr} (h : Ins w lo xs R) {k : Nat} (hk : k < xs.length) : ∃ (b o : Nat) (x : In), R = some ⟨b, o, none⟩ ∧ lo ≤ b ∧ xs[k]? = some x ∧ In.Cells w lo x b (o + k * 2)  := by
  obtain ⟨b, o, ha, hlo, hc⟩ := h (by omega)
  have hc := hc k _ (List.getElem?_eq_getElem hk)
  exact ⟨b, o, xs[k], ha, hlo, List.getElem?_eq_getElem hk, hc⟩
end Go.Proofs.YtbjcldekapipaaaGreatDoor
