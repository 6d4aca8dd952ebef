/-
  Import by value and in slices: what it means that one lies in memory, and that it stays there. No condition.
-/
import Derived.Test.YtbjcldekapipaaaGreatDoorStrsP
namespace Go.Proofs.YtbjcldekapipaaaGreatDoor
open Go.ChangeShapes Go.WideShapes Go.ChangeAt Go.RowKit Go.Deep

structure Im where
  name : ByteArray
  params : Int
  result : Bool
/-- The weight. -/
def Im.wt (x : Im) : Int := (x.name.size : Int)
def Im.wts : List Im → Int | [] => 0 | x :: xs => x.wt + Im.wts xs
theorem Im.wt_nonneg (x : Im) : 0 ≤ x.wt := by
  unfold Im.wt
  omega
theorem Im.wts_append : ∀ xs ys : List Im, Im.wts (xs ++ ys) = Im.wts xs + Im.wts ys
  | [], ys => by simp [Im.wts]
  | x :: xs, ys => by
    simp only [List.cons_append, Im.wts, Im.wts_append xs ys]
    omega
theorem Im.wts_nonneg : ∀ xs : List Im, 0 ≤ Im.wts xs
  | [] => by simp [Im.wts]
  | x :: xs => by
    have h1 := x.wt_nonneg
    have h2 := Im.wts_nonneg xs
    simp only [Im.wts]
    omega
theorem Im.wts_take {xs : List Im} {i : Nat} {x : Im} (h : xs[i]? = some x) : Im.wts (xs.take (i + 1)) = Im.wts (xs.take i) + x.wt := by
  obtain ⟨hi, rfl⟩ := List.getElem?_eq_some_iff.1 h
  rw [List.take_succ_eq_append_getElem hi, Im.wts_append]
  simp [Im.wts]
theorem Im.wts_take_le (xs : List Im) (i : Nat) : Im.wts (xs.take i) ≤ Im.wts xs := by
  have h := Im.wts_append (xs.take i) (xs.drop i)
  rw [List.take_append_drop] at h
  have := Im.wts_nonneg (xs.drop i)
  omega
theorem Im.wt_mem {xs : List Im} {i : Nat} {x : Im} (h : xs[i]? = some x) : x.wt ≤ Im.wts xs := by
  have h1 := Im.wts_take h
  have h2 := Im.wts_take_le xs (i + 1)
  have h3 := Im.wts_nonneg (xs.take i)
  omega
/-- What a machine holds. -/
def Im.Fin (x : Im) : Prop := x.name.size ≤ maxLen ∧ (-9223372036854775808 ≤ x.params ∧ x.params ≤ 9223372036854775807)
/-- One element's cells. -/
structure Im.Cells (w : World) (lo : Nat) (x : Im) (b o : Nat)  : Prop where
  c0_ : w.cell? ⟨b, o, none⟩ = some (.string x.name)
  c1_ : w.cell? ⟨b, o + 1, none⟩ = some (.int .i64 x.params)
  c2_ : w.cell? ⟨b, o + 2, none⟩ = some (.bool x.result)
  at_ : lo ≤ lo
theorem Im.Cells.keep {w w' : World} {lo : Nat} {x : Im} {b o : Nat}  (h : Im.Cells w lo x b o ) (hk : KeptFrom lo w w') (hlo : lo ≤ b) : Im.Cells w' lo x b o  :=
  ⟨hk _ _ hlo h.c0_, hk _ _ hlo h.c1_, hk _ _ hlo h.c2_, Nat.le_refl _⟩
/-- A slice's elements lie in memory, no block of them below lo. -/
def Ims (w : World) (lo : Nat) (xs : List Im) (R : Option Addr) : Prop := 0 < xs.length → ∃ b o : Nat, R = some ⟨b, o, none⟩ ∧ lo ≤ b ∧ ∀ (i : Nat) (x : Im), xs[i]? = some x → Im.Cells w lo x b (o + i * 3) 
theorem Ims.keep {w w' : World} {lo : Nat} {xs : List Im} {R : Option Addr} (h : Ims w lo xs R) (hk : KeptFrom lo w w') : Ims w' lo xs R := fun hp => by
  obtain ⟨b, o, hb, hlo, hr⟩ := h hp
  refine ⟨b, o, hb, hlo, fun i x hx => ?_⟩
  have hc := hr i x hx
  exact hc.keep hk hlo
theorem Ims.low {w : World} {lo lo' : Nat} {xs : List Im} {R : Option Addr} (h : Ims w lo xs R) (hl : lo' ≤ lo) : Ims w lo' xs R := fun hp => by
  obtain ⟨b, o, hb, hlo, hr⟩ := h hp
  refine ⟨b, o, hb, by omega, fun i x hx => ?_⟩
  have hc := hr i x hx
  exact ⟨hc.c0_, hc.c1_, hc.c2_, Nat.le_refl _⟩
theorem Ims.below {w w' : World} {lo : Nat} {xs : List Im} {R : Option Addr} (h : Ims w lo xs R) (hb : Below w.heap.size w w') : Ims w' lo xs R := h.keep (KeptFrom.below hb lo)
theorem Ims.at_ {w : World} {lo : Nat} {xs : List Im} {R : Option Addr} (h : Ims w lo xs R) {k : Nat} (hk : k < xs.length) : ∃ (b o : Nat) (x : Im), R = some ⟨b, o, none⟩ ∧ lo ≤ b ∧ xs[k]? = some x ∧ Im.Cells w lo x b (o + k * 3)  := by
  obtain ⟨b, o, ha, hlo, hc⟩ := h (by omega)
  have hc := hc k _ (List.getElem?_eq_getElem hk)
  exact ⟨b, o, xs[k], ha, hlo, List.getElem?_eq_getElem hk, hc⟩
end Go.Proofs.YtbjcldekapipaaaGreatDoor
