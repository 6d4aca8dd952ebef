/-
  Section by value and in slices: what it means that one lies in memory, and that it stays there. No condition.
-/
import Derived.Test.YtbjcldekapipaaaGreatDoorStrsP
namespace Go.Proofs.YtbjcldekapipaaaGreatDoor
open Go.ChangeShapes Go.WideShapes Go.ChangeAt Go.RowKit Go.Deep

structure Sc where
  id : Int
  name : ByteArray
  bytes : ByteArray
/-- The weight. -/
def Sc.wt (x : Sc) : Int := (x.name.size : Int) + (x.bytes.size : Int)
def Sc.wts : List Sc → Int | [] => 0 | x :: xs => x.wt + Sc.wts xs
theorem Sc.wt_nonneg (x : Sc) : 0 ≤ x.wt := by
  unfold Sc.wt
  omega
theorem Sc.wts_append : ∀ xs ys : List Sc, Sc.wts (xs ++ ys) = Sc.wts xs + Sc.wts ys
  | [], ys => by simp [Sc.wts]
  | x :: xs, ys => by
    simp only [List.cons_append, Sc.wts, Sc.wts_append xs ys]
    omega
theorem Sc.wts_nonneg : ∀ xs : List Sc, 0 ≤ Sc.wts xs
  | [] => by simp [Sc.wts]
  | x :: xs => by
    have h1 := x.wt_nonneg
    have h2 := Sc.wts_nonneg xs
    simp only [Sc.wts]
    omega
theorem Sc.wts_take {xs : List Sc} {i : Nat} {x : Sc} (h : xs[i]? = some x) : Sc.wts (xs.take (i + 1)) = Sc.wts (xs.take i) + x.wt := by
  obtain ⟨hi, rfl⟩ := List.getElem?_eq_some_iff.1 h
  rw [List.take_succ_eq_append_getElem hi, Sc.wts_append]
  simp [Sc.wts]
theorem Sc.wts_take_le (xs : List Sc) (i : Nat) : Sc.wts (xs.take i) ≤ Sc.wts xs := by
  have h := Sc.wts_append (xs.take i) (xs.drop i)
  rw [List.take_append_drop] at h
  have := Sc.wts_nonneg (xs.drop i)
  omega
theorem Sc.wt_mem {xs : List Sc} {i : Nat} {x : Sc} (h : xs[i]? = some x) : x.wt ≤ Sc.wts xs := by
  have h1 := Sc.wts_take h
  have h2 := Sc.wts_take_le xs (i + 1)
  have h3 := Sc.wts_nonneg (xs.take i)
  omega
/-- What a machine holds. -/
def Sc.Fin (x : Sc) : Prop := (-9223372036854775808 ≤ x.id ∧ x.id ≤ 9223372036854775807) ∧ x.name.size ≤ maxLen ∧ x.bytes.size ≤ maxLen
/-- One element's cells. -/
structure Sc.Cells (w : World) (lo : Nat) (x : Sc) (b o : Nat)  : Prop where
  c0_ : w.cell? ⟨b, o, none⟩ = some (.int .i64 x.id)
  c1_ : w.cell? ⟨b, o + 1, none⟩ = some (.string x.name)
  c2_ : w.cell? ⟨b, o + 2, none⟩ = some (.string x.bytes)
  at_ : lo ≤ lo
theorem Sc.Cells.keep {w w' : World} {lo : Nat} {x : Sc} {b o : Nat}  (h : Sc.Cells w lo x b o ) (hk : KeptFrom lo w w') (hlo : lo ≤ b) : Sc.Cells w' lo x b o  :=
  ⟨hk _ _ hlo h.c0_, hk _ _ hlo h.c1_, hk _ _ hlo h.c2_, Nat.le_refl _⟩
/-- A slice's elements lie in memory, no block of them below lo. -/
def Scs (w : World) (lo : Nat) (xs : List Sc) (R : Option Addr) : Prop := 0 < xs.length → ∃ b o : Nat, R = some ⟨b, o, none⟩ ∧ lo ≤ b ∧ ∀ (i : Nat) (x : Sc), xs[i]? = some x → Sc.Cells w lo x b (o + i * 3) 
theorem Scs.keep {w w' : World} {lo : Nat} {xs : List Sc} {R : Option Addr} (h : Scs w lo xs R) (hk : KeptFrom lo w w') : Scs w' lo xs R := fun hp => by
  obtain ⟨b, o, hb, hlo, hr⟩ := h hp
  refine ⟨b, o, hb, hlo, fun i x hx => ?_⟩
  have hc := hr i x hx
  exact hc.keep hk hlo
theorem Scs.low {w : World} {lo lo' : Nat} {xs : List Sc} {R : Option Addr} (h : Scs w lo xs R) (hl : lo' ≤ lo) : Scs w lo' xs R := fun hp => by
  obtain ⟨b, o, hb, hlo, hr⟩ := h hp
  refine ⟨b, o, hb, by omega, fun i x hx => ?_⟩
  have hc := hr i x hx
  exact ⟨hc.c0_, hc.c1_, hc.c2_, Nat.le_refl _⟩
theorem Scs.below {w w' : World} {lo : Nat} {xs : List Sc} {R : Option Addr} (h : Scs w lo xs R) (hb : Below w.heap.size w w') : Scs w' lo xs R := h.keep (KeptFrom.below hb lo)
theorem Scs.at_ {w : World} {lo : Nat} {xs : List Sc} {R : Option Addr} (h : Scs w lo xs R) {k : Nat} (hk : k < xs.length) : ∃ (b o : Nat) (x : Sc), R = some ⟨b, o, none⟩ ∧ lo ≤ b ∧ xs[k]? = some x ∧ Sc.Cells w lo x b (o + k * 3)  := by
  obtain ⟨b, o, ha, hlo, hc⟩ := h (by omega)
  have hc := hc k _ (List.getElem?_eq_getElem hk)
  exact ⟨b, o, xs[k], ha, hlo, List.getElem?_eq_getElem hk, hc⟩
end Go.Proofs.YtbjcldekapipaaaGreatDoor
