/-
  Func by value and in slices: what it means that one lies in memory, and that it stays there. No condition.
-/
import Derived.Test.YtfadodmkppeodaaStFn
namespace Go.Proofs.Ytfadodmkppeodaa
open Go.ChangeShapes Go.WideShapes Go.ChangeAt Go.RowKit Go.Deep

structure Fc where
  name : ByteArray
  type : Fn
/-- The weight. -/
def Fc.wt (x : Fc) : Int := (x.name.size : Int) + Fn.wt x.type
def Fc.wts : List Fc → Int | [] => 0 | x :: xs => x.wt + Fc.wts xs
theorem Fc.wt_nonneg (x : Fc) : 0 ≤ x.wt := by
  have := Fn.wt_nonneg x.type
  unfold Fc.wt
  omega
theorem Fc.wts_append : ∀ xs ys : List Fc, Fc.wts (xs ++ ys) = Fc.wts xs + Fc.wts ys
  | [], ys => by simp [Fc.wts]
  | x :: xs, ys => by
    simp only [List.cons_append, Fc.wts, Fc.wts_append xs ys]
    omega
theorem Fc.wts_nonneg : ∀ xs : List Fc, 0 ≤ Fc.wts xs
  | [] => by simp [Fc.wts]
  | x :: xs => by
    have h1 := x.wt_nonneg
    have h2 := Fc.wts_nonneg xs
    simp only [Fc.wts]
    omega
theorem Fc.wts_take {xs : List Fc} {i : Nat} {x : Fc} (h : xs[i]? = some x) : Fc.wts (xs.take (i + 1)) = Fc.wts (xs.take i) + x.wt := by
  obtain ⟨hi, rfl⟩ := List.getElem?_eq_some_iff.1 h
  rw [List.take_succ_eq_append_getElem hi, Fc.wts_append]
  simp [Fc.wts]
theorem Fc.wts_take_le (xs : List Fc) (i : Nat) : Fc.wts (xs.take i) ≤ Fc.wts xs := by
  have h := Fc.wts_append (xs.take i) (xs.drop i)
  rw [List.take_append_drop] at h
  have := Fc.wts_nonneg (xs.drop i)
  omega
theorem Fc.wt_mem {xs : List Fc} {i : Nat} {x : Fc} (h : xs[i]? = some x) : x.wt ≤ Fc.wts xs := by
  have h1 := Fc.wts_take h
  have h2 := Fc.wts_take_le xs (i + 1)
  have h3 := Fc.wts_nonneg (xs.take i)
  omega
/-- What a machine holds. -/
def Fc.Fin (x : Fc) : Prop := x.name.size ≤ maxLen ∧ Fn.Fin x.type
/-- What the value points to lies in memory. -/
def Fc.At (w : World) (lo : Nat) (x : Fc) (Rtypeparams : Option Addr) (Atyperes : Option Addr) (Btyperes : Option Addr) : Prop := Fn.At w lo x.type Rtypeparams Atyperes Btyperes
theorem Fc.At.keep {w w' : World} {lo : Nat} {x : Fc} {Rtypeparams : Option Addr} {Atyperes : Option Addr} {Btyperes : Option Addr} (h : Fc.At w lo x Rtypeparams Atyperes Btyperes) (hk : KeptFrom lo w w') : Fc.At w' lo x Rtypeparams Atyperes Btyperes := by
  have h0 := h
  exact Fn.At.keep h0 hk
theorem Fc.At.low {w : World} {lo lo' : Nat} {x : Fc} {Rtypeparams : Option Addr} {Atyperes : Option Addr} {Btyperes : Option Addr} (h : Fc.At w lo x Rtypeparams Atyperes Btyperes) (hl : lo' ≤ lo) : Fc.At w lo' x Rtypeparams Atyperes Btyperes := by
  have h0 := h
  exact Fn.At.low h0 hl
theorem Fc.At.below {w w' : World} {lo : Nat} {x : Fc} {Rtypeparams : Option Addr} {Atyperes : Option Addr} {Btyperes : Option Addr} (h : Fc.At w lo x Rtypeparams Atyperes Btyperes) (hb : Below w.heap.size w w') : Fc.At w' lo x Rtypeparams Atyperes Btyperes := h.keep (KeptFrom.below hb lo)
/-- One element's cells. -/
structure Fc.Cells (w : World) (lo : Nat) (x : Fc) (b o : Nat) (Rtypeparams : Option Addr) (ctypeparams : Nat) (Atyperes : Option Addr) (Btyperes : Option Addr) (ctyperes : Nat) (dtyperes : Nat) : Prop where
  c0_ : w.cell? ⟨b, o, none⟩ = some (.string x.name)
  c1_ : w.cell? ⟨b, o + 1, none⟩ = some (.slice Rtypeparams x.type.params.length ctypeparams)
  c2_ : w.cell? ⟨b, o + 2, none⟩ = some (.int .i64 x.type.res.kind)
  c3_ : w.cell? ⟨b, o + 3, none⟩ = some (.string x.type.res.name)
  c4_ : w.cell? ⟨b, o + 4, none⟩ = some (.slice Atyperes x.type.res.labels.length ctyperes)
  c5_ : w.cell? ⟨b, o + 5, none⟩ = some (.slice Btyperes x.type.res.kids.length dtyperes)
  c6_ : w.cell? ⟨b, o + 6, none⟩ = some (.bool x.type.async)
  at_ : Fc.At w lo x Rtypeparams Atyperes Btyperes
theorem Fc.Cells.keep {w w' : World} {lo : Nat} {x : Fc} {b o : Nat} {Rtypeparams : Option Addr} {ctypeparams : Nat} {Atyperes : Option Addr} {Btyperes : Option Addr} {ctyperes : Nat} {dtyperes : Nat} (h : Fc.Cells w lo x b o Rtypeparams ctypeparams Atyperes Btyperes ctyperes dtyperes) (hk : KeptFrom lo w w') (hlo : lo ≤ b) : Fc.Cells w' lo x b o Rtypeparams ctypeparams Atyperes Btyperes ctyperes dtyperes :=
  ⟨hk _ _ hlo h.c0_, hk _ _ hlo h.c1_, hk _ _ hlo h.c2_, hk _ _ hlo h.c3_, hk _ _ hlo h.c4_, hk _ _ hlo h.c5_, hk _ _ hlo h.c6_, h.at_.keep hk⟩
/-- A slice's elements lie in memory, no block of them below lo. -/
def Fcs (w : World) (lo : Nat) (xs : List Fc) (R : Option Addr) : Prop := 0 < xs.length → ∃ b o : Nat, R = some ⟨b, o, none⟩ ∧ lo ≤ b ∧ ∀ (i : Nat) (x : Fc), xs[i]? = some x → ∃ (Rtypeparams : Option Addr), ∃ (ctypeparams : Nat), ∃ (Atyperes : Option Addr), ∃ (Btyperes : Option Addr), ∃ (ctyperes : Nat), ∃ (dtyperes : Nat), Fc.Cells w lo x b (o + i * 7) Rtypeparams ctypeparams Atyperes Btyperes ctyperes dtyperes
theorem Fcs.keep {w w' : World} {lo : Nat} {xs : List Fc} {R : Option Addr} (h : Fcs w lo xs R) (hk : KeptFrom lo w w') : Fcs w' lo xs R := fun hp => by
  obtain ⟨b, o, hb, hlo, hr⟩ := h hp
  refine ⟨b, o, hb, hlo, fun i x hx => ?_⟩
  obtain ⟨Rtypeparams, ctypeparams, Atyperes, Btyperes, ctyperes, dtyperes, hc⟩ := hr i x hx
  exact ⟨_, _, _, _, _, _, hc.keep hk hlo⟩
theorem Fcs.low {w : World} {lo lo' : Nat} {xs : List Fc} {R : Option Addr} (h : Fcs w lo xs R) (hl : lo' ≤ lo) : Fcs w lo' xs R := fun hp => by
  obtain ⟨b, o, hb, hlo, hr⟩ := h hp
  refine ⟨b, o, hb, by omega, fun i x hx => ?_⟩
  obtain ⟨Rtypeparams, ctypeparams, Atyperes, Btyperes, ctyperes, dtyperes, hc⟩ := hr i x hx
  exact ⟨_, _, _, _, _, _, ⟨hc.c0_, hc.c1_, hc.c2_, hc.c3_, hc.c4_, hc.c5_, hc.c6_, hc.at_.low hl⟩⟩
theorem Fcs.below {w w' : World} {lo : Nat} {xs : List Fc} {R : Option Addr} (h : Fcs w lo xs R) (hb : Below w.heap.size w w') : Fcs w' lo xs R := h.keep (KeptFrom.below hb lo)
theorem Fcs.at_ {w : World} {lo : Nat} {xs : List Fc} {R : Option Addr} (h : Fcs w lo xs R) {k : Nat} (hk : k < xs.length) : ∃ (b o : Nat) (x : Fc), ∃ (Rtypeparams : Option Addr), ∃ (ctypeparams : Nat), ∃ (Atyperes : Option Addr), ∃ (Btyperes : Option Addr), ∃ (ctyperes : Nat), ∃ (dtyperes : Nat), R = some ⟨b, o, none⟩ ∧ lo ≤ b ∧ xs[k]? = some x ∧ Fc.Cells w lo x b (o + k * 7) Rtypeparams ctypeparams Atyperes Btyperes ctyperes dtyperes := by
  obtain ⟨b, o, ha, hlo, hc⟩ := h (by omega)
  obtain ⟨Rtypeparams, ctypeparams, Atyperes, Btyperes, ctyperes, dtyperes, hc⟩ := hc k _ (List.getElem?_eq_getElem hk)
  exact ⟨b, o, xs[k], _, _, _, _, _, _, ha, hlo, List.getElem?_eq_getElem hk, hc⟩
end Go.Proofs.Ytfadodmkppeodaa
