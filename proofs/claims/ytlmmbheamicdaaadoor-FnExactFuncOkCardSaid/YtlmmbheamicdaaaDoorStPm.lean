/-
  Param by value and in slices: what it means that one lies in memory, and that it stays there. No condition.
-/
import Derived.Test.YtlmmbheamicdaaaDoorTyW4
namespace Go.Proofs.YtlmmbheamicdaaaDoor
open Go.ChangeShapes Go.WideShapes Go.ChangeAt Go.RowKit Go.Deep

structure Pm where
  name : ByteArray
  ty : Ty
/-- The weight. -/
def Pm.wt (x : Pm) : Int := (x.name.size : Int) + x.ty.wt
def Pm.wts : List Pm → Int | [] => 0 | x :: xs => x.wt + Pm.wts xs
theorem Pm.wt_nonneg (x : Pm) : 0 ≤ x.wt := by
  have := x.ty.wt_nonneg
  unfold Pm.wt
  omega
theorem Pm.wts_append : ∀ xs ys : List Pm, Pm.wts (xs ++ ys) = Pm.wts xs + Pm.wts ys
  | [], ys => by simp [Pm.wts]
  | x :: xs, ys => by
    simp only [List.cons_append, Pm.wts, Pm.wts_append xs ys]
    omega
theorem Pm.wts_nonneg : ∀ xs : List Pm, 0 ≤ Pm.wts xs
  | [] => by simp [Pm.wts]
  | x :: xs => by
    have h1 := x.wt_nonneg
    have h2 := Pm.wts_nonneg xs
    simp only [Pm.wts]
    omega
theorem Pm.wts_take {xs : List Pm} {i : Nat} {x : Pm} (h : xs[i]? = some x) : Pm.wts (xs.take (i + 1)) = Pm.wts (xs.take i) + x.wt := by
  obtain ⟨hi, rfl⟩ := List.getElem?_eq_some_iff.1 h
  rw [List.take_succ_eq_append_getElem hi, Pm.wts_append]
  simp [Pm.wts]
theorem Pm.wts_take_le (xs : List Pm) (i : Nat) : Pm.wts (xs.take i) ≤ Pm.wts xs := by
  have h := Pm.wts_append (xs.take i) (xs.drop i)
  rw [List.take_append_drop] at h
  have := Pm.wts_nonneg (xs.drop i)
  omega
theorem Pm.wt_mem {xs : List Pm} {i : Nat} {x : Pm} (h : xs[i]? = some x) : x.wt ≤ Pm.wts xs := by
  have h1 := Pm.wts_take h
  have h2 := Pm.wts_take_le xs (i + 1)
  have h3 := Pm.wts_nonneg (xs.take i)
  omega
/-- What a machine holds. -/
def Pm.Fin (x : Pm) : Prop := x.name.size ≤ maxLen ∧ x.ty.Fin
/-- What the value points to lies in memory. -/
def Pm.At (w : World) (lo : Nat) (x : Pm) (Aty : Option Addr) (Bty : Option Addr) : Prop := Ty.At w lo x.ty Aty Bty
theorem Pm.At.keep {w w' : World} {lo : Nat} {x : Pm} {Aty : Option Addr} {Bty : Option Addr} (h : Pm.At w lo x Aty Bty) (hk : KeptFrom lo w w') : Pm.At w' lo x Aty Bty := by
  have h0 := h
  exact Ty.At.keep hk h0
theorem Pm.At.low {w : World} {lo lo' : Nat} {x : Pm} {Aty : Option Addr} {Bty : Option Addr} (h : Pm.At w lo x Aty Bty) (hl : lo' ≤ lo) : Pm.At w lo' x Aty Bty := by
  have h0 := h
  exact Ty.At.low hl h0
theorem Pm.At.below {w w' : World} {lo : Nat} {x : Pm} {Aty : Option Addr} {Bty : Option Addr} (h : Pm.At w lo x Aty Bty) (hb : Below w.heap.size w w') : Pm.At w' lo x Aty Bty := h.keep (KeptFrom.below hb lo)
/-- One element's cells. -/
structure Pm.Cells (w : World) (lo : Nat) (x : Pm) (b o : Nat) (Aty : Option Addr) (Bty : Option Addr) (cty : Nat) (dty : Nat) : Prop where
  c0_ : w.cell? ⟨b, o, none⟩ = some (.string x.name)
  c1_ : w.cell? ⟨b, o + 1, none⟩ = some (.int .i64 x.ty.kind)
  c2_ : w.cell? ⟨b, o + 2, none⟩ = some (.string x.ty.name)
  c3_ : w.cell? ⟨b, o + 3, none⟩ = some (.slice Aty x.ty.labels.length cty)
  c4_ : w.cell? ⟨b, o + 4, none⟩ = some (.slice Bty x.ty.kids.length dty)
  at_ : Pm.At w lo x Aty Bty
theorem Pm.Cells.keep {w w' : World} {lo : Nat} {x : Pm} {b o : Nat} {Aty : Option Addr} {Bty : Option Addr} {cty : Nat} {dty : Nat} (h : Pm.Cells w lo x b o Aty Bty cty dty) (hk : KeptFrom lo w w') (hlo : lo ≤ b) : Pm.Cells w' lo x b o Aty Bty cty dty :=
  ⟨hk _ _ hlo h.c0_, hk _ _ hlo h.c1_, hk _ _ hlo h.c2_, hk _ _ hlo h.c3_, hk _ _ hlo h.c4_, h.at_.keep hk⟩
/-- A slice's elements lie in memory, no block of them below lo. -/
def Pms (w : World) (lo : Nat) (xs : List Pm) (R : Option Addr) : Prop := 0 < xs.length → ∃ b o : Nat, R = some ⟨b, o, none⟩ ∧ lo ≤ b ∧ ∀ (i : Nat) (x : Pm), xs[i]? = some x → ∃ (Aty : Option Addr), ∃ (Bty : Option Addr), ∃ (cty : Nat), ∃ (dty : Nat), Pm.Cells w lo x b (o + i * 5) Aty Bty cty dty
theorem Pms.keep {w w' : World} {lo : Nat} {xs : List Pm} {R : Option Addr} (h : Pms w lo xs R) (hk : KeptFrom lo w w') : Pms w' lo xs R := fun hp => by
  obtain ⟨b, o, hb, hlo, hr⟩ := h hp
  refine ⟨b, o, hb, hlo, fun i x hx => ?_⟩
  obtain ⟨Aty, Bty, cty, dty, hc⟩ := hr i x hx
  exact ⟨_, _, _, _, hc.keep hk hlo⟩
theorem Pms.low {w : World} {lo lo' : Nat} {xs : List Pm} {R : Option Addr} (h : Pms w lo xs R) (hl : lo' ≤ lo) : Pms w lo' xs R := fun hp => by
  obtain ⟨b, o, hb, hlo, hr⟩ := h hp
  refine ⟨b, o, hb, by omega, fun i x hx => ?_⟩
  obtain ⟨Aty, Bty, cty, dty, hc⟩ := hr i x hx
  exact ⟨_, _, _, _, ⟨hc.c0_, hc.c1_, hc.c2_, hc.c3_, hc.c4_, hc.at_.low hl⟩⟩
theorem Pms.below {w w' : World} {lo : Nat} {xs : List Pm} {R : Option Addr} (h : Pms w lo xs R) (hb : Below w.heap.size w w') : Pms w' lo xs R := h.keep (KeptFrom.below hb lo)
theorem Pms.at_ {w : World} {lo : Nat} {xs : List Pm} {R : Option Addr} (h : Pms w lo xs R) {k : Nat} (hk : k < xs.length) : ∃ (b o : Nat) (x : Pm), ∃ (Aty : Option Addr), ∃ (Bty : Option Addr), ∃ (cty : Nat), ∃ (dty : Nat), R = some ⟨b, o, none⟩ ∧ lo ≤ b ∧ xs[k]? = some x ∧ Pm.Cells w lo x b (o + k * 5) Aty Bty cty dty := by
  obtain ⟨b, o, ha, hlo, hc⟩ := h (by omega)
  obtain ⟨Aty, Bty, cty, dty, hc⟩ := hc k _ (List.getElem?_eq_getElem hk)
  exact ⟨b, o, xs[k], _, _, _, _, ha, hlo, List.getElem?_eq_getElem hk, hc⟩
end Go.Proofs.YtlmmbheamicdaaaDoor
