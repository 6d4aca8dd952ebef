/-
  World by value and in slices: what it means that one lies in memory, and that it stays there. No condition.
-/
import Derived.Test.YtciomjggfeonmaaStFa
namespace Go.Proofs.Ytciomjggfeonmaa
open Go.ChangeShapes Go.WideShapes Go.ChangeAt Go.RowKit Go.Deep

structure Wo where
  pack : ByteArray
  name : ByteArray
  version : ByteArray
  imps : List Fa
  exps : List Fa
/-- The weight. -/
def Wo.wt (x : Wo) : Int := (x.pack.size : Int) + (x.name.size : Int) + (x.version.size : Int) + ((x.imps.length : Int) + Fa.wts x.imps) + ((x.exps.length : Int) + Fa.wts x.exps)
def Wo.wts : List Wo → Int | [] => 0 | x :: xs => x.wt + Wo.wts xs
theorem Wo.wt_nonneg (x : Wo) : 0 ≤ x.wt := by
  have := Fa.wts_nonneg x.imps
  have := Fa.wts_nonneg x.exps
  unfold Wo.wt
  omega
theorem Wo.wts_append : ∀ xs ys : List Wo, Wo.wts (xs ++ ys) = Wo.wts xs + Wo.wts ys
  | [], ys => by simp [Wo.wts]
  | x :: xs, ys => by
    simp only [List.cons_append, Wo.wts, Wo.wts_append xs ys]
    omega
theorem Wo.wts_nonneg : ∀ xs : List Wo, 0 ≤ Wo.wts xs
  | [] => by simp [Wo.wts]
  | x :: xs => by
    have h1 := x.wt_nonneg
    have h2 := Wo.wts_nonneg xs
    simp only [Wo.wts]
    omega
theorem Wo.wts_take {xs : List Wo} {i : Nat} {x : Wo} (h : xs[i]? = some x) : Wo.wts (xs.take (i + 1)) = Wo.wts (xs.take i) + x.wt := by
  obtain ⟨hi, rfl⟩ := List.getElem?_eq_some_iff.1 h
  rw [List.take_succ_eq_append_getElem hi, Wo.wts_append]
  simp [Wo.wts]
theorem Wo.wts_take_le (xs : List Wo) (i : Nat) : Wo.wts (xs.take i) ≤ Wo.wts xs := by
  have h := Wo.wts_append (xs.take i) (xs.drop i)
  rw [List.take_append_drop] at h
  have := Wo.wts_nonneg (xs.drop i)
  omega
theorem Wo.wt_mem {xs : List Wo} {i : Nat} {x : Wo} (h : xs[i]? = some x) : x.wt ≤ Wo.wts xs := by
  have h1 := Wo.wts_take h
  have h2 := Wo.wts_take_le xs (i + 1)
  have h3 := Wo.wts_nonneg (xs.take i)
  omega
/-- What a machine holds. -/
def Wo.Fin (x : Wo) : Prop := x.pack.size ≤ maxLen ∧ x.name.size ≤ maxLen ∧ x.version.size ≤ maxLen ∧ (x.imps.length ≤ maxLen ∧ ∀ y ∈ x.imps, Fa.Fin y) ∧ (x.exps.length ≤ maxLen ∧ ∀ y ∈ x.exps, Fa.Fin y)
/-- What the value points to lies in memory. -/
def Wo.At (w : World) (lo : Nat) (x : Wo) (Rimps : Option Addr) (Rexps : Option Addr) : Prop := Fas w lo x.imps Rimps ∧ Fas w lo x.exps Rexps
theorem Wo.At.keep {w w' : World} {lo : Nat} {x : Wo} {Rimps : Option Addr} {Rexps : Option Addr} (h : Wo.At w lo x Rimps Rexps) (hk : KeptFrom lo w w') : Wo.At w' lo x Rimps Rexps := by
  obtain ⟨h0, h1⟩ := h
  exact ⟨Fas.keep h0 hk, Fas.keep h1 hk⟩
theorem Wo.At.low {w : World} {lo lo' : Nat} {x : Wo} {Rimps : Option Addr} {Rexps : Option Addr} (h : Wo.At w lo x Rimps Rexps) (hl : lo' ≤ lo) : Wo.At w lo' x Rimps Rexps := by
  obtain ⟨h0, h1⟩ := h
  exact ⟨Fas.low h0 hl, Fas.low h1 hl⟩
theorem Wo.At.below {w w' : World} {lo : Nat} {x : Wo} {Rimps : Option Addr} {Rexps : Option Addr} (h : Wo.At w lo x Rimps Rexps) (hb : Below w.heap.size w w') : Wo.At w' lo x Rimps Rexps := h.keep (KeptFrom.below hb lo)
/-- One element's cells. -/
structure Wo.Cells (w : World) (lo : Nat) (x : Wo) (b o : Nat) (Rimps : Option Addr) (cimps : Nat) (Rexps : Option Addr) (cexps : Nat) : Prop where
  c0_ : w.cell? ⟨b, o, none⟩ = some (.string x.pack)
  c1_ : w.cell? ⟨b, o + 1, none⟩ = some (.string x.name)
  c2_ : w.cell? ⟨b, o + 2, none⟩ = some (.string x.version)
  c3_ : w.cell? ⟨b, o + 3, none⟩ = some (.slice Rimps x.imps.length cimps)
  c4_ : w.cell? ⟨b, o + 4, none⟩ = some (.slice Rexps x.exps.length cexps)
  at_ : Wo.At w lo x Rimps Rexps
theorem Wo.Cells.keep {w w' : World} {lo : Nat} {x : Wo} {b o : Nat} {Rimps : Option Addr} {cimps : Nat} {Rexps : Option Addr} {cexps : Nat} (h : Wo.Cells w lo x b o Rimps cimps Rexps cexps) (hk : KeptFrom lo w w') (hlo : lo ≤ b) : Wo.Cells w' lo x b o Rimps cimps Rexps cexps :=
  ⟨hk _ _ hlo h.c0_, hk _ _ hlo h.c1_, hk _ _ hlo h.c2_, hk _ _ hlo h.c3_, hk _ _ hlo h.c4_, h.at_.keep hk⟩
/-- A slice's elements lie in memory, no block of them below lo. -/
def Wos (w : World) (lo : Nat) (xs : List Wo) (R : Option Addr) : Prop := 0 < xs.length → ∃ b o : Nat, R = some ⟨b, o, none⟩ ∧ lo ≤ b ∧ ∀ (i : Nat) (x : Wo), xs[i]? = some x → ∃ (Rimps : Option Addr), ∃ (cimps : Nat), ∃ (Rexps : Option Addr), ∃ (cexps : Nat), Wo.Cells w lo x b (o + i * 5) Rimps cimps Rexps cexps
theorem Wos.keep {w w' : World} {lo : Nat} {xs : List Wo} {R : Option Addr} (h : Wos w lo xs R) (hk : KeptFrom lo w w') : Wos w' lo xs R := fun hp => by
  obtain ⟨b, o, hb, hlo, hr⟩ := h hp
  refine ⟨b, o, hb, hlo, fun i x hx => ?_⟩
  obtain ⟨Rimps, cimps, Rexps, cexps, hc⟩ := hr i x hx
  exact ⟨_, _, _, _, hc.keep hk hlo⟩
theorem Wos.low {w : World} {lo lo' : Nat} {xs : List Wo} {R : Option Addr} (h : Wos w lo xs R) (hl : lo' ≤ lo) : Wos w lo' xs R := fun hp => by
  obtain ⟨b, o, hb, hlo, hr⟩ := h hp
  refine ⟨b, o, hb, by omega, fun i x hx => ?_⟩
  obtain ⟨Rimps, cimps, Rexps, cexps, hc⟩ := hr i x hx
  exact ⟨_, _, _, _, ⟨hc.c0_, hc.c1_, hc.c2_, hc.c3_, hc.c4_, hc.at_.low hl⟩⟩
theorem Wos.below {w w' : World} {lo : Nat} {xs : List Wo} {R : Option Addr} (h : Wos w lo xs R) (hb : Below w.heap.size w w') : Wos w' lo xs R := h.keep (KeptFrom.below hb lo)
theorem Wos.at_ {w : World} {lo : Nat} {xs : List Wo} {R : Option Addr} (h : Wos w lo xs R) {k : Nat} (hk : k < xs.length) : ∃ (b o : Nat) (x : Wo), ∃ (Rimps : Option Addr), ∃ (cimps : Nat), ∃ (Rexps : Option Addr), ∃ (cexps : Nat), R = some ⟨b, o, none⟩ ∧ lo ≤ b ∧ xs[k]? = some x ∧ Wo.Cells w lo x b (o + k * 5) Rimps cimps Rexps cexps := by
  obtain ⟨b, o, ha, hlo, hc⟩ := h (by omega)
  obtain ⟨Rimps, cimps, Rexps, cexps, hc⟩ := hc k _ (List.getElem?_eq_getElem hk)
  exact ⟨b, o, xs[k], _, _, _, _, ha, hlo, List.getElem?_eq_getElem hk, hc⟩
end Go.Proofs.Ytciomjggfeonmaa
