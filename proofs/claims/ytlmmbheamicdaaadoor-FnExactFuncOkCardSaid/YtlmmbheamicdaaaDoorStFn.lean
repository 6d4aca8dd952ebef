/-
  FuncType by value and in slices: what it means that one lies in memory, and that it stays there. No condition.
-/
import Derived.Test.YtlmmbheamicdaaaDoorStPm
namespace Go.Proofs.YtlmmbheamicdaaaDoor
open Go.ChangeShapes Go.WideShapes Go.ChangeAt Go.RowKit Go.Deep

structure Fn where
  params : List Pm
  res : Ty
  async : Bool
/-- The weight. -/
def Fn.wt (x : Fn) : Int := ((x.params.length : Int) + Pm.wts x.params) + x.res.wt
def Fn.wts : List Fn → Int | [] => 0 | x :: xs => x.wt + Fn.wts xs
theorem Fn.wt_nonneg (x : Fn) : 0 ≤ x.wt := by
  have := Pm.wts_nonneg x.params
  have := x.res.wt_nonneg
  unfold Fn.wt
  omega
theorem Fn.wts_append : ∀ xs ys : List Fn, Fn.wts (xs ++ ys) = Fn.wts xs + Fn.wts ys
  | [], ys => by simp [Fn.wts]
  | x :: xs, ys => by
    simp only [List.cons_append, Fn.wts, Fn.wts_append xs ys]
    omega
theorem Fn.wts_nonneg : ∀ xs : List Fn, 0 ≤ Fn.wts xs
  | [] => by simp [Fn.wts]
  | x :: xs => by
    have h1 := x.wt_nonneg
    have h2 := Fn.wts_nonneg xs
    simp only [Fn.wts]
    omega
theorem Fn.wts_take {xs : List Fn} {i : Nat} {x : Fn} (h : xs[i]? = some x) : Fn.wts (xs.take (i + 1)) = Fn.wts (xs.take i) + x.wt := by
  obtain ⟨hi, rfl⟩ := List.getElem?_eq_some_iff.1 h
  rw [List.take_succ_eq_append_getElem hi, Fn.wts_append]
  simp [Fn.wts]
theorem Fn.wts_take_le (xs : List Fn) (i : Nat) : Fn.wts (xs.take i) ≤ Fn.wts xs := by
  have h := Fn.wts_append (xs.take i) (xs.drop i)
  rw [List.take_append_drop] at h
  have := Fn.wts_nonneg (xs.drop i)
  omega
theorem Fn.wt_mem {xs : List Fn} {i : Nat} {x : Fn} (h : xs[i]? = some x) : x.wt ≤ Fn.wts xs := by
  have h1 := Fn.wts_take h
  have h2 := Fn.wts_take_le xs (i + 1)
  have h3 := Fn.wts_nonneg (xs.take i)
  omega
/-- What a machine holds. -/
def Fn.Fin (x : Fn) : Prop := (x.params.length ≤ maxLen ∧ ∀ y ∈ x.params, Pm.Fin y) ∧ x.res.Fin
/-- What the value points to lies in memory. -/
def Fn.At (w : World) (lo : Nat) (x : Fn) (Rparams : Option Addr) (Ares : Option Addr) (Bres : Option Addr) : Prop := Pms w lo x.params Rparams ∧ Ty.At w lo x.res Ares Bres
theorem Fn.At.keep {w w' : World} {lo : Nat} {x : Fn} {Rparams : Option Addr} {Ares : Option Addr} {Bres : Option Addr} (h : Fn.At w lo x Rparams Ares Bres) (hk : KeptFrom lo w w') : Fn.At w' lo x Rparams Ares Bres := by
  obtain ⟨h0, h1⟩ := h
  exact ⟨h0.keep hk, Ty.At.keep hk h1⟩
theorem Fn.At.low {w : World} {lo lo' : Nat} {x : Fn} {Rparams : Option Addr} {Ares : Option Addr} {Bres : Option Addr} (h : Fn.At w lo x Rparams Ares Bres) (hl : lo' ≤ lo) : Fn.At w lo' x Rparams Ares Bres := by
  obtain ⟨h0, h1⟩ := h
  exact ⟨h0.low hl, Ty.At.low hl h1⟩
theorem Fn.At.below {w w' : World} {lo : Nat} {x : Fn} {Rparams : Option Addr} {Ares : Option Addr} {Bres : Option Addr} (h : Fn.At w lo x Rparams Ares Bres) (hb : Below w.heap.size w w') : Fn.At w' lo x Rparams Ares Bres := h.keep (KeptFrom.below hb lo)
/-- One element's cells. -/
structure Fn.Cells (w : World) (lo : Nat) (x : Fn) (b o : Nat) (Rparams : Option Addr) (cparams : Nat) (Ares : Option Addr) (Bres : Option Addr) (cres : Nat) (dres : Nat) : Prop where
  c0_ : w.cell? ⟨b, o, none⟩ = some (.slice Rparams x.params.length cparams)
  c1_ : w.cell? ⟨b, o + 1, none⟩ = some (.int .i64 x.res.kind)
  c2_ : w.cell? ⟨b, o + 2, none⟩ = some (.string x.res.name)
  c3_ : w.cell? ⟨b, o + 3, none⟩ = some (.slice Ares x.res.labels.length cres)
  c4_ : w.cell? ⟨b, o + 4, none⟩ = some (.slice Bres x.res.kids.length dres)
  c5_ : w.cell? ⟨b, o + 5, none⟩ = some (.bool x.async)
  at_ : Fn.At w lo x Rparams Ares Bres
theorem Fn.Cells.keep {w w' : World} {lo : Nat} {x : Fn} {b o : Nat} {Rparams : Option Addr} {cparams : Nat} {Ares : Option Addr} {Bres : Option Addr} {cres : Nat} {dres : Nat} (h : Fn.Cells w lo x b o Rparams cparams Ares Bres cres dres) (hk : KeptFrom lo w w') (hlo : lo ≤ b) : Fn.Cells w' lo x b o Rparams cparams Ares Bres cres dres :=
  ⟨hk _ _ hlo h.c0_, hk _ _ hlo h.c1_, hk _ _ hlo h.c2_, hk _ _ hlo h.c3_, hk _ _ hlo h.c4_, hk _ _ hlo h.c5_, h.at_.keep hk⟩
/-- A slice's elements lie in memory, no block of them below lo. -/
def Fns (w : World) (lo : Nat) (xs : List Fn) (R : Option Addr) : Prop := 0 < xs.length → ∃ b o : Nat, R = some ⟨b, o, none⟩ ∧ lo ≤ b ∧ ∀ (i : Nat) (x : Fn), xs[i]? = some x → ∃ (Rparams : Option Addr), ∃ (cparams : Nat), ∃ (Ares : Option Addr), ∃ (Bres : Option Addr), ∃ (cres : Nat), ∃ (dres : Nat), Fn.Cells w lo x b (o + i * 6) Rparams cparams Ares Bres cres dres
theorem Fns.keep {w w' : World} {lo : Nat} {xs : List Fn} {R : Option Addr} (h : Fns w lo xs R) (hk : KeptFrom lo w w') : Fns w' lo xs R := fun hp => by
  obtain ⟨b, o, hb, hlo, hr⟩ := h hp
  refine ⟨b, o, hb, hlo, fun i x hx => ?_⟩
  obtain ⟨Rparams, cparams, Ares, Bres, cres, dres, hc⟩ := hr i x hx
  exact ⟨_, _, _, _, _, _, hc.keep hk hlo⟩
theorem Fns.low {w : World} {lo lo' : Nat} {xs : List Fn} {R : Option Addr} (h : Fns w lo xs R) (hl : lo' ≤ lo) : Fns w lo' xs R := fun hp => by
  obtain ⟨b, o, hb, hlo, hr⟩ := h hp
  refine ⟨b, o, hb, by omega, fun i x hx => ?_⟩
  obtain ⟨Rparams, cparams, Ares, Bres, cres, dres, hc⟩ := hr i x hx
  exact ⟨_, _, _, _, _, _, ⟨hc.c0_, hc.c1_, hc.c2_, hc.c3_, hc.c4_, hc.c5_, hc.at_.low hl⟩⟩
theorem Fns.below {w w' : World} {lo : Nat} {xs : List Fn} {R : Option Addr} (h : Fns w lo xs R) (hb : Below w.heap.size w w') : Fns w' lo xs R := h.keep (KeptFrom.below hb lo)
theorem Fns.at_ {w : World} {lo : Nat} {xs : List Fn} {R : Option Addr} (h : Fns w lo xs R) {k : Nat} (hk : k < xs.length) : ∃ (b o : Nat) (x : Fn), ∃ (Rparams : Option Addr), ∃ (cparams : Nat), ∃ (Ares : Option Addr), ∃ (Bres : Option Addr), ∃ (cres : Nat), ∃ (dres : Nat), R = some ⟨b, o, none⟩ ∧ lo ≤ b ∧ xs[k]? = some x ∧ Fn.Cells w lo x b (o + k * 6) Rparams cparams Ares Bres cres dres := by
  obtain ⟨b, o, ha, hlo, hc⟩ := h (by omega)
  obtain ⟨Rparams, cparams, Ares, Bres, cres, dres, hc⟩ := hc k _ (List.getElem?_eq_getElem hk)
  exact ⟨b, o, xs[k], _, _, _, _, _, _, ha, hlo, List.getElem?_eq_getElem hk, hc⟩
end Go.Proofs.YtlmmbheamicdaaaDoor
