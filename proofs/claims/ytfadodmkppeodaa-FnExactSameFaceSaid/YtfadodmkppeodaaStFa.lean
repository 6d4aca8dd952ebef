/-
  Face by value and in slices: what it means that one lies in memory, and that it stays there. No condition.
-/
import Derived.Test.YtfadodmkppeodaaStFc
namespace Go.Proofs.Ytfadodmkppeodaa
open Go.ChangeShapes Go.WideShapes Go.ChangeAt Go.RowKit Go.Deep

structure Fa where
  pack : ByteArray
  name : ByteArray
  version : ByteArray
  ress : List ByteArray
  funcs : List Fc
/-- The weight. -/
def Fa.wt (x : Fa) : Int := (x.pack.size : Int) + (x.name.size : Int) + (x.version.size : Int) + ((x.ress.length : Int) + sumSz x.ress) + ((x.funcs.length : Int) + Fc.wts x.funcs)
def Fa.wts : List Fa → Int | [] => 0 | x :: xs => x.wt + Fa.wts xs
theorem Fa.wt_nonneg (x : Fa) : 0 ≤ x.wt := by
  have := sumSz_nonneg x.ress
  have := Fc.wts_nonneg x.funcs
  unfold Fa.wt
  omega
theorem Fa.wts_append : ∀ xs ys : List Fa, Fa.wts (xs ++ ys) = Fa.wts xs + Fa.wts ys
  | [], ys => by simp [Fa.wts]
  | x :: xs, ys => by
    simp only [List.cons_append, Fa.wts, Fa.wts_append xs ys]
    omega
theorem Fa.wts_nonneg : ∀ xs : List Fa, 0 ≤ Fa.wts xs
  | [] => by simp [Fa.wts]
  | x :: xs => by
    have h1 := x.wt_nonneg
    have h2 := Fa.wts_nonneg xs
    simp only [Fa.wts]
    omega
theorem Fa.wts_take {xs : List Fa} {i : Nat} {x : Fa} (h : xs[i]? = some x) : Fa.wts (xs.take (i + 1)) = Fa.wts (xs.take i) + x.wt := by
  obtain ⟨hi, rfl⟩ := List.getElem?_eq_some_iff.1 h
  rw [List.take_succ_eq_append_getElem hi, Fa.wts_append]
  simp [Fa.wts]
theorem Fa.wts_take_le (xs : List Fa) (i : Nat) : Fa.wts (xs.take i) ≤ Fa.wts xs := by
  have h := Fa.wts_append (xs.take i) (xs.drop i)
  rw [List.take_append_drop] at h
  have := Fa.wts_nonneg (xs.drop i)
  omega
theorem Fa.wt_mem {xs : List Fa} {i : Nat} {x : Fa} (h : xs[i]? = some x) : x.wt ≤ Fa.wts xs := by
  have h1 := Fa.wts_take h
  have h2 := Fa.wts_take_le xs (i + 1)
  have h3 := Fa.wts_nonneg (xs.take i)
  omega
/-- What a machine holds. -/
def Fa.Fin (x : Fa) : Prop := x.pack.size ≤ maxLen ∧ x.name.size ≤ maxLen ∧ x.version.size ≤ maxLen ∧ (x.ress.length ≤ maxLen ∧ ∀ s ∈ x.ress, s.size ≤ maxLen) ∧ (x.funcs.length ≤ maxLen ∧ ∀ y ∈ x.funcs, Fc.Fin y)
/-- What the value points to lies in memory. -/
def Fa.At (w : World) (lo : Nat) (x : Fa) (Aress : Option Addr) (Rfuncs : Option Addr) : Prop := Strs w lo x.ress Aress ∧ Fcs w lo x.funcs Rfuncs
theorem Fa.At.keep {w w' : World} {lo : Nat} {x : Fa} {Aress : Option Addr} {Rfuncs : Option Addr} (h : Fa.At w lo x Aress Rfuncs) (hk : KeptFrom lo w w') : Fa.At w' lo x Aress Rfuncs := by
  obtain ⟨h0, h1⟩ := h
  exact ⟨Strs.keep h0 hk, Fcs.keep h1 hk⟩
theorem Fa.At.low {w : World} {lo lo' : Nat} {x : Fa} {Aress : Option Addr} {Rfuncs : Option Addr} (h : Fa.At w lo x Aress Rfuncs) (hl : lo' ≤ lo) : Fa.At w lo' x Aress Rfuncs := by
  obtain ⟨h0, h1⟩ := h
  exact ⟨Strs.low h0 hl, Fcs.low h1 hl⟩
theorem Fa.At.below {w w' : World} {lo : Nat} {x : Fa} {Aress : Option Addr} {Rfuncs : Option Addr} (h : Fa.At w lo x Aress Rfuncs) (hb : Below w.heap.size w w') : Fa.At w' lo x Aress Rfuncs := h.keep (KeptFrom.below hb lo)
/-- One element's cells. -/
structure Fa.Cells (w : World) (lo : Nat) (x : Fa) (b o : Nat) (Aress : Option Addr) (cress : Nat) (Rfuncs : Option Addr) (cfuncs : Nat) : Prop where
  c0_ : w.cell? ⟨b, o, none⟩ = some (.string x.pack)
  c1_ : w.cell? ⟨b, o + 1, none⟩ = some (.string x.name)
  c2_ : w.cell? ⟨b, o + 2, none⟩ = some (.string x.version)
  c3_ : w.cell? ⟨b, o + 3, none⟩ = some (.slice Aress x.ress.length cress)
  c4_ : w.cell? ⟨b, o + 4, none⟩ = some (.slice Rfuncs x.funcs.length cfuncs)
  at_ : Fa.At w lo x Aress Rfuncs
theorem Fa.Cells.keep {w w' : World} {lo : Nat} {x : Fa} {b o : Nat} {Aress : Option Addr} {cress : Nat} {Rfuncs : Option Addr} {cfuncs : Nat} (h : Fa.Cells w lo x b o Aress cress Rfuncs cfuncs) (hk : KeptFrom lo w w') (hlo : lo ≤ b) : Fa.Cells w' lo x b o Aress cress Rfuncs cfuncs :=
  ⟨hk _ _ hlo h.c0_, hk _ _ hlo h.c1_, hk _ _ hlo h.c2_, hk _ _ hlo h.c3_, hk _ _ hlo h.c4_, h.at_.keep hk⟩
/-- A slice's elements lie in memory, no block of them below lo. -/
def Fas (w : World) (lo : Nat) (xs : List Fa) (R : Option Addr) : Prop := 0 < xs.length → ∃ b o : Nat, R = some ⟨b, o, none⟩ ∧ lo ≤ b ∧ ∀ (i : Nat) (x : Fa), xs[i]? = some x → ∃ (Aress : Option Addr), ∃ (cress : Nat), ∃ (Rfuncs : Option Addr), ∃ (cfuncs : Nat), Fa.Cells w lo x b (o + i * 5) Aress cress Rfuncs cfuncs
theorem Fas.keep {w w' : World} {lo : Nat} {xs : List Fa} {R : Option Addr} (h : Fas w lo xs R) (hk : KeptFrom lo w w') : Fas w' lo xs R := fun hp => by
  obtain ⟨b, o, hb, hlo, hr⟩ := h hp
  refine ⟨b, o, hb, hlo, fun i x hx => ?_⟩
  obtain ⟨Aress, cress, Rfuncs, cfuncs, hc⟩ := hr i x hx
  exact ⟨_, _, _, _, hc.keep hk hlo⟩
theorem Fas.low {w : World} {lo lo' : Nat} {xs : List Fa} {R : Option Addr} (h : Fas w lo xs R) (hl : lo' ≤ lo) : Fas w lo' xs R := fun hp => by
  obtain ⟨b, o, hb, hlo, hr⟩ := h hp
  refine ⟨b, o, hb, by omega, fun i x hx => ?_⟩
  obtain ⟨Aress, cress, Rfuncs, cfuncs, hc⟩ := hr i x hx
  exact ⟨_, _, _, _, ⟨hc.c0_, hc.c1_, hc.c2_, hc.c3_, hc.c4_, hc.at_.low hl⟩⟩
theorem Fas.below {w w' : World} {lo : Nat} {xs : List Fa} {R : Option Addr} (h : Fas w lo xs R) (hb : Below w.heap.size w w') : Fas w' lo xs R := h.keep (KeptFrom.below hb lo)
theorem Fas.at_ {w : World} {lo : Nat} {xs : List Fa} {R : Option Addr} (h : Fas w lo xs R) {k : Nat} (hk : k < xs.length) : ∃ (b o : Nat) (x : Fa), ∃ (Aress : Option Addr), ∃ (cress : Nat), ∃ (Rfuncs : Option Addr), ∃ (cfuncs : Nat), R = some ⟨b, o, none⟩ ∧ lo ≤ b ∧ xs[k]? = some x ∧ Fa.Cells w lo x b (o + k * 5) Aress cress Rfuncs cfuncs := by
  obtain ⟨b, o, ha, hlo, hc⟩ := h (by omega)
  obtain ⟨Aress, cress, Rfuncs, cfuncs, hc⟩ := hc k _ (List.getElem?_eq_getElem hk)
  exact ⟨b, o, xs[k], _, _, _, _, ha, hlo, List.getElem?_eq_getElem hk, hc⟩
end Go.Proofs.Ytfadodmkppeodaa
