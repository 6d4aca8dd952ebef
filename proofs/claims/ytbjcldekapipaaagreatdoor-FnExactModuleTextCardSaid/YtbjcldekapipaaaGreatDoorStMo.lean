/-
  Module by value and in slices: what it means that one lies in memory, and that it stays there. No condition.
-/
import Derived.Test.YtbjcldekapipaaaGreatDoorStIm
import Derived.Test.YtbjcldekapipaaaGreatDoorStCo
namespace Go.Proofs.YtbjcldekapipaaaGreatDoor
open Go.ChangeShapes Go.WideShapes Go.ChangeAt Go.RowKit Go.Deep

structure Mo where
  pages : Int
  imports : List Im
  cores : List Co
/-- The weight. -/
def Mo.wt (x : Mo) : Int := ((x.imports.length : Int) + Im.wts x.imports) + ((x.cores.length : Int) + Co.wts x.cores)
def Mo.wts : List Mo → Int | [] => 0 | x :: xs => x.wt + Mo.wts xs
theorem Mo.wt_nonneg (x : Mo) : 0 ≤ x.wt := by
  have := Im.wts_nonneg x.imports
  have := Co.wts_nonneg x.cores
  unfold Mo.wt
  omega
theorem Mo.wts_append : ∀ xs ys : List Mo, Mo.wts (xs ++ ys) = Mo.wts xs + Mo.wts ys
  | [], ys => by simp [Mo.wts]
  | x :: xs, ys => by
    simp only [List.cons_append, Mo.wts, Mo.wts_append xs ys]
    omega
theorem Mo.wts_nonneg : ∀ xs : List Mo, 0 ≤ Mo.wts xs
  | [] => by simp [Mo.wts]
  | x :: xs => by
    have h1 := x.wt_nonneg
    have h2 := Mo.wts_nonneg xs
    simp only [Mo.wts]
    omega
theorem Mo.wts_take {xs : List Mo} {i : Nat} {x : Mo} (h : xs[i]? = some x) : Mo.wts (xs.take (i + 1)) = Mo.wts (xs.take i) + x.wt := by
  obtain ⟨hi, rfl⟩ := List.getElem?_eq_some_iff.1 h
  rw [List.take_succ_eq_append_getElem hi, Mo.wts_append]
  simp [Mo.wts]
theorem Mo.wts_take_le (xs : List Mo) (i : Nat) : Mo.wts (xs.take i) ≤ Mo.wts xs := by
  have h := Mo.wts_append (xs.take i) (xs.drop i)
  rw [List.take_append_drop] at h
  have := Mo.wts_nonneg (xs.drop i)
  omega
theorem Mo.wt_mem {xs : List Mo} {i : Nat} {x : Mo} (h : xs[i]? = some x) : x.wt ≤ Mo.wts xs := by
  have h1 := Mo.wts_take h
  have h2 := Mo.wts_take_le xs (i + 1)
  have h3 := Mo.wts_nonneg (xs.take i)
  omega
/-- What a machine holds. -/
def Mo.Fin (x : Mo) : Prop := (-9223372036854775808 ≤ x.pages ∧ x.pages ≤ 9223372036854775807) ∧ (x.imports.length ≤ maxLen ∧ ∀ y ∈ x.imports, Im.Fin y) ∧ (x.cores.length ≤ maxLen ∧ ∀ y ∈ x.cores, Co.Fin y)
/-- What the value points to lies in memory. -/
def Mo.At (w : World) (lo : Nat) (x : Mo) (Rimports : Option Addr) (Rcores : Option Addr) : Prop := Ims w lo x.imports Rimports ∧ Cos w lo x.cores Rcores
theorem Mo.At.keep {w w' : World} {lo : Nat} {x : Mo} {Rimports : Option Addr} {Rcores : Option Addr} (h : Mo.At w lo x Rimports Rcores) (hk : KeptFrom lo w w') : Mo.At w' lo x Rimports Rcores := by
  obtain ⟨h0, h1⟩ := h
  exact ⟨Ims.keep h0 hk, Cos.keep h1 hk⟩
theorem Mo.At.low {w : World} {lo lo' : Nat} {x : Mo} {Rimports : Option Addr} {Rcores : Option Addr} (h : Mo.At w lo x Rimports Rcores) (hl : lo' ≤ lo) : Mo.At w lo' x Rimports Rcores := by
  obtain ⟨h0, h1⟩ := h
  exact ⟨Ims.low h0 hl, Cos.low h1 hl⟩
theorem Mo.At.below {w w' : World} {lo : Nat} {x : Mo} {Rimports : Option Addr} {Rcores : Option Addr} (h : Mo.At w lo x Rimports Rcores) (hb : Below w.heap.size w w') : Mo.At w' lo x Rimports Rcores := h.keep (KeptFrom.below hb lo)
/-- One element's cells. -/
structure Mo.Cells (w : World) (lo : Nat) (x : Mo) (b o : Nat) (Rimports : Option Addr) (cimports : Nat) (Rcores : Option Addr) (ccores : Nat) : Prop where
  c0_ : w.cell? ⟨b, o, none⟩ = some (.int .i64 x.pages)
  c1_ : w.cell? ⟨b, o + 1, none⟩ = some (.slice Rimports x.imports.length cimports)
  c2_ : w.cell? ⟨b, o + 2, none⟩ = some (.slice Rcores x.cores.length ccores)
  at_ : Mo.At w lo x Rimports Rcores
theorem Mo.Cells.keep {w w' : World} {lo : Nat} {x : Mo} {b o : Nat} {Rimports : Option Addr} {cimports : Nat} {Rcores : Option Addr} {ccores : Nat} (h : Mo.Cells w lo x b o Rimports cimports Rcores ccores) (hk : KeptFrom lo w w') (hlo : lo ≤ b) : Mo.Cells w' lo x b o Rimports cimports Rcores ccores :=
  ⟨hk _ _ hlo h.c0_, hk _ _ hlo h.c1_, hk _ _ hlo h.c2_, h.at_.keep hk⟩
/-- A slice's elements lie in memory, no block of them below lo. -/
def Mos (w : World) (lo : Nat) (xs : List Mo) (R : Option Addr) : Prop := 0 < xs.length → ∃ b o : Nat, R = some ⟨b, o, none⟩ ∧ lo ≤ b ∧ ∀ (i : Nat) (x : Mo), xs[i]? = some x → ∃ (Rimports : Option Addr), ∃ (cimports : Nat), ∃ (Rcores : Option Addr), ∃ (ccores : Nat), Mo.Cells w lo x b (o + i * 3) Rimports cimports Rcores ccores
theorem Mos.keep {w w' : World} {lo : Nat} {xs : List Mo} {R : Option Addr} (h : Mos w lo xs R) (hk : KeptFrom lo w w') : Mos w' lo xs R := fun hp => by
  obtain ⟨b, o, hb, hlo, hr⟩ := h hp
  refine ⟨b, o, hb, hlo, fun i x hx => ?_⟩
  obtain ⟨Rimports, cimports, Rcores, ccores, hc⟩ := hr i x hx
  exact ⟨_, _, _, _, hc.keep hk hlo⟩
theorem Mos.low {w : World} {lo lo' : Nat} {xs : List Mo} {R : Option Addr} (h : Mos w lo xs R) (hl : lo' ≤ lo) : Mos w lo' xs R := fun hp => by
  obtain ⟨b, o, hb, hlo, hr⟩ := h hp
  refine ⟨b, o, hb, by omega, fun i x hx => ?_⟩
  obtain ⟨Rimports, cimports, Rcores, ccores, hc⟩ := hr i x hx
  exact ⟨_, _, _, _, ⟨hc.c0_, hc.c1_, hc.c2_, hc.at_.low hl⟩⟩
theorem Mos.below {w w' : World} {lo : Nat} {xs : List Mo} {R : Option Addr} (h : Mos w lo xs R) (hb : Below w.heap.size w w') : Mos w' lo xs R := h.keep (KeptFrom.below hb lo)
theorem Mos.at_ {w : World} {lo : Nat} {xs : List Mo} {R : Option Addr} (h : Mos w lo xs R) {k : Nat} (hk : k < xs.length) : ∃ (b o : Nat) (x : Mo), ∃ (Rimports : Option Addr), ∃ (cimports : Nat), ∃ (Rcores : Option Addr), ∃ (ccores : Nat), R = some ⟨b, o, none⟩ ∧ lo ≤ b ∧ xs[k]? = some x ∧ Mo.Cells w lo x b (o + k * 3) Rimports cimports Rcores ccores := by
  obtain ⟨b, o, ha, hlo, hc⟩ := h (by omega)
  obtain ⟨Rimports, cimports, Rcores, ccores, hc⟩ := hc k _ (List.getElem?_eq_getElem hk)
  exact ⟨b, o, xs[k], _, _, _, _, ha, hlo, List.getElem?_eq_getElem hk, hc⟩
end Go.Proofs.YtbjcldekapipaaaGreatDoor
