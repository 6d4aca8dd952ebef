/-
  Machine by value and in slices: what it means that one lies in memory, and that it stays there. No condition.
-/
import Derived.Test.YtbjcldekapipaaaStFr
namespace Go.Proofs.Ytbjcldekapipaaa
open Go.ChangeShapes Go.WideShapes Go.ChangeAt Go.RowKit Go.Deep

structure Ma where
  status : Int
  frames : List Fr
  stack : List Iv
  imp : Int
  args : List Iv
  result : Int
  trap : Int
/-- The weight. -/
def Ma.wt (x : Ma) : Int := ((x.frames.length : Int) + Fr.wts x.frames) + ((x.stack.length : Int) + Iv.wts x.stack) + ((x.args.length : Int) + Iv.wts x.args)
def Ma.wts : List Ma → Int | [] => 0 | x :: xs => x.wt + Ma.wts xs
theorem Ma.wt_nonneg (x : Ma) : 0 ≤ x.wt := by
  have := Fr.wts_nonneg x.frames
  have := Iv.wts_nonneg x.stack
  have := Iv.wts_nonneg x.args
  unfold Ma.wt
  omega
theorem Ma.wts_append : ∀ xs ys : List Ma, Ma.wts (xs ++ ys) = Ma.wts xs + Ma.wts ys
  | [], ys => by simp [Ma.wts]
  | x :: xs, ys => by
    simp only [List.cons_append, Ma.wts, Ma.wts_append xs ys]
    omega
theorem Ma.wts_nonneg : ∀ xs : List Ma, 0 ≤ Ma.wts xs
  | [] => by simp [Ma.wts]
  | x :: xs => by
    have h1 := x.wt_nonneg
    have h2 := Ma.wts_nonneg xs
    simp only [Ma.wts]
    omega
theorem Ma.wts_take {xs : List Ma} {i : Nat} {x : Ma} (h : xs[i]? = some x) : Ma.wts (xs.take (i + 1)) = Ma.wts (xs.take i) + x.wt := by
  obtain ⟨hi, rfl⟩ := List.getElem?_eq_some_iff.1 h
  rw [List.take_succ_eq_append_getElem hi, Ma.wts_append]
  simp [Ma.wts]
theorem Ma.wts_take_le (xs : List Ma) (i : Nat) : Ma.wts (xs.take i) ≤ Ma.wts xs := by
  have h := Ma.wts_append (xs.take i) (xs.drop i)
  rw [List.take_append_drop] at h
  have := Ma.wts_nonneg (xs.drop i)
  omega
theorem Ma.wt_mem {xs : List Ma} {i : Nat} {x : Ma} (h : xs[i]? = some x) : x.wt ≤ Ma.wts xs := by
  have h1 := Ma.wts_take h
  have h2 := Ma.wts_take_le xs (i + 1)
  have h3 := Ma.wts_nonneg (xs.take i)
  omega
/-- What a machine holds. -/
def Ma.Fin (x : Ma) : Prop := (-9223372036854775808 ≤ x.status ∧ x.status ≤ 9223372036854775807) ∧ (x.frames.length ≤ maxLen ∧ ∀ y ∈ x.frames, Fr.Fin y) ∧ (x.stack.length ≤ maxLen ∧ ∀ y ∈ x.stack, Iv.Fin y) ∧ (-9223372036854775808 ≤ x.imp ∧ x.imp ≤ 9223372036854775807) ∧ (x.args.length ≤ maxLen ∧ ∀ y ∈ x.args, Iv.Fin y) ∧ (-9223372036854775808 ≤ x.result ∧ x.result ≤ 9223372036854775807) ∧ (-9223372036854775808 ≤ x.trap ∧ x.trap ≤ 9223372036854775807)
/-- What the value points to lies in memory. -/
def Ma.At (w : World) (lo : Nat) (x : Ma) (Rframes : Option Addr) (Rstack : Option Addr) (Rargs : Option Addr) : Prop := Frs w lo x.frames Rframes ∧ Ivs w lo x.stack Rstack ∧ Ivs w lo x.args Rargs
theorem Ma.At.keep {w w' : World} {lo : Nat} {x : Ma} {Rframes : Option Addr} {Rstack : Option Addr} {Rargs : Option Addr} (h : Ma.At w lo x Rframes Rstack Rargs) (hk : KeptFrom lo w w') : Ma.At w' lo x Rframes Rstack Rargs := by
  obtain ⟨h0, h1, h2⟩ := h
  exact ⟨Frs.keep h0 hk, Ivs.keep h1 hk, Ivs.keep h2 hk⟩
theorem Ma.At.low {w : World} {lo lo' : Nat} {x : Ma} {Rframes : Option Addr} {Rstack : Option Addr} {Rargs : Option Addr} (h : Ma.At w lo x Rframes Rstack Rargs) (hl : lo' ≤ lo) : Ma.At w lo' x Rframes Rstack Rargs := by
  obtain ⟨h0, h1, h2⟩ := h
  exact ⟨Frs.low h0 hl, Ivs.low h1 hl, Ivs.low h2 hl⟩
theorem Ma.At.below {w w' : World} {lo : Nat} {x : Ma} {Rframes : Option Addr} {Rstack : Option Addr} {Rargs : Option Addr} (h : Ma.At w lo x Rframes Rstack Rargs) (hb : Below w.heap.size w w') : Ma.At w' lo x Rframes Rstack Rargs := h.keep (KeptFrom.below hb lo)
/-- One element's cells. -/
structure Ma.Cells (w : World) (lo : Nat) (x : Ma) (b o : Nat) (Rframes : Option Addr) (cframes : Nat) (Rstack : Option Addr) (cstack : Nat) (Rargs : Option Addr) (cargs : Nat) : Prop where
  c0_ : w.cell? ⟨b, o, none⟩ = some (.int .i64 x.status)
  c1_ : w.cell? ⟨b, o + 1, none⟩ = some (.slice Rframes x.frames.length cframes)
  c2_ : w.cell? ⟨b, o + 2, none⟩ = some (.slice Rstack x.stack.length cstack)
  c3_ : w.cell? ⟨b, o + 3, none⟩ = some (.int .i64 x.imp)
  c4_ : w.cell? ⟨b, o + 4, none⟩ = some (.slice Rargs x.args.length cargs)
  c5_ : w.cell? ⟨b, o + 5, none⟩ = some (.int .i64 x.result)
  c6_ : w.cell? ⟨b, o + 6, none⟩ = some (.int .i64 x.trap)
  at_ : Ma.At w lo x Rframes Rstack Rargs
theorem Ma.Cells.keep {w w' : World} {lo : Nat} {x : Ma} {b o : Nat} {Rframes : Option Addr} {cframes : Nat} {Rstack : Option Addr} {cstack : Nat} {Rargs : Option Addr} {cargs : Nat} (h : Ma.Cells w lo x b o Rframes cframes Rstack cstack Rargs cargs) (hk : KeptFrom lo w w') (hlo : lo ≤ b) : Ma.Cells w' lo x b o Rframes cframes Rstack cstack Rargs cargs :=
  ⟨hk _ _ hlo h.c0_, hk _ _ hlo h.c1_, hk _ _ hlo h.c2_, hk _ _ hlo h.c3_, hk _ _ hlo h.c4_, hk _ _ hlo h.c5_, hk _ _ hlo h.c6_, h.at_.keep hk⟩
/-- A slice's elements lie in memory, no block of them below lo. -/
def Mas (w : World) (lo : Nat) (xs : List Ma) (R : Option Addr) : Prop := 0 < xs.length → ∃ b o : Nat, R = some ⟨b, o, none⟩ ∧ lo ≤ b ∧ ∀ (i : Nat) (x : Ma), xs[i]? = some x → ∃ (Rframes : Option Addr), ∃ (cframes : Nat), ∃ (Rstack : Option Addr), ∃ (cstack : Nat), ∃ (Rargs : Option Addr), ∃ (cargs : Nat), Ma.Cells w lo x b (o + i * 7) Rframes cframes Rstack cstack Rargs cargs
theorem Mas.keep {w w' : World} {lo : Nat} {xs : List Ma} {R : Option Addr} (h : Mas w lo xs R) (hk : KeptFrom lo w w') : Mas w' lo xs R := fun hp => by
  obtain ⟨b, o, hb, hlo, hr⟩ := h hp
  refine ⟨b, o, hb, hlo, fun i x hx => ?_⟩
  obtain ⟨Rframes, cframes, Rstack, cstack, Rargs, cargs, hc⟩ := hr i x hx
  exact ⟨_, _, _, _, _, _, hc.keep hk hlo⟩
theorem Mas.low {w : World} {lo lo' : Nat} {xs : List Ma} {R : Option Addr} (h : Mas w lo xs R) (hl : lo' ≤ lo) : Mas w lo' xs R := fun hp => by
  obtain ⟨b, o, hb, hlo, hr⟩ := h hp
  refine ⟨b, o, hb, by omega, fun i x hx => ?_⟩
  obtain ⟨Rframes, cframes, Rstack, cstack, Rargs, cargs, hc⟩ := hr i x hx
  exact ⟨_, _, _, _, _, _, ⟨hc.c0_, hc.c1_, hc.c2_, hc.c3_, hc.c4_, hc.c5_, hc.c6_, hc.at_.low hl⟩⟩
theorem Mas.below {w w' : World} {lo : Nat} {xs : List Ma} {R : Option Addr} (h : Mas w lo xs R) (hb : Below w.heap.size w w') : Mas w' lo xs R := h.keep (KeptFrom.below hb lo)
theorem Mas.at_ {w : World} {lo : Nat} {xs : List Ma} {R : Option Addr} (h : Mas w lo xs R) {k : Nat} (hk : k < xs.length) : ∃ (b o : Nat) (x : Ma), ∃ (Rframes : Option Addr), ∃ (cframes : Nat), ∃ (Rstack : Option Addr), ∃ (cstack : Nat), ∃ (Rargs : Option Addr), ∃ (cargs : Nat), R = some ⟨b, o, none⟩ ∧ lo ≤ b ∧ xs[k]? = some x ∧ Ma.Cells w lo x b (o + k * 7) Rframes cframes Rstack cstack Rargs cargs := by
  obtain ⟨b, o, ha, hlo, hc⟩ := h (by omega)
  obtain ⟨Rframes, cframes, Rstack, cstack, Rargs, cargs, hc⟩ := hc k _ (List.getElem?_eq_getElem hk)
  exact ⟨b, o, xs[k], _, _, _, _, _, _, ha, hlo, List.getElem?_eq_getElem hk, hc⟩
end Go.Proofs.Ytbjcldekapipaaa
