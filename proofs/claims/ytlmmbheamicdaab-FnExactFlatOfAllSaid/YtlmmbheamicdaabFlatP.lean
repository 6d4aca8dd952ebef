/-
  The flat kinds of a type: the pure part. No condition.
-/
import Derived.Test.YtlmmbheamicdaabCasesS
import Derived.Test.YtlmmbheamicdaabJoinP
namespace Go.Proofs.Ytlmmbheamicdaab
open Go.ChangeShapes Go.WideShapes Go.ChangeAt Go.RowKit Go.Deep

mutual
def Ty.flat : Ty → List Int
  | .mk k _ _ ks =>
    if k = 1 then [] else if k = 9 then [2] else if k = 11 ∨ k = 12 then [1, 1]
    else if k = 15 ∨ k = 16 then Ty.flats ks
    else if k = 13 ∨ k = 14 ∨ k = 17 then 1 :: Ty.flatJ [] ks else [1]
/-- Of a row of types, one after the other. -/
def Ty.flats : List Ty → List Int
  | [] => []
  | t :: ts => t.flat ++ Ty.flats ts
/-- The join of a row of them, from one on. -/
def Ty.flatJ : List Int → List Ty → List Int
  | acc, [] => acc
  | acc, t :: ts => Ty.flatJ (join6 acc t.flat) ts
end
theorem Ty.flat_eq (T : Ty) : T.flat = if T.kind = 1 then [] else if T.kind = 9 then [2] else if T.kind = 11 ∨ T.kind = 12 then [1, 1]
    else if T.kind = 15 ∨ T.kind = 16 then Ty.flats T.kids
    else if T.kind = 13 ∨ T.kind = 14 ∨ T.kind = 17 then 1 :: Ty.flatJ [] T.kids else [1] := by
  cases T
  rw [Ty.flat]
  rfl
theorem Ty.flats_nil : Ty.flats [] = [] := by rw [Ty.flats]
theorem Ty.flats_cons (t : Ty) (ts : List Ty) : Ty.flats (t :: ts) = t.flat ++ Ty.flats ts := by rw [Ty.flats]
theorem Ty.flatJ_nil (acc : List Int) : Ty.flatJ acc [] = acc := by rw [Ty.flatJ]
theorem Ty.flatJ_cons (acc : List Int) (t : Ty) (ts : List Ty) : Ty.flatJ acc (t :: ts) = Ty.flatJ (join6 acc t.flat) ts := by rw [Ty.flatJ]
theorem unit_flat : unitTy.flat = [] := by
  rw [Ty.flat_eq, if_pos (show unitTy.kind = 1 from rfl)]
/-- A type that is unit or a kid of it joins alike. -/
theorem flatJ_cases {T : Ty} (h : T.kind = 13 ∨ T.kind = 14 ∨ T.kind = 17) : Ty.flatJ [] T.cases = Ty.flatJ [] T.kids := by
  unfold Ty.cases
  by_cases e : T.kind = 13
  · rw [if_pos e, Ty.flatJ_cons, unit_flat]
    rfl
  · rw [if_neg e, if_pos (by omega)]
theorem flats_len : ∀ (ks : List Ty) (_ : ∀ (i : Nat) (t : Ty), ks[i]? = some t → t.flat.length ≤ 2 * t.size), (Ty.flats ks).length ≤ 2 * Ty.sizes ks
  | [], _ => by rw [Ty.flats_nil]; exact Nat.zero_le _
  | t :: ts, h => by
    have h1 := h 0 t rfl
    have h2 := flats_len ts (fun i u hu => h (i + 1) u hu)
    rw [Ty.flats_cons, List.length_append, Ty.sizes]
    omega
theorem flatJ_len : ∀ (ks : List Ty) (_ : ∀ (i : Nat) (t : Ty), ks[i]? = some t → t.flat.length ≤ 2 * t.size) (acc : List Int), (Ty.flatJ acc ks).length ≤ acc.length + 2 * Ty.sizes ks
  | [], _, acc => by rw [Ty.flatJ_nil]; omega
  | t :: ts, h, acc => by
    have h1 := h 0 t rfl
    have h2 := flatJ_len ts (fun i u hu => h (i + 1) u hu) (join6 acc t.flat)
    have h3 := join6_len acc t.flat
    rw [Ty.flatJ_cons, Ty.sizes]
    omega
theorem Ty.flat_len (T : Ty) : T.flat.length ≤ 2 * T.size := by
  induction T using Ty.kidInd with
  | h T ih =>
    have h1 := T.size_eq
    have h2 := flats_len T.kids ih
    have h3 := flatJ_len T.kids ih []
    simp only [List.length_nil] at h3
    rw [Ty.flat_eq]
    (repeat' split) <;> (try simp only [List.length_cons, List.length_nil]) <;> omega
theorem Ty.Ok.flat {T : Ty} (h : T.Ok) : T.flat.length ≤ 60 := by
  have h1 := T.flat_len
  have h2 := h.1.2
  omega
end Go.Proofs.Ytlmmbheamicdaab
