/-
  Why a value of one type can't be used as one of another: told on trees. No condition.
-/
import Derived.Test.YtifchfecfkdjlaaGreatDoorNumR
import Derived.Test.YtifchfecfkdjlaaGreatDoorTyPure
import Derived.Test.YtifchfecfkdjlaaGreatDoorTyW3
import Derived.Test.YtifchfecfkdjlaaGreatDoorDigits
namespace Go.Proofs.YtifchfecfkdjlaaGreatDoor
open Go.ChangeShapes Go.WideShapes Go.ChangeAt Go.RowKit

/-- Two strings of the same bytes. -/
def eqS (a b : ByteArray) : Bool := a.data.toList == b.data.toList
theorem eqS_iff {a b : ByteArray} : eqS a b = true ↔ a = b := by
  unfold eqS
  rw [beq_iff_eq]
  exact ⟨fun h => ByteArray.ext (Array.toList_inj.mp h), fun h => by rw [h]⟩
theorem eqS_no {a b : ByteArray} (h : a ≠ b) : eqS a b = false := by
  cases e : eqS a b
  · rfl
  · exact absurd (eqS_iff.mp e) h
theorem eqS_self (a : ByteArray) : eqS a a = true := eqS_iff.mpr rfl

/-- Where a label stands first. -/
def place (s : ByteArray) : List ByteArray → Option Nat
  | [] => none
  | x :: xs => if eqS x s = true then some 0 else (place s xs).map (· + 1)
theorem place_some {s : ByteArray} : ∀ {ls : List ByteArray} {i : Nat}, place s ls = some i → ls[i]? = some s
  | [], i, h => by cases h
  | x :: xs, i, h => by
    unfold place at h
    by_cases e : eqS x s = true
    · rw [if_pos e] at h
      cases h
      rw [eqS_iff.mp e]
      rfl
    · rw [if_neg e] at h
      cases hp : place s xs with
      | none => rw [hp] at h; cases h
      | some j =>
        rw [hp] at h
        cases h
        simpa using place_some hp
theorem place_none {s : ByteArray} : ∀ {ls : List ByteArray}, place s ls = none → ∀ j : Nat, ls[j]? ≠ some s
  | [], _, j => by simp
  | x :: xs, h, j => by
    unfold place at h
    by_cases e : eqS x s = true
    · rw [if_pos e] at h
      cases h
    · rw [if_neg e] at h
      cases hp : place s xs with
      | some j => rw [hp] at h; cases h
      | none =>
        cases j with
        | zero =>
          intro h9
          simp at h9
          exact e (eqS_iff.mpr h9)
        | succ j => simpa using place_none hp j
theorem place_at {s : ByteArray} : ∀ {ls : List ByteArray} {i : Nat}, ls[i]? = some s → (∀ j : Nat, j < i → ls[j]? ≠ some s) → place s ls = some i
  | [], i, h, _ => by simp at h
  | x :: xs, i, h, hn => by
    unfold place
    by_cases e : eqS x s = true
    · rw [if_pos e]
      cases i with
      | zero => rfl
      | succ i => exact absurd (by simpa using eqS_iff.mp e) (hn 0 (by omega))
    · rw [if_neg e]
      cases i with
      | zero => exact absurd (eqS_iff.mpr (by simpa using h)) e
      | succ i =>
        rw [place_at (ls := xs) (i := i) (by simpa using h) (fun j hj => by simpa using hn (j + 1) (by omega))]
        rfl
theorem place_no {s : ByteArray} {ls : List ByteArray} (h : ∀ j : Nat, j < ls.length → ls[j]? ≠ some s) : place s ls = none := by
  cases hp : place s ls with
  | none => rfl
  | some i =>
    have h1 := place_some hp
    exact absurd h1 (h i (List.getElem?_eq_some_iff.1 h1).1)
theorem place_lt {s : ByteArray} {ls : List ByteArray} {i : Nat} (h : place s ls = some i) : i < ls.length := (List.getElem?_eq_some_iff.1 (place_some h)).1
/-- The first answer among the first so many. -/
def scanR (f : Nat → Option (Int × ByteArray)) : Nat → Option (Int × ByteArray)
  | 0 => none
  | n + 1 => match scanR f n with | some r => some r | none => f n
theorem scanR_step {f : Nat → Option (Int × ByteArray)} {n : Nat} (h : scanR f n = none) : scanR f (n + 1) = f n := by
  rw [scanR, h]
theorem scanR_of {f : Nat → Option (Int × ByteArray)} {k : Nat} {r : Int × ByteArray} (h : scanR f k = none) (hr : f k = some r) : ∀ {n : Nat}, k < n → scanR f n = some r
  | 0, hn => by omega
  | n + 1, hn => by
    by_cases e : k = n
    · subst e
      rw [scanR_step h, hr]
    · rw [scanR, scanR_of h hr (n := n) (by omega)]
theorem scanR_get {f : Nat → Option (Int × ByteArray)} : ∀ {n : Nat} {r : Int × ByteArray}, scanR f n = some r → ∃ k, k < n ∧ f k = some r
  | 0, r, h => by cases h
  | n + 1, r, h => by
    cases hs : scanR f n with
    | none =>
      rw [scanR_step hs] at h
      exact ⟨n, by omega, h⟩
    | some q =>
      rw [scanR, hs] at h
      cases h
      obtain ⟨k, hk, h1⟩ := scanR_get hs
      exact ⟨k, by omega, h1⟩

/-- A reason with a step ahead. -/
def preR (s : ByteArray) (r : Option (Int × ByteArray)) : Option (Int × ByteArray) := r.map fun x => (x.1, s ++ x.2)
theorem preR_none (s : ByteArray) : preR s none = none := rfl
theorem preR_some (s : ByteArray) (k : Int) (p : ByteArray) : preR s (some (k, p)) = some (k, s ++ p) := rfl
/-- The reason about two kids. -/
def kidR (w : Ty → Ty → Option (Int × ByteArray)) (ks us : List Ty) (i j : Nat) (step : ByteArray) : Option (Int × ByteArray) :=
  match ks[i]?, us[j]? with
  | some x, some y => preR step (w x y)
  | _, _ => none
theorem kidR_eq {w : Ty → Ty → Option (Int × ByteArray)} {ks us : List Ty} {i j : Nat} {x y : Ty} (hx : ks[i]? = some x) (hy : us[j]? = some y) (step : ByteArray) : kidR w ks us i j step = preR step (w x y) := by
  unfold kidR
  rw [hx, hy]

/-- A kind of an integer. -/
def numK (k : Int) : Bool := decide (3 ≤ k) && decide (k ≤ 9)
/-- The one's range lies within the other's. -/
def numIn (a b : Int) : Bool := decide ((nrV b).1 ≤ (nrV a).1) && decide ((nrV a).2.1 ≤ (nrV b).2.1)

mutual
def Ty.eqB : Ty → Ty → Bool | .mk k n l ks, .mk k' n' l' ks' => k == k' && eqS n n' && (l.map (·.data.toList)) == (l'.map (·.data.toList)) && Ty.eqsB ks ks'
def Ty.eqsB : List Ty → List Ty → Bool | [], [] => true | x :: xs, y :: ys => x.eqB y && Ty.eqsB xs ys | [], _ :: _ => false | _ :: _, [] => false
end
theorem strs_eq {l l' : List ByteArray} (h : l.map (·.data.toList) = l'.map (·.data.toList)) : l = l' := by
  induction l generalizing l' with
  | nil => cases l' with
    | nil => rfl
    | cons y ys => cases h
  | cons x xs ih => cases l' with
    | nil => cases h
    | cons y ys =>
      simp only [List.map_cons, List.cons.injEq] at h
      rw [ih h.2, ByteArray.ext (Array.toList_inj.mp h.1)]
mutual
theorem Ty.eqB_iff : ∀ a b : Ty, a.eqB b = true ↔ a = b
  | .mk k n l ks, .mk k' n' l' ks' => by
    unfold Ty.eqB
    simp only [Bool.and_eq_true, beq_iff_eq, eqS_iff, Ty.eqsB_iff ks ks']
    constructor
    · rintro ⟨⟨⟨rfl, rfl⟩, h3⟩, rfl⟩
      rw [strs_eq h3]
    · intro h
      injection h with h1 h2 h3 h4
      subst h1 h2 h3 h4
      exact ⟨⟨⟨rfl, rfl⟩, rfl⟩, rfl⟩
theorem Ty.eqsB_iff : ∀ a b : List Ty, Ty.eqsB a b = true ↔ a = b
  | [], [] => by simp [Ty.eqsB]
  | x :: xs, y :: ys => by
    unfold Ty.eqsB
    simp only [Bool.and_eq_true, Ty.eqB_iff x y, Ty.eqsB_iff xs ys, List.cons.injEq]
  | [], y :: ys => by simp [Ty.eqsB]
  | x :: xs, [] => by simp [Ty.eqsB]
end

def sE : ByteArray := ⟨#[]⟩
def sDot : ByteArray := ⟨#[46]⟩
def sList : ByteArray := ⟨#[91, 93]⟩
def sOpt : ByteArray := ⟨#[63]⟩
def sOk : ByteArray := ⟨#[46, 111, 107]⟩
def sErr : ByteArray := ⟨#[46, 101, 114, 114]⟩

abbrev RFun := Ty → Ty → Option (Int × ByteArray)
def tupF (w : RFun) (a b : Ty) (i : Nat) : Option (Int × ByteArray) := kidR w a.kids b.kids i i (sDot ++ decB i)
def recL (w : RFun) (a b : Ty) (j : Nat) (l : ByteArray) : Option (Int × ByteArray) :=
  match place l a.labels with | none => some (4, sDot ++ l) | some i => kidR w a.kids b.kids i j (sDot ++ l)
def recF (w : RFun) (a b : Ty) (j : Nat) : Option (Int × ByteArray) :=
  match b.labels[j]? with | none => none | some l => recL w a b j l
def varL (w : RFun) (a b : Ty) (i : Nat) (l : ByteArray) : Option (Int × ByteArray) :=
  match place l b.labels with | none => some (5, sDot ++ l) | some j => kidR w a.kids b.kids i j (sDot ++ l)
def varF (w : RFun) (a b : Ty) (i : Nat) : Option (Int × ByteArray) :=
  match a.labels[i]? with | none => none | some l => varL w a b i l
def enL (b : Ty) (l : ByteArray) : Option (Int × ByteArray) :=
  match place l b.labels with | none => some (5, sDot ++ l) | some _ => none
def enF (a b : Ty) (i : Nat) : Option (Int × ByteArray) :=
  match a.labels[i]? with | none => none | some l => enL b l
theorem recF_eq {w : RFun} {a b : Ty} {j : Nat} {l : ByteArray} (h : b.labels[j]? = some l) : recF w a b j = recL w a b j l := by
  unfold recF
  rw [h]
theorem varF_eq {w : RFun} {a b : Ty} {i : Nat} {l : ByteArray} (h : a.labels[i]? = some l) : varF w a b i = varL w a b i l := by
  unfold varF
  rw [h]
theorem enF_eq {a b : Ty} {i : Nat} {l : ByteArray} (h : a.labels[i]? = some l) : enF a b i = enL b l := by
  unfold enF
  rw [h]
theorem recL_no {w : RFun} {a b : Ty} {j : Nat} {l : ByteArray} (h : place l a.labels = none) : recL w a b j l = some (4, sDot ++ l) := by
  unfold recL
  rw [h]
theorem recL_at {w : RFun} {a b : Ty} {i j : Nat} {l : ByteArray} {x y : Ty} (h : place l a.labels = some i) (hx : a.kids[i]? = some x) (hy : b.kids[j]? = some y) : recL w a b j l = preR (sDot ++ l) (w x y) := by
  unfold recL
  rw [h]
  exact kidR_eq hx hy _
theorem varL_no {w : RFun} {a b : Ty} {i : Nat} {l : ByteArray} (h : place l b.labels = none) : varL w a b i l = some (5, sDot ++ l) := by
  unfold varL
  rw [h]
theorem varL_at {w : RFun} {a b : Ty} {i j : Nat} {l : ByteArray} {x y : Ty} (h : place l b.labels = some j) (hx : a.kids[i]? = some x) (hy : b.kids[j]? = some y) : varL w a b i l = preR (sDot ++ l) (w x y) := by
  unfold varL
  rw [h]
  exact kidR_eq hx hy _
theorem enL_no {b : Ty} {l : ByteArray} (h : place l b.labels = none) : enL b l = some (5, sDot ++ l) := by
  unfold enL
  rw [h]
theorem enL_at {b : Ty} {j : Nat} {l : ByteArray} (h : place l b.labels = some j) : enL b l = none := by
  unfold enL
  rw [h]
theorem tupF_eq {w : RFun} {a b : Ty} {i : Nat} {x y : Ty} (hx : a.kids[i]? = some x) (hy : b.kids[i]? = some y) : tupF w a b i = preR (sDot ++ decB i) (w x y) := kidR_eq hx hy _

/-- What the kids and labels say, by the kind, which both have. -/
def whyB (w : RFun) (a b : Ty) : Option (Int × ByteArray) :=
  if b.kind = 12 then kidR w a.kids b.kids 0 0 sList
  else if b.kind = 13 then kidR w a.kids b.kids 0 0 sOpt
  else if b.kind = 14 then (match kidR w a.kids b.kids 0 0 sOk with | some r => some r | none => kidR w a.kids b.kids 1 1 sErr)
  else if b.kind = 15 then (if a.kids.length = b.kids.length then scanR (tupF w a b) b.kids.length else some (3, sE))
  else if b.kind = 16 then scanR (recF w a b) b.labels.length
  else if b.kind = 17 then scanR (varF w a b) a.labels.length
  else if b.kind = 18 ∨ b.kind = 19 then scanR (enF a b) a.labels.length
  else if b.kind = 20 ∨ b.kind = 21 then (if eqS a.name b.name = true then none else some (6, sE))
  else if b.kind = 22 ∨ b.kind = 23 then (if Ty.eqsB a.kids b.kids = true then none else some (3, sE))
  else none
/-- The first reason, to a depth. -/
def Ty.why : Nat → Ty → Ty → Option (Int × ByteArray)
  | 0, _, _ => none
  | n + 1, a, b =>
    if numK a.kind = true ∧ numK b.kind = true then (if numIn a.kind b.kind = true then none else some (2, sE))
    else if a.kind = b.kind then whyB (Ty.why n) a b else some (1, sE)

theorem appS_size (a b : ByteArray) : (a ++ b).size = a.size + b.size := by simp
/-- A reason's kind is one of the eleven, and its path is short. -/
def RsnOk (m : Nat) (r : Option (Int × ByteArray)) : Prop := ∀ k p, r = some (k, p) → (1 ≤ k ∧ k ≤ 11) ∧ p.size ≤ m
theorem RsnOk.none (m : Nat) : RsnOk m none := fun k p h => by cases h
theorem RsnOk.lit {m : Nat} {k : Int} {p : ByteArray} (hk : 1 ≤ k ∧ k ≤ 11) (hp : p.size ≤ m) : RsnOk m (some (k, p)) := fun k' p' h => by
  cases h
  exact ⟨hk, hp⟩
theorem RsnOk.pre {m l : Nat} {r : Option (Int × ByteArray)} (h : RsnOk m r) {s : ByteArray} (hs : s.size ≤ l) : RsnOk (m + l) (preR s r) := fun k p hp => by
  cases r with
  | none => cases hp
  | some x =>
    obtain ⟨k1, p1⟩ := x
    rw [preR_some] at hp
    injection hp with hp
    injection hp with hp1 hp2
    subst hp1 hp2
    obtain ⟨h1, h2⟩ := h k1 p1 rfl
    exact ⟨h1, by rw [appS_size]; omega⟩
theorem RsnOk.mono {m m' : Nat} {r : Option (Int × ByteArray)} (h : RsnOk m r) (hm : m ≤ m') : RsnOk m' r := fun k p hp => ⟨(h k p hp).1, Nat.le_trans (h k p hp).2 hm⟩
theorem RsnOk.scan {m : Nat} {f : Nat → Option (Int × ByteArray)} (h : ∀ i, RsnOk m (f i)) (n : Nat) : RsnOk m (scanR f n) := fun k p hp => by
  obtain ⟨i, _, h1⟩ := scanR_get hp
  exact h i k p h1

theorem decB_le (i : Nat) (h : i < 1000) : (decB i).size ≤ 3 := decB_size i (by omega) (by omega)
/-- A reason about kids, if those about two of them are in order. -/
theorem RsnOk.kid {m l : Nat} {w : RFun} {ks us : List Ty} (hw : ∀ (i j : Nat) (x y : Ty), ks[i]? = some x → us[j]? = some y → RsnOk m (w x y)) (i j : Nat) {s : ByteArray} (hs : s.size ≤ l) : RsnOk (m + l) (kidR w ks us i j s) := by
  unfold kidR
  split
  · rename_i x y hx hy
    exact (hw i j x y hx hy).pre hs
  · exact RsnOk.none _
theorem dotS (l : ByteArray) : (sDot ++ l).size = 1 + l.size := by rw [appS_size]; rfl
theorem whyB_ok {m : Nat} {w : RFun} {a b : Ty} (hw : ∀ (i j : Nat) (x y : Ty), a.kids[i]? = some x → b.kids[j]? = some y → RsnOk m (w x y)) (ha : ∀ s ∈ a.labels, s.size ≤ 1048576) (hb : ∀ s ∈ b.labels, s.size ≤ 1048576) (hk : b.kids.length ≤ 1000) : RsnOk (m + 1048577) (whyB w a b) := by
  have hla : ∀ (i : Nat) (l : ByteArray), a.labels[i]? = some l → (sDot ++ l).size ≤ 1048577 := fun i l h => by
    have := ha l (List.mem_of_getElem? h)
    rw [dotS]; omega
  have hlb : ∀ (i : Nat) (l : ByteArray), b.labels[i]? = some l → (sDot ++ l).size ≤ 1048577 := fun i l h => by
    have := hb l (List.mem_of_getElem? h)
    rw [dotS]; omega
  have z0 : (sE).size ≤ m + 1048577 := Nat.zero_le _
  unfold whyB
  split
  · exact RsnOk.kid hw _ _ (show (2 : Nat) ≤ 1048577 by omega)
  split
  · exact RsnOk.kid hw _ _ (show (1 : Nat) ≤ 1048577 by omega)
  split
  · have h1 : RsnOk (m + 1048577) (kidR w a.kids b.kids 0 0 sOk) := RsnOk.kid hw _ _ (show (3 : Nat) ≤ 1048577 by omega)
    have h2 : RsnOk (m + 1048577) (kidR w a.kids b.kids 1 1 sErr) := RsnOk.kid hw _ _ (show (4 : Nat) ≤ 1048577 by omega)
    split
    · rename_i r hr
      rw [hr] at h1
      exact h1
    · exact h2
  split
  · split
    · exact fun k p hp => by
        obtain ⟨i, hi, h1⟩ := scanR_get hp
        exact (RsnOk.kid hw i i (s := sDot ++ decB i) (l := 1048577) (by rw [dotS]; have := decB_le i (by omega); omega)) k p h1
    · exact RsnOk.lit (by omega) z0
  split
  · refine RsnOk.scan (fun j => ?_) _
    unfold recF
    split
    · exact RsnOk.none _
    · rename_i l hl
      unfold recL
      split
      · exact RsnOk.lit (by omega) (by have := hlb j l hl; omega)
      · exact RsnOk.kid hw _ _ (hlb j l hl)
  split
  · refine RsnOk.scan (fun i => ?_) _
    unfold varF
    split
    · exact RsnOk.none _
    · rename_i l hl
      unfold varL
      split
      · exact RsnOk.lit (by omega) (by have := hla i l hl; omega)
      · exact RsnOk.kid hw _ _ (hla i l hl)
  split
  · refine RsnOk.scan (fun i => ?_) _
    unfold enF
    split
    · exact RsnOk.none _
    · rename_i l hl
      unfold enL
      split
      · exact RsnOk.lit (by omega) (by have := hla i l hl; omega)
      · exact RsnOk.none _
  split
  · split
    · exact RsnOk.none _
    · exact RsnOk.lit (by omega) z0
  split
  · split
    · exact RsnOk.none _
    · exact RsnOk.lit (by omega) z0
  · exact RsnOk.none _
theorem Ty.why_ok : ∀ (n : Nat) (a b : Ty), a.wt ≤ 1048576 → b.wt ≤ 1048576 → b.size ≤ 1000 → RsnOk (n * 1048577) (Ty.why n a b)
  | 0, a, b, _, _, _ => RsnOk.none _
  | n + 1, a, b, ha, hb, hs => by
    obtain ⟨_, _, qa3, _, qa5⟩ := Ty.len_le ha
    obtain ⟨_, _, qb3, _, qb5⟩ := Ty.len_le hb
    have h2 := b.size_eq
    have h3 := Ty.length_le b.kids
    have hW := whyB_ok (m := n * 1048577) (w := Ty.why n) (a := a) (b := b) (fun i j x y hx hy => Ty.why_ok n x y (qa3 i x hx) (qb3 j y hy) (by have := Ty.size_kid hy; omega)) qa5 qb5 (by omega)
    have e : n * 1048577 + 1048577 = (n + 1) * 1048577 := by omega
    rw [e] at hW
    rw [Ty.why]
    split
    · split
      · exact RsnOk.none _
      · exact RsnOk.lit (by omega) (Nat.zero_le _)
    · split
      · exact hW
      · exact RsnOk.lit (by omega) (Nat.zero_le _)
end Go.Proofs.YtifchfecfkdjlaaGreatDoor
