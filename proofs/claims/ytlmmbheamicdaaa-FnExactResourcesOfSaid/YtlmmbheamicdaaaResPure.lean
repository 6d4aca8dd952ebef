/-
  Strictly rising lists of strings: putting one in, striking doubles out of a sorted list; the names of a type's handles. No condition.
-/
import Derived.Test.YtlmmbheamicdaaaTyParts
import Derived.Lib.SlicesCompact
import Derived.Sort.KeysCollected
namespace Go.Proofs.Ytlmmbheamicdaaa
open Go.ChangeShapes Go.WideShapes Go.ChangeAt Go.RowKit Go.Deep

abbrev Tx := List UInt8
def putR : List Tx → Tx → List Tx
  | [], s => [s]
  | x :: xs, s => if x = s then x :: xs else if s < x then s :: x :: xs else x :: putR xs s
theorem putR_mem {a s : Tx} : ∀ {l : List Tx}, a ∈ putR l s ↔ a = s ∨ a ∈ l
  | [] => by simp [putR]
  | x :: xs => by
    unfold putR
    split
    · rename_i h
      subst h
      simp
    · split
      · simp
      · simp only [List.mem_cons, putR_mem (l := xs)]
        constructor
        · rintro (h | h | h)
          · exact Or.inr (Or.inl h)
          · exact Or.inl h
          · exact Or.inr (Or.inr h)
        · rintro (h | h | h)
          · exact Or.inr (Or.inl h)
          · exact Or.inl h
          · exact Or.inr (Or.inr h)
theorem tx_lt_of {a b : Tx} (h1 : ¬ a = b) (h2 : ¬ b < a) : a < b := by
  have h3 : a ≤ b := List.not_lt.mp h2
  by_cases h4 : a < b
  · exact h4
  · exact absurd (List.le_antisymm h3 (List.not_lt.mp h4)) h1
theorem tx_irrefl (a : Tx) : ¬ a < a := List.lt_irrefl a
theorem tx_trans {a b c : Tx} (h : a < b) (k : b < c) : a < c := List.lt_trans h k
theorem putR_rise {s : Tx} : ∀ {l : List Tx}, l.Pairwise (· < ·) → (putR l s).Pairwise (· < ·)
  | [], _ => by simp [putR]
  | x :: xs, h => by
    obtain ⟨h1, h2⟩ := List.pairwise_cons.1 h
    unfold putR
    split
    · exact h
    · rename_i hne
      split
      · rename_i hlt
        refine List.pairwise_cons.2 ⟨fun a ha => ?_, h⟩
        rcases List.mem_cons.1 ha with rfl | ha
        · exact hlt
        · exact tx_trans hlt (h1 a ha)
      · rename_i hlt
        refine List.pairwise_cons.2 ⟨fun a ha => ?_, putR_rise h2⟩
        rcases putR_mem.1 ha with rfl | ha
        · exact tx_lt_of hne hlt
        · exact h1 a ha
theorem putR_length_le (s : Tx) : ∀ l : List Tx, (putR l s).length ≤ l.length + 1
  | [] => by simp [putR]
  | x :: xs => by
    unfold putR
    split
    · simp
    · split
      · simp
      · have := putR_length_le s xs
        simp
        omega
theorem rise_unique : ∀ {l m : List Tx}, l.Pairwise (· < ·) → m.Pairwise (· < ·) → (∀ a, a ∈ l ↔ a ∈ m) → l = m
  | [], m, _, _, h => by
    cases m with
    | nil => rfl
    | cons y ys => exact absurd ((h y).2 (by simp)) (by simp)
  | x :: xs, m, hl, hm, h => by
    cases m with
    | nil => exact absurd ((h x).1 (by simp)) (by simp)
    | cons y ys =>
      obtain ⟨l1, l2⟩ := List.pairwise_cons.1 hl
      obtain ⟨m1, m2⟩ := List.pairwise_cons.1 hm
      have e : x = y := by
        rcases List.mem_cons.1 ((h x).1 (by simp)) with e | hx
        · exact e
        · rcases List.mem_cons.1 ((h y).2 (by simp)) with e | hy
          · exact e.symm
          · exact absurd (tx_trans (l1 y hy) (m1 x hx)) (tx_irrefl x)
      subst e
      rw [rise_unique l2 m2 fun a => ?_]
      constructor
      · intro ha
        rcases List.mem_cons.1 ((h a).1 (by simp [ha])) with e | h3
        · subst e
          exact absurd (l1 a ha) (tx_irrefl a)
        · exact h3
      · intro ha
        rcases List.mem_cons.1 ((h a).2 (by simp [ha])) with e | h3
        · subst e
          exact absurd (m1 a ha) (tx_irrefl a)
        · exact h3

theorem compact_mem {zs : List Tx} (a : Tx) : a ∈ Lib.compact zs ↔ a ∈ zs := by
  unfold Lib.compact Lib.compactUpTo
  simp only [List.mem_map, List.mem_filter, List.mem_range]
  constructor
  · rintro ⟨j, ⟨hj, _⟩, rfl⟩
    rw [getElem!_pos _ j (by simpa using hj)]
    simp
  · intro ha
    obtain ⟨j, hj, rfl⟩ := List.getElem_of_mem ha
    have key : ∀ j, ∀ hj : j < zs.length, ∃ i, (i < zs.length ∧ Lib.keeps zs.toArray i = true) ∧ zs.toArray[i]! = zs[j] := by
      intro j
      induction j with
      | zero => exact fun hj => ⟨0, ⟨hj, Lib.keeps_lt_one _ 0 (by omega)⟩, by rw [getElem!_pos _ 0 (by simpa using hj)]; simp⟩
      | succ j ih =>
        intro hj
        by_cases e : zs.toArray[j + 1]! = zs.toArray[j]!
        · obtain ⟨i, hi, h⟩ := ih (by omega)
          refine ⟨i, hi, h.trans ?_⟩
          rw [getElem!_pos _ (j + 1) (by simpa using hj), getElem!_pos _ j (by simp; omega)] at e
          simpa using e.symm
        · exact ⟨j + 1, ⟨hj, Lib.keeps_pos e⟩, by rw [getElem!_pos _ (j + 1) (by simpa using hj)]; simp⟩
    obtain ⟨i, h1, h2⟩ := key j hj
    exact ⟨i, h1, h2⟩
theorem compact_rise {zs : List Tx} (h : zs.Pairwise (· ≤ ·)) : (Lib.compact zs).Pairwise (· < ·) := by
  unfold Lib.compact Lib.compactUpTo
  rw [List.pairwise_map, List.pairwise_filter]
  have hr : (List.range zs.length).Pairwise (fun a b => a < b ∧ b < zs.length) := by
    rw [List.pairwise_iff_getElem]
    intro i j hi hj hij
    simp only [List.length_range] at hi hj
    simp only [List.getElem_range]
    omega
  refine hr.imp fun {i j} hij _ hk => ?_
  have hg : ∀ p q, p ≤ q → (hq : q < zs.length) → zs.toArray[p]! ≤ zs.toArray[q]! := fun p q hpq hq => by
    rw [getElem!_pos _ p (by simp; omega), getElem!_pos _ q (by simpa using hq)]
    by_cases e : p = q
    · subst e
      exact List.le_refl _
    · exact List.pairwise_iff_getElem.1 h p q (by omega) hq (by omega)
  have hne : zs.toArray[j]! ≠ zs.toArray[j - 1]! := by
    have hk' := hk
    unfold Lib.keeps at hk'
    rw [decide_eq_true_iff] at hk'
    rcases hk' with h0 | h1
    · omega
    · exact h1
  have h1 := hg i (j - 1) (by omega) (by omega)
  have h2 := hg (j - 1) j (by omega) hij.2
  have h3 : zs.toArray[j - 1]! < zs.toArray[j]! := tx_lt_of (fun e => hne e.symm) (List.not_lt.mpr h2)
  by_cases h4 : zs.toArray[j]! ≤ zs.toArray[i]!
  · exact absurd h3 (List.not_lt.mpr (List.le_trans h4 h1))
  · exact List.not_le.mp h4
theorem sort_sorted (ss : List Tx) : (ss.mergeSort fun x y => decide (x ≤ y)).Pairwise (· ≤ ·) := by
  have tr : ∀ a b c : Tx, decide (a ≤ b) = true → decide (b ≤ c) = true → decide (a ≤ c) = true := fun a b c h1 h2 => by simp only [decide_eq_true_eq] at *; exact List.le_trans h1 h2
  have to : ∀ a b : Tx, (decide (a ≤ b) || decide (b ≤ a)) = true := fun a b => by simp only [Bool.or_eq_true, decide_eq_true_eq]; exact List.le_total a b
  exact (List.pairwise_mergeSort tr to ss).imp fun h => by simpa using h
theorem sort_mem (ss : List Tx) (a : Tx) : a ∈ (ss.mergeSort fun x y => decide (x ≤ y)) ↔ a ∈ ss := (List.mergeSort_perm ss _).mem_iff

/-- Names put in, one behind the other. -/
def putAll (l : List Tx) (ns : List Tx) : List Tx := ns.foldl putR l
theorem putAll_mem {a : Tx} : ∀ {ns l : List Tx}, a ∈ putAll l ns ↔ a ∈ l ∨ a ∈ ns
  | [], l => by simp [putAll]
  | s :: ns, l => by
    unfold putAll
    rw [List.foldl_cons]
    have h := putAll_mem (a := a) (ns := ns) (l := putR l s)
    unfold putAll at h
    rw [h, putR_mem, List.mem_cons]
    constructor
    · rintro ((h | h) | h)
      · exact Or.inr (Or.inl h)
      · exact Or.inl h
      · exact Or.inr (Or.inr h)
    · rintro (h | h | h)
      · exact Or.inl (Or.inr h)
      · exact Or.inl (Or.inl h)
      · exact Or.inr h
theorem putAll_rise : ∀ {ns l : List Tx}, l.Pairwise (· < ·) → (putAll l ns).Pairwise (· < ·)
  | [], l, h => h
  | s :: ns, l, h => by
    unfold putAll
    rw [List.foldl_cons]
    exact putAll_rise (ns := ns) (putR_rise h)
theorem putAll_length (l : List Tx) : ∀ ns : List Tx, (putAll l ns).length ≤ l.length + ns.length := by
  intro ns
  induction ns generalizing l with
  | nil => simp [putAll]
  | cons s ns ih =>
    unfold putAll
    rw [List.foldl_cons]
    have h1 := ih (putR l s)
    unfold putAll at h1
    have h2 := putR_length_le s l
    simp only [List.length_cons]
    omega
theorem putAll_append (l ns ms : List Tx) : putAll l (ns ++ ms) = putAll (putAll l ns) ms := by simp [putAll, List.foldl_append]
/-- Both ways come to one list. -/
theorem both_ways (ns : List Tx) : Lib.compact (ns.mergeSort fun x y => decide (x ≤ y)) = putAll [] ns :=
  rise_unique (compact_rise (sort_sorted ns)) (putAll_rise List.Pairwise.nil) fun a => by rw [compact_mem, sort_mem, putAll_mem]; simp

/-- The names that a tree's parts bear, from left to right. -/
def nameOf (t : Ty) : List Tx := if t.name.size = 0 then [] else [t.name.data.toList]
def Ty.names (T : Ty) : List Tx := T.parts.flatMap nameOf
theorem Ty.names_eq (T : Ty) : T.names = nameOf T ++ (Ty.partss T.kids).flatMap nameOf := by
  unfold Ty.names
  rw [Ty.parts_eq, List.flatMap_cons]
def Ty.namess (ks : List Ty) : List Tx := (Ty.partss ks).flatMap nameOf
theorem Ty.namess_take {ks : List Ty} {i : Nat} {t : Ty} (h : ks[i]? = some t) : Ty.namess (ks.take (i + 1)) = Ty.namess (ks.take i) ++ t.names := by
  unfold Ty.namess Ty.names
  rw [Ty.partss_take h, List.flatMap_append]
theorem Ty.names_length (T : Ty) : T.names.length ≤ T.size := by
  rw [← Ty.parts_length]
  unfold Ty.names
  generalize T.parts = ps
  induction ps with
  | nil => simp
  | cons p ps ih =>
    rw [List.flatMap_cons, List.length_append, List.length_cons]
    have : (nameOf p).length ≤ 1 := by unfold nameOf; split <;> simp
    omega
end Go.Proofs.Ytlmmbheamicdaaa
