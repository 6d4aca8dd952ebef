/-
  Names: the pure part. No program is named.
-/
import Derived.Test.YtbjcldekapipaaaGreatDoorBase
import Derived.Lib.SlTrimSet
import Derived.Lib.IndexLaws
import Derived.Lib.IndexMore
namespace Go.Proofs.YtbjcldekapipaaaGreatDoor

/-- The bytes of names. -/
def nset : List UInt8 := [97, 98, 99, 100, 101, 102, 103, 104, 105, 106, 107, 108, 109, 110, 111, 112, 113, 114, 115, 116, 117, 118, 119, 120, 121, 122, 48, 49, 50, 51, 52, 53, 54, 55, 56, 57, 45]
def okb (c : UInt8) : Bool := nset.contains c
set_option maxRecDepth 100000 in
theorem okb_all : ∀ n : Fin 256, nset.contains (UInt8.ofNat n.val) = decide ((97 ≤ n.val ∧ n.val ≤ 122) ∨ (48 ≤ n.val ∧ n.val ≤ 57) ∨ n.val = 45) := by decide
theorem okb_iff (c : UInt8) : okb c = true ↔ ((97 ≤ c.toNat ∧ c.toNat ≤ 122) ∨ (48 ≤ c.toNat ∧ c.toNat ≤ 57) ∨ c.toNat = 45) := by
  have h := okb_all ⟨c.toNat, c.toNat_lt⟩
  have hc : UInt8.ofNat c.toNat = c := by simp
  simp only [hc] at h
  unfold okb
  rw [h]
  simp

/-- The bytes that are left, behind a byte: may they go on so? -/
def nmL : List UInt8 → UInt8 → Bool
  | [], _ => true
  | c :: t, p => if okb c = false then false else if c = 45 ∧ p = 45 then false else nmL t c

/-- Is a text a name? -/
def nameL (l : List UInt8) : Bool :=
  decide (1 ≤ l.length ∧ l.length ≤ 12) && decide (97 ≤ (l.headD 0).toNat ∧ (l.headD 0).toNat ≤ 122) && (l.getLastD 0 != 45) && nmL l 0

theorem dropWhile_nil (p : UInt8 → Bool) : ∀ l : List UInt8, l.dropWhile p = [] ↔ ∀ c ∈ l, p c = true
  | [] => by simp
  | a :: l => by
    rw [List.dropWhile_cons]
    by_cases h : p a = true
    · rw [if_pos h, dropWhile_nil p l]
      simp [h]
    · rw [if_neg h]
      simp [h]

/-- Trimmed away whole: just where each byte is one of the set. -/
theorem trim_nil (l cs : List UInt8) : Lib.trimS l cs = [] ↔ ∀ c ∈ l, cs.contains c = true := by
  unfold Lib.trimS Lib.trimLeftS Lib.trimRightS
  rw [dropWhile_nil]
  constructor
  · intro h
    by_cases hall : ∀ c ∈ l, cs.contains c = true
    · exact hall
    · exfalso
      have hne : ¬ (l.reverse.dropWhile (fun x => cs.contains x)) = [] := by
        rw [dropWhile_nil]
        intro h2
        exact hall (fun c hc => h2 c (by simpa using hc))
      match hd : l.reverse.dropWhile (fun x => cs.contains x), hne with
      | c :: t, _ =>
        have h1 := h c (by rw [hd]; simp)
        have h2 := List.head_dropWhile_not (fun x => cs.contains x) (l := l.reverse) (by rw [hd]; simp)
        simp only [hd, List.head_cons] at h2
        rw [h1] at h2
        cases h2
  · intro h c hc
    have h1 : c ∈ l.reverse.dropWhile (fun x => cs.contains x) := by simpa using hc
    have h2 := (List.dropWhile_sublist (fun x => cs.contains x) (l := l.reverse)).subset h1
    exact h c (by simpa using h2)

theorem nmL_iff : ∀ (l : List UInt8) (p : UInt8), nmL l p = true ↔ ((∀ c ∈ l, okb c = true) ∧ ¬ (p = 45 ∧ l.head? = some 45) ∧ Lib.index l [45, 45] = -1)
  | [], p => by simp [nmL, Lib.index]
  | c :: t, p => by
    rw [nmL]
    have ih := nmL_iff t c
    have hi : Lib.index (c :: t) [45, 45] = if c = 45 ∧ t.head? = some 45 then 0 else if Lib.index t [45, 45] == -1 then -1 else Lib.index t [45, 45] + 1 := by
      rw [Lib.index]
      congr 1
      cases t with
      | nil => simp
      | cons d u =>
        simp only [List.isPrefixOf, List.head?_cons, Option.some.injEq, Bool.and_true, Bool.and_eq_true, beq_iff_eq, eq_iff_iff]
        constructor
        · rintro ⟨h1, h2⟩
          exact ⟨h1.symm, h2.symm⟩
        · rintro ⟨h1, h2⟩
          exact ⟨h1.symm, h2.symm⟩
    have hg := Lib.index_ge t [45, 45]
    rw [hi]
    by_cases h1 : okb c = false
    · rw [if_pos h1]
      simp [h1]
    · rw [if_neg h1]
      have h1' : okb c = true := by simpa using h1
      by_cases h2 : c = 45 ∧ p = 45
      · rw [if_pos h2]
        simp [h2.1, h2.2]
      · rw [if_neg h2, ih]
        have h2' : ¬ (p = 45 ∧ (c :: t).head? = some 45) := by
          intro h3
          exact h2 ⟨by simpa using h3.2, h3.1⟩
        by_cases h4 : c = 45 ∧ t.head? = some 45
        · rw [if_pos h4]
          constructor
          · intro h5
            exact absurd h4 h5.2.1
          · intro h5
            exact absurd h5.2.2 (by decide)
        · rw [if_neg h4]
          constructor
          · rintro ⟨h5, _, h7⟩
            refine ⟨?_, h2', by rw [h7]; rfl⟩
            intro d hd
            rcases List.mem_cons.mp hd with rfl | hd
            · exact h1'
            · exact h5 d hd
          · rintro ⟨h5, _, h7⟩
            refine ⟨fun d hd => h5 d (List.mem_cons_of_mem _ hd), h4, ?_⟩
            split at h7
            · rename_i h8
              exact beq_iff_eq.mp h8
            · omega
end Go.Proofs.YtbjcldekapipaaaGreatDoor
