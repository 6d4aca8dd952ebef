/-
  ReadIns, the pure part: an instruction's text cut at its space, its number parsed.
-/
import Derived.Test.YtoeofhhmkkpjbaaDoorOpOf
import Derived.Test.YtoeofhhmkkpjbaaDoorNum15
import Derived.Test.YtoeofhhmkkpjbaaDoorCut15
import Derived.Test.YtoeofhhmkkpjbaaDoorInsText
import Derived.Lib.ParseIntBCases
import Derived.Lib.IndexMore
namespace Go.Proofs.YtoeofhhmkkpjbaaDoor
open Go.ChangeShapes Go.WideShapes Go.ChangeAt Go.RowKit Go.Deep

theorem index_sp : ∀ (X Y : List UInt8), (∀ c ∈ X, c ≠ 32) → Lib.index (X ++ 32 :: Y) [32] = (X.length : Int)
  | [], Y, _ => by simp [Lib.index, List.isPrefixOf]
  | c :: X, Y, h => by
    have ih := index_sp X Y (fun d hd => h d (by simp [hd]))
    have hc : c ≠ 32 := h c (by simp)
    have hp : ([32] : List UInt8).isPrefixOf (c :: (X ++ 32 :: Y)) = false := by simp [List.isPrefixOf, Ne.symm hc]
    rw [List.cons_append, Lib.index, hp, ih]
    simp
theorem index_no : ∀ (X : List UInt8), (∀ c ∈ X, c ≠ 32) → Lib.index X [32] = -1
  | [], _ => by simp [Lib.index]
  | c :: X, h => by
    have ih := index_no X (fun d hd => h d (by simp [hd]))
    have hc : c ≠ 32 := h c (by simp)
    have hp : ([32] : List UInt8).isPrefixOf (c :: X) = false := by simp [List.isPrefixOf, Ne.symm hc]
    rw [Lib.index, hp, ih]
    simp
theorem cut_sp (X Y : List UInt8) (h : ∀ c ∈ X, c ≠ 32) : Lib.cut (X ++ 32 :: Y) [32] = (X, Y, true) := by
  unfold Lib.cut
  rw [index_sp X Y h, if_pos (by omega)]
  simp
theorem cut_no (X : List UInt8) (h : ∀ c ∈ X, c ≠ 32) : Lib.cut X [32] = (X, [], false) := by
  unfold Lib.cut
  rw [index_no X h, if_neg (by omega)]
theorem dec_bytes : ∀ (k m : Nat), m ≤ k → ∀ c ∈ Lib.decDigits m, 48 ≤ c.toNat ∧ c.toNat ≤ 57 := by
  intro k
  induction k with
  | zero =>
    intro m hm c hc
    obtain rfl : m = 0 := by omega
    rw [Lib.decDigits, dif_pos (by omega)] at hc
    obtain rfl := List.mem_singleton.mp hc
    decide
  | succ k ih =>
    intro m hm c hc
    rw [Lib.decDigits] at hc
    split at hc
    · obtain rfl := List.mem_singleton.mp hc
      have h1 : (UInt8.ofNat (48 + m)).toNat = 48 + m := by simp; omega
      rw [h1]
      omega
    · rw [List.mem_append] at hc
      rcases hc with hc | hc
      · exact ih (m / 10) (by omega) c hc
      · obtain rfl := List.mem_singleton.mp hc
        have h1 : (UInt8.ofNat (48 + m % 10)).toNat = 48 + m % 10 := by simp; omega
        rw [h1]
        omega
theorem itoa_bytes (n : Int) : ∀ c ∈ Lib.itoa n, c ≠ 32 := by
  intro c hc e
  subst e
  unfold Lib.itoa at hc
  split at hc
  · rcases List.mem_cons.mp hc with h | h
    · exact absurd h (by decide)
    · have := dec_bytes _ _ (Nat.le_refl _) _ h
      exact absurd this.1 (by decide)
  · have := dec_bytes _ _ (Nat.le_refl _) _ hc
    exact absurd this.1 (by decide)
theorem opWs_bytes : ∀ l ∈ opWs, ∀ c ∈ l, c ≠ 32 := by decide +kernel
theorem opW_bytes (op : Int) : ∀ c ∈ (opW op).data.toList, c ≠ 32 := by
  unfold opW
  split
  · unfold opB
    intro c hc
    have hi : op.toNat < opWs.length := by have : opWs.length = 41 := rfl; omega
    rw [List.getD_eq_getElem?_getD, List.getElem?_eq_getElem hi, Option.getD_some] at hc
    exact opWs_bytes _ (List.getElem_mem hi) c (by simpa using hc)
  · intro c hc
    simp at hc

theorem parseUintM_append (M : Nat) : ∀ (a b : List UInt8) (acc u : Nat), Lib.parseUintM M acc a = .ok u → Lib.parseUintM M acc (a ++ b) = Lib.parseUintM M u b
  | [], b, acc, u, h => by
    simp only [Lib.parseUintM] at h
    injection h with h
    rw [List.nil_append, h]
  | c :: r, b, acc, u, h => by
    rw [List.cons_append]
    rw [Lib.parseUintM] at h ⊢
    split at h
    · rename_i h1
      rw [if_pos h1]
      split at h
      · cases h
      · rename_i h2
        rw [if_neg h2]
        split at h
        · cases h
        · rename_i h3
          rw [if_neg h3]
          exact parseUintM_append M r b _ u h
    · cases h
theorem parseUintM_dec : ∀ (k m : Nat), m ≤ k → m ≤ 9223372036854775808 → Lib.parseUintM 18446744073709551615 0 (Lib.decDigits m) = .ok m
  | k, m, hk, hm => by
    by_cases h : m < 10
    · rw [Lib.decDigits, dif_pos h]
      have h1 : (UInt8.ofNat (48 + m)).toNat = 48 + m := by simp; omega
      simp only [Lib.parseUintM, h1]
      rw [if_pos (by omega), if_neg (by omega), if_neg (by omega)]
      congr 1
      omega
    · match k, hk with
      | 0, hk => omega
      | k + 1, hk =>
        rw [Lib.decDigits, dif_neg h, parseUintM_append _ _ _ _ _ (parseUintM_dec k (m / 10) (by omega) (by omega))]
        have h1 : (UInt8.ofNat (48 + m % 10)).toNat = 48 + m % 10 := by simp; omega
        simp only [Lib.parseUintM, h1]
        rw [if_pos (by omega), if_neg (by omega), if_neg (by omega)]
        congr 1
        omega
theorem parseInt_itoa (n : Int) (h0 : -9223372036854775808 ≤ n) (h1 : n ≤ 9223372036854775807) : Lib.parseIntB 64 (Lib.itoa n) = .ok n := by
  have hne : ∀ m, Lib.decDigits m ≠ [] := fun m e => by
    have := congrArg List.length e
    rw [Lib.decDigits_length, Lib.nDigits] at this
    split at this <;> simp at this
  by_cases hp : 0 ≤ n
  · obtain ⟨m, rfl⟩ : ∃ m : Nat, n = (m : Int) := ⟨n.toNat, by omega⟩
    rw [Lib.itoa_nonneg]
    have hd := parseUintM_dec m m (Nat.le_refl _) (by omega)
    have hb := dec_bytes m m (Nat.le_refl _)
    have hn := hne m
    match hl : Lib.decDigits m, hn with
    | c :: r, _ =>
      rw [hl] at hd hb
      have hc := hb c (by simp)
      rw [Lib.parseIntB_plain 64 c r (by omega) (by omega)]
      unfold Lib.parseUintB
      rw [if_neg (by simp), show 2 ^ 64 - 1 = 18446744073709551615 from rfl, hd]
      simp only [Lib.signlessC]
      rw [if_neg (by omega)]
  · obtain ⟨m, rfl⟩ : ∃ m : Nat, n = -(m : Int) := ⟨n.natAbs, by omega⟩
    rw [Lib.itoa_neg m (by omega), Lib.parseIntB_minus]
    unfold Lib.parseUintB
    rw [if_neg (hne m), show 2 ^ 64 - 1 = 18446744073709551615 from rfl, parseUintM_dec m m (Nat.le_refl _) (by omega)]
    simp only [Lib.signedC]
    rw [if_neg (by omega)]
/-- An instruction's text, at its space. -/
theorem insT_list (op a : Int) (hb : (insR op).2.2 = true) : (insT op a).data.toList = (opW op).data.toList ++ 32 :: Lib.itoa a := by
  unfold insT
  rw [if_pos hb]
  simp [numB]
theorem insT_plain (op a : Int) (hb : ¬ (insR op).2.2 = true) : insT op a = opW op := by
  unfold insT
  rw [if_neg hb]
theorem insV_zero (op a : Int) (h : insV op a = true) (hb : ¬ (insR op).2.2 = true) : a = 0 := by
  have hh := insR_has op
  unfold insV at h
  simp only [Bool.and_eq_true, decide_eq_true_iff] at h
  by_cases h1 : (insR op).1 = 0
  · by_cases h2 : (insR op).2.1 = 0
    · omega
    · exact absurd (hh.mpr (Or.inr h2)) hb
  · exact absurd (hh.mpr (Or.inl h1)) hb
theorem insV_op (op a : Int) (h : insV op a = true) : 1 ≤ op ∧ op ≤ 40 := by
  unfold insV at h
  simp only [Bool.and_eq_true, decide_eq_true_iff] at h
  exact h.1
theorem isOp_at {s : ByteArray} {op v : Int} (h : IsOp s v) (h1 : 1 ≤ op) (h2 : op ≤ 40) (hs : opW op = s) : v = op := by
  obtain ⟨k, rfl⟩ : ∃ k : Nat, op = k := ⟨op.toNat, by omega⟩
  rw [opW_at k (by omega) (by omega)] at hs
  exact h.uniq (by omega) (by omega) hs
end Go.Proofs.YtoeofhhmkkpjbaaDoor
