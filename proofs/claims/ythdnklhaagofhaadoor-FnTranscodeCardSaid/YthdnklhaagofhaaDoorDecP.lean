/-
  Bytes read back as code points: the pure part. No condition.
-/
import Derived.Test.YthdnklhaagofhaaDoorEncS
import Derived.Test.YthdnklhaagofhaaDoorGetFix0
import Derived.Laws.OwnMore
namespace Go.Proofs.YthdnklhaagofhaaDoor
open Go.ChangeShapes Go.WideShapes Go.ChangeAt Go.RowKit Go.Deep

/-- The code unit that two bytes are. -/
def val2 (l : List Int) : Int := l.getD 0 0 + 256 * l.getD 1 0
/-- The model's reading of UTF-16. -/
def wideS : Nat → List Int → List Int
  | 0, _ => []
  | f + 1, l => if 2 ≤ l.length then (if 55296 ≤ val2 l ∧ val2 l ≤ 56319 ∧ 4 ≤ l.length then (65536 + (val2 l - 55296) * 1024 + (val2 (l.drop 2) - 56320) % 1024) :: wideS f (l.drop 4) else val2 l :: wideS f (l.drop 2)) else []
/-- The last of the units that are there. -/
def lastU (acc : List Int) : Int := acc.getD (acc.length - 1) 0
/-- One more code unit, as the program takes it. -/
def stepI (acc : List Int) (u : Int) : List Int :=
  if 0 < acc.length ∧ (55296 ≤ lastU acc ∧ lastU acc < 56320) ∧ (56320 ≤ u ∧ u < 57344) then acc.set (acc.length - 1) (65536 + (lastU acc - 55296) * 1024 + u - 56320) else acc ++ [u]
/-- The program's reading of UTF-16. -/
def wideI : Nat → List Int → List Int → List Int
  | 0, acc, _ => acc
  | f + 1, acc, l => if 2 ≤ l.length then wideI f (stepI acc (val2 l)) (l.drop 2) else acc

theorem nums_append (a b : ByteArray) : nums (a ++ b) = nums a ++ nums b := by
  unfold nums
  rw [ByteArray.data_append, Array.toList_append, List.map_append]
theorem nums_str (P : List Int) (h : ∀ n ∈ P, 0 ≤ n ∧ n ≤ 255) : nums (strOfNums P) = P := by
  unfold nums
  rw [strOfNums_data, List.map_map]
  refine (List.map_congr_left (fun x hx => ?_)).trans (List.map_id _)
  have := h x hx
  simp
  omega
theorem wideB_foldl : ∀ (P : List Int) (r : ByteArray), P.foldl (fun r n => r ++ pairB n) r = r ++ wideB P
  | [], r => by
    apply ByteArray.ext
    apply Array.toList_inj.mp
    simp [wideB]
  | n :: ns, r => by
    unfold wideB
    rw [List.foldl_cons, List.foldl_cons, wideB_foldl ns, wideB_foldl ns]
    apply ByteArray.ext
    apply Array.toList_inj.mp
    simp
theorem wideB_cons (n : Int) (P : List Int) : nums (wideB (n :: P)) = nums (pairB n) ++ nums (wideB P) := by
  have h : wideB (n :: P) = (ByteArray.empty ++ pairB n) ++ wideB P := by
    show (n :: P).foldl _ _ = _
    rw [List.foldl_cons, wideB_foldl]
  rw [h, nums_append, nums_append]
  simp [nums]
theorem fixl2 (n : Int) : fixl n 2 = [n % 256, n / 256 % 256] := by simp [fixl]
theorem nums_fix (n : Int) : nums (strOfNums (fixl n 2)) = [n % 256, n / 256 % 256] := by
  rw [nums_str, fixl2]
  intro x hx
  rw [fixl2] at hx
  have h7 : x = n % 256 ∨ x = n / 256 % 256 := by simpa using hx
  omega
theorem nums_pair1 {n : Int} (h : n < 65536) : nums (pairB n) = [n % 256, n / 256 % 256] := by
  unfold pairB
  rw [if_pos h, nums_fix]
theorem nums_pair2 {n : Int} (h : ¬ n < 65536) : nums (pairB n) = [(55296 + (n - 65536) / 1024) % 256, (55296 + (n - 65536) / 1024) / 256 % 256, (56320 + (n - 65536) % 1024) % 256, (56320 + (n - 65536) % 1024) / 256 % 256] := by
  unfold pairB
  rw [if_neg h, nums_append, nums_fix, nums_fix]
  rfl
theorem val2_fix {n : Int} (h0 : 0 ≤ n) (h1 : n < 65536) (r : List Int) : val2 (n % 256 :: n / 256 % 256 :: r) = n := by
  simp [val2]
  omega
/-- The model reads back what is written. -/
theorem wideS_back : ∀ (P : List Int) (_ : AllCh P) (f : Nat), P.length ≤ f → wideS f (nums (wideB P)) = P
  | [], _, f, _ => by
    have h0 : nums (wideB []) = [] := rfl
    rw [h0]
    cases f <;> simp [wideS]
  | n :: ns, h, f, hf => by
    obtain ⟨k, rfl⟩ : ∃ k, f = k + 1 := ⟨f - 1, by simp at hf; omega⟩
    have hn := h n List.mem_cons_self
    have hk : ns.length ≤ k := by simp at hf; omega
    have ih := wideS_back ns (fun x hx => h x (List.mem_cons_of_mem _ hx)) k hk
    unfold ChI at hn
    rw [wideB_cons]
    by_cases h16 : n < 65536
    · rw [nums_pair1 h16, wideS, List.cons_append, List.cons_append, List.nil_append, if_pos (by simp), val2_fix (by omega) h16, if_neg (by omega)]
      simp [ih]
    · rw [nums_pair2 h16, wideS, List.cons_append, List.cons_append, List.cons_append, List.cons_append, List.nil_append, if_pos (by simp), val2_fix (by omega) (by omega), if_pos ⟨by omega, by omega, by simp⟩]
      simp only [List.drop_succ_cons, List.drop_zero]
      rw [val2_fix (by omega) (by omega), ih]
      congr 1
      omega
/-- So does the program. -/
theorem wideI_back : ∀ (P : List Int) (_ : AllCh P) (acc : List Int) (_ : ¬ (0 < acc.length ∧ (55296 ≤ lastU acc ∧ lastU acc < 56320))) (f : Nat), 2 * P.length ≤ f → wideI f acc (nums (wideB P)) = acc ++ P
  | [], _, acc, _, f, _ => by
    have h0 : nums (wideB []) = [] := rfl
    rw [h0, List.append_nil]
    cases f <;> simp [wideI]
  | n :: ns, h, acc, ha, f, hf => by
    obtain ⟨k, rfl⟩ : ∃ k, f = k + 1 + 1 := ⟨f - 2, by simp at hf; omega⟩
    have hn := h n List.mem_cons_self
    have hns : AllCh ns := fun x hx => h x (List.mem_cons_of_mem _ hx)
    have hk : 2 * ns.length ≤ k := by simp at hf; omega
    have hl : ∀ u : Int, lastU (acc ++ [u]) = u := fun u => by
      unfold lastU
      rw [List.length_append, List.length_singleton, Nat.add_sub_cancel]
      simp [List.getD_eq_getElem?_getD]
    unfold ChI at hn
    rw [wideB_cons]
    by_cases h16 : n < 65536
    · rw [nums_pair1 h16, wideI, List.cons_append, List.cons_append, List.nil_append, if_pos (by simp), val2_fix (by omega) h16]
      have hs : stepI acc n = acc ++ [n] := by unfold stepI; rw [if_neg (fun h => ha ⟨h.1, h.2.1⟩)]
      rw [hs]
      simp only [List.drop_succ_cons, List.drop_zero]
      rw [wideI_back ns hns (acc ++ [n]) (by rw [hl]; omega) (k + 1) (by omega)]
      simp
    · rw [nums_pair2 h16, wideI, List.cons_append, List.cons_append, List.cons_append, List.cons_append, List.nil_append, if_pos (by simp), val2_fix (by omega) (by omega)]
      have hs : ∀ u, stepI acc u = acc ++ [u] := fun u => by unfold stepI; rw [if_neg (fun h => ha ⟨h.1, h.2.1⟩)]
      rw [hs]
      simp only [List.drop_succ_cons, List.drop_zero]
      rw [wideI, if_pos (by simp), val2_fix (by omega) (by omega)]
      have hs2 : stepI (acc ++ [55296 + (n - 65536) / 1024]) (56320 + (n - 65536) % 1024) = acc ++ [n] := by
        unfold stepI
        rw [hl, if_pos ⟨by simp, ⟨by omega, by omega⟩, by omega, by omega⟩, List.length_append, List.length_singleton, Nat.add_sub_cancel, List.set_append_right _ _ (Nat.le_refl _), Nat.sub_self]
        congr 1
        show [_] = [_]
        congr 1
        omega
      rw [hs2]
      simp only [List.drop_succ_cons, List.drop_zero]
      rw [wideI_back ns hns (acc ++ [n]) (by rw [hl]; omega) k (by omega)]
      simp
theorem wideS_len : ∀ (f : Nat) (l : List Int), (wideS f l).length ≤ f
  | 0, _ => Nat.le_refl _
  | f + 1, l => by
    rw [wideS]
    split
    · split
      · have := wideS_len f (l.drop 4)
        simp only [List.length_cons]
        omega
      · have := wideS_len f (l.drop 2)
        simp only [List.length_cons]
        omega
    · simp
theorem stepI_len (acc : List Int) (u : Int) : (stepI acc u).length ≤ acc.length + 1 := by
  unfold stepI
  split
  · simp
  · simp
/-- A text's bytes in UTF-16 are no more than twice as many. -/
theorem wideB_le : ∀ P : List Int, AllCh P → (nums (wideB P)).length ≤ 2 * (encP P).length
  | [], _ => by decide
  | n :: ns, h => by
    have ih := wideB_le ns (fun x hx => h x (List.mem_cons_of_mem _ hx))
    rw [wideB_cons, List.length_append, encP, List.length_append, encL_len]
    by_cases h16 : n < 65536
    · rw [nums_pair1 h16]
      simp only [List.length_cons, List.length_nil]
      (repeat' split) <;> omega
    · rw [nums_pair2 h16, if_neg (by omega), if_neg (by omega), if_neg (by omega)]
      simp only [List.length_cons, List.length_nil]
      omega

/-- What is answered where a text is at hand. -/
def decP (enc : Int) (b c : ByteArray) : ByteArray × Int := if TxtOk c ∧ encV enc c = (b, 0) then (c, 0) else (⟨#[]⟩, 19)
theorem decP_same (enc : Int) (b c d : ByteArray) (hc : ∀ s, TxtOk s → encV enc s = (b, 0) → c = s) (hd : ∀ s, TxtOk s → encV enc s = (b, 0) → d = s) : decP enc b c = decP enc b d := by
  unfold decP
  by_cases h1 : TxtOk c ∧ encV enc c = (b, 0)
  · obtain rfl := hd c h1.1 h1.2
    rfl
  · rw [if_neg h1]
    by_cases h2 : TxtOk d ∧ encV enc d = (b, 0)
    · obtain rfl := hc d h2.1 h2.2
      exact absurd h2 h1
    · rw [if_neg h2]
theorem decP_none (enc : Int) (b c : ByteArray) (hc : ∀ s, TxtOk s → encV enc s ≠ (b, 0)) : decP enc b c = (⟨#[]⟩, 19) := by
  unfold decP
  rw [if_neg (fun h => hc c h.1 h.2)]
/-- The size of a unit. -/
def unitI (enc : Int) : Int := if enc = 2 then 2 else 1
theorem encV_bound (enc : Int) (s b : ByteArray) (h : TxtOk s) (hv : encV enc s = (b, 0)) : (b.size : Int) ≤ 24 * unitI enc := by
  have hl := ptsOf_len s
  have h24 := h.1
  unfold encV at hv
  unfold unitI
  split at hv
  · rename_i h1
    subst h1
    injection hv with hv1
    subst hv1
    rw [if_neg (by decide)]
    omega
  · split at hv
    · rename_i h1
      injection hv with hv1
      subst hv1
      rw [if_pos h1, ← nums_length]
      have hA := ptsOf_ch h
      have h3 := wideB_le (ptsOf s) hA
      rw [← runes_size hA, show runesBytes (ptsOf s) = s from (back_text s h.2).2] at h3
      omega
    · rename_i h2
      split at hv
      · injection hv with hv1
        subst hv1
        rw [if_neg h2, strOfNums_size]
        omega
      · injection hv with hv1 hv2
        cases hv2
end Go.Proofs.YthdnklhaagofhaaDoor
