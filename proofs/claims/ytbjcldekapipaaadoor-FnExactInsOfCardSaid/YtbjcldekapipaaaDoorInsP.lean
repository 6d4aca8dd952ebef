/-
  Where a string begins with an instruction's bytes. No condition.
-/
import Derived.Test.YtbjcldekapipaaaDoorInsBy
import Derived.Test.YtbjcldekapipaaaDoorLebBk
import Derived.Lib.Agree
namespace Go.Proofs.YtbjcldekapipaaaDoor
open Go.ChangeShapes Go.WideShapes Go.ChangeAt Go.RowKit

/-- A string is an instruction's bytes and more. -/
def IsIns (s : ByteArray) (op a : Int) (r : ByteArray) : Prop := insV op a = true ∧ s = insBy op a ++ r

theorem app_left (A r : ByteArray) : (A ++ r).extract 0 A.size = A := by
  refine ByteArray.ext ?_
  refine Array.toList_inj.mp ?_
  rw [extract_data', ByteArray.data_append, Array.toList_append]
  have e : A.size = A.data.toList.length := by simp
  simp only [List.drop_zero, Nat.sub_zero]
  rw [e, List.take_left]
theorem app_right (A r : ByteArray) : (A ++ r).extract A.size (A ++ r).size = r := by
  refine ByteArray.ext ?_
  refine Array.toList_inj.mp ?_
  rw [extract_data', ByteArray.data_append, Array.toList_append]
  have e : A.size = A.data.toList.length := by simp
  have e2 : (A ++ r).size - A.size = r.data.toList.length := by
    rw [ByteArray.size_append]
    simp
  rw [e2, e, List.drop_left, List.take_length]
theorem ext_split (s : ByteArray) (m : Nat) : s = s.extract 0 m ++ s.extract m s.size := by
  refine ByteArray.ext ?_
  refine Array.toList_inj.mp ?_
  rw [ByteArray.data_append, Array.toList_append, extract_data', extract_data']
  have e : s.size = s.data.toList.length := by simp
  rw [Nat.sub_zero, List.drop_zero, e]
  have e2 : (s.data.toList.drop m).take (s.data.toList.length - m) = s.data.toList.drop m := List.take_of_length_le (by rw [List.length_drop]; exact Nat.le_refl _)
  rw [e2, List.take_append_drop]
theorem ext_size (s : ByteArray) (m n : Nat) (h : n ≤ s.size) : (s.extract m n).size = n - m := by
  rw [ByteArray.size_extract]
  omega

theorem fix1_head (op : Int) (h0 : 0 ≤ op) (h1 : op < 256) : fixl op 1 = [op] := by
  simp only [fixl, List.nil_append, Int.pow_zero, Int.ediv_one]
  rw [Int.emod_eq_of_lt h0 (by omega)]

/-- The first byte. -/
theorem head_op {F S : ByteArray} {op : Int} (h0 : 0 ≤ op) (h1 : op < 256) (hF : F = strOfNums (fixl op 1)) :
    ∃ h : 0 < (F ++ S).size, (((F ++ S)[0]'h).toNat : Int) = op ∧ (F ++ S).extract 1 (F ++ S).size = S := by
  have hz : F.size = 1 := by rw [hF, strOfNums_size, fixl_length]
  have hl : 0 < (F ++ S).size := by rw [ByteArray.size_append]; omega
  refine ⟨hl, ?_, ?_⟩
  · rw [← nums_getD (F ++ S) 0 hl, nums_app7K, hF, fix1_head op h0 h1, nums_of7K [op] (by intro n hn; simp at hn; omega)]
    rfl
  · have := app_right F S
    rw [hz] at this
    exact this

theorem insBy_pos (op a : Int) : 0 < (insBy op a).size := by
  unfold insBy
  split
  · rw [ByteArray.size_append, fix1_size]; omega
  · rw [fix1_size]; omega
theorem insBy_le (op a : Int) (ha0 : -9223372036854775808 ≤ a) (ha1 : a ≤ 9223372036854775807) : (insBy op a).size ≤ 11 := by
  unfold insBy
  split
  · rw [ByteArray.size_append, fix1_size]
    split
    · have := sleb_size a ha0 ha1; omega
    · have := uleb_size a.toNat (by omega); omega
  · rw [fix1_size]; omega
theorem insR_bd (op : Int) : -9223372036854775808 ≤ (insR op).1 ∧ (insR op).2.1 ≤ 9223372036854775807 := by
  unfold insR
  repeat' split
  all_goals simp
theorem insV_bd {op a : Int} (h : insV op a = true) : -9223372036854775808 ≤ a ∧ a ≤ 9223372036854775807 := by
  have h1 := insV_op h
  have h2 := insR_bd op
  omega
theorem insV_none {op a : Int} (h : insV op a = true) (hb : (insR op).2.2 = false) : a = 0 := by
  have h1 := insV_op h
  have h2 := insR_hasB op
  rw [hb] at h2
  by_cases e : (insR op).1 ≠ 0 ∨ (insR op).2.1 ≠ 0
  · exact absurd (h2.mpr e) (by simp)
  · omega
end Go.Proofs.YtbjcldekapipaaaDoor
