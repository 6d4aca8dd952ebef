/-
  Facts for the law on encodings: what is read back of bytes behind their length; unsigned encodings are no longer than signed ones; a call of b10Long.
-/
import Derived.Test.YthdnklhaagofhaaLebRound
namespace Go.Proofs.Ythdnklhaagofhaa
open Go.ChangeShapes Go.WideShapes Go.ChangeAt Go.RowKit

theorem lebU_le_lebS (n : Nat) : (lebU n).length ≤ (lebS (n : Int)).length := by
  induction n using Nat.strongRecOn with
  | _ n ih =>
    by_cases h : n < 64
    · rw [lebU_small n (by omega), lebS_small _ (by omega) (by omega)]
      simp
    · rw [lebS_big _ (by omega)]
      by_cases h2 : n < 128
      · rw [lebU_small n h2]
        simp
      · rw [lebU_big n (by omega)]
        have h3 := ih (n / 128) (by omega)
        simp only [List.length_cons]
        have e : ((n : Int) / 128) = ((n / 128 : Nat) : Int) := by omega
        rw [e]
        omega
theorem mid_extract (A w z : ByteArray) : (A ++ w ++ z).extract A.size (A.size + w.size) = w := by
  refine ByteArray.ext ?_
  refine Array.toList_inj.mp ?_
  rw [extract_data', ByteArray.data_append, ByteArray.data_append, Array.toList_append, Array.toList_append, List.append_assoc]
  have e : A.size = A.data.toList.length := by simp
  have e2 : A.size + w.size - A.size = w.data.toList.length := by simp
  rw [e2, e, List.drop_left, List.take_left]
theorem getBytes_back (w : ByteArray) (hw : w.size ≤ 100000) (z : ByteArray) (hz : z.size ≤ 100) (W : World) :
    Calls Try.prog 18 #[.string (strOfNums (lebU w.size) ++ w ++ z)] W fun e w' => e = .returned (.tuple #[.string w, .int .i64 ((strOfNums (lebU w.size) ++ w).size : Int), .bool true]) ∧ Below W.heap.size W w' := by
  have hs : (strOfNums (lebU w.size)).size = (lebU w.size).length := strOfNums_size _
  have hl : (lebU w.size).length ≤ 10 := lebU_length 9 _ (by omega)
  have hsz : (strOfNums (lebU w.size) ++ w ++ z).size = (lebU w.size).length + w.size + z.size := by rw [ByteArray.size_append, ByteArray.size_append, hs]
  have C := Lib.hid (fun W => getLeb_back w.size (by omega) (w ++ z) (by rw [ByteArray.size_append]; omega) W)
  rw [← ByteArray.append_assoc] at C
  refine (implGetBytes_yes (strOfNums (lebU w.size) ++ w ++ z) w.size (lebU w.size).length true W C (by omega) (by omega) (by omega) rfl (by omega)).mono fun e w' ⟨he, hb⟩ => ⟨?_, hb⟩
  rw [he]
  have hx := mid_extract (strOfNums (lebU w.size)) w z
  rw [hs] at hx
  rw [hx]
  have e : ((lebU w.size).length : Int) + (w.size : Int) = ((strOfNums (lebU w.size) ++ w).size : Int) := by rw [ByteArray.size_append, hs]; omega
  rw [e]
end Go.Proofs.Ythdnklhaagofhaa
