/-
  Walks of the model's GetLeb.
-/
import Derived.Test.YthdnklhaagofhaaL01Leb
import Derived.Test.YthdnklhaagofhaaSpecPutLeb
import Derived.Deep.RegionHeld3
namespace Go.Proofs.Ythdnklhaagofhaa
open Go.ChangeShapes Go.WideShapes Go.ChangeAt Go.RowKit

theorem extract_data' (s : ByteArray) (a b : Nat) : (s.extract a b).data.toList = (s.data.toList.drop a).take (b - a) := by
  obtain ⟨⟨l⟩⟩ := s
  rw [ByteArray.extract_mk]
theorem lebU_byte (n : Nat) : ∀ x ∈ lebU n, 0 ≤ x ∧ x < 256 := by
  induction n using Nat.strongRecOn with
  | _ n ih =>
    intro x hx
    by_cases h : n < 128
    · rw [lebU_small n h] at hx; simp at hx; omega
    · rw [lebU_big n (by omega)] at hx
      rcases List.mem_cons.1 hx with rfl | hx
      · omega
      · exact ih (n / 128) (by omega) x hx
theorem lebS_byte (n : Int) : ∀ x ∈ lebS n, 0 ≤ x ∧ x < 256 := by
  induction hk : n.natAbs using Nat.strongRecOn generalizing n with
  | _ k ih =>
    intro x hx
    by_cases h : -64 ≤ n ∧ n < 64
    · rw [lebS_small n h.1 h.2] at hx; simp at hx; omega
    · rw [lebS_big n (by omega)] at hx
      rcases List.mem_cons.1 hx with rfl | hx
      · omega
      · exact ih (n / 128).natAbs (by omega) (n / 128) rfl x hx
/-- A text of bytes against the head of a string. -/
theorem cmp_extract (L : List Int) (hL : ∀ x ∈ L, 0 ≤ x ∧ x < 256) (s : ByteArray) (m : Nat) : ((strOfNums L).toList == (s.extract 0 m).toList) = decide (L = (nums s).take m) := by
  rw [ByteArray.toList_eq, ByteArray.toList_eq, strOfNums_data, extract_data', Bool.eq_iff_iff, beq_iff_eq, decide_eq_true_iff]
  simp only [List.drop_zero, Nat.sub_zero]
  constructor
  · intro h
    have h2 := congrArg (List.map fun b : UInt8 => (b.toNat : Int)) h
    rw [List.map_map, List.map_take] at h2
    rw [show (nums s).take m = (s.data.toList.map fun b : UInt8 => (b.toNat : Int)).take m from rfl, ← h2]
    have h3 : L.map (fun x => x) = L := List.map_id' L
    conv => lhs; rw [← h3]
    apply List.map_congr_left
    intro x hx
    have := hL x hx
    simp only [Function.comp]
    rw [UInt8.toNat_ofNat']
    omega
  · intro h
    rw [h, nums, ← List.map_take, List.map_map]
    conv => rhs; rw [← List.map_id' (s.data.toList.take m)]
    apply List.map_congr_left
    intro b _
    simp

theorem _root_.Go.RowKit.Below.of_drew {w w1 : World} (h : Below w.drew.heap.size w.drew w1) : Below w.heap.size w w1 := (Below.refl _ _).drew.trans h

end Go.Proofs.Ythdnklhaagofhaa
