/-
  Walks of both PutBytes and of the law on them. The string has at most 2^20 bytes: the law itself asks it.
-/
import Derived.Test.YtbjcldekapipaaaGreatDoorPutLebLaw
namespace Go.Proofs.YtbjcldekapipaaaGreatDoor
open Go.ChangeShapes Go.WideShapes Go.ChangeAt Go.RowKit

set_option maxRecDepth 100000 in
theorem specPutBytes_any (s : ByteArray) (w : World) (hs : s.size ≤ 2000000) :
    Calls Tryz.prog 52 #[.string s] w fun e w' => e = .returned (.string (strOfNums (lebU s.size) ++ s)) ∧ Below w.heap.size w w' := by
  obtain ⟨p, hp⟩ : ∃ p, strOfNums (lebU s.size) = p := ⟨_, rfl⟩
  have hl : p.size ≤ 10 := by rw [← hp, strOfNums_size]; exact lebU_length 9 _ (by omega)
  have C : Hid (∀ W, Calls Tryz.prog 51 #[.int .i64 s.size] W fun e w' => e = .returned (.string p) ∧ Below W.heap.size W w') := by rw [← hp]; exact fun W => specPutLeb_any s.size W (by omega)
  have hsum : p.size + s.size ≤ 9223372036854775807 := by omega
  have hsz : (s.size : Int) ≤ 9223372036854775807 := by omega
  have hsum2 : (p.size : Int) + (s.size : Int) ≤ 9223372036854775807 := by omega
  rw [hp]
  clear hp hs hl
  go_enter Tryz.func52, Tryz.ntmps52
  go_wp2_with fail
  go_at_call 51
  refine (C.out _).mono ?_
  rintro e w1 ⟨rfl, hb⟩
  go_wp2_with fail
  go_ret
  exact ⟨rfl, hb⟩

set_option maxRecDepth 100000 in
theorem implPutBytes_any (s : ByteArray) (w : World) (hs : s.size ≤ 2000000) :
    Calls Tryz.prog 29 #[.string s] w fun e w' => e = .returned (.string (strOfNums (lebU s.size) ++ s)) ∧ Below w.heap.size w w' := by
  obtain ⟨p, hp⟩ : ∃ p, strOfNums (lebU s.size) = p := ⟨_, rfl⟩
  have hl : p.size ≤ 10 := by rw [← hp, strOfNums_size]; exact lebU_length 9 _ (by omega)
  have C : Hid (∀ W, Calls Tryz.prog 27 #[.int .i64 s.size] W fun e w' => e = .returned (.string p) ∧ Below W.heap.size W w') := by rw [← hp]; exact fun W => implPutLeb_any s.size W (by omega)
  have hsum : p.size + s.size ≤ 9223372036854775807 := by omega
  have hsz : (s.size : Int) ≤ 9223372036854775807 := by omega
  have hsum2 : (p.size : Int) + (s.size : Int) ≤ 9223372036854775807 := by omega
  rw [hp]
  clear hp hs hl
  go_enter Tryz.func29, Tryz.ntmps29
  go_wp2_with fail
  go_at_call 27
  refine (C.out _).mono ?_
  rintro e w1 ⟨rfl, hb⟩
  go_wp2_with fail
  go_ret
  exact ⟨rfl, hb⟩

end Go.Proofs.YtbjcldekapipaaaGreatDoor
