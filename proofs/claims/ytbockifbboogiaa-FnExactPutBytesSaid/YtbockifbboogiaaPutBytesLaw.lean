/-
  Walks of both PutBytes and of the law on them. The string has at most 2^20 bytes: the law itself asks it.
-/
import Derived.Test.YtbockifbboogiaaPutLebLaw
namespace Go.Proofs.Ytbockifbboogiaa
open Go.ChangeShapes Go.WideShapes Go.ChangeAt Go.RowKit

set_option maxRecDepth 100000 in
theorem specPutBytes_any (s : ByteArray) (w : World) (hs : s.size ≤ 1048576) :
    Calls Try.prog 32 #[.string s] w fun e w' => e = .returned (.string (strOfNums (lebU s.size) ++ s)) ∧ Below w.heap.size w w' := by
  obtain ⟨p, hp⟩ : ∃ p, strOfNums (lebU s.size) = p := ⟨_, rfl⟩
  have hl : p.size ≤ 10 := by rw [← hp, strOfNums_size]; exact lebU_length 9 _ (by omega)
  have C : Hid (∀ W, Calls Try.prog 26 #[.int .i64 s.size] W fun e w' => e = .returned (.string p) ∧ Below W.heap.size W w') := by rw [← hp]; exact fun W => specPutLeb_any s.size W (by omega)
  have hsum : p.size + s.size ≤ 9223372036854775807 := by omega
  have hsz : (s.size : Int) ≤ 9223372036854775807 := by omega
  have hsum2 : (p.size : Int) + (s.size : Int) ≤ 9223372036854775807 := by omega
  rw [hp]
  clear hp hs hl
  go_enter Try.func32, Try.ntmps32
  go_wp2_with fail
  go_at_call 26
  refine (C.out _).mono ?_
  rintro e w1 ⟨rfl, hb⟩
  go_wp2_with fail
  go_ret
  exact ⟨rfl, hb⟩

set_option maxRecDepth 100000 in
theorem implPutBytes_any (s : ByteArray) (w : World) (hs : s.size ≤ 1048576) :
    Calls Try.prog 21 #[.string s] w fun e w' => e = .returned (.string (strOfNums (lebU s.size) ++ s)) ∧ Below w.heap.size w w' := by
  obtain ⟨p, hp⟩ : ∃ p, strOfNums (lebU s.size) = p := ⟨_, rfl⟩
  have hl : p.size ≤ 10 := by rw [← hp, strOfNums_size]; exact lebU_length 9 _ (by omega)
  have C : Hid (∀ W, Calls Try.prog 16 #[.int .i64 s.size] W fun e w' => e = .returned (.string p) ∧ Below W.heap.size W w') := by rw [← hp]; exact fun W => implPutLeb_any s.size W (by omega)
  have hsum : p.size + s.size ≤ 9223372036854775807 := by omega
  have hsz : (s.size : Int) ≤ 9223372036854775807 := by omega
  have hsum2 : (p.size : Int) + (s.size : Int) ≤ 9223372036854775807 := by omega
  rw [hp]
  clear hp hs hl
  go_enter Try.func21, Try.ntmps21
  go_wp2_with fail
  go_at_call 16
  refine (C.out _).mono ?_
  rintro e w1 ⟨rfl, hb⟩
  go_wp2_with fail
  go_ret
  exact ⟨rfl, hb⟩

set_option maxRecDepth 100000 in
theorem putBytesLaw (s : ByteArray) (w : World) (hs : s.size ≤ maxLen) :
    Calls Try.prog 10 #[.string s] w fun e w' => e = .returned (.bool true) ∧ Below w.heap.size w w' := by
  unfold maxLen at hs
  by_cases h : (1048576 : Int) < (s.size : Int)
  · go_enter Try.func10, Try.ntmps10
    go_wp2_with fail
    go_ret
    exact ⟨rfl, Below.refl _ _⟩
  · have H := Lib.hid (show s.size ≤ 1048576 by omega)
    obtain ⟨x, hx⟩ : ∃ x, strOfNums (lebU s.size) ++ s = x := ⟨_, rfl⟩
    have C1 : Hid (∀ W, Calls Try.prog 32 #[.string s] W fun e w' => e = .returned (.string x) ∧ Below W.heap.size W w') := by rw [← hx]; exact fun W => specPutBytes_any s W H.out
    have C2 : Hid (∀ W, Calls Try.prog 21 #[.string s] W fun e w' => e = .returned (.string x) ∧ Below W.heap.size W w') := by rw [← hx]; exact fun W => implPutBytes_any s W H.out
    clear hx
    go_enter Try.func10, Try.ntmps10
    go_wp2_with fail
    go_at_call 32
    refine (C1.out _).mono ?_
    rintro e w1 ⟨rfl, hb1⟩
    go_wp2_with fail
    go_at_call 21
    refine (C2.out _).mono ?_
    rintro e w2 ⟨rfl, hb2⟩
    have hb := bchain hb1 hb2 hb1.size
    clear hb1 hb2
    go_wp2_with fail
    go_ret
    exact ⟨rfl, hb⟩
end Go.Proofs.Ytbockifbboogiaa
