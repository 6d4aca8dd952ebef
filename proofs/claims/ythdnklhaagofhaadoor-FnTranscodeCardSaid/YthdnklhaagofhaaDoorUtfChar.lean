/-
  The walk of the model's l04Char: a code point's bytes.
-/
import Derived.Test.YthdnklhaagofhaaDoorUtfPure
import Derived.Test.YthdnklhaagofhaaDoorIn
import Derived.Laws.BytesArg
import Derived.Laws.Bits128
import Derived.Laws.BitsLemmas
import Derived.IntWalk
namespace Go.Proofs.YthdnklhaagofhaaDoor
open Go.ChangeShapes Go.WideShapes Go.ChangeAt Go.RowKit

theorem i64_or_nat (a b : Nat) (ha : a < 4611686018427387904) (hb : b < 4611686018427387904) : bits .or .i64 (a : Int) (b : Int) = ((a ||| b : Nat) : Int) := by
  have hx : a ||| b < 2 ^ 62 := Nat.or_lt_two_pow (by omega) (by omega)
  have h1 : (BitVec.ofInt 64 (a : Int)).toNat = a := by
    rw [BitVec.ofInt_natCast, BitVec.toNat_ofNat]; exact Nat.mod_eq_of_lt (by omega)
  have h2 : (BitVec.ofInt 64 (b : Int)).toNat = b := by
    rw [BitVec.ofInt_natCast, BitVec.toNat_ofNat]; exact Nat.mod_eq_of_lt (by omega)
  show IntKind.i64.wrap ((BitVec.ofInt 64 (a : Int) ||| BitVec.ofInt 64 (b : Int)).toNat : Int) = _
  rw [BitVec.toNat_or, h1, h2, IntKind.wrap_i64]
  omega
theorem i64_or64 (a b : Int) (h0 : 0 ≤ a) (h1 : a < 1000000000) (h2 : 0 ≤ b) (h3 : b < 64) : bits .or .i64 (a * 64) b = a * 64 + b := by
  obtain ⟨A, rfl⟩ := Int.eq_ofNat_of_zero_le h0
  obtain ⟨B, rfl⟩ := Int.eq_ofNat_of_zero_le h2
  have h := i64_or_nat (A * 64) B (by omega) (by omega)
  have h4 := Nat.shiftLeft_add_eq_or_of_lt (i := 6) (b := B) (by omega) A
  rw [Nat.shiftLeft_eq] at h4
  rw [← h4] at h
  simpa using h
theorem i64_and63 (n : Int) (h0 : 0 ≤ n) (h1 : n < 1000000000) : bits .and .i64 n 63 = n % 64 := by
  obtain ⟨A, rfl⟩ := Int.eq_ofNat_of_zero_le h0
  have h2 : (BitVec.ofInt 64 (A : Int)).toNat = A := by
    rw [BitVec.ofInt_natCast, BitVec.toNat_ofNat]; exact Nat.mod_eq_of_lt (by omega)
  have h3 : (BitVec.ofInt 64 63).toNat = 2 ^ 6 - 1 := by decide
  show IntKind.i64.wrap ((BitVec.ofInt 64 (A : Int) &&& BitVec.ofInt 64 63).toNat : Int) = _
  rw [BitVec.toNat_and, h2, h3, Nat.and_two_pow_sub_one_eq_mod, IntKind.wrap_i64]
  omega

/-- A number's bytes. -/
def encI (n : Int) : List Int :=
  if n < 128 then [n] else if n < 2048 then [192 + n / 64, 128 + n % 64]
  else if n < 65536 then [224 + n / 4096, 128 + n / 64 % 64, 128 + n % 64]
  else [240 + n / 262144, 128 + n / 4096 % 64, 128 + n / 64 % 64, 128 + n % 64]

/-- A new row of bytes, as a string. -/
theorem conv_row (W : World) (xs : List Int) (n : Nat) (hn : xs.length = n) : (convert 22 9 (.slice (some ⟨W.heap.size, 0, none⟩) n n)).run Tryd.prog (W.alloc (.cells (xs.map (Value.int .u8)).toArray 5)) = .ok (.string (strOfNums xs)) (W.alloc (.cells (xs.map (Value.int .u8)).toArray 5)) :=
  run_convert_bytes_arg (P := Tryd.prog) _ 22 5 Tryd.underlying22 Tryd.underlying5 W.heap.size 0 n n xs hn (fun i hi => by
    have hi2 : i < xs.length := by omega
    simp [hi2]) 9 Tryd.underlying9

theorem l04Char_1 (n : Int) (h0 : 0 ≤ n) (h1 : n < 128) (w : World) :
    Calls Tryd.prog 198 #[.int .i64 n] w fun e w' => e = .returned (.string (strOfNums [n])) ∧ Below w.heap.size w w' := by
  have hc := conv_row w [n] 1 rfl
  simp only [List.map_cons, List.map_nil] at hc
  go_enter Tryd.func198, Tryd.ntmps198
  go_wp2
  go_ret
  exact ⟨rfl, below1 _ _⟩
theorem l04Char_2 (n : Int) (h0 : 128 ≤ n) (h1 : n < 2048) (w : World) :
    Calls Tryd.prog 198 #[.int .i64 n] w fun e w' => e = .returned (.string (strOfNums [192 + n / 64, 128 + n % 64])) ∧ Below w.heap.size w w' := by
  have hc := conv_row w [192 + n / 64, 128 + n % 64] 2 rfl
  simp only [List.map_cons, List.map_nil] at hc
  have ha := i64_and63 n (by omega) (by omega)
  have h2 : ¬ n < 128 := by omega
  go_enter Tryd.func198, Tryd.ntmps198
  go_wp2
  go_ret
  exact ⟨rfl, below1 _ _⟩
theorem l04Char_3 (n : Int) (h0 : 2048 ≤ n) (h1 : n < 65536) (w : World) :
    Calls Tryd.prog 198 #[.int .i64 n] w fun e w' => e = .returned (.string (strOfNums [224 + n / 4096, 128 + n / 64 % 64, 128 + n % 64])) ∧ Below w.heap.size w w' := by
  have hc := conv_row w [224 + n / 4096, 128 + n / 64 % 64, 128 + n % 64] 3 rfl
  simp only [List.map_cons, List.map_nil] at hc
  have ha := i64_and63 n (by omega) (by omega)
  have hb := i64_and63 (n / 64) (by omega) (by omega)
  have h2 : ¬ n < 128 := by omega
  have h3 : ¬ n < 2048 := by omega
  go_enter Tryd.func198, Tryd.ntmps198
  go_wp2
  go_ret
  exact ⟨rfl, below1 _ _⟩
theorem l04Char_4 (n : Int) (h0 : 65536 ≤ n) (h1 : n ≤ 1114111) (w : World) :
    Calls Tryd.prog 198 #[.int .i64 n] w fun e w' => e = .returned (.string (strOfNums [240 + n / 262144, 128 + n / 4096 % 64, 128 + n / 64 % 64, 128 + n % 64])) ∧ Below w.heap.size w w' := by
  have hc := conv_row w [240 + n / 262144, 128 + n / 4096 % 64, 128 + n / 64 % 64, 128 + n % 64] 4 rfl
  simp only [List.map_cons, List.map_nil] at hc
  have ha := i64_and63 n (by omega) (by omega)
  have hb := i64_and63 (n / 64) (by omega) (by omega)
  have hd := i64_and63 (n / 4096) (by omega) (by omega)
  have h2 : ¬ n < 128 := by omega
  have h3 : ¬ n < 2048 := by omega
  have h4 : ¬ n < 65536 := by omega
  go_enter Tryd.func198, Tryd.ntmps198
  go_wp2
  go_ret
  exact ⟨rfl, below1 _ _⟩
theorem l04Char_any (n : Int) (h0 : 0 ≤ n) (h1 : n ≤ 1114111) (w : World) :
    Calls Tryd.prog 198 #[.int .i64 n] w fun e w' => e = .returned (.string (strOfNums (encI n))) ∧ Below w.heap.size w w' := by
  unfold encI
  split
  · exact l04Char_1 n h0 (by omega) w
  · split
    · exact l04Char_2 n (by omega) (by omega) w
    · split
      · exact l04Char_3 n (by omega) (by omega) w
      · exact l04Char_4 n (by omega) (by omega) w
end Go.Proofs.YthdnklhaagofhaaDoor
