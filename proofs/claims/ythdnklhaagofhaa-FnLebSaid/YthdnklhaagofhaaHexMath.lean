/-
  Plain facts on hexadecimal digits: lists of bytes alone, no program.
-/
import Derived.Test.YthdnklhaagofhaaOwn
import Derived.Laws.BytesArg
import Derived.Laws.BitsAllLaws
namespace Go.Proofs.Ythdnklhaagofhaa
open Go Go.RowKit

/-- The digit of a number below sixteen. -/
def hexd (n : Int) : Int := if n < 10 then 48 + n else 87 + n
theorem hexd_bd (n : Int) (h0 : 0 ≤ n) (h1 : n < 16) : 0 ≤ hexd n ∧ hexd n < 256 := by unfold hexd; omega
/-- The text of some bytes. -/
def hexl (l : List UInt8) : List Int := l.flatMap fun c => [hexd ((c.toNat : Int) / 16), hexd ((c.toNat : Int) % 16)]
theorem hexl_length (l : List UInt8) : (hexl l).length = 2 * l.length := by
  induction l with
  | nil => rfl
  | cons c l ih => simp [hexl] at ih ⊢; omega
theorem hexl_snoc (l : List UInt8) (c : UInt8) : hexl (l ++ [c]) = hexl l ++ [hexd ((c.toNat : Int) / 16), hexd ((c.toNat : Int) % 16)] := by simp [hexl]
theorem take_snoc (s : ByteArray) (k : Nat) (h : k < s.size) : s.data.toList.take (k + 1) = s.data.toList.take k ++ [s[k]] := by
  rw [List.take_succ_eq_append_getElem (by simpa using h)]; rfl
theorem u8_and15' (x : Int) (h0 : 0 ≤ x) (h1 : x < 256) : bits .and .u8 x 15 = x % 16 := u8_and15 x h0 h1
theorem own_map_snoc2 (l : List Int) (a b : Int) : l.map (Value.int .u8) ++ [Value.int .u8 a, Value.int .u8 b] = (l ++ [a, b]).map (Value.int .u8) := by simp
end Go.Proofs.Ythdnklhaagofhaa
