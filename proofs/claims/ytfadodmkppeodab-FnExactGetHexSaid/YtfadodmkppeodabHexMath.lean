/-
  Plain facts on hexadecimal digits: lists of bytes alone, no program.
-/
import Derived.Test.YtfadodmkppeodabBase
import Derived.Laws.BytesArg
import Derived.Laws.BitsAllLaws
namespace Go.Proofs.Ytfadodmkppeodab
open Go Go.RowKit

/-- The digit of a number below sixteen. -/
def hexd (n : Int) : Int := if n < 10 then 48 + n else 87 + n
theorem hexd_bd (n : Int) (h0 : 0 ≤ n) (h1 : n < 16) : 0 ≤ hexd n ∧ hexd n < 256 := by unfold hexd; omega
/-- The text of some bytes. -/
def hexl (l : List UInt8) : List Int := l.flatMap fun c => [hexd ((c.toNat : Int) / 16), hexd ((c.toNat : Int) % 16)]
theorem hexl_length (l : List UInt8) : (hexl l).length = 2 * l.length := by
  induction l with
  | nil => rfl
  | cons c l ih => simp [hexl] at ih ⊢; omega
theorem hexl_snoc (l : List UInt8) (c : UInt8) : hexl (l ++ [c]) = hexl l ++ [hexd ((c.toNat : Int) / 16), hexd ((c.toNat : Int) % 16)] := by simp [hexl]
theorem take_snoc (s : ByteArray) (k : Nat) (h : k < s.size) : s.data.toList.take (k + 1) = s.data.toList.take k ++ [s[k]] := by
  rw [List.take_succ_eq_append_getElem (by simpa using h)]; rfl
theorem u8_and15' (x : Int) (h0 : 0 ≤ x) (h1 : x < 256) : bits .and .u8 x 15 = x % 16 := u8_and15 x h0 h1
theorem own_map_snoc2 (l : List Int) (a b : Int) : l.map (Value.int .u8) ++ [Value.int .u8 a, Value.int .u8 b] = (l ++ [a, b]).map (Value.int .u8) := by simp

/-- The string that an owned row of bytes becomes. -/
theorem run_convert_own {P : Program} (w : World) (src e : TypeId) (hs : P.underlying src = some (.slice e)) (he : P.underlying e = some (.int .u8)) (base : Nat) (v : Value) (n : Nat) (xs : List Int) (hown : w.ownsRow base e 1 v n (xs.map (Value.int .u8))) (hv : v ≠ .slice none 0 0) :
    ∀ dst, P.underlying dst = some .string → (convert src dst v).run P w = .ok (.string (strOfNums xs)) w := by
  intro dst hd
  obtain ⟨hlen, h | ⟨g, cap, cur, rfl, hb, hg, hnc, hcm, hcs, htk⟩⟩ := hown
  · exact absurd h.1 hv
  · have hl : xs.length = n := by simpa using hlen
    refine run_convert_bytes_arg w src e hs he g 0 n cap xs hl ?_ dst hd
    intro i hi
    have h1 : (cur.toList.take (n * 1))[i]? = (xs.map (Value.int .u8))[i]? := by rw [htk]
    rw [Nat.mul_one, List.getElem?_take_of_lt hi] at h1
    have h2 : w.cell? ⟨g, i, none⟩ = cur[i]? := by
      have := cell_of_row w g i cur e (0, 0) hg
      simpa using this
    rw [Nat.zero_add, h2]
    have h3 : cur[i]? = cur.toList[i]? := by simp
    rw [h3, h1]
    simp [List.getElem?_eq_getElem (show i < xs.length by omega)]
end Go.Proofs.Ytfadodmkppeodab
