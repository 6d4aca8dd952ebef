/-
  The string that an owned row of bytes becomes; no program is named.
-/
import Derived.Test.YtbjcldekapipaaaGreatDoorBase
import Derived.Laws.BytesArg
import Derived.Deep.AppendLies
namespace Go.Proofs.YtbjcldekapipaaaGreatDoor
open Go Go.RowKit

/-- The string that an owned row of bytes becomes. -/
theorem run_convert_own {P : Program} (w : World) (src e : TypeId) (hs : P.underlying src = some (.slice e)) (he : P.underlying e = some (.int .u8)) (base : Nat) (v : Value) (n : Nat) (xs : List Int) (hown : w.ownsRow base e 1 v n (xs.map (Value.int .u8))) (hv : v ≠ .slice none 0 0) :
    ∀ dst, P.underlying dst = some .string → (convert src dst v).run P w = .ok (.string (strOfNums xs)) w := by
  intro dst hd
  obtain ⟨hlen, h | ⟨g, cap, cur, rfl, hb, hg, hnc, hcm, hcs, htk⟩⟩ := hown
  · exact absurd h.1 hv
  · have hl : xs.length = n := by simpa using hlen
    refine run_convert_bytes_arg w src e hs he g 0 n cap xs hl ?_ dst hd
    intro i hi
    have h1 : (cur.toList.take (n * 1))[i]? = (xs.map (Value.int .u8))[i]? := by rw [htk]
    rw [Nat.mul_one, List.getElem?_take_of_lt hi] at h1
    have h2 : w.cell? ⟨g, i, none⟩ = cur[i]? := by
      have := cell_of_row w g i cur e (0, 0) hg
      simpa using this
    rw [Nat.zero_add, h2]
    have h3 : cur[i]? = cur.toList[i]? := by simp
    rw [h3, h1]
    simp [List.getElem?_eq_getElem (show i < xs.length by omega)]
theorem own_map_snoc (l : List Int) (a : Int) : l.map (Value.int .u8) ++ [Value.int .u8 a] = (l ++ [a]).map (Value.int .u8) := by simp
end Go.Proofs.YtbjcldekapipaaaGreatDoor
