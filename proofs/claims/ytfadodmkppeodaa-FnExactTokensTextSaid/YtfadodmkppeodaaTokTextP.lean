/-
  Texts of tokens joined by spaces: plain facts. No condition.
-/
import Derived.Test.YtfadodmkppeodaaTokW
import Derived.Lib.Join
namespace Go.Proofs.Ytfadodmkppeodaa
open Go.ChangeShapes Go.WideShapes Go.ChangeAt Go.RowKit Go.Deep

def spB : ByteArray := ⟨#[32]⟩
/-- The texts, a space between two of them. -/
def joinT (xs : List ByteArray) : ByteArray := ⟨(Lib.join (xs.map (·.data.toList)) [32]).toArray⟩
theorem joinT_snoc (xs : List ByteArray) (x : ByteArray) (h : xs ≠ []) : joinT (xs ++ [x]) = (joinT xs ++ spB) ++ x := by
  apply ByteArray.ext
  rw [ByteArray.data_append, ByteArray.data_append]
  apply Array.toList_inj.mp
  cases xs with
  | nil => exact absurd rfl h
  | cons y ys =>
    have e1 : (joinT (y :: ys ++ [x])).data.toList = y.data.toList ++ ((ys.map (·.data.toList)).map ([32] ++ ·)).flatten ++ ([32] ++ x.data.toList) := by
      unfold joinT
      rw [List.cons_append, List.map_cons, List.map_append, Lib.join_cons]
      unfold Lib.joinTail
      rw [List.map_append, List.flatten_append]
      simp only [List.map_cons, List.map_nil, List.flatten_cons, List.flatten_nil, List.append_nil, List.append_assoc]
    have e2 : (joinT (y :: ys)).data.toList = y.data.toList ++ ((ys.map (·.data.toList)).map ([32] ++ ·)).flatten := by
      unfold joinT
      rw [List.map_cons, Lib.join_cons]
      rfl
    rw [Array.toList_append, Array.toList_append, e1, e2]
    show _ = (_ ++ [32]) ++ _
    simp only [List.append_assoc]
theorem joinT_one (x : ByteArray) : joinT [x] = x := by
  apply ByteArray.ext
  show (Lib.join [x.data.toList] [32]).toArray = x.data
  rw [Lib.join_one, Array.toArray_toList]
theorem joinT_nil : joinT [] = ⟨#[]⟩ := rfl
theorem lens_sum : ∀ xs : List ByteArray, ((Lib.lens (xs.map (·.data.toList)) : Nat) : Int) = sumSz xs
  | [] => rfl
  | x :: xs => by
    have h := lens_sum xs
    have e : Lib.lens ((x :: xs).map (·.data.toList)) = x.size + Lib.lens (xs.map (·.data.toList)) := by
      unfold Lib.lens
      rw [List.map_cons, List.map_cons, List.sum_cons]
      rfl
    rw [e]
    simp only [sumSz]
    omega
theorem join_len (xs : List ByteArray) : (((Lib.join (xs.map (·.data.toList)) [32]).length : Nat) : Int) ≤ sumSz xs + xs.length := by
  cases xs with
  | nil => simp [Lib.join_nil, sumSz]
  | cons x xs =>
    have e := lens_sum (x :: xs)
    rw [List.map_cons] at e ⊢
    rw [Lib.join_length, List.length_map]
    simp only [List.length_cons, List.length_nil]
    omega

/-- The texts of the tokens that are no end. -/
def keptT (ts : List Tok) : List ByteArray := (ts.filter (fun t => !(t.kind == 4))).map Tok.text
theorem keptT_take {ts : List Tok} {k : Nat} {t : Tok} (h : ts[k]? = some t) : keptT (ts.take (k + 1)) = keptT (ts.take k) ++ (if t.kind = 4 then [] else [t.text]) := by
  obtain ⟨hk, rfl⟩ := List.getElem?_eq_some_iff.1 h
  rw [List.take_succ_eq_append_getElem hk]
  unfold keptT
  rw [List.filter_append, List.map_append]
  congr 1
  by_cases e : ts[k].kind = 4
  · simp [e]
  · have : (ts[k].kind == 4) = false := by rw [beq_eq_false_iff_ne]; exact e
    simp [this, e]
theorem kept_le : ∀ ts : List Tok, sumSz (keptT ts) ≤ sumSz (txs ts) ∧ (keptT ts).length ≤ ts.length
  | [] => by simp [keptT, txs]
  | t :: ts => by
    obtain ⟨h1, h2⟩ := kept_le ts
    by_cases e : t.kind = 4
    · have e1 : keptT (t :: ts) = keptT ts := by simp [keptT, e]
      rw [e1]
      simp only [txs, List.map_cons, sumSz, List.length_cons]
      simp only [txs] at h1
      omega
    · have e0 : (t.kind == 4) = false := by rw [beq_eq_false_iff_ne]; exact e
      have e1 : keptT (t :: ts) = t.text :: keptT ts := by simp [keptT, e0]
      rw [e1]
      simp only [txs, List.map_cons, sumSz, List.length_cons]
      simp only [txs] at h1
      omega
theorem joinT_size {ts : List Tok} {k : Nat} : ((joinT (keptT (ts.take k))).size : Int) ≤ sumSz (txs (ts.take k)) + (ts.take k).length := by
  have h1 := join_len (keptT (ts.take k))
  have h2 := kept_le (ts.take k)
  have e : (joinT (keptT (ts.take k))).size = (Lib.join ((keptT (ts.take k)).map (·.data.toList)) [32]).length := by
    rfl
  rw [e]
  omega
theorem txs_take (ts : List Tok) (k : Nat) : txs (ts.take k) = (txs ts).take k := by simp [txs, List.map_take]
end Go.Proofs.Ytfadodmkppeodaa
