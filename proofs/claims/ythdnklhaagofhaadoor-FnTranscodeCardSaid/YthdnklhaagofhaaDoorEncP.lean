/-
  A text's code points written back, and their bytes in UTF-16 and Latin 1: the pure part. No condition.
-/
import Derived.Test.YthdnklhaagofhaaDoorTextOf
import Derived.Test.YthdnklhaagofhaaDoorFixMath
import Derived.Laws.IdiomStrings
namespace Go.Proofs.YthdnklhaagofhaaDoor
open Go.ChangeShapes Go.WideShapes Go.ChangeAt Go.RowKit Go.Deep

theorem encL_nat (m : Nat) (_ : m ≤ 1114111) : (encL m).map UInt8.toNat = encB m := by
  unfold encL encB
  (repeat' split) <;> simp <;> omega
theorem manyB_le (b : Nat) : manyB b ≤ 4 := by
  unfold manyB
  (repeat' split) <;> omega
/-- What is read off right is written so. -/
theorem step_good (l : List UInt8) (hne : l ≠ []) (hg : ¬ Bad l) : chr (Lib.decodeL l).1 ∧ encL (Lib.decodeL l).1 = l.take (Lib.decodeL l).2 := by
  have hb : ∀ x : UInt8, x.toNat < 256 := fun x => x.toNat_lt
  have hl : 1 ≤ l.length := List.length_pos_iff.2 hne
  obtain ⟨p1, p2⟩ := ptOk_iff l.length _ _ _ _ hl (hb (l.getD 0 0)) (hb (l.getD 1 0)) (hb (l.getD 2 0)) (hb (l.getD 3 0))
  rw [← Lib.decodeL_N] at p1 p2
  by_cases hp : ptOk l.length (l.getD 0 0).toNat (l.getD 1 0).toNat (l.getD 2 0).toNat (l.getD 3 0).toNat
  · obtain ⟨q1, _⟩ := p1 hp
    obtain ⟨r1, r2, r3⟩ := hp
    rw [q1]
    refine ⟨r2, map_toNat_inj _ _ ?_⟩
    rw [encL_nat _ (by unfold chr at r2; omega), r3, take_four l _ r1 (manyB_le _)]
  · exact absurd (by unfold Bad; rw [p2 hp]; exact ⟨rfl, rfl⟩) hg
theorem back_list : ∀ (k : Nat) (l : List UInt8), l.length ≤ k → Lib.validGoD k l = true → AllCh (ptsD k l) ∧ encP (ptsD k l) = l
  | 0, l, h, _ => by
    have h0 : l = [] := List.eq_nil_of_length_eq_zero (by omega)
    subst h0
    exact ⟨fun n hn => by simp [ptsD] at hn, rfl⟩
  | k + 1, l, h, hv => by
    by_cases hne : l = []
    · subst hne
      rw [ptsD_nil]
      exact ⟨fun n hn => by simp at hn, rfl⟩
    · rw [valid_stepP k l hne] at hv
      by_cases hb : Bad l
      · rw [if_pos hb] at hv
        cases hv
      · rw [if_neg hb] at hv
        obtain ⟨g1, g2⟩ := step_good l hne hb
        have hw := Lib.decodeL_width l
        obtain ⟨i1, i2⟩ := back_list k (l.drop (Lib.decodeL l).2) (by rw [List.length_drop]; omega) hv
        rw [ptsD_step k hne]
        refine ⟨fun n hn => ?_, ?_⟩
        · rcases List.mem_cons.1 hn with rfl | hn
          · exact (ch_iff _).mpr g1
          · exact i1 n hn
        · rw [encP, Int.toNat_natCast, i2, g2, List.take_append_drop]
theorem back_text (s : ByteArray) (h : Lib.validD s.data.toList = true) : AllCh (ptsD s.size s.data.toList) ∧ runesBytes (ptsD s.size s.data.toList) = s := by
  have h1 := back_list s.size s.data.toList (Nat.le_refl _) h
  exact ⟨h1.1, ByteArray.ext (Array.toList_inj.mp (by rw [runes_list h1.1, h1.2]))⟩

/-- The conversion of a text reads its code points. -/
theorem runes_from (s : ByteArray) : ∀ (k i : Nat) (acc : Array Value), (Conv.runesFrom s k i acc).toList = acc.toList ++ (ptsD k (s.data.toList.drop i)).map num32
  | 0, i, acc => by simp [Conv.runesFrom, ptsD]
  | k + 1, i, acc => by
    unfold Conv.runesFrom
    by_cases h : i < s.size
    · have hne : s.data.toList.drop i ≠ [] := by
        intro e
        have h0 : (s.data.toList.drop i).length = 0 := by rw [e]; rfl
        rw [List.length_drop, size_list] at h0
        omega
      rw [if_pos h, ptsD_step k hne, Lib.decodeL_drop, List.drop_drop]
      obtain ⟨r, m⟩ := Utf8.decode s i
      show (Conv.runesFrom s k (i + m) (acc.push (.int .i32 (Int.ofNat r)))).toList = _
      rw [runes_from s k _ _, Array.toList_push, List.append_assoc]
      rfl
    · rw [if_neg h, List.drop_eq_nil_of_le (by rw [size_list]; omega), ptsD_nil]
      simp
/-- Runes lie from a block's start on. -/
def Row32 (w : World) (P : List Int) (R : Option Addr) : Prop := ∃ b, R = some ⟨b, 0, none⟩ ∧ ∀ (i : Nat) (n : Int), P[i]? = some n → w.cell? ⟨b, i, none⟩ = some (.int .i32 n)
theorem Row32.below {w w' : World} {P : List Int} {R : Option Addr} (h : Row32 w P R) (hb : Below w.heap.size w w') : Row32 w' P R := by
  obtain ⟨b, e, hc⟩ := h
  exact ⟨b, e, fun i n hn => keepCell hb (hc i n hn)⟩
theorem conv_pts (s : ByteArray) (hs : s.size ≤ 24) (w : World) : ∃ (b c : Nat) (w' : World), (convert 9 108 (.string s)).run Tryd.prog w = .ok (.slice (some ⟨b, 0, none⟩) (ptsD s.size s.data.toList).length c) w' ∧ Row32 w' (ptsD s.size s.data.toList) (some ⟨b, 0, none⟩) ∧ Below w.heap.size w w' := by
  have hr := runes_from s s.size 0 #[]
  rw [List.drop_zero] at hr
  have hz : (Conv.runesFrom s s.size 0 #[]).size = (ptsD s.size s.data.toList).length := by
    have := congrArg List.length hr
    simpa using this
  have hl := ptsD_len s.size s.data.toList
  have h := run_runes_of_string (P := Tryd.prog) w 9 108 21 s Tryd.underlying9 Tryd.underlying108 Tryd.underlying21 (by omega)
  generalize Conv.runesFrom s s.size 0 #[] = C at *
  generalize ptsD s.size s.data.toList = P at *
  generalize grownCap w C.size 0 21 = c at *
  rw [h, hz]
  have h9 : Array.replicate (c - C.size) (Value.int .i32 0) = Array.replicate (c - P.length) (Value.int .i32 0) := by rw [hz]
  refine ⟨w.heap.size, c, _, rfl, ⟨w.heap.size, rfl, fun i n hn => ?_⟩, ?_⟩
  · have hi : i < P.length := (List.getElem?_eq_some_iff.1 hn).1
    refine Eq.trans (World.cell?_alloc_mark w.drew _ 21 (0, 0) i) ?_
    rw [Array.getElem?_append_left (by omega), ← Array.getElem?_toList, hr]
    simp [hn, num32]
  · exact ⟨rfl, rfl, rfl, Nat.le_of_lt (by show w.heap.size < (w.heap.push _).size; rw [Array.size_push]; omega), fun k hk => by
      show (w.heap.push _)[k]? = w.heap[k]?
      rw [Array.getElem?_push, if_neg (by omega)]⟩

/-- A code point in UTF-16. -/
def pairB (n : Int) : ByteArray := if n < 65536 then strOfNums (fixl n 2) else strOfNums (fixl (55296 + (n - 65536) / 1024) 2) ++ strOfNums (fixl (56320 + (n - 65536) % 1024) 2)
theorem pairB_size (n : Int) : (pairB n).size ≤ 4 := by
  unfold pairB
  split
  · rw [strOfNums_size, fixl_length]; omega
  · rw [ByteArray.size_append, strOfNums_size, fixl_length, strOfNums_size, fixl_length]; omega
/-- Code points in UTF-16. -/
def wideB (P : List Int) : ByteArray := P.foldl (fun r n => r ++ pairB n) ByteArray.empty
theorem wideB_snoc (P : List Int) (n : Int) : wideB (P ++ [n]) = wideB P ++ pairB n := by
  unfold wideB
  rw [List.foldl_append]
  rfl
theorem wideB_take {P : List Int} {k : Nat} {n : Int} (h : P[k]? = some n) : wideB (P.take (k + 1)) = wideB (P.take k) ++ pairB n := by rw [take_snoc7 h, wideB_snoc]
theorem strOfNums_append (P Q : List Int) : strOfNums (P ++ Q) = strOfNums P ++ strOfNums Q := by
  apply ByteArray.ext
  apply Array.toList_inj.mp
  rw [strOfNums_data, ByteArray.data_append, Array.toList_append, strOfNums_data, strOfNums_data, List.map_append]
theorem strOfNums_take {P : List Int} {k : Nat} {n : Int} (h : P[k]? = some n) : strOfNums (P.take (k + 1)) = strOfNums (P.take k) ++ strOfNums [n] := by rw [take_snoc7 h, strOfNums_append]
/-- All are Latin 1. -/
def Latin (P : List Int) : Prop := ∀ n ∈ P, n ≤ 255
instance (P : List Int) : Decidable (Latin P) := by unfold Latin; infer_instance
theorem fixl_snocs (n : Int) : strOfNums (fixl n 2) = strOfNums [n % 256] ++ strOfNums [n / 256 % 256] := by
  rw [← strOfNums_append]
  simp [fixl]
theorem chB {P : List Int} (h : AllCh P) {k : Nat} {n : Int} (hn : P[k]? = some n) : 0 ≤ n ∧ n ≤ 1114111 := by
  have := h n (List.mem_of_getElem? hn)
  unfold ChI at this
  omega
theorem i64_32 {n : Int} (h0 : 0 ≤ n) (h1 : n ≤ 1114111) : IntKind.i64.wrap n = n := by
  rw [IntKind.wrap_i64]
  omega
theorem i32_32 {n : Int} (h0 : 0 ≤ n) (h1 : n ≤ 1114111) : IntKind.i32.wrap n = n := by
  rw [IntKind.wrap_i32]
  omega
theorem u8_8 {n : Int} (h0 : 0 ≤ n) (h1 : n ≤ 255) : IntKind.u8.wrap n = n := by
  rw [IntKind.wrap_u8]
  omega
end Go.Proofs.YthdnklhaagofhaaDoor
