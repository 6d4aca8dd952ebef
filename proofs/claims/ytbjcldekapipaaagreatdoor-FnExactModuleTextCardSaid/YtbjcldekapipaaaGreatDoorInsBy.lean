/-
  The bytes of an instruction: both InsBytes.
-/
import Derived.Test.YtbjcldekapipaaaGreatDoorInsOkLaw
import Derived.Test.YtbjcldekapipaaaGreatDoorPutLeb
import Derived.Test.YtbjcldekapipaaaGreatDoorSpecPutLeb
import Derived.Test.YtbjcldekapipaaaGreatDoorPutFix
namespace Go.Proofs.YtbjcldekapipaaaGreatDoor
open Go.ChangeShapes Go.WideShapes Go.ChangeAt Go.RowKit

theorem insR_hasB (op : Int) : (insR op).2.2 = true ↔ ((insR op).1 ≠ 0 ∨ (insR op).2.1 ≠ 0) := by
  unfold insR
  repeat' split
  all_goals simp

theorem hasOpB_any (op : Int) (w : World) :
    Calls Tryz.prog 86 #[.int .i64 op] w fun e w' => e = .returned (.bool (insR op).2.2) ∧ Below w.heap.size w w' := by
  have CR := Lib.hid (fun W => operandsOf_any op W)
  have hh := insR_hasB op
  generalize insR op = R at *
  obtain ⟨lo, hi, b⟩ := R
  simp only at hh CR ⊢
  by_cases h1 : lo = 0
  · by_cases h2 : hi = 0
    · obtain rfl : b = false := by
        cases b with
        | false => rfl
        | true => have := hh.mp rfl; omega
      clear hh
      go_enter Tryz.func86, Tryz.ntmps86
      go_wp2_with (go_at_call 117; refine (CR.out _).mono ?_; rintro e wx ⟨rfl, hb⟩; have HB := Lib.hid hb; clear hb)
      go_ret
      exact ⟨rfl, HB.out⟩
    · obtain rfl : b = true := hh.mpr (Or.inr h2)
      clear hh
      go_enter Tryz.func86, Tryz.ntmps86
      go_wp2_with (go_at_call 117; refine (CR.out _).mono ?_; rintro e wx ⟨rfl, hb⟩; have HB := Lib.hid hb; clear hb)
      go_ret
      exact ⟨rfl, HB.out⟩
  · obtain rfl : b = true := hh.mpr (Or.inl h1)
    clear hh
    go_enter Tryz.func86, Tryz.ntmps86
    go_wp2_with (go_at_call 117; refine (CR.out _).mono ?_; rintro e wx ⟨rfl, hb⟩; have HB := Lib.hid hb; clear hb)
    go_ret
    exact ⟨rfl, HB.out⟩

/-- The bytes of an instruction. -/
def insBy (op a : Int) : ByteArray :=
  if (insR op).2.2 = true then strOfNums (fixl op 1) ++ (if op = 1 then strOfNums (lebS a) else strOfNums (lebU a.toNat)) else strOfNums (fixl op 1)

theorem insV_op {op a : Int} (h : insV op a = true) : 1 ≤ op ∧ op ≤ 40 ∧ (insR op).1 ≤ a ∧ a ≤ (insR op).2.1 := by
  unfold insV at h
  simp at h
  omega
theorem insR_low (op : Int) (h : op ≠ 1) : (insR op).1 = 0 := by
  unfold insR
  rw [if_neg h]
  repeat' split
  all_goals rfl
theorem insR_const : insR 1 = (-9223372036854775808, 9223372036854775807, true) := rfl
theorem fix1_size (op : Int) : (strOfNums (fixl op 1)).size = 1 := by rw [strOfNums_size, fixl_length]
theorem sleb_size (a : Int) (h0 : -9223372036854775808 ≤ a) (h1 : a ≤ 9223372036854775807) : (strOfNums (lebS a)).size ≤ 10 := by
  rw [strOfNums_size]
  exact lebS_length 9 a (by omega) (by omega)
theorem uleb_size (a : Nat) (h1 : (a : Int) ≤ 9223372036854775807) : (strOfNums (lebU a)).size ≤ 10 := by
  rw [strOfNums_size]
  exact lebU_length 9 a (by omega)

theorem insBy_leB (op a : Int) (ha0 : -9223372036854775808 ≤ a) (ha1 : a ≤ 9223372036854775807) : (insBy op a).size ≤ 11 := by
  unfold insBy
  split
  · rw [ByteArray.size_append, fix1_size]
    split
    · have := sleb_size a ha0 ha1; omega
    · have := uleb_size a.toNat (by omega); omega
  · rw [fix1_size]; omega
theorem insR_bdB (op : Int) : -9223372036854775808 ≤ (insR op).1 ∧ (insR op).2.1 ≤ 9223372036854775807 := by
  unfold insR
  repeat' split
  all_goals simp
theorem insV_bdB {op a : Int} (h : insV op a = true) : -9223372036854775808 ≤ a ∧ a ≤ 9223372036854775807 := by
  have h1 := insV_op h
  have h2 := insR_bdB op
  omega

/-- The program's. -/
theorem implInsBytes_any (op a : Int) (ho0 : -9223372036854775808 ≤ op) (ho1 : op ≤ 9223372036854775807) (ha0 : -9223372036854775808 ≤ a) (ha1 : a ≤ 9223372036854775807) (w : World) (ht : OpTab w) :
    Calls Tryz.prog 70 #[.agg #[.int .i64 op, .int .i64 a]] w fun e w' => e = .returned (.string (if insV op a = true then insBy op a else ⟨#[]⟩)) ∧ Below w.heap.size w w' := by
  have CI := Lib.hid (fun W (hb : Below w.heap.size w W) => implInsOk_any op a W (ht.keep hb))
  have CH := Lib.hid (fun W => hasOpB_any op W)
  have CF := Lib.hid (fun W => implPutFix_any op 1 W (by omega) ho0 ho1)
  have CS := Lib.hid (fun W => implPutSleb_any a W ha0 ha1)
  have hzF := fix1_size op
  have hzS := sleb_size a ha0 ha1
  unfold insBy
  clear ht ho0 ho1
  cases hv : insV op a with
  | false =>
    rw [hv] at CI
    clear hv CH CF CS hzF hzS ha0 ha1
    go_enter Tryz.func70, Tryz.ntmps70
    go_wp2_with (go_at_call 85; refine (CI.out _ (below1 _ _)).mono ?_; rintro e w1 ⟨rfl, h1⟩; have HB1 := Lib.hid (bnext (below1 _ _) h1); clear h1)
    go_ret
    exact ⟨rfl, HB1.out⟩
  | true =>
    rw [hv] at CI
    have hvo := insV_op hv
    clear hv
    generalize strOfNums (fixl op 1) = F at *
    generalize strOfNums (lebS a) = S at *
    cases hb : (insR op).2.2 with
    | false =>
      rw [hb] at CH
      clear hb hvo hzF hzS ha0 ha1 CS
      go_enter Tryz.func70, Tryz.ntmps70
      go_wp2_with (first
        | (go_at_call 85; refine (CI.out _ (below1 _ _)).mono ?_; rintro e w1 ⟨rfl, h1⟩; have HB1 := Lib.hid (bnext (below1 _ _) h1); have c0 := keepCell (a := ⟨w.heap.size, 0, none⟩) (v := .int .i64 op) h1 (by go_simp); clear h1)
        | (go_at_call 67; refine (CF.out _).mono ?_; rintro e w2 ⟨rfl, h2⟩; have HB2 := Lib.hid (bnext HB1.out h2); have d0 := keepCell h2 c0; clear h2)
        | (go_at_call 86; refine (CH.out _).mono ?_; rintro e w3 ⟨rfl, h3⟩; have HB3 := Lib.hid (bnext HB2.out h3); clear h3))
      go_ret
      exact ⟨rfl, HB3.out⟩
    | true =>
      rw [hb] at CH
      by_cases h1 : op = 1
      · have q1 : (op == 1) = true := by rw [h1]; rfl
        have hz2 : ¬ (9223372036854775807 < F.size + S.size) := by omega
        rw [if_pos rfl, if_pos h1]
        clear hb hvo ha0 ha1 h1
        go_enter Tryz.func70, Tryz.ntmps70
        go_wp2_with (first
          | (go_at_call 85; refine (CI.out _ (below1 _ _)).mono ?_; rintro e w1 ⟨rfl, h1⟩; have HB1 := Lib.hid (bnext (below1 _ _) h1); have c0 := keepCell (a := ⟨w.heap.size, 0, none⟩) (v := .int .i64 op) h1 (by go_simp); have c1 := keepCell (a := ⟨w.heap.size, 1, none⟩) (v := .int .i64 a) h1 (by go_simp); clear h1)
          | (go_at_call 67; refine (CF.out _).mono ?_; rintro e w2 ⟨rfl, h2⟩; have HB2 := Lib.hid (bnext HB1.out h2); have d0 := keepCell h2 c0; have d1 := keepCell h2 c1; clear h2)
          | (go_at_call 86; refine (CH.out _).mono ?_; rintro e w3 ⟨rfl, h3⟩; have HB3 := Lib.hid (bnext HB2.out h3); have e0 := keepCell h3 d0; have e1 := keepCell h3 d1; clear h3)
          | (go_at_call 106; refine (CS.out _).mono ?_; rintro e w4 ⟨rfl, h4⟩; have HB4 := Lib.hid (bnext HB3.out h4); clear h4))
        go_ret
        exact ⟨rfl, HB4.out⟩
      · have hl := insR_low op h1
        obtain ⟨n, rfl⟩ : ∃ n : Nat, a = n := ⟨a.toNat, by omega⟩
        have CU := Lib.hid (fun W => implPutLeb_any n W ha1)
        have hzU := uleb_size n ha1
        have q1 : (op == 1) = false := beq_eq_false_iff_ne.mpr h1
        rw [if_pos rfl, if_neg h1, Int.toNat_natCast]
        generalize strOfNums (lebU n) = U at *
        have hz2 : ¬ (9223372036854775807 < F.size + U.size) := by omega
        clear hb hvo ha0 ha1 h1 hl CS hzS
        go_enter Tryz.func70, Tryz.ntmps70
        go_wp2_with (first
          | (go_at_call 85; refine (CI.out _ (below1 _ _)).mono ?_; rintro e w1 ⟨rfl, h1⟩; have HB1 := Lib.hid (bnext (below1 _ _) h1); have c0 := keepCell (a := ⟨w.heap.size, 0, none⟩) (v := .int .i64 op) h1 (by go_simp); have c1 := keepCell (a := ⟨w.heap.size, 1, none⟩) (v := .int .i64 n) h1 (by go_simp); clear h1)
          | (go_at_call 67; refine (CF.out _).mono ?_; rintro e w2 ⟨rfl, h2⟩; have HB2 := Lib.hid (bnext HB1.out h2); have d0 := keepCell h2 c0; have d1 := keepCell h2 c1; clear h2)
          | (go_at_call 86; refine (CH.out _).mono ?_; rintro e w3 ⟨rfl, h3⟩; have HB3 := Lib.hid (bnext HB2.out h3); have e0 := keepCell h3 d0; have e1 := keepCell h3 d1; clear h3)
          | (go_at_call 27; refine (CU.out _).mono ?_; rintro e w4 ⟨rfl, h4⟩; have HB4 := Lib.hid (bnext HB3.out h4); clear h4))
        go_ret
        exact ⟨rfl, HB4.out⟩

/-- The model's. -/
theorem specInsBytes_any (op a : Int) (ha0 : -9223372036854775808 ≤ a) (ha1 : a ≤ 9223372036854775807) (w : World) :
    Calls Tryz.prog 99 #[.agg #[.int .i64 op, .int .i64 a]] w fun e w' => e = .returned (.string (if insV op a = true then insBy op a else ⟨#[]⟩)) ∧ Below w.heap.size w w' := by
  have CI := Lib.hid (fun W => specInsOk_any op a W)
  have CH := Lib.hid (fun W => l15Has_any op W)
  have CF := Lib.hid (fun W => specPutFix_any op 1 W (by omega))
  have CS := Lib.hid (fun W => specPutSleb_any a W ha0 ha1)
  have hzF := fix1_size op
  have hzS := sleb_size a ha0 ha1
  unfold insBy
  cases hv : insV op a with
  | false =>
    rw [hv] at CI
    clear hv CH CF CS hzF hzS ha0 ha1
    go_enter Tryz.func99, Tryz.ntmps99
    go_wp2_with (go_at_call 98; refine (CI.out _).mono ?_; rintro e w1 ⟨rfl, h1⟩; have HB1 := Lib.hid (bnext (below1 _ _) h1); clear h1)
    go_ret
    exact ⟨rfl, HB1.out⟩
  | true =>
    rw [hv] at CI
    have hvo := insV_op hv
    clear hv
    generalize strOfNums (fixl op 1) = F at *
    generalize strOfNums (lebS a) = S at *
    cases hb : (insR op).2.2 with
    | false =>
      rw [hb] at CH
      clear hb hvo hzF hzS ha0 ha1 CS
      go_enter Tryz.func99, Tryz.ntmps99
      go_wp2_with (first
        | (go_at_call 98; refine (CI.out _).mono ?_; rintro e w1 ⟨rfl, h1⟩; have HB1 := Lib.hid (bnext (below1 _ _) h1); have c0 := keepCell (a := ⟨w.heap.size, 0, none⟩) (v := .int .i64 op) h1 (by go_simp); clear h1)
        | (go_at_call 97; refine (CF.out _).mono ?_; rintro e w2 ⟨rfl, h2⟩; have HB2 := Lib.hid (bnext HB1.out h2); have d0 := keepCell h2 c0; clear h2)
        | (go_at_call 112; refine (CH.out _).mono ?_; rintro e w3 ⟨rfl, rfl⟩))
      go_ret
      exact ⟨rfl, HB2.out⟩
    | true =>
      rw [hb] at CH
      by_cases h1 : op = 1
      · have q1 : (op == 1) = true := by rw [h1]; rfl
        have hz2 : ¬ (9223372036854775807 < F.size + S.size) := by omega
        rw [if_pos rfl, if_pos h1]
        clear hb hvo ha0 ha1 h1
        go_enter Tryz.func99, Tryz.ntmps99
        go_wp2_with (first
          | (go_at_call 98; refine (CI.out _).mono ?_; rintro e w1 ⟨rfl, h1⟩; have HB1 := Lib.hid (bnext (below1 _ _) h1); have c0 := keepCell (a := ⟨w.heap.size, 0, none⟩) (v := .int .i64 op) h1 (by go_simp); have c1 := keepCell (a := ⟨w.heap.size, 1, none⟩) (v := .int .i64 a) h1 (by go_simp); clear h1)
          | (go_at_call 97; refine (CF.out _).mono ?_; rintro e w2 ⟨rfl, h2⟩; have HB2 := Lib.hid (bnext HB1.out h2); have d0 := keepCell h2 c0; have d1 := keepCell h2 c1; clear h2)
          | (go_at_call 112; refine (CH.out _).mono ?_; rintro e w3 ⟨rfl, rfl⟩)
          | (go_at_call 130; refine (CS.out _).mono ?_; rintro e w4 ⟨rfl, h4⟩; have HB4 := Lib.hid (bnext HB2.out h4); clear h4))
        go_ret
        exact ⟨rfl, HB4.out⟩
      · have hl := insR_low op h1
        obtain ⟨n, rfl⟩ : ∃ n : Nat, a = n := ⟨a.toNat, by omega⟩
        have CU := Lib.hid (fun W => specPutLeb_any n W ha1)
        have hzU := uleb_size n ha1
        have q1 : (op == 1) = false := beq_eq_false_iff_ne.mpr h1
        rw [if_pos rfl, if_neg h1, Int.toNat_natCast]
        generalize strOfNums (lebU n) = U at *
        have hz2 : ¬ (9223372036854775807 < F.size + U.size) := by omega
        clear hb hvo ha0 ha1 h1 hl CS hzS
        go_enter Tryz.func99, Tryz.ntmps99
        go_wp2_with (first
          | (go_at_call 98; refine (CI.out _).mono ?_; rintro e w1 ⟨rfl, h1⟩; have HB1 := Lib.hid (bnext (below1 _ _) h1); have c0 := keepCell (a := ⟨w.heap.size, 0, none⟩) (v := .int .i64 op) h1 (by go_simp); have c1 := keepCell (a := ⟨w.heap.size, 1, none⟩) (v := .int .i64 n) h1 (by go_simp); clear h1)
          | (go_at_call 97; refine (CF.out _).mono ?_; rintro e w2 ⟨rfl, h2⟩; have HB2 := Lib.hid (bnext HB1.out h2); have d0 := keepCell h2 c0; have d1 := keepCell h2 c1; clear h2)
          | (go_at_call 112; refine (CH.out _).mono ?_; rintro e w3 ⟨rfl, rfl⟩)
          | (go_at_call 51; refine (CU.out _).mono ?_; rintro e w4 ⟨rfl, h4⟩; have HB4 := Lib.hid (bnext HB2.out h4); clear h4))
        go_ret
        exact ⟨rfl, HB4.out⟩
end Go.Proofs.YtbjcldekapipaaaGreatDoor
