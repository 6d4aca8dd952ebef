/-
  Both ReadMem walk as memRead says.
-/
import Derived.Test.YtbdnlloadmleaaaMemOkI
namespace Go.Proofs.Ytbdnlloadmleaaa
open Go.ChangeShapes Go.WideShapes Go.ChangeAt Go.RowKit Go.Deep

/-- What reading gives. -/
def memRead (x : Me) (p n : Int) : ByteArray × Int :=
  if memOk x = true then (if 0 ≤ p ∧ 0 ≤ n ∧ n ≤ (x.bytes.size : Int) - p then (x.bytes.extract p.toNat (p + n).toNat, 0) else (⟨#[]⟩, 10)) else (⟨#[]⟩, 1)
theorem l10In_any (s : ByteArray) (hs : (s.size : Int) ≤ 1048576) (R : Option Addr) (l c : Nat) (p n : Int) (w : World) :
    Calls Try.prog 67 #[.agg #[.string s, .slice R l c], .int .i64 p, .int .i64 n] w fun e w' => e = .returned (.bool (decide (0 ≤ p ∧ 0 ≤ n ∧ n ≤ (s.size : Int) - p))) ∧ Below w.heap.size w w' := by
  by_cases h : 0 ≤ p ∧ 0 ≤ n ∧ n ≤ (s.size : Int) - p
  · rw [decide_eq_true h]
    obtain ⟨h1, h2, h3⟩ := h
    go_enter Try.func67, Try.ntmps67
    go_wp2_with fail
    all_goals go_ret
    all_goals exact ⟨by first | rfl | exact ret_bool (decide_eq_true (by omega)), below1 _ _⟩
  · rw [decide_eq_false h]
    go_enter Try.func67, Try.ntmps67
    go_wp2_with fail
    all_goals go_ret
    all_goals exact ⟨by first | rfl | exact ret_bool (decide_eq_false (by omega)), below1 _ _⟩

set_option maxRecDepth 100000 in
theorem l10Read_any (x : Me) (hb : (x.bytes.size : Int) ≤ 1048576) (Rfree : Option Addr) (cfree : Nat) (p n : Int) (w : World) :
    Calls Try.prog 56 #[.agg #[.string x.bytes, .slice Rfree x.free.length cfree], .int .i64 p, .int .i64 n] w fun e w' => e = .returned (.tuple #[.string (if 0 ≤ p ∧ 0 ≤ n ∧ n ≤ (x.bytes.size : Int) - p then x.bytes.extract p.toNat (p + n).toNat else ⟨#[]⟩), .int .i64 (if 0 ≤ p ∧ 0 ≤ n ∧ n ≤ (x.bytes.size : Int) - p then 0 else 10)]) ∧ Below w.heap.size w w' := by
  have CI := fun W => l10In_any x.bytes hb Rfree x.free.length cfree p n W
  by_cases h : 0 ≤ p ∧ 0 ≤ n ∧ n ≤ (x.bytes.size : Int) - p
  · rw [decide_eq_true h] at CI
    rw [if_pos h, if_pos h]
    have CI := Lib.hid CI
    obtain ⟨h1, h2, h3⟩ := h
    obtain ⟨a, rfl⟩ := Int.eq_ofNat_of_zero_le h1
    obtain ⟨b, rfl⟩ := Int.eq_ofNat_of_zero_le h2
    have hse : (a : Int) + (b : Int) ≤ (x.bytes.size : Int) := by omega
    have hml : (a : Int) ≤ (a : Int) + (b : Int) := by omega
    go_enter Try.func56, Try.ntmps56
    go_wp2_with fail
    go_at_call 67
    refine (CI.out _).mono ?_
    rintro e w2 ⟨rfl, hb2⟩
    have kb := keepCell (a := ⟨w.heap.size, 0, none⟩) (v := .string x.bytes) hb2 (by go_simp)
    have HB := Lib.hid (bnext (below1 _ _) hb2)
    clear hb2
    go_wp2_with fail
    go_ret2
    exact ⟨rfl, HB.out⟩
  · rw [decide_eq_false h] at CI
    rw [if_neg h, if_neg h]
    have CI := Lib.hid CI
    clear h
    go_enter Try.func56, Try.ntmps56
    go_wp2_with fail
    go_at_call 67
    refine (CI.out _).mono ?_
    rintro e w2 ⟨rfl, hb2⟩
    have HB := Lib.hid (bnext (below1 _ _) hb2)
    clear hb2
    go_wp2_with fail
    go_ret2
    exact ⟨rfl, HB.out⟩

set_option maxRecDepth 100000 in
theorem specReadMem_any (x : Me) (hT : x.wt ≤ 1048576) (hfin : x.Fin) (Rfree : Option Addr) (cfree : Nat) (p n : Int) (_hp : -9223372036854775808 ≤ p ∧ p ≤ 9223372036854775807) (_hn : -9223372036854775808 ≤ n ∧ n ≤ 9223372036854775807) (lo : Nat) (w : World) (h : Me.At w lo x Rfree) :
    Calls Try.prog 26 #[.agg #[.string x.bytes, .slice Rfree x.free.length cfree], .int .i64 p, .int .i64 n] w fun e w' => e = .returned (.tuple #[.string (memRead x p n).1, .int .i64 (memRead x p n).2]) ∧ Below w.heap.size w w' := by
  have CM := fun W (h : Me.At W lo x Rfree) => specMemoryOk_any x hT hfin Rfree cfree lo W h
  have CR := Lib.hid (fun W => l10Read_any x (Me.parts_le hT).1 Rfree cfree p n W)
  have H := Lib.hid h
  clear h
  by_cases hok : memOk x = true
  · have e : memRead x p n = ((if 0 ≤ p ∧ 0 ≤ n ∧ n ≤ (x.bytes.size : Int) - p then x.bytes.extract p.toNat (p + n).toNat else ⟨#[]⟩), (if 0 ≤ p ∧ 0 ≤ n ∧ n ≤ (x.bytes.size : Int) - p then 0 else 10)) := by
      unfold memRead
      rw [if_pos hok]
      split <;> rfl
    rw [e]
    rw [hok] at CM
    have CM := Lib.hid CM
    clear hok hfin hT e
    generalize (if 0 ≤ p ∧ 0 ≤ n ∧ n ≤ (x.bytes.size : Int) - p then x.bytes.extract p.toNat (p + n).toNat else ⟨#[]⟩) = v0 at *
    generalize (if 0 ≤ p ∧ 0 ≤ n ∧ n ≤ (x.bytes.size : Int) - p then (0 : Int) else 10) = v1 at *
    go_enter Try.func26, Try.ntmps26
    go_wp2_with fail
    go_at_call 16
    refine (CM.out _ (Me.At.below H.out (below1 _ _))).mono ?_
    rintro e w1 ⟨rfl, hb1⟩
    have kb := keepCell (a := ⟨w.heap.size, 0, none⟩) (v := .string x.bytes) hb1 (by go_simp)
    have kc := keepCell (a := ⟨w.heap.size, 1, none⟩) (v := .slice Rfree x.free.length cfree) hb1 (by go_simp)
    have HB1 := Lib.hid (bnext (below1 _ _) hb1)
    clear hb1
    go_wp2_with fail
    go_at_call 56
    refine (CR.out _).mono ?_
    rintro e w2 ⟨rfl, hb2⟩
    have HB2 := Lib.hid (bnext HB1.out hb2)
    clear hb2 kb kc
    go_wp2_with fail
    go_ret2
    exact ⟨rfl, HB2.out⟩
  · have e : memRead x p n = (⟨#[]⟩, 1) := by
      unfold memRead
      rw [if_neg hok]
    rw [e]
    rw [Bool.not_eq_true] at hok
    rw [hok] at CM
    have CM := Lib.hid CM
    clear hok hfin hT e CR
    go_enter Try.func26, Try.ntmps26
    go_wp2_with fail
    go_at_call 16
    refine (CM.out _ (Me.At.below H.out (below1 _ _))).mono ?_
    rintro e w1 ⟨rfl, hb1⟩
    have HB1 := Lib.hid (bnext (below1 _ _) hb1)
    clear hb1
    go_wp2_with fail
    go_ret2
    exact ⟨rfl, HB1.out⟩

set_option maxRecDepth 100000 in
theorem implReadMem_any (x : Me) (hT : x.wt ≤ 1048576) (hfin : x.Fin) (Rfree : Option Addr) (cfree : Nat) (p n : Int) (hp : -9223372036854775808 ≤ p ∧ p ≤ 9223372036854775807) (_hn : -9223372036854775808 ≤ n ∧ n ≤ 9223372036854775807) (lo : Nat) (w : World) (h : Me.At w lo x Rfree) :
    Calls Try.prog 27 #[.agg #[.string x.bytes, .slice Rfree x.free.length cfree], .int .i64 p, .int .i64 n] w fun e w' => e = .returned (.tuple #[.string (memRead x p n).1, .int .i64 (memRead x p n).2]) ∧ Below w.heap.size w w' := by
  have CM := fun W (h : Me.At W lo x Rfree) => implMemoryOk_any x hT hfin Rfree cfree lo W h
  have CI := fun W => inBounds_any x.bytes (Me.parts_le hT).1 Rfree x.free.length cfree p n hp.1 hp.2 W
  have hbs := (Me.parts_le hT).1
  have H := Lib.hid h
  clear h hp
  by_cases hok : memOk x = true
  · rw [hok] at CM
    have CM := Lib.hid CM
    by_cases hi : 0 ≤ p ∧ 0 ≤ n ∧ n ≤ (x.bytes.size : Int) - p
    · have e : memRead x p n = (x.bytes.extract p.toNat (p + n).toNat, 0) := by
        unfold memRead
        rw [if_pos hok, if_pos hi]
      rw [e]
      rw [decide_eq_true hi] at CI
      have CI := Lib.hid CI
      clear hok hfin hT e
      obtain ⟨h1, h2, h3⟩ := hi
      obtain ⟨a, rfl⟩ := Int.eq_ofNat_of_zero_le h1
      obtain ⟨b, rfl⟩ := Int.eq_ofNat_of_zero_le h2
      have hse : (a : Int) + (b : Int) ≤ (x.bytes.size : Int) := by omega
      have hml : (a : Int) ≤ (a : Int) + (b : Int) := by omega
      go_enter Try.func27, Try.ntmps27
      go_wp2_with fail
      go_at_call 18
      refine (CM.out _ (Me.At.below H.out (below1 _ _))).mono ?_
      rintro e w1 ⟨rfl, hb1⟩
      have kb := keepCell (a := ⟨w.heap.size, 0, none⟩) (v := .string x.bytes) hb1 (by go_simp)
      have kc := keepCell (a := ⟨w.heap.size, 1, none⟩) (v := .slice Rfree x.free.length cfree) hb1 (by go_simp)
      have HB1 := Lib.hid (bnext (below1 _ _) hb1)
      clear hb1
      go_wp2_with fail
      go_at_call 49
      refine (CI.out _).mono ?_
      rintro e w2 ⟨rfl, hb2⟩
      replace kb := keepCell hb2 kb
      have HB2 := Lib.hid (bnext HB1.out hb2)
      clear hb2 kc
      go_wp2_with fail
      go_ret2
      exact ⟨rfl, HB2.out⟩
    · have e : memRead x p n = (⟨#[]⟩, 10) := by
        unfold memRead
        rw [if_pos hok, if_neg hi]
      rw [e]
      rw [decide_eq_false hi] at CI
      have CI := Lib.hid CI
      clear hok hfin hT e hi
      go_enter Try.func27, Try.ntmps27
      go_wp2_with fail
      go_at_call 18
      refine (CM.out _ (Me.At.below H.out (below1 _ _))).mono ?_
      rintro e w1 ⟨rfl, hb1⟩
      have kb := keepCell (a := ⟨w.heap.size, 0, none⟩) (v := .string x.bytes) hb1 (by go_simp)
      have kc := keepCell (a := ⟨w.heap.size, 1, none⟩) (v := .slice Rfree x.free.length cfree) hb1 (by go_simp)
      have HB1 := Lib.hid (bnext (below1 _ _) hb1)
      clear hb1
      go_wp2_with fail
      go_at_call 49
      refine (CI.out _).mono ?_
      rintro e w2 ⟨rfl, hb2⟩
      have HB2 := Lib.hid (bnext HB1.out hb2)
      clear hb2 kc kb
      go_wp2_with fail
      go_ret2
      exact ⟨rfl, HB2.out⟩
  · have e : memRead x p n = (⟨#[]⟩, 1) := by
      unfold memRead
      rw [if_neg hok]
    rw [e]
    rw [Bool.not_eq_true] at hok
    rw [hok] at CM
    have CM := Lib.hid CM
    clear hok hfin hT e CI
    go_enter Try.func27, Try.ntmps27
    go_wp2_with fail
    go_at_call 18
    refine (CM.out _ (Me.At.below H.out (below1 _ _))).mono ?_
    rintro e w1 ⟨rfl, hb1⟩
    have HB1 := Lib.hid (bnext (below1 _ _) hb1)
    clear hb1
    go_wp2_with fail
    go_ret2
    exact ⟨rfl, HB1.out⟩
end Go.Proofs.Ytbdnlloadmleaaa
