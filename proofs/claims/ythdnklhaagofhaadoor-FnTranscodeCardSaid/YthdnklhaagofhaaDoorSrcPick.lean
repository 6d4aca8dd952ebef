/-
  Walks of the drawing source's pick, one, among and text.
-/
import Derived.Test.YthdnklhaagofhaaDoorSrc
namespace Go.Proofs.YthdnklhaagofhaaDoor
open Go.ChangeShapes Go.WideShapes Go.ChangeAt Go.RowKit

/-- What pick leaves. -/
def PickPost (B n : Nat) (sv : Value) (k : Int) (W : World) (e : Ending) (W' : World) : Prop := ∃ (r : Int) (n' : Nat), e = .returned (.int .i64 r) ∧ 0 ≤ r ∧ (r < k ∨ (r = 0 ∧ k ≤ 1)) ∧ n' ≤ n + 2 ∧ SrcAt W' B n' sv ∧ OnlyB B W W'

theorem pick_small (B n : Nat) (sv : Value) (k : Int) (hk : k ≤ 1) (W : World) (h : SrcAt W B n sv) :
    Calls Tryd.prog 92 #[.pointer (some ⟨B, 0, none⟩), .int .i64 k] W (PickPost B n sv k W) := by
  have HH := Lib.hid h
  clear h
  go_enter Tryd.func92, Tryd.ntmps92
  go_wp2
  go_ret
  exact ⟨0, n, rfl, by omega, Or.inr ⟨rfl, hk⟩, by omega, HH.out, OnlyB.refl _ _⟩

theorem pick_mid (B n : Nat) (hn : n ≤ 900000) (sv : Value) (k : Int) (hk : 1 < k) (hk2 : k ≤ 200) (W : World) (h : SrcAt W B n sv) :
    Calls Tryd.prog 92 #[.pointer (some ⟨B, 0, none⟩), .int .i64 k] W (PickPost B n sv k W) := by
  have C := Lib.hid (next_any B n (by omega) sv W h)
  clear h
  have h1 : ¬ k ≤ 1 := by omega
  have h2 : ¬ 200 < k := by omega
  have h3 : (k == 0) = false := beq_eq_false_iff_ne.mpr (by omega)
  go_enter Tryd.func92, Tryd.ntmps92
  go_wp2_with (go_at_call 135; (with_reducible refine C.out.mono ?_); rintro e W1 ⟨r, rfl, r0, r1, hs1, ho1⟩)
  go_ret
  exact ⟨_, n + 1, rfl, Int.emod_nonneg _ (by omega), Or.inl (Int.emod_lt_of_pos _ (by omega)), by omega, hs1, ho1⟩

theorem pick_big (B n : Nat) (hn : n ≤ 900000) (sv : Value) (k : Int) (hk : 200 < k) (hk2 : k ≤ 1000000) (W : World) (h : SrcAt W B n sv) :
    Calls Tryd.prog 92 #[.pointer (some ⟨B, 0, none⟩), .int .i64 k] W (PickPost B n sv k W) := by
  have C := Lib.hid (next_any B n (by omega) sv W h)
  clear h
  have h1 : ¬ k ≤ 1 := by omega
  have h3 : (k == 0) = false := beq_eq_false_iff_ne.mpr (by omega)
  go_enter Tryd.func92, Tryd.ntmps92
  go_wp2_with fail
  go_at_call 135
  refine C.out.mono ?_
  rintro e W1 ⟨r, rfl, r0, r1, hs1, ho1⟩
  have C2 := Lib.hid (next_any B (n + 1) (by omega) sv W1 hs1)
  have HO := Lib.hid ho1
  clear hs1 ho1 C
  go_wp2_with fail
  go_at_call 135
  refine C2.out.mono ?_
  rintro e W2 ⟨r2, rfl, r20, r21, hs2, ho2⟩
  go_wp2_with fail
  go_ret
  exact ⟨_, n + 2, rfl, Int.emod_nonneg _ (by omega), Or.inl (Int.emod_lt_of_pos _ (by omega)), by omega, hs2, HO.out.trans ho2⟩

theorem pick_any (B n : Nat) (hn : n ≤ 900000) (sv : Value) (k : Int) (hk : k ≤ 1000000) (W : World) (h : SrcAt W B n sv) :
    Calls Tryd.prog 92 #[.pointer (some ⟨B, 0, none⟩), .int .i64 k] W (PickPost B n sv k W) := by
  by_cases h1 : k ≤ 1
  · exact pick_small B n sv k h1 W h
  · by_cases h2 : k ≤ 200
    · exact pick_mid B n hn sv k (by omega) h2 W h
    · exact pick_big B n hn sv k (by omega) hk W h

/-- What one leaves. -/
def OnePost (B n : Nat) (sv : Value) (W : World) (e : Ending) (W' : World) : Prop := ∃ (r : Bool) (n' : Nat), e = .returned (.bool r) ∧ n' ≤ n + 2 ∧ SrcAt W' B n' sv ∧ OnlyB B W W'
theorem one_any (B n : Nat) (hn : n ≤ 900000) (sv : Value) (k : Int) (hk : k ≤ 1000000) (W : World) (h : SrcAt W B n sv) :
    Calls Tryd.prog 63 #[.pointer (some ⟨B, 0, none⟩), .int .i64 k] W (OnePost B n sv W) := by
  have C := Lib.hid (pick_any B n hn sv k hk W h)
  clear h
  go_enter Tryd.func63, Tryd.ntmps63
  go_wp2_with (go_at_call 92; (with_reducible refine C.out.mono ?_); rintro e W1 ⟨r, n', rfl, r0, r1, hn', hs1, ho1⟩)
  go_ret
  exact ⟨_, n', rfl, hn', hs1, ho1⟩

/-- What text leaves: one of the texts. -/
def TextPost (B n m : Nat) (f : Nat → ByteArray) (sv : Value) (W : World) (e : Ending) (W' : World) : Prop := ∃ (i n' : Nat), e = .returned (.string (f i)) ∧ i < m ∧ n' ≤ n + 2 ∧ SrcAt W' B n' sv ∧ OnlyB B W W'
theorem text_of (B n : Nat) (hn : n ≤ 900000) (sv : Value) (b m c : Nat) (hm : 1 ≤ m) (hm2 : m ≤ 1000) (f : Nat → ByteArray) (hbB : b ≠ B) (W : World) (hf : ∀ i, i < m → W.cell? ⟨b, i, none⟩ = some (.string (f i))) (h : SrcAt W B n sv) :
    Calls Tryd.prog 56 #[.pointer (some ⟨B, 0, none⟩), .slice (some ⟨b, 0, none⟩) m c] W (TextPost B n m f sv W) := by
  have C := Lib.hid (pick_any B n hn sv (m : Int) (by omega) W h)
  have HF := Lib.hid hf
  clear h hf
  go_enter Tryd.func56, Tryd.ntmps56
  go_wp2_with fail
  go_at_call 92
  refine C.out.mono ?_
  rintro e W1 ⟨r, n', rfl, r0, r1, hn', hs1, ho1⟩
  obtain ⟨i, rfl⟩ := Int.eq_ofNat_of_zero_le r0
  have him : i < m := by omega
  have hii : (i : Int) < (m : Int) := by omega
  have hc := (ho1.cell (x := ⟨b, i, none⟩) hbB).trans (HF.out i him)
  go_wp2_with fail
  go_ret
  exact ⟨i, n', rfl, him, hn', hs1, ho1⟩
end Go.Proofs.YthdnklhaagofhaaDoor
