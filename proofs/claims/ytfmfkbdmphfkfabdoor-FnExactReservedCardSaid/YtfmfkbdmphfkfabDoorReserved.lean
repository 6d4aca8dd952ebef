/-
  The walks of both Reserved, and of the law.
-/
import Derived.Test.YtfmfkbdmphfkfabDoorResvI
namespace Go.Proofs.YtfmfkbdmphfkfabDoor
open Go.ChangeShapes Go.WideShapes Go.ChangeAt Go.RowKit

theorem implReserved_any (s : ByteArray) (w : World) (ht : Table w) :
    Calls Tryd.prog 7 #[.string s] w fun e w' => ∃ v : Bool, e = .returned (.bool v) ∧ (v = true ↔ InWords s) ∧ w = w' := by
  have C := Lib.hid (kindOf_any s w ht)
  clear ht
  go_enter Tryd.func7, Tryd.ntmps7
  go_wp2_with fail
  go_at_call 17
  refine C.out.mono ?_
  rintro e w2 ⟨v, rfl, h0, h1, hv, rfl⟩
  have HV := Lib.hid hv
  clear hv C
  go_wp2_with fail
  go_ret
  refine ⟨!(v == 0), rfl, ?_, rfl⟩
  rw [← HV.out]
  simp

/-- The words behind the first, as the model lists them. -/
def L1 : Array Value := #[.string ⟨#[117, 110, 105, 116]⟩, .string ⟨#[98, 111, 111, 108]⟩, .string ⟨#[117, 56]⟩, .string ⟨#[115, 56]⟩, .string ⟨#[117, 49, 54]⟩, .string ⟨#[115, 49, 54]⟩, .string ⟨#[117, 51, 50]⟩, .string ⟨#[115, 51, 50]⟩, .string ⟨#[115, 54, 52]⟩, .string ⟨#[99, 104, 97, 114]⟩, .string ⟨#[116, 101, 120, 116]⟩]
def L2 : Array Value := #[.string ⟨#[108, 105, 115, 116]⟩, .string ⟨#[111, 112, 116, 105, 111, 110]⟩, .string ⟨#[114, 101, 115, 117, 108, 116]⟩, .string ⟨#[116, 117, 112, 108, 101]⟩, .string ⟨#[114, 101, 99, 111, 114, 100]⟩, .string ⟨#[118, 97, 114, 105, 97, 110, 116]⟩, .string ⟨#[101, 110, 117, 109]⟩, .string ⟨#[102, 108, 97, 103, 115]⟩, .string ⟨#[111, 119, 110]⟩, .string ⟨#[98, 111, 114, 114, 111, 119]⟩, .string ⟨#[115, 116, 114, 101, 97, 109]⟩, .string ⟨#[102, 117, 116, 117, 114, 101]⟩]
theorem L1_get : ∀ i, i < 11 → L1[i]? = some (.string (wordB (i + 1))) := by
  intro i hi
  have h : i = 0 ∨ i = 1 ∨ i = 2 ∨ i = 3 ∨ i = 4 ∨ i = 5 ∨ i = 6 ∨ i = 7 ∨ i = 8 ∨ i = 9 ∨ i = 10 := by omega
  rcases h with rfl | rfl | rfl | rfl | rfl | rfl | rfl | rfl | rfl | rfl | rfl <;> rfl
theorem L2_get : ∀ i, i < 12 → L2[i]? = some (.string (wordB (i + 12))) := by
  intro i hi
  have h : i = 0 ∨ i = 1 ∨ i = 2 ∨ i = 3 ∨ i = 4 ∨ i = 5 ∨ i = 6 ∨ i = 7 ∨ i = 8 ∨ i = 9 ∨ i = 10 ∨ i = 11 := by omega
  rcases h with rfl | rfl | rfl | rfl | rfl | rfl | rfl | rfl | rfl | rfl | rfl | rfl <;> rfl
theorem L12_get (z : Array Value) : ∀ i, i < 23 → (L1 ++ (L2 ++ z))[i]? = some (.string (wordB (i + 1))) := by
  intro i hi
  have s1 : L1.size = 11 := rfl
  have s2 : L2.size = 12 := rfl
  by_cases h : i < 11
  · rw [Array.getElem?_append_left (by omega)]
    exact L1_get i h
  · rw [Array.getElem?_append_right (by omega), Array.getElem?_append_left (by omega), s1, L2_get _ (by omega)]
    rw [show i - 11 + 12 = i + 1 by omega]
theorem cell3 (w : World) (a b : Obj) (c : Array Value) (t : TypeId) (j : Nat) (v : Value) (h : c[j]? = some v) : ((((w.alloc a).alloc b).alloc (.cells c t)).drew).cell? ⟨w.heap.size + 1 + 1, j, none⟩ = some v := by
  have e : ((w.alloc a).alloc b).heap.size = w.heap.size + 1 + 1 := by simp
  have k : (((w.alloc a).alloc b).alloc (.cells c t)).cell? ⟨((w.alloc a).alloc b).heap.size, j, none⟩ = some v := by
    rw [World.cell?_alloc_new]
    exact h
  rw [e] at k
  exact k
theorem capFits : ¬ 281474976710656 < Builtin.nextslicecap 23 11 * Tryd.t9.bytes := by decide

set_option maxRecDepth 100000 in
theorem l06Kind_any (s : ByteArray) (w : World) :
    Calls Tryd.prog 16 #[.string s] w fun e w' => ∃ v : Int, e = .returned (.int .i64 v) ∧ 0 ≤ v ∧ v ≤ 24 ∧ (0 < v ↔ InWords s) ∧ Below w.heap.size w w' := by
  have hcap := capFits
  go_enter Tryd.func16, Tryd.ntmps16
  go_wp2
  clear hcap
  go_loopw [4] (fun i wr => ∃ k : Nat, k ≤ 23 ∧ i = .int .i64 k ∧ Hid (∀ j, j < k → wordB (j + 1) ≠ s) ∧ Hid (∀ j, j < 23 → wr.cell? ⟨w.heap.size + 1 + 1, j, none⟩ = some (.string (wordB (j + 1)))) ∧ Below w.heap.size w wr) (fun i _ => 23 - (intOf i).toNat)
  case atStart =>
    refine ⟨0, by omega, rfl, (fun j hj => by omega), (fun j hj => ?_), ?_⟩
    · have h := L12_get (Builtin.zeroCells #[.string ⟨#[]⟩] ((Question.appendCap 23 11 9).cut (w.tape w.drawn (Question.appendCap 23 11 9)) - 23)) j hj
      unfold L1 L2 at h
      exact cell3 w _ _ _ _ j _ h
    · exact (below3 _ _ _ _).drew
  case round =>
    obtain ⟨k, hk, rfl, hno, hcl, hbel⟩ := hrel
    by_cases hlt : k < 23
    · have hc := hcl.out k hlt
      have HB := Lib.hid hbel
      have hli : (k : Int) < 23 := by omega
      clear hbel
      by_cases he : wordB (k + 1) = s
      · have e1 := text_eq he
        have HE := Lib.hid he
        clear he
        go_wp2_with fail
        go_ret
        exact ⟨(k : Int) + 1, by go_num, by omega, by omega, ⟨fun _ => ⟨k + 1, by omega, by omega, HE.out⟩, fun _ => by omega⟩, HB.out⟩
      · have e1 := text_ne he
        have HE := Lib.hid he
        clear he
        go_wp2_with fail
        go_roundw
        case rel => exact ⟨k + 1, by omega, by go_num, (fun j hj => by
          by_cases e : j = k
          · subst e
            exact HE.out
          · exact hno.out j (by omega)), hcl.out, HB.out⟩
        case measure => simp [intOf]; omega
    · have hk' : k = 23 := by omega
      have HB := Lib.hid hbel
      clear hbel
      go_wp2
      go_ret
      refine ⟨0, rfl, by omega, by omega, ⟨fun h => by omega, fun ⟨i, h1, h2, h3⟩ => ?_⟩, HB.out⟩
      obtain ⟨m, rfl⟩ : ∃ m, i = m + 1 := ⟨i - 1, by omega⟩
      exact absurd h3 (hno.out m (by omega))

theorem specReserved_any (s : ByteArray) (w : World) :
    Calls Tryd.prog 6 #[.string s] w fun e w' => ∃ v : Bool, e = .returned (.bool v) ∧ (v = true ↔ InWords s) ∧ Below w.heap.size w w' := by
  have C := Lib.hid (l06Kind_any s w)
  go_enter Tryd.func6, Tryd.ntmps6
  go_wp2_with fail
  go_at_call 16
  refine C.out.mono ?_
  rintro e w2 ⟨v, rfl, h0, h1, hv, hb⟩
  have HV := Lib.hid hv
  have HB := Lib.hid hb
  clear hv hb C
  go_wp2_with fail
  go_ret
  refine ⟨decide (0 < v), rfl, ?_, HB.out⟩
  rw [← HV.out, decide_eq_true_iff]

theorem Table.keep {w w' : World} (h : Table w) (hb : Below w.heap.size w w') : Table w' := fun i hi => keepCell hb (h i hi)

theorem reservedLaw (s : ByteArray) (w : World) (_ : s.size ≤ maxLen) (ht : Table w) :
    Calls Tryd.prog 3 #[.string s] w fun e w' => e = .returned (.bool true) ∧ Below w.heap.size w w' := by
  have HT := Lib.hid ht
  clear ht
  by_cases hn : (1048576 : Int) < (s.size : Int)
  · go_enter Tryd.func3, Tryd.ntmps3
    go_wp2
    go_ret
    exact ⟨rfl, Below.refl _ _⟩
  · go_enter Tryd.func3, Tryd.ntmps3
    go_wp2_with fail
    go_at_call 6
    refine (specReserved_any s _).mono ?_
    rintro e w2 ⟨v, rfl, hv, hb2⟩
    have HV := Lib.hid hv
    have HB2 := Lib.hid hb2
    clear hv hb2
    go_wp2_with fail
    go_at_call 7
    refine (implReserved_any s _ (HT.out.keep HB2.out)).mono ?_
    rintro e w3 ⟨u, rfl, hu, rfl⟩
    obtain rfl : v = u := Bool.eq_iff_iff.mpr (HV.out.trans hu.symm)
    clear hu
    go_wp2_with fail
    go_ret
    exact ⟨rfl, HB2.out⟩
end Go.Proofs.YtfmfkbdmphfkfabDoor
