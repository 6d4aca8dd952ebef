/-
  Names of sections of one's own: both looks.
-/
import Derived.Test.YtbjcldekapipaaaGreatDoorIn
import Derived.Ground.GgwProg
import Derived.Shelf.Lay
import Derived.Shelf.Strings.FuncGrows
import Derived.Laws.RangeAny
import Derived.Laws.RangeString
import Derived.IntWalk
import Derived.Deep.RegionHeld3
namespace Go.Proofs
open Go.Shelf
def Tryz.laysCF_ren : Go.Shelf.Ren := ⟨fun | 17 => 158 | 15 => 175 | 20 => 181 | n => n, fun | 9 => 9 | 23 => 193 | 4 => 4 | 3 => 3 | 0 => 0 | 21 => 21 | n => n, fun | n => n⟩
theorem Tryz.laysCF : Go.Proofs.LaysGw.n17 Tryz.prog Tryz.laysCF_ren := {
  mixed := by kernel_rfl
  f15 := Tryz.func175.trans (congrArg some (by kernel_rfl))
  f17 := Tryz.func158.trans (congrArg some (by kernel_rfl))
  f20 := Tryz.func181.trans (congrArg some (by kernel_rfl))
  t0 := Tryz.underlying0
  a0 := Tryz.isAgg0
  z0 := Tryz.sizeOf0
  v0 := Tryz.zeroValue0
  i0 := by kernel_rfl
  t3 := Tryz.underlying3
  a3 := Tryz.isAgg3
  z3 := Tryz.sizeOf3
  v3 := Tryz.zeroValue3
  i3 := by kernel_rfl
  t4 := Tryz.underlying4
  a4 := Tryz.isAgg4
  z4 := Tryz.sizeOf4
  v4 := Tryz.zeroValue4
  i4 := by kernel_rfl
  t9 := Tryz.underlying9
  a9 := Tryz.isAgg9
  z9 := Tryz.sizeOf9
  v9 := Tryz.zeroValue9
  i9 := by kernel_rfl
  t21 := Tryz.underlying21
  a21 := Tryz.isAgg21
  z21 := Tryz.sizeOf21
  v21 := Tryz.zeroValue21
  i21 := by kernel_rfl
  t23 := Tryz.underlying193
  a23 := Tryz.isAgg193
  z23 := Tryz.sizeOf193
  v23 := Tryz.zeroValue193
  i23 := by kernel_rfl }
end Go.Proofs
namespace Go.Proofs.YtbjcldekapipaaaGreatDoor
open Go.ChangeShapes Go.WideShapes Go.ChangeAt Go.RowKit Go.Lib

/-- Is a byte printable, and no space? -/
def prB (c : UInt8) : Bool := decide (33 ≤ c.toNat ∧ c.toNat ≤ 126)
/-- Is a rune none such? -/
def nopR (r : Nat) : Bool := decide (r < 33 ∨ 126 < r)
def PrTo (s : ByteArray) (k : Nat) : Prop := ∀ j (h : j < s.size), j < k → prB (s[j]'h) = true
def prT (s : ByteArray) : Bool := s.data.toList.all prB
/-- Can a text be a section's name? -/
def nameV (s : ByteArray) : Bool := decide (1 ≤ s.size ∧ s.size ≤ 40) && prT s
theorem prT_iff (s : ByteArray) : prT s = true ↔ PrTo s s.size := by
  unfold prT PrTo
  rw [List.all_eq_true]
  constructor
  · intro h j hj _
    exact h _ (List.getElem_mem (l := s.data.toList) (n := j) (by simpa using hj))
  · intro h c hc
    obtain ⟨j, hj, rfl⟩ := List.getElem_of_mem hc
    exact h j (by simpa using hj) (by simpa using hj)
theorem PrTo.step {s : ByteArray} {k : Nat} (h : PrTo s k) (hk : k < s.size) (ho : prB (s[k]'hk) = true) : PrTo s (k + 1) := by
  intro j hj hjk
  by_cases e : j = k
  · subst e
    exact ho
  · exact h j hj (by omega)
theorem prT_no {s : ByteArray} {k : Nat} (hk : k < s.size) (ho : ¬ prB (s[k]'hk) = true) : prT s = false := by
  rw [Bool.eq_false_iff]
  intro h
  exact ho ((prT_iff s).mp h k hk hk)
theorem prB_iff (c : UInt8) : prB c = true ↔ 33 ≤ c.toNat ∧ c.toNat ≤ 126 := by unfold prB; exact decide_eq_true_iff
theorem nop_at (s : ByteArray) (pos : Nat) (h : pos < s.size) : nopR (Utf8.decode s pos).1 = !prB (s[pos]'h) ∧ (prB (s[pos]'h) = true → (Utf8.decode s pos).2 = 1) := by
  by_cases ha : (s[pos]'h).toNat < 128
  · rw [decode_ascii s pos h ha]
    refine ⟨?_, fun _ => rfl⟩
    show nopR (s[pos]'h).toNat = _
    cases hp : prB (s[pos]'h) with
    | true =>
      have := (prB_iff _).mp hp
      unfold nopR
      rw [decide_eq_false (by omega)]
      rfl
    | false =>
      have : ¬ (33 ≤ (s[pos]'h).toNat ∧ (s[pos]'h).toNat ≤ 126) := fun e => by
        rw [(prB_iff _).mpr e] at hp
        cases hp
      unfold nopR
      rw [decide_eq_true (by omega)]
      rfl
  · obtain ⟨h1, _⟩ := decode_high s pos h (by omega)
    have hp : prB (s[pos]'h) = false := by
      cases hp : prB (s[pos]'h) with
      | false => rfl
      | true =>
        have := (prB_iff _).mp hp
        omega
    refine ⟨?_, fun e => ?_⟩
    · rw [hp]
      unfold nopR
      rw [decide_eq_true (by omega)]
      rfl
    · rw [hp] at e
      cases e
theorem idx_from (s : ByteArray) : ∀ (f pos : Nat), PrTo s pos → s.size ≤ pos + f → (0 ≤ idxFuncFrom nopR true s f pos ↔ prT s = false)
  | 0, pos, h, hf => by
    have hp : prT s = true := (prT_iff s).mpr (fun j hj _ => h j hj (by omega))
    rw [hp]
    simp [idxFuncFrom]
  | f + 1, pos, h, hf => by
    unfold idxFuncFrom
    by_cases hlt : pos < s.size
    · rw [if_pos hlt]
      obtain ⟨h1, h2⟩ := nop_at s pos hlt
      cases hp : prB (s[pos]'hlt) with
      | true =>
        rw [hp] at h1
        rw [h1, if_neg (by simp), h2 hp]
        exact idx_from s f (pos + 1) (h.step hlt hp) (by omega)
      | false =>
        rw [hp] at h1
        have hn := prT_no hlt (by rw [hp]; simp)
        rw [h1, hn]
        simp
    · rw [if_neg hlt]
      have hp : prT s = true := (prT_iff s).mpr (fun j hj _ => h j hj (by omega))
      rw [hp]
      simp
theorem idx_name (s : ByteArray) : decide (0 ≤ idxFunc nopR true s) = !prT s := by
  have h := idx_from s s.size 0 (fun j _ hj => by omega) (by omega)
  unfold idxFunc
  cases hp : prT s with
  | true => rw [decide_eq_false (fun e => by have := h.mp e; rw [hp] at this; cases this)]; rfl
  | false => rw [decide_eq_true (h.mpr hp)]; rfl

theorem notPrintable_any (x : Nat) (hx : x ≤ 1114111) (w : World) :
    Calls Tryz.prog 159 #[.int .i32 x] w fun e w' => e = .returned (.bool (nopR x)) ∧ Below w.heap.size w w' := by
  unfold nopR
  by_cases h1 : (x : Int) < 33
  · rw [decide_eq_true (by omega)]
    go_enter Tryz.func159, Tryz.ntmps159
    go_wp2
    go_ret
    exact ⟨rfl, Below.refl _ _⟩
  · by_cases h2 : (126 : Int) < x
    · rw [decide_eq_true (by omega)]
      go_enter Tryz.func159, Tryz.ntmps159
      go_wp2
      go_ret
      exact ⟨rfl, Below.refl _ _⟩
    · rw [decide_eq_false (by omega)]
      go_enter Tryz.func159, Tryz.ntmps159
      go_wp2
      go_ret
      exact ⟨rfl, Below.refl _ _⟩
theorem containsNo_any (s : ByteArray) (w : World) :
    Calls Tryz.prog 158 #[.string s, .func (.func 159) #[] #[]] w fun e w' => e = .returned (.bool (!prT s)) ∧ Below w.heap.size w w' := by
  have C := Any.strings_ContainsFunc_grows Tryz.laysCF 159 #[] (enters_of Tryz.func159 (by kernel_rfl) rfl) nopR s w (fun W x hx _ => notPrintable_any x hx W)
  rw [idx_name] at C
  exact C
theorem nameV_empty : nameV ⟨#[]⟩ = false := rfl
theorem empty_iff (T : ByteArray) : T.toList.isEmpty = decide (T.size = 0) := by
  rw [ByteArray.toList_eq]
  have e : T.data.toList.length = T.size := by simp
  cases hl : T.data.toList with
  | nil =>
    rw [hl] at e
    rw [decide_eq_true (by simpa using e.symm)]
    rfl
  | cons a l =>
    rw [hl] at e
    rw [decide_eq_false (by simp at e; omega)]
    rfl

theorem ownNameOk_any (s : ByteArray) (w : World) :
    Calls Tryz.prog 135 #[.string s] w fun e w' => e = .returned (.bool (nameV s)) ∧ Below w.heap.size w w' := by
  have C := Lib.hid (fun W => containsNo_any s W)
  have he := empty_iff s
  unfold nameV
  by_cases h0 : s.size = 0
  · rw [decide_eq_false (by omega), Bool.false_and]
    rw [decide_eq_true h0] at he
    clear h0
    go_enter Tryz.func135, Tryz.ntmps135
    go_wp2
    go_ret
    exact ⟨rfl, Below.refl _ _⟩
  · rw [decide_eq_false h0] at he
    by_cases h40 : s.size ≤ 40
    · rw [decide_eq_true (by omega), Bool.true_and]
      have hi : (s.size : Int) ≤ 40 := by omega
      cases hp : prT s with
      | true =>
        rw [hp] at C
        clear h0 hp
        go_enter Tryz.func135, Tryz.ntmps135
        go_wp2_with (go_at_call 158; refine (C.out _).mono ?_; rintro e w1 ⟨rfl, hb1⟩; have HB1 := Lib.hid hb1; clear hb1)
        go_ret
        exact ⟨rfl, HB1.out⟩
      | false =>
        rw [hp] at C
        clear h0 hp
        go_enter Tryz.func135, Tryz.ntmps135
        go_wp2_with (go_at_call 158; refine (C.out _).mono ?_; rintro e w1 ⟨rfl, hb1⟩; have HB1 := Lib.hid hb1; clear hb1)
        go_ret
        exact ⟨rfl, HB1.out⟩
    · rw [decide_eq_false (by omega), Bool.false_and]
      have hi : ¬ (s.size : Int) ≤ 40 := by omega
      clear h0
      go_enter Tryz.func135, Tryz.ntmps135
      go_wp2
      go_ret
      exact ⟨rfl, Below.refl _ _⟩

theorem index_atQ (s : ByteArray) (j : Nat) (h : j < s.size) : ∀ W, (Instr.index 9 (.string s) (.int .i64 (j : Int))).run Tryz.prog W = .ok (.int .u8 ((s[j]'h).toNat : Int)) W := by
  intro W
  rw [run_index_string W _ _ _ _ Tryz.underlying9, dif_pos ⟨by omega, by omega⟩]
  rfl
end Go.Proofs.YtbjcldekapipaaaGreatDoor
