/-
  The walk of readPart: a part of a version.
-/
import Derived.Test.YtfadodmkppeodabDoorIn
import Derived.Lib.OthersKept
import Derived.Deep.LoopGhost
namespace Go.Proofs.YtfadodmkppeodabDoor
open Go.ChangeShapes Go.WideShapes Go.ChangeAt Go.RowKit

/-- What readPart's loop makes of the bytes that are left. -/
def rpL : List UInt8 → Int → Option Int
  | [], n => some n
  | c :: cs, n => if (c.toNat : Int) < 48 ∨ 57 < (c.toNat : Int) then none else if 999 < 10 * n + ((c.toNat : Int) - 48) then none else rpL cs (10 * n + ((c.toNat : Int) - 48))
/-- The answer. -/
def outR : Option Int → Value
  | some n => .tuple #[.int .i64 n, .bool true]
  | none => .tuple #[.int .i64 0, .bool false]

theorem rpL_step (s : ByteArray) (pos : Nat) (h : pos < s.size) (n : Int) :
    rpL (s.data.toList.drop pos) n = if ((s[pos]'h).toNat : Int) < 48 ∨ 57 < ((s[pos]'h).toNat : Int) then none else if 999 < 10 * n + (((s[pos]'h).toNat : Int) - 48) then none else rpL (s.data.toList.drop (pos + 1)) (10 * n + (((s[pos]'h).toNat : Int) - 48)) := by
  have hl : pos < s.data.toList.length := by simpa using h
  rw [List.drop_eq_getElem_cons hl]
  rfl

theorem readPart_loop (s : ByteArray) (hne : 0 < s.size) (h0 : ¬ (s[0].toNat : Int) = 48) (hsz : (s.size : Int) ≤ 4294967296) (w : World) :
    Calls Tryd.prog 49 #[.string s] w fun e w' => e = .returned (outR (rpL s.data.toList 0)) ∧ Below w.heap.size w w' := by
  have hl0 : ¬ s.toList = [] := by
    intro h
    have h2 : s.data.toList = [] := by rw [← ByteArray.toList_eq]; exact h
    have h3 : s.size = 0 := by
      show s.data.toList.length = 0
      rw [h2]
      rfl
    omega
  have hl1 : s.toList.isEmpty = false := by
    cases h : s.toList with
    | nil => exact absurd h hl0
    | cons c cs => rfl
  obtain ⟨r, hr⟩ : ∃ r, rpL s.data.toList 0 = r := ⟨_, rfl⟩
  rw [hr]
  have HR0 := Lib.hid hr
  clear hr
  have hne2 : (0 : Int) < (s.size : Int) := by omega
  go_enter Tryd.func49, Tryd.ntmps49
  go_wp2_with fail
  go_loopg [4] s.size (fun gf s4 wz => ∃ (pos : Nat) (n : Int), s4 = .int .i64 n ∧ 0 ≤ n ∧ n ≤ 999 ∧ wz = w.iter s pos ∧ pos ≤ s.size ∧ s.size ≤ pos + gf ∧ Hid (rpL (s.data.toList.drop pos) n = r))
  case atStart => exact ⟨0, 0, rfl, by omega, by omega, rfl, by omega, by omega, HR0⟩
  case round =>
    obtain ⟨pos, n, rfl, hn0, hn9, rfl, hps, hfu, hR⟩ := hrel
    by_cases hlt : pos < s.size
    · obtain ⟨g', rfl⟩ : ∃ g', gk = g' + 1 := ⟨gk - 1, by omega⟩
      have hst := (rpL_step s pos hlt n).symm.trans hR.out
      clear hR HR0
      by_cases ha : (s[pos]'hlt).toNat < 128
      · have hnx := fun ty => run_next_ascii (P := Tryd.prog) w s pos ty hlt ha
        obtain ⟨c, hc⟩ : ∃ c : Int, (((s[pos]'hlt).toNat : Nat) : Int) = c := ⟨_, rfl⟩
        rw [hc] at hnx hst
        have hc0 : 0 ≤ c := by omega
        have hc1 : c < 128 := by omega
        clear hc ha
        by_cases hd : c < 48 ∨ 57 < c
        · rw [if_pos hd] at hst
          subst hst
          rcases hd with hd | hd
          · go_wp2_with fail
            go_ret2
            exact ⟨rfl, below1 _ _⟩
          · have hd2 : ¬ c < 48 := by omega
            go_wp2_with fail
            go_ret2
            exact ⟨rfl, below1 _ _⟩
        · have hd2 : ¬ c < 48 := by omega
          have hd3 : ¬ 57 < c := by omega
          rw [if_neg hd] at hst
          clear hd
          by_cases hb : 999 < 10 * n + (c - 48)
          · rw [if_pos hb] at hst
            subst hst
            go_wp2_with fail
            go_ret2
            exact ⟨rfl, below1 _ _⟩
          · rw [if_neg hb] at hst
            have HS := Lib.hid hst
            clear hst
            go_wp2_with fail
            go_roundg g'
            case measure => omega
            case rel => exact ⟨pos + 1, _, rfl, by omega, by omega, rfl, by omega, by omega, HS⟩
      · have hnx := fun ty => run_next_any (P := Tryd.prog) w s pos ty hlt
        have hR1 := (decode_high s pos hlt (by omega)).1
        have hR2 := decode_le s pos
        generalize (Utf8.decode s pos).1 = R at *
        rw [if_pos (by omega)] at hst
        subst hst
        have hd2 : ¬ (R : Int) < 48 := by omega
        have hd3 : 57 < (R : Int) := by omega
        go_wp2_with fail
        go_ret2
        exact ⟨rfl, below1 _ _⟩
    · have hnx := fun ty => run_next_end (P := Tryd.prog) w s pos ty hlt
      have hR2 : r = some n := by
        have := hR.out
        rw [List.drop_eq_nil_of_le (by simp; omega)] at this
        exact this.symm
      clear hR HR0
      go_wp2_with fail
      go_ret2
      exact ⟨by rw [hR2]; rfl, below1 _ _⟩
/-- A lone zero goes the same way. -/
theorem readPart_lone (s : ByteArray) (hne : 0 < s.size) (h0 : (s[0].toNat : Int) = 48) (hl2 : (s.toList == [48]) = true) (hsz : (s.size : Int) ≤ 4294967296) (w : World) :
    Calls Tryd.prog 49 #[.string s] w fun e w' => e = .returned (outR (rpL s.data.toList 0)) ∧ Below w.heap.size w w' := by
  have hl0 : ¬ s.toList = [] := by
    intro h
    have h2 : s.data.toList = [] := by rw [← ByteArray.toList_eq]; exact h
    have h3 : s.size = 0 := by
      show s.data.toList.length = 0
      rw [h2]
      rfl
    omega
  have hl1 : s.toList.isEmpty = false := by
    cases h : s.toList with
    | nil => exact absurd h hl0
    | cons c cs => rfl
  obtain ⟨r, hr⟩ : ∃ r, rpL s.data.toList 0 = r := ⟨_, rfl⟩
  rw [hr]
  have HR0 := Lib.hid hr
  clear hr
  have hne2 : (0 : Int) < (s.size : Int) := by omega
  go_enter Tryd.func49, Tryd.ntmps49
  go_wp2_with fail
  go_loopg [4] s.size (fun gf s4 wz => ∃ (pos : Nat) (n : Int), s4 = .int .i64 n ∧ 0 ≤ n ∧ n ≤ 999 ∧ wz = w.iter s pos ∧ pos ≤ s.size ∧ s.size ≤ pos + gf ∧ Hid (rpL (s.data.toList.drop pos) n = r))
  case atStart => exact ⟨0, 0, rfl, by omega, by omega, rfl, by omega, by omega, HR0⟩
  case round =>
    obtain ⟨pos, n, rfl, hn0, hn9, rfl, hps, hfu, hR⟩ := hrel
    by_cases hlt : pos < s.size
    · obtain ⟨g', rfl⟩ : ∃ g', gk = g' + 1 := ⟨gk - 1, by omega⟩
      have hst := (rpL_step s pos hlt n).symm.trans hR.out
      clear hR HR0
      by_cases ha : (s[pos]'hlt).toNat < 128
      · have hnx := fun ty => run_next_ascii (P := Tryd.prog) w s pos ty hlt ha
        obtain ⟨c, hc⟩ : ∃ c : Int, (((s[pos]'hlt).toNat : Nat) : Int) = c := ⟨_, rfl⟩
        rw [hc] at hnx hst
        have hc0 : 0 ≤ c := by omega
        have hc1 : c < 128 := by omega
        clear hc ha
        by_cases hd : c < 48 ∨ 57 < c
        · rw [if_pos hd] at hst
          subst hst
          rcases hd with hd | hd
          · go_wp2_with fail
            go_ret2
            exact ⟨rfl, below1 _ _⟩
          · have hd2 : ¬ c < 48 := by omega
            go_wp2_with fail
            go_ret2
            exact ⟨rfl, below1 _ _⟩
        · have hd2 : ¬ c < 48 := by omega
          have hd3 : ¬ 57 < c := by omega
          rw [if_neg hd] at hst
          clear hd
          by_cases hb : 999 < 10 * n + (c - 48)
          · rw [if_pos hb] at hst
            subst hst
            go_wp2_with fail
            go_ret2
            exact ⟨rfl, below1 _ _⟩
          · rw [if_neg hb] at hst
            have HS := Lib.hid hst
            clear hst
            go_wp2_with fail
            go_roundg g'
            case measure => omega
            case rel => exact ⟨pos + 1, _, rfl, by omega, by omega, rfl, by omega, by omega, HS⟩
      · have hnx := fun ty => run_next_any (P := Tryd.prog) w s pos ty hlt
        have hR1 := (decode_high s pos hlt (by omega)).1
        have hR2 := decode_le s pos
        generalize (Utf8.decode s pos).1 = R at *
        rw [if_pos (by omega)] at hst
        subst hst
        have hd2 : ¬ (R : Int) < 48 := by omega
        have hd3 : 57 < (R : Int) := by omega
        go_wp2_with fail
        go_ret2
        exact ⟨rfl, below1 _ _⟩
    · have hnx := fun ty => run_next_end (P := Tryd.prog) w s pos ty hlt
      have hR2 : r = some n := by
        have := hR.out
        rw [List.drop_eq_nil_of_le (by simp; omega)] at this
        exact this.symm
      clear hR HR0
      go_wp2_with fail
      go_ret2
      exact ⟨by rw [hR2]; rfl, below1 _ _⟩
theorem readPart_empty (w : World) :
    Calls Tryd.prog 49 #[.string ⟨#[]⟩] w fun e w' => e = .returned (.tuple #[.int .i64 0, .bool false]) ∧ Below w.heap.size w w' := by
  go_enter Tryd.func49, Tryd.ntmps49
  go_wp2
  go_ret2
  exact ⟨rfl, Below.refl _ _⟩

/-- A leading zero. -/
theorem readPart_zero (s : ByteArray) (hne : 1 < s.size) (h0 : (s[0].toNat : Int) = 48) (w : World) :
    Calls Tryd.prog 49 #[.string s] w fun e w' => e = .returned (.tuple #[.int .i64 0, .bool false]) ∧ Below w.heap.size w w' := by
  have hl1 : s.toList.isEmpty = false := by
    cases h : s.toList with
    | nil =>
      have h2 : s.data.toList = [] := by rw [← ByteArray.toList_eq]; exact h
      have h3 : s.size = 0 := by
        show s.data.toList.length = 0
        rw [h2]
        rfl
      omega
    | cons c cs => rfl
  have hl2 : (s.toList == [48]) = false := by
    rw [beq_eq_false_iff_ne]
    intro h
    rw [ByteArray.toList_eq] at h
    have h3 : s.size = 1 := by
      show s.data.toList.length = 1
      rw [h]
      rfl
    omega
  have hne2 : (0 : Int) < (s.size : Int) := by omega
  go_enter Tryd.func49, Tryd.ntmps49
  go_wp2
  go_ret2
  exact ⟨rfl, Below.refl _ _⟩

/-- A part, read. -/
def rp (s : ByteArray) : Option Int :=
  if s.size = 0 then none else if s.data.toList.head? = some 48 ∧ s.size ≠ 1 then none else rpL s.data.toList 0

theorem head_at (s : ByteArray) (h : 0 < s.size) : s.data.toList.head? = some (s[0]'h) := by
  have hl : 0 < s.data.toList.length := by simpa using h
  rw [List.head?_eq_getElem?, List.getElem?_eq_getElem hl]
  rfl

theorem readPart_any (s : ByteArray) (hsz : (s.size : Int) ≤ 4294967296) (w : World) :
    Calls Tryd.prog 49 #[.string s] w fun e w' => e = .returned (outR (rp s)) ∧ Below w.heap.size w w' := by
  by_cases h : s.size = 0
  · have hs : s = ⟨#[]⟩ := by
      apply ByteArray.ext
      exact Array.eq_empty_of_size_eq_zero h
    subst hs
    exact readPart_empty w
  · have hne : 0 < s.size := by omega
    unfold rp
    rw [if_neg h, head_at s hne]
    by_cases h0 : (s[0].toNat : Int) = 48
    · have h48 : s[0] = 48 := by
        apply UInt8.toNat_inj.mp
        have : (48 : UInt8).toNat = 48 := rfl
        omega
      by_cases h1 : s.size = 1
      · rw [if_neg (by rw [h1]; simp)]
        refine readPart_lone s hne h0 ?_ hsz w
        rw [beq_iff_eq, ByteArray.toList_eq]
        have hl : s.data.toList.length = 1 := h1
        match hL : s.data.toList, hl with
        | [c], _ =>
          have := head_at s hne
          rw [hL] at this
          simp at this
          rw [this, h48]
      · rw [if_pos ⟨by rw [h48], h1⟩]
        exact readPart_zero s (by omega) h0 w
    · rw [if_neg (by
        rintro ⟨h2, _⟩
        apply h0
        rw [Option.some.inj h2]
        rfl)]
      exact readPart_loop s hne h0 hsz w

end Go.Proofs.YtfadodmkppeodabDoor
