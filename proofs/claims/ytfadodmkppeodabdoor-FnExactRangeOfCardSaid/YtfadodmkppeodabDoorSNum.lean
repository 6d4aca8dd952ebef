/-
  The walk of the model's l02Num: a text is scanned, and the number's own text is held against it.
-/
import Derived.Test.YtfadodmkppeodabDoorVPure
import Derived.Test.YtfadodmkppeodabDoorL02T
import Derived.Deep.LoopGhost
namespace Go.Proofs.YtfadodmkppeodabDoor
open Go.ChangeShapes Go.WideShapes Go.ChangeAt Go.RowKit

/-- What l02Num's loop makes of the bytes that are left. -/
def scan : List UInt8 → Int → Int → Int → Option (Int × Int × Int)
  | [], n, p, d => some (n, p, d)
  | c :: cs, n, p, d =>
    if (c.toNat : Int) = 46 then scan cs (wrap64 (wrap64 (n + p) * 1000)) 0 (d + 1)
    else if (c.toNat : Int) < 48 ∨ 57 < (c.toNat : Int) then none
    else scan cs n (wrap64 (wrap64 (10 * p) + ((c.toNat : Int) - 48))) d

theorem scan_step (l : List UInt8) (i : Nat) (h : i < l.length) (n p d : Int) :
    scan (l.drop i) n p d = if ((l[i]'h).toNat : Int) = 46 then scan (l.drop (i + 1)) (wrap64 (wrap64 (n + p) * 1000)) 0 (d + 1)
      else if ((l[i]'h).toNat : Int) < 48 ∨ 57 < ((l[i]'h).toNat : Int) then none
      else scan (l.drop (i + 1)) n (wrap64 (wrap64 (10 * p) + (((l[i]'h).toNat : Int) - 48))) d := by
  rw [List.drop_eq_getElem_cons h]
  rfl

theorem scan_at (s : ByteArray) (i : Nat) (h : i < s.size) (h12 : i < 12) (n p d : Int) :
    scan ((s.data.toList.take 12).drop i) n p d = if ((s[i]'h).toNat : Int) = 46 then scan ((s.data.toList.take 12).drop (i + 1)) (wrap64 (wrap64 (n + p) * 1000)) 0 (d + 1)
      else if ((s[i]'h).toNat : Int) < 48 ∨ 57 < ((s[i]'h).toNat : Int) then none
      else scan ((s.data.toList.take 12).drop (i + 1)) n (wrap64 (wrap64 (10 * p) + (((s[i]'h).toNat : Int) - 48))) d := by
  have hl : i < (s.data.toList.take 12).length := by
    rw [List.length_take, size_list]
    omega
  have he : (s.data.toList.take 12)[i]'hl = s[i]'h := by
    rw [List.getElem_take]
    rfl
  rw [scan_step _ i hl, he]

/-- The number of a text, out of what the loop made: -1 where it is none. -/
def numR (s : ByteArray) : Option (Int × Int × Int) → Int
  | none => -1
  | some (n, p, d) =>
    if d = 2 ∧ ¬ 999 < p ∧ 0 ≤ wrap64 (n + p) ∧ wrap64 (n + p) ≤ 999999999 ∧
      s = verB (wrap64 (n + p) / 1000000) (wrap64 (n + p) / 1000 % 1000) (wrap64 (n + p) % 1000)
    then wrap64 (n + p) else -1

/-- The number of a text; -1: it is no version. -/
def numOf (s : ByteArray) : Int := numR s (scan (s.data.toList.take 12) 0 0 0)

theorem numR_eq (s : ByteArray) (n p d : Int) : numR s (some (n, p, d)) = if d = 2 ∧ ¬ 999 < p ∧ 0 ≤ wrap64 (n + p) ∧ wrap64 (n + p) ≤ 999999999 ∧
      s = verB (wrap64 (n + p) / 1000000) (wrap64 (n + p) / 1000 % 1000) (wrap64 (n + p) % 1000)
    then wrap64 (n + p) else -1 := rfl
theorem numR_dots {s : ByteArray} {n p d : Int} (h : d ≠ 2) : numR s (some (n, p, d)) = -1 := by
  rw [numR_eq, if_neg (fun h2 => h h2.1)]
theorem numR_part {s : ByteArray} {n p d : Int} (h : 999 < p) : numR s (some (n, p, d)) = -1 := by
  rw [numR_eq, if_neg (fun h2 => h2.2.1 h)]
theorem numR_out {s : ByteArray} {n p d N : Int} (_ : ¬ 999 < p) (hN : wrap64 (n + p) = N) (h : ¬ (0 ≤ N ∧ N ≤ 999999999)) : numR s (some (n, p, d)) = -1 := by
  rw [numR_eq, if_neg (fun h2 => h ⟨hN ▸ h2.2.2.1, hN ▸ h2.2.2.2.1⟩)]
theorem numR_other {s : ByteArray} {n p d N : Int} (_ : ¬ 999 < p) (hN : wrap64 (n + p) = N) (h : s ≠ verB (N / 1000000) (N / 1000 % 1000) (N % 1000)) : numR s (some (n, p, d)) = -1 := by
  subst hN
  rw [numR_eq, if_neg (fun h2 => h h2.2.2.2.2)]
theorem numR_yes {s : ByteArray} {n p N : Int} (h9 : ¬ 999 < p) (hN : wrap64 (n + p) = N) (h : 0 ≤ N ∧ N ≤ 999999999) (hs : s = verB (N / 1000000) (N / 1000 % 1000) (N % 1000)) : numR s (some (n, p, 2)) = N := by
  subst hN
  rw [numR_eq, if_pos ⟨rfl, h9, h.1, h.2, hs⟩]

theorem l02Num_any (s : ByteArray) (w : World) (hs : s.size ≤ 1048576) :
    Calls Tryd.prog 32 #[.string s] w fun e w' => e = .returned (.int .i64 (numOf s)) ∧ Below w.heap.size w w' := by
  obtain ⟨r, hr⟩ : ∃ r, scan (s.data.toList.take 12) 0 0 0 = r := ⟨_, rfl⟩
  unfold numOf
  rw [hr]
  have HR0 := Lib.hid hr
  clear hr
  go_enter Tryd.func32, Tryd.ntmps32
  go_wp2_with fail
  go_loopg [3, 4, 5, 6] 12 (fun gf s3 s4 s5 s6 wz => ∃ (i : Nat) (n p d : Int), s3 = .int .i64 n ∧ s4 = .int .i64 p ∧ s5 = .int .i64 d ∧ s6 = .int .i64 i ∧ wz = w ∧ i ≤ s.size ∧ i ≤ 12 ∧ 12 ≤ i + gf ∧ 0 ≤ d ∧ d ≤ i ∧ Hid (scan ((s.data.toList.take 12).drop i) n p d = r))
  case atStart => exact ⟨0, 0, 0, 0, rfl, rfl, rfl, rfl, rfl, by omega, by omega, by omega, by omega, by omega, HR0⟩
  case round =>
    obtain ⟨i, n, p, d, rfl, rfl, rfl, rfl, rfl, his, hi12, hfu, hd0, hd1, hR⟩ := hrel
    by_cases hlt : i < s.size
    · by_cases h12 : i < 12
      · obtain ⟨g', rfl⟩ : ∃ g', gk = g' + 1 := ⟨gk - 1, by omega⟩
        have hst := (scan_at s i hlt h12 n p d).symm.trans hR.out
        clear hR HR0
        by_cases hc : ((s[i].toNat : Nat) : Int) = 46
        · rw [if_pos hc] at hst
          have hb : (((s[i].toNat : Nat) : Int) == 46) = true := beq_iff_eq.mpr hc
          have HS := Lib.hid hst
          clear hst hc
          go_wp2_with fail
          go_roundg g'
          case measure => omega
          case rel => exact ⟨i + 1, _, _, _, rfl, rfl, rfl, by go_num, rfl, by omega, by omega, by omega, by omega, by omega, HS⟩
        · rw [if_neg hc] at hst
          have hb : (((s[i].toNat : Nat) : Int) == 46) = false := beq_eq_false_iff_ne.mpr hc
          by_cases hd : ((s[i].toNat : Nat) : Int) < 48
          · rw [if_pos (Or.inl hd)] at hst
            subst hst
            clear hc
            go_wp2_with fail
            go_ret
            exact ⟨rfl, Below.refl _ _⟩
          · by_cases he : 57 < ((s[i].toNat : Nat) : Int)
            · rw [if_pos (Or.inr he)] at hst
              subst hst
              clear hc
              go_wp2_with fail
              go_ret
              exact ⟨rfl, Below.refl _ _⟩
            · rw [if_neg (by omega)] at hst
              have HS := Lib.hid hst
              clear hst hc
              go_wp2_with fail
              go_roundg g'
              case measure => omega
              case rel => exact ⟨i + 1, _, _, _, rfl, rfl, rfl, by go_num, rfl, by omega, by omega, by omega, by omega, by omega, HS⟩
      · have hR2 : r = some (n, p, d) := by
          have := hR.out
          rw [List.drop_eq_nil_of_le (by rw [List.length_take]; omega)] at this
          exact this.symm
        subst hR2
        clear hR HR0
        by_cases hd2 : d = 2
        · subst hd2
          by_cases h9 : 999 < p
          · have HN : Hid (numR s (some (n, p, 2)) = -1) := Lib.hid (numR_part h9)
            go_wp2_with fail
            go_ret
            exact ⟨by first | (rw [HN.out]; rfl) | (rw [HN.out, ← hN]; rfl), Below.refl _ _⟩
          · obtain ⟨N, hN⟩ : ∃ N, wrap64 (n + p) = N := ⟨_, rfl⟩
            by_cases hin : 0 ≤ N ∧ N ≤ 999999999
            · obtain ⟨V, hV⟩ : ∃ V, verB (N / 1000000) (N / 1000 % 1000) (N % 1000) = V := ⟨_, rfl⟩
              have CT : Hid (∀ W : World, Calls Tryd.prog 42 #[.int .i64 N] W fun e w' => e = .returned (.string V) ∧ Below W.heap.size W w') := fun W => by
                have := l02Text_any N _ _ _ hin.1 hin.2 rfl rfl rfl W
                rw [hV] at this
                exact this
              have CI : Hid (∀ W : World, Calls Tryd.prog 45 #[.int .i64 N, .int .i64 0, .int .i64 999999999] W fun e w' => e = .returned (.bool true) ∧ W = w') := fun W => l00In_yes N 0 999999999 W hin.1 hin.2
              by_cases hv : s = V
              · have HN : Hid (numR s (some (n, p, 2)) = N) := Lib.hid (numR_yes h9 hN hin (hv.trans hV.symm))
                subst hv
                have HV := Lib.hid hV
                clear hV hin
                go_wp2_with (first
                  | (go_at_call 45; (with_reducible refine (CI.out _).mono ?_); rintro e wx ⟨rfl, rfl⟩)
                  | (go_at_call 42; (with_reducible refine (CT.out _).mono ?_); rintro e wx ⟨rfl, hbx⟩))
                go_ret
                exact ⟨by first | (rw [HN.out]; rfl) | (rw [HN.out, ← hN]; rfl), hbx⟩
              · have HN : Hid (numR s (some (n, p, 2)) = -1) := Lib.hid (numR_other h9 hN (by rw [hV]; exact hv))
                have hne : (V.toList == s.toList) = false := by
                  rw [beq_eq_false_iff_ne]
                  intro h
                  apply hv
                  rw [ByteArray.toList_eq, ByteArray.toList_eq] at h
                  exact (ba_ext h).symm
                have HV := Lib.hid hV
                clear hV hin hv
                go_wp2_with (first
                  | (go_at_call 45; (with_reducible refine (CI.out _).mono ?_); rintro e wx ⟨rfl, rfl⟩)
                  | (go_at_call 42; (with_reducible refine (CT.out _).mono ?_); rintro e wx ⟨rfl, hbx⟩))
                go_ret
                exact ⟨by first | (rw [HN.out]; rfl) | (rw [HN.out, ← hN]; rfl), hbx⟩
            · have HN : Hid (numR s (some (n, p, 2)) = -1) := Lib.hid (numR_out h9 hN hin)
              have CI : Hid (∀ W : World, Calls Tryd.prog 45 #[.int .i64 N, .int .i64 0, .int .i64 999999999] W fun e w' => e = .returned (.bool false) ∧ W = w') := fun W => l00In_no N 0 999999999 W (by omega)
              clear hin
              go_wp2_with (go_at_call 45; (with_reducible refine (CI.out _).mono ?_); rintro e wx ⟨rfl, rfl⟩)
              go_ret
              exact ⟨by first | (rw [HN.out]; rfl) | (rw [HN.out, ← hN]; rfl), Below.refl _ _⟩
        · have HN : Hid (numR s (some (n, p, d)) = -1) := Lib.hid (numR_dots hd2)
          have hb : (d == 2) = false := beq_eq_false_iff_ne.mpr hd2
          go_wp2_with fail
          go_ret
          exact ⟨by first | (rw [HN.out]; rfl) | (rw [HN.out, ← hN]; rfl), Below.refl _ _⟩
    · have hR2 : r = some (n, p, d) := by
        have := hR.out
        rw [List.drop_eq_nil_of_le (by rw [List.length_take, size_list]; omega)] at this
        exact this.symm
      subst hR2
      clear hR HR0
      by_cases hd2 : d = 2
      · subst hd2
        by_cases h9 : 999 < p
        · have HN : Hid (numR s (some (n, p, 2)) = -1) := Lib.hid (numR_part h9)
          go_wp2_with fail
          go_ret
          exact ⟨by first | (rw [HN.out]; rfl) | (rw [HN.out, ← hN]; rfl), Below.refl _ _⟩
        · obtain ⟨N, hN⟩ : ∃ N, wrap64 (n + p) = N := ⟨_, rfl⟩
          by_cases hin : 0 ≤ N ∧ N ≤ 999999999
          · obtain ⟨V, hV⟩ : ∃ V, verB (N / 1000000) (N / 1000 % 1000) (N % 1000) = V := ⟨_, rfl⟩
            have CT : Hid (∀ W : World, Calls Tryd.prog 42 #[.int .i64 N] W fun e w' => e = .returned (.string V) ∧ Below W.heap.size W w') := fun W => by
              have := l02Text_any N _ _ _ hin.1 hin.2 rfl rfl rfl W
              rw [hV] at this
              exact this
            have CI : Hid (∀ W : World, Calls Tryd.prog 45 #[.int .i64 N, .int .i64 0, .int .i64 999999999] W fun e w' => e = .returned (.bool true) ∧ W = w') := fun W => l00In_yes N 0 999999999 W hin.1 hin.2
            by_cases hv : s = V
            · have HN : Hid (numR s (some (n, p, 2)) = N) := Lib.hid (numR_yes h9 hN hin (hv.trans hV.symm))
              subst hv
              have HV := Lib.hid hV
              clear hV hin
              go_wp2_with (first
                | (go_at_call 45; (with_reducible refine (CI.out _).mono ?_); rintro e wx ⟨rfl, rfl⟩)
                | (go_at_call 42; (with_reducible refine (CT.out _).mono ?_); rintro e wx ⟨rfl, hbx⟩))
              go_ret
              exact ⟨by first | (rw [HN.out]; rfl) | (rw [HN.out, ← hN]; rfl), hbx⟩
            · have HN : Hid (numR s (some (n, p, 2)) = -1) := Lib.hid (numR_other h9 hN (by rw [hV]; exact hv))
              have hne : (V.toList == s.toList) = false := by
                rw [beq_eq_false_iff_ne]
                intro h
                apply hv
                rw [ByteArray.toList_eq, ByteArray.toList_eq] at h
                exact (ba_ext h).symm
              have HV := Lib.hid hV
              clear hV hin hv
              go_wp2_with (first
                | (go_at_call 45; (with_reducible refine (CI.out _).mono ?_); rintro e wx ⟨rfl, rfl⟩)
                | (go_at_call 42; (with_reducible refine (CT.out _).mono ?_); rintro e wx ⟨rfl, hbx⟩))
              go_ret
              exact ⟨by first | (rw [HN.out]; rfl) | (rw [HN.out, ← hN]; rfl), hbx⟩
          · have HN : Hid (numR s (some (n, p, 2)) = -1) := Lib.hid (numR_out h9 hN hin)
            have CI : Hid (∀ W : World, Calls Tryd.prog 45 #[.int .i64 N, .int .i64 0, .int .i64 999999999] W fun e w' => e = .returned (.bool false) ∧ W = w') := fun W => l00In_no N 0 999999999 W (by omega)
            clear hin
            go_wp2_with (go_at_call 45; (with_reducible refine (CI.out _).mono ?_); rintro e wx ⟨rfl, rfl⟩)
            go_ret
            exact ⟨by first | (rw [HN.out]; rfl) | (rw [HN.out, ← hN]; rfl), Below.refl _ _⟩
      · have HN : Hid (numR s (some (n, p, d)) = -1) := Lib.hid (numR_dots hd2)
        have hb : (d == 2) = false := beq_eq_false_iff_ne.mpr hd2
        go_wp2_with fail
        go_ret
        exact ⟨by first | (rw [HN.out]; rfl) | (rw [HN.out, ← hN]; rfl), Below.refl _ _⟩
end Go.Proofs.YtfadodmkppeodabDoor
