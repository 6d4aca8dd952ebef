/-
  The walk of the model's l04Point: one code point is read off the front of a text.
-/
import Derived.Test.YthdnklhaagofhaaDoorUtfChar
import Derived.Deep.LoopGhost
import Derived.Deep.RegionHeld3
import Derived.Deep.RegionWith
import Derived.BigGuardPart
namespace Go.Proofs.YthdnklhaagofhaaDoor
open Go.ChangeShapes Go.WideShapes Go.ChangeAt Go.RowKit

theorem specCharOk_yes (n : Int) (h : (0 ≤ n ∧ n ≤ 55295) ∨ (57344 ≤ n ∧ n ≤ 1114111)) (w : World) :
    Calls Tryd.prog 197 #[.int .i64 n] w fun e w' => e = .returned (.bool true) ∧ w = w' := by
  rcases h with ⟨h1, h2⟩ | ⟨h1, h2⟩
  · go_enter Tryd.func197, Tryd.ntmps197
    go_wp2_with (go_at_call 58; (first | refine (l00In_yes _ _ _ _ (by omega) (by omega)).mono ?_ | refine (l00In_no _ _ _ _ (by omega)).mono ?_); rintro e w' ⟨rfl, rfl⟩)
    go_ret
    exact ⟨rfl, rfl⟩
  · go_enter Tryd.func197, Tryd.ntmps197
    go_wp2_with (go_at_call 58; (first | refine (l00In_yes _ _ _ _ (by omega) (by omega)).mono ?_ | refine (l00In_no _ _ _ _ (by omega)).mono ?_); rintro e w' ⟨rfl, rfl⟩)
    go_ret
    exact ⟨rfl, rfl⟩

theorem specCharOk_no (n : Int) (h : ¬ ((0 ≤ n ∧ n ≤ 55295) ∨ (57344 ≤ n ∧ n ≤ 1114111))) (w : World) :
    Calls Tryd.prog 197 #[.int .i64 n] w fun e w' => e = .returned (.bool false) ∧ w = w' := by
  have h1 : n < 0 ∨ 55295 < n := by omega
  have h2 : n < 57344 ∨ 1114111 < n := by omega
  clear h
  go_enter Tryd.func197, Tryd.ntmps197
  go_wp2_with (go_at_call 58; (refine (l00In_no _ _ _ _ (by omega)).mono ?_); rintro e w' ⟨rfl, rfl⟩)
  go_ret
  exact ⟨rfl, rfl⟩


theorem index_at (s : ByteArray) (j : Nat) (h : j < s.size) : ∀ W, (Instr.index 9 (.string s) (.int .i64 (j : Int))).run Tryd.prog W = .ok (.int .u8 ((s[j]'h).toNat : Int)) W := by
  intro W
  rw [run_index_string W _ _ _ _ Tryd.underlying9, dif_pos ⟨by omega, by omega⟩]
  rfl
/-- A text's byte, as a number. -/
def bI (s : ByteArray) (k : Nat) : Int := ((s.data.toList.getD k 0).toNat : Int)
theorem bI_at (s : ByteArray) (k : Nat) (h : k < s.size) : bI s k = ((s[k]'h).toNat : Int) := by
  have hl : k < s.data.toList.length := by simpa using h
  unfold bI
  rw [List.getD_eq_getElem?_getD, List.getElem?_eq_getElem hl]
  rfl
theorem bI_bd (s : ByteArray) (k : Nat) : 0 ≤ bI s k ∧ bI s k < 256 := by
  have := (s.data.toList.getD k 0).toNat_lt
  unfold bI
  omega
theorem index_b (s : ByteArray) (j : Nat) (h : j < s.size) : ∀ W, (Instr.index 9 (.string s) (.int .i64 (j : Int))).run Tryd.prog W = .ok (.int .u8 (bI s j)) W := by
  intro W
  rw [bI_at s j h]
  exact index_at s j h W
theorem index_b1 (s : ByteArray) (j : Nat) (h : j + 1 < s.size) : ∀ W, (Instr.index 9 (.string s) (.int .i64 ((j : Int) + 1))).run Tryd.prog W = .ok (.int .u8 (bI s (j + 1))) W := index_b s (j + 1) h
theorem index_b0 (s : ByteArray) (h : 0 < s.size) : ∀ W, (Instr.index 9 (.string s) (.int .i64 0)).run Tryd.prog W = .ok (.int .u8 (bI s 0)) W := index_b s 0 h

/-- What the bytes behind the first one make of a number. -/
def accS (lead : Int) (s : ByteArray) : Nat → Int
  | 0 => lead
  | k + 1 => accS lead s k * 64 + bI s (k + 1) % 64
theorem accS_bd (lead : Int) (s : ByteArray) (h0 : 0 ≤ lead) (h1 : lead < 256) (k : Nat) (hk : k ≤ 3) : 0 ≤ accS lead s k ∧ accS lead s k < 100000000 := by
  have a1 := bI_bd s 1
  have a2 := bI_bd s 2
  have a3 := bI_bd s 3
  have h4 : k = 0 ∨ k = 1 ∨ k = 2 ∨ k = 3 := by omega
  rcases h4 with rfl | rfl | rfl | rfl <;> simp only [accS] <;> omega

/-- The code point of a text's front, and how many bytes it takes; 0 and 0 where there is none. -/
def ptV (_s : ByteArray) (m : Nat) (N : Int) (ok : Bool) : Value := if ok then .tuple #[.int .i64 N, .int .i64 (m : Int)] else .tuple #[.int .i64 0, .int .i64 0]

theorem ba_list_ne {a b : ByteArray} (h : a ≠ b) : (a.toList == b.toList) = false := by
  rw [beq_eq_false_iff_ne]
  intro e
  apply h
  rw [ByteArray.toList_eq, ByteArray.toList_eq] at e
  exact ByteArray.ext (Array.toList_inj.mp e)
theorem not_empty (s : ByteArray) (h : 0 < s.size) : s.toList.isEmpty = false := by
  cases h2 : s.toList with
  | nil =>
    have h3 : s.data.toList = [] := by rw [← ByteArray.toList_eq]; exact h2
    have h4 : s.size = 0 := by
      show s.data.toList.length = 0
      rw [h3]
      rfl
    omega
  | cons c cs => rfl
theorem ownDrewN {B : Nat} {a w : World} (h : Below B a w) (n : Nat) : Below B a (w.drewN n) := ⟨h.os, h.tape, h.output, h.size, h.block⟩

/-- A code point's number, of int64. -/
def ChI (n : Int) : Prop := (0 ≤ n ∧ n ≤ 55295) ∨ (57344 ≤ n ∧ n ≤ 1114111)

set_option maxRecDepth 100000 in
set_option maxHeartbeats 2000000 in
theorem point1_long (s : ByteArray) (h : 1 ≤ s.size) (hs : s.size ≤ 24) (hc : bI s 0 < 192) (hm : 1 ≤ s.size) (ok : Bool) (hok : ok = true ↔ (ChI (accS (bI s 0) s 0) ∧ strOfNums (encI (accS (bI s 0) s 0)) = s.extract 0 1)) (w : World) :
    Calls Tryd.prog 180 #[.string s] w fun e w' => e = .returned (ptV s 1 (accS (bI s 0) s 0) ok) ∧ Below w.heap.size w w' := by
  have hI := index_b0 s (by omega)
  have he := not_empty s (by omega)
  have hbd := bI_bd s 0
  have c1 : ¬ 240 ≤ bI s 0 := by omega
  have c2 : ¬ 224 ≤ bI s 0 := by omega
  have c3 : ¬ 192 ≤ bI s 0 := by omega
  have hms : ¬ s.size < 1 := by omega
  have hacc := fun k hk => accS_bd (bI s 0) s (by omega) (by omega) k hk
  have HACC := Lib.hid hacc
  have HS := Lib.hid hm
  obtain ⟨N, hN⟩ : ∃ N, accS (bI s 0) s 0 = N := ⟨_, rfl⟩
  rw [hN] at hok
  rw [hN]
  have HN := Lib.hid hN
  obtain ⟨lead, hlead⟩ : ∃ lead, bI s 0 = lead := ⟨_, rfl⟩
  rw [hlead] at HN HACC
  have HL := Lib.hid hlead
  have HK := Lib.hid hok
  clear hc hN hacc hok hlead
  go_enter Tryd.func180, Tryd.ntmps180
  go_wp2_with fail
  go_quiet (fail)
  go_wp2_with fail
  go_loopg [5, 6] 1 (fun gf s5 s6 wz => ∃ k : Nat, s6 = .int .i64 ((k : Int) + 1) ∧ s5 = .int .i64 (accS lead s k) ∧ Below w.heap.size w wz ∧ k + 1 ≤ 1 ∧ 1 ≤ k + 1 + gf)
  case atStart => exact ⟨0, rfl, by first | (simp only [accS]; rw [← HL.out]; done) | (simp only [accS]; rw [← HL.out]; rfl), ownDrewN (Below.refl _ _) _, by omega, by omega⟩
  case round =>
    obtain ⟨k, rfl, rfl, hbel, hk, hfu⟩ := hrel
    clear hI
    by_cases hlt : k + 1 < 1
    · obtain ⟨g', rfl⟩ : ∃ g', gk = g' + 1 := ⟨gk - 1, by omega⟩
      have hbk := HACC.out k (by omega)
      have hIk := index_b1 s k (by have := HS.out; omega)
      have hb1 := bI_bd s (k + 1)
      have hnx : accS lead s (k + 1) = accS lead s k * 64 + bI s (k + 1) % 64 := rfl
      have hki : (k : Int) + 1 < 1 := by omega
      generalize accS lead s k = x at *
      generalize bI s (k + 1) = b at *
      have ha := u8_and63 (x := b) hb1.1 hb1.2
      have ho := i64_or64 x (b % 64) hbk.1 (by omega) (by omega) (by omega)
      have HX := Lib.hid hnx
      clear hnx
      go_wp2_with fail
      go_roundg g'
      case measure => omega
      case rel => exact ⟨k + 1, by go_num, by rw [HX.out], hbel, by omega, by omega⟩
    · obtain rfl : k = 0 := by omega
      have hN := HN.out
      rw [hN]
      have hok := HK.out
      have hmm : ¬ (s.size : Int) < 1 := by have := HS.out; omega
      have hm2 : 1 ≤ s.size := HS.out
      clear HN HK HL HACC hlt hN hfu hk
      by_cases hch : ChI N
      · have hb : 0 ≤ N ∧ N ≤ 1114111 := by unfold ChI at hch; omega
        have CC : Hid (∀ W : World, Calls Tryd.prog 197 #[.int .i64 N] W fun e w' => e = .returned (.bool true) ∧ W = w') := Lib.hid (fun W => specCharOk_yes N hch W)
        by_cases hv : strOfNums (encI N) = s.extract 0 1
        · have ht : ok = true := hok.mpr ⟨hch, hv⟩
          subst ht
          have CT : Hid (∀ W : World, Calls Tryd.prog 198 #[.int .i64 N] W fun e w' => e = .returned (.string (s.extract 0 1)) ∧ Below W.heap.size W w') := Lib.hid (fun W => by rw [← hv]; exact l04Char_any N hb.1 hb.2 W)
          clear hok hch hv hb
          go_wp2_with fail
          go_region_held3 (fun _ => True) (trivial)
            (first
              | (go_at_call 197; (with_reducible refine (CC.out _).mono ?_); rintro e wv ⟨rfl, rfl⟩)
              | (go_at_call 198; (with_reducible refine (CT.out _).mono ?_); rintro e wv ⟨rfl, hbv⟩))
          all_goals
            go_wp2_with fail
            go_ret2
            exact ⟨rfl, bchain hbel.drew hbv hbel.size⟩
        · have ht : ok = false := by
            rw [Bool.eq_false_iff]
            intro h
            exact hv (hok.mp h).2
          subst ht
          have hne := ba_list_ne hv
          have CT : Hid (∀ W : World, Calls Tryd.prog 198 #[.int .i64 N] W fun e w' => e = .returned (.string (strOfNums (encI N))) ∧ Below W.heap.size W w') := Lib.hid (fun W => l04Char_any N hb.1 hb.2 W)
          generalize strOfNums (encI N) = V at *
          clear hok hch hv hb
          go_wp2_with fail
          go_region_held3 (fun _ => True) (trivial)
            (first
              | (go_at_call 197; (with_reducible refine (CC.out _).mono ?_); rintro e wv ⟨rfl, rfl⟩)
              | (go_at_call 198; (with_reducible refine (CT.out _).mono ?_); rintro e wv ⟨rfl, hbv⟩))
          all_goals
            go_wp2_with fail
            go_ret2
            exact ⟨rfl, bchain hbel.drew hbv hbel.size⟩
      · have ht : ok = false := by
          rw [Bool.eq_false_iff]
          intro h
          exact hch (hok.mp h).1
        subst ht
        have CC : Hid (∀ W : World, Calls Tryd.prog 197 #[.int .i64 N] W fun e w' => e = .returned (.bool false) ∧ W = w') := Lib.hid (fun W => specCharOk_no N hch W)
        clear hok hch
        go_wp2_with fail
        go_quiet ((go_at_call 197; exact Calls.quiet_of_same ((CC.out _).mono fun _ _ h => ⟨h.1, h.2.symm⟩)))
        go_wp2_with fail
        go_ret2
        exact ⟨rfl, ownDrewN hbel _⟩

set_option maxRecDepth 100000 in
theorem point2_short (s : ByteArray) (h : 1 ≤ s.size) (hs : s.size ≤ 24) (hc : 192 ≤ bI s 0 ∧ bI s 0 < 224) (hm : s.size < 2) (w : World) :
    Calls Tryd.prog 180 #[.string s] w fun e w' => e = .returned (.tuple #[.int .i64 0, .int .i64 0]) ∧ Below w.heap.size w w' := by
  have hI := index_b0 s (by omega)
  have he := not_empty s (by omega)
  have hbd := bI_bd s 0
  have c1 : ¬ 240 ≤ bI s 0 := by omega
  have c2 : ¬ 224 ≤ bI s 0 := by omega
  have c3 : 192 ≤ bI s 0 := by omega
  clear hc
  go_enter Tryd.func180, Tryd.ntmps180
  go_wp2_with fail
  go_quiet (fail)
  go_wp2_with fail
  go_quiet (fail)
  go_wp2_with fail
  go_ret2
  exact ⟨rfl, ownDrewN (Below.refl _ _) _⟩

set_option maxRecDepth 100000 in
set_option maxHeartbeats 2000000 in
theorem point2_long (s : ByteArray) (h : 1 ≤ s.size) (hs : s.size ≤ 24) (hc : 192 ≤ bI s 0 ∧ bI s 0 < 224) (hm : 2 ≤ s.size) (ok : Bool) (hok : ok = true ↔ (ChI (accS (bI s 0 - 192) s 1) ∧ strOfNums (encI (accS (bI s 0 - 192) s 1)) = s.extract 0 2)) (w : World) :
    Calls Tryd.prog 180 #[.string s] w fun e w' => e = .returned (ptV s 2 (accS (bI s 0 - 192) s 1) ok) ∧ Below w.heap.size w w' := by
  have hI := index_b0 s (by omega)
  have he := not_empty s (by omega)
  have hbd := bI_bd s 0
  have c1 : ¬ 240 ≤ bI s 0 := by omega
  have c2 : ¬ 224 ≤ bI s 0 := by omega
  have c3 : 192 ≤ bI s 0 := by omega
  have hms : ¬ s.size < 2 := by omega
  have hacc := fun k hk => accS_bd (bI s 0 - 192) s (by omega) (by omega) k hk
  have HACC := Lib.hid hacc
  have HS := Lib.hid hm
  obtain ⟨N, hN⟩ : ∃ N, accS (bI s 0 - 192) s 1 = N := ⟨_, rfl⟩
  rw [hN] at hok
  rw [hN]
  have HN := Lib.hid hN
  obtain ⟨lead, hlead⟩ : ∃ lead, bI s 0 - 192 = lead := ⟨_, rfl⟩
  rw [hlead] at HN HACC
  have HL := Lib.hid hlead
  have HK := Lib.hid hok
  clear hc hN hacc hok hlead
  go_enter Tryd.func180, Tryd.ntmps180
  go_wp2_with fail
  go_quiet (fail)
  go_wp2_with fail
  go_quiet (fail)
  go_wp2_with fail
  go_loopg [5, 6] 2 (fun gf s5 s6 wz => ∃ k : Nat, s6 = .int .i64 ((k : Int) + 1) ∧ s5 = .int .i64 (accS lead s k) ∧ Below w.heap.size w wz ∧ k + 1 ≤ 2 ∧ 2 ≤ k + 1 + gf)
  case atStart => exact ⟨0, rfl, by first | (simp only [accS]; rw [← HL.out]; done) | (simp only [accS]; rw [← HL.out]; rfl), ownDrewN (Below.refl _ _) _, by omega, by omega⟩
  case round =>
    obtain ⟨k, rfl, rfl, hbel, hk, hfu⟩ := hrel
    clear hI
    by_cases hlt : k + 1 < 2
    · obtain ⟨g', rfl⟩ : ∃ g', gk = g' + 1 := ⟨gk - 1, by omega⟩
      have hbk := HACC.out k (by omega)
      have hIk := index_b1 s k (by have := HS.out; omega)
      have hb1 := bI_bd s (k + 1)
      have hnx : accS lead s (k + 1) = accS lead s k * 64 + bI s (k + 1) % 64 := rfl
      have hki : (k : Int) + 1 < 2 := by omega
      generalize accS lead s k = x at *
      generalize bI s (k + 1) = b at *
      have ha := u8_and63 (x := b) hb1.1 hb1.2
      have ho := i64_or64 x (b % 64) hbk.1 (by omega) (by omega) (by omega)
      have HX := Lib.hid hnx
      clear hnx
      go_wp2_with fail
      go_roundg g'
      case measure => omega
      case rel => exact ⟨k + 1, by go_num, by rw [HX.out], hbel, by omega, by omega⟩
    · obtain rfl : k = 1 := by omega
      have hN := HN.out
      rw [hN]
      have hok := HK.out
      have hmm : ¬ (s.size : Int) < 2 := by have := HS.out; omega
      have hm2 : 2 ≤ s.size := HS.out
      clear HN HK HL HACC hlt hN hfu hk
      by_cases hch : ChI N
      · have hb : 0 ≤ N ∧ N ≤ 1114111 := by unfold ChI at hch; omega
        have CC : Hid (∀ W : World, Calls Tryd.prog 197 #[.int .i64 N] W fun e w' => e = .returned (.bool true) ∧ W = w') := Lib.hid (fun W => specCharOk_yes N hch W)
        by_cases hv : strOfNums (encI N) = s.extract 0 2
        · have ht : ok = true := hok.mpr ⟨hch, hv⟩
          subst ht
          have CT : Hid (∀ W : World, Calls Tryd.prog 198 #[.int .i64 N] W fun e w' => e = .returned (.string (s.extract 0 2)) ∧ Below W.heap.size W w') := Lib.hid (fun W => by rw [← hv]; exact l04Char_any N hb.1 hb.2 W)
          clear hok hch hv hb
          go_wp2_with fail
          go_region_held3 (fun _ => True) (trivial)
            (first
              | (go_at_call 197; (with_reducible refine (CC.out _).mono ?_); rintro e wv ⟨rfl, rfl⟩)
              | (go_at_call 198; (with_reducible refine (CT.out _).mono ?_); rintro e wv ⟨rfl, hbv⟩))
          all_goals
            go_wp2_with fail
            go_ret2
            exact ⟨rfl, bchain hbel.drew hbv hbel.size⟩
        · have ht : ok = false := by
            rw [Bool.eq_false_iff]
            intro h
            exact hv (hok.mp h).2
          subst ht
          have hne := ba_list_ne hv
          have CT : Hid (∀ W : World, Calls Tryd.prog 198 #[.int .i64 N] W fun e w' => e = .returned (.string (strOfNums (encI N))) ∧ Below W.heap.size W w') := Lib.hid (fun W => l04Char_any N hb.1 hb.2 W)
          generalize strOfNums (encI N) = V at *
          clear hok hch hv hb
          go_wp2_with fail
          go_region_held3 (fun _ => True) (trivial)
            (first
              | (go_at_call 197; (with_reducible refine (CC.out _).mono ?_); rintro e wv ⟨rfl, rfl⟩)
              | (go_at_call 198; (with_reducible refine (CT.out _).mono ?_); rintro e wv ⟨rfl, hbv⟩))
          all_goals
            go_wp2_with fail
            go_ret2
            exact ⟨rfl, bchain hbel.drew hbv hbel.size⟩
      · have ht : ok = false := by
          rw [Bool.eq_false_iff]
          intro h
          exact hch (hok.mp h).1
        subst ht
        have CC : Hid (∀ W : World, Calls Tryd.prog 197 #[.int .i64 N] W fun e w' => e = .returned (.bool false) ∧ W = w') := Lib.hid (fun W => specCharOk_no N hch W)
        clear hok hch
        go_wp2_with fail
        go_quiet ((go_at_call 197; exact Calls.quiet_of_same ((CC.out _).mono fun _ _ h => ⟨h.1, h.2.symm⟩)))
        go_wp2_with fail
        go_ret2
        exact ⟨rfl, ownDrewN hbel _⟩

set_option maxRecDepth 100000 in
theorem point3_short (s : ByteArray) (h : 1 ≤ s.size) (hs : s.size ≤ 24) (hc : 224 ≤ bI s 0 ∧ bI s 0 < 240) (hm : s.size < 3) (w : World) :
    Calls Tryd.prog 180 #[.string s] w fun e w' => e = .returned (.tuple #[.int .i64 0, .int .i64 0]) ∧ Below w.heap.size w w' := by
  have hI := index_b0 s (by omega)
  have he := not_empty s (by omega)
  have hbd := bI_bd s 0
  have c1 : ¬ 240 ≤ bI s 0 := by omega
  have c2 : 224 ≤ bI s 0 := by omega
  clear hc
  go_enter Tryd.func180, Tryd.ntmps180
  go_wp2_with fail
  go_quiet (fail)
  go_wp2_with fail
  go_quiet (fail)
  go_wp2_with fail
  go_ret2
  exact ⟨rfl, ownDrewN (Below.refl _ _) _⟩

set_option maxRecDepth 100000 in
set_option maxHeartbeats 2000000 in
theorem point3_long (s : ByteArray) (h : 1 ≤ s.size) (hs : s.size ≤ 24) (hc : 224 ≤ bI s 0 ∧ bI s 0 < 240) (hm : 3 ≤ s.size) (ok : Bool) (hok : ok = true ↔ (ChI (accS (bI s 0 - 224) s 2) ∧ strOfNums (encI (accS (bI s 0 - 224) s 2)) = s.extract 0 3)) (w : World) :
    Calls Tryd.prog 180 #[.string s] w fun e w' => e = .returned (ptV s 3 (accS (bI s 0 - 224) s 2) ok) ∧ Below w.heap.size w w' := by
  have hI := index_b0 s (by omega)
  have he := not_empty s (by omega)
  have hbd := bI_bd s 0
  have c1 : ¬ 240 ≤ bI s 0 := by omega
  have c2 : 224 ≤ bI s 0 := by omega
  have hms : ¬ s.size < 3 := by omega
  have hacc := fun k hk => accS_bd (bI s 0 - 224) s (by omega) (by omega) k hk
  have HACC := Lib.hid hacc
  have HS := Lib.hid hm
  obtain ⟨N, hN⟩ : ∃ N, accS (bI s 0 - 224) s 2 = N := ⟨_, rfl⟩
  rw [hN] at hok
  rw [hN]
  have HN := Lib.hid hN
  obtain ⟨lead, hlead⟩ : ∃ lead, bI s 0 - 224 = lead := ⟨_, rfl⟩
  rw [hlead] at HN HACC
  have HL := Lib.hid hlead
  have HK := Lib.hid hok
  clear hc hN hacc hok hlead
  go_enter Tryd.func180, Tryd.ntmps180
  go_wp2_with fail
  go_quiet (fail)
  go_wp2_with fail
  go_quiet (fail)
  go_wp2_with fail
  go_loopg [5, 6] 3 (fun gf s5 s6 wz => ∃ k : Nat, s6 = .int .i64 ((k : Int) + 1) ∧ s5 = .int .i64 (accS lead s k) ∧ Below w.heap.size w wz ∧ k + 1 ≤ 3 ∧ 3 ≤ k + 1 + gf)
  case atStart => exact ⟨0, rfl, by first | (simp only [accS]; rw [← HL.out]; done) | (simp only [accS]; rw [← HL.out]; rfl), ownDrewN (Below.refl _ _) _, by omega, by omega⟩
  case round =>
    obtain ⟨k, rfl, rfl, hbel, hk, hfu⟩ := hrel
    clear hI
    by_cases hlt : k + 1 < 3
    · obtain ⟨g', rfl⟩ : ∃ g', gk = g' + 1 := ⟨gk - 1, by omega⟩
      have hbk := HACC.out k (by omega)
      have hIk := index_b1 s k (by have := HS.out; omega)
      have hb1 := bI_bd s (k + 1)
      have hnx : accS lead s (k + 1) = accS lead s k * 64 + bI s (k + 1) % 64 := rfl
      have hki : (k : Int) + 1 < 3 := by omega
      generalize accS lead s k = x at *
      generalize bI s (k + 1) = b at *
      have ha := u8_and63 (x := b) hb1.1 hb1.2
      have ho := i64_or64 x (b % 64) hbk.1 (by omega) (by omega) (by omega)
      have HX := Lib.hid hnx
      clear hnx
      go_wp2_with fail
      go_roundg g'
      case measure => omega
      case rel => exact ⟨k + 1, by go_num, by rw [HX.out], hbel, by omega, by omega⟩
    · obtain rfl : k = 2 := by omega
      have hN := HN.out
      rw [hN]
      have hok := HK.out
      have hmm : ¬ (s.size : Int) < 3 := by have := HS.out; omega
      have hm2 : 3 ≤ s.size := HS.out
      clear HN HK HL HACC hlt hN hfu hk
      by_cases hch : ChI N
      · have hb : 0 ≤ N ∧ N ≤ 1114111 := by unfold ChI at hch; omega
        have CC : Hid (∀ W : World, Calls Tryd.prog 197 #[.int .i64 N] W fun e w' => e = .returned (.bool true) ∧ W = w') := Lib.hid (fun W => specCharOk_yes N hch W)
        by_cases hv : strOfNums (encI N) = s.extract 0 3
        · have ht : ok = true := hok.mpr ⟨hch, hv⟩
          subst ht
          have CT : Hid (∀ W : World, Calls Tryd.prog 198 #[.int .i64 N] W fun e w' => e = .returned (.string (s.extract 0 3)) ∧ Below W.heap.size W w') := Lib.hid (fun W => by rw [← hv]; exact l04Char_any N hb.1 hb.2 W)
          clear hok hch hv hb
          go_wp2_with fail
          go_region_held3 (fun _ => True) (trivial)
            (first
              | (go_at_call 197; (with_reducible refine (CC.out _).mono ?_); rintro e wv ⟨rfl, rfl⟩)
              | (go_at_call 198; (with_reducible refine (CT.out _).mono ?_); rintro e wv ⟨rfl, hbv⟩))
          all_goals
            go_wp2_with fail
            go_ret2
            exact ⟨rfl, bchain hbel.drew hbv hbel.size⟩
        · have ht : ok = false := by
            rw [Bool.eq_false_iff]
            intro h
            exact hv (hok.mp h).2
          subst ht
          have hne := ba_list_ne hv
          have CT : Hid (∀ W : World, Calls Tryd.prog 198 #[.int .i64 N] W fun e w' => e = .returned (.string (strOfNums (encI N))) ∧ Below W.heap.size W w') := Lib.hid (fun W => l04Char_any N hb.1 hb.2 W)
          generalize strOfNums (encI N) = V at *
          clear hok hch hv hb
          go_wp2_with fail
          go_region_held3 (fun _ => True) (trivial)
            (first
              | (go_at_call 197; (with_reducible refine (CC.out _).mono ?_); rintro e wv ⟨rfl, rfl⟩)
              | (go_at_call 198; (with_reducible refine (CT.out _).mono ?_); rintro e wv ⟨rfl, hbv⟩))
          all_goals
            go_wp2_with fail
            go_ret2
            exact ⟨rfl, bchain hbel.drew hbv hbel.size⟩
      · have ht : ok = false := by
          rw [Bool.eq_false_iff]
          intro h
          exact hch (hok.mp h).1
        subst ht
        have CC : Hid (∀ W : World, Calls Tryd.prog 197 #[.int .i64 N] W fun e w' => e = .returned (.bool false) ∧ W = w') := Lib.hid (fun W => specCharOk_no N hch W)
        clear hok hch
        go_wp2_with fail
        go_quiet ((go_at_call 197; exact Calls.quiet_of_same ((CC.out _).mono fun _ _ h => ⟨h.1, h.2.symm⟩)))
        go_wp2_with fail
        go_ret2
        exact ⟨rfl, ownDrewN hbel _⟩

set_option maxRecDepth 100000 in
theorem point4_short (s : ByteArray) (h : 1 ≤ s.size) (hs : s.size ≤ 24) (hc : 240 ≤ bI s 0) (hm : s.size < 4) (w : World) :
    Calls Tryd.prog 180 #[.string s] w fun e w' => e = .returned (.tuple #[.int .i64 0, .int .i64 0]) ∧ Below w.heap.size w w' := by
  have hI := index_b0 s (by omega)
  have he := not_empty s (by omega)
  have hbd := bI_bd s 0
  have c1 : ¬ bI s 0 < 240 := by omega
  clear hc
  go_enter Tryd.func180, Tryd.ntmps180
  go_wp2_with fail
  go_quiet (fail)
  go_wp2_with fail
  go_quiet (fail)
  go_wp2_with fail
  go_ret2
  exact ⟨rfl, ownDrewN (Below.refl _ _) _⟩

set_option maxRecDepth 100000 in
set_option maxHeartbeats 2000000 in
theorem point4_long (s : ByteArray) (h : 1 ≤ s.size) (hs : s.size ≤ 24) (hc : 240 ≤ bI s 0) (hm : 4 ≤ s.size) (ok : Bool) (hok : ok = true ↔ (ChI (accS (bI s 0 - 240) s 3) ∧ strOfNums (encI (accS (bI s 0 - 240) s 3)) = s.extract 0 4)) (w : World) :
    Calls Tryd.prog 180 #[.string s] w fun e w' => e = .returned (ptV s 4 (accS (bI s 0 - 240) s 3) ok) ∧ Below w.heap.size w w' := by
  have hI := index_b0 s (by omega)
  have he := not_empty s (by omega)
  have hbd := bI_bd s 0
  have c1 : ¬ bI s 0 < 240 := by omega
  have hms : ¬ s.size < 4 := by omega
  have hacc := fun k hk => accS_bd (bI s 0 - 240) s (by omega) (by omega) k hk
  have HACC := Lib.hid hacc
  have HS := Lib.hid hm
  obtain ⟨N, hN⟩ : ∃ N, accS (bI s 0 - 240) s 3 = N := ⟨_, rfl⟩
  rw [hN] at hok
  rw [hN]
  have HN := Lib.hid hN
  obtain ⟨lead, hlead⟩ : ∃ lead, bI s 0 - 240 = lead := ⟨_, rfl⟩
  rw [hlead] at HN HACC
  have HL := Lib.hid hlead
  have HK := Lib.hid hok
  clear hc hN hacc hok hlead
  go_enter Tryd.func180, Tryd.ntmps180
  go_wp2_with fail
  go_quiet (fail)
  go_wp2_with fail
  go_quiet (fail)
  go_wp2_with fail
  go_loopg [5, 6] 4 (fun gf s5 s6 wz => ∃ k : Nat, s6 = .int .i64 ((k : Int) + 1) ∧ s5 = .int .i64 (accS lead s k) ∧ Below w.heap.size w wz ∧ k + 1 ≤ 4 ∧ 4 ≤ k + 1 + gf)
  case atStart => exact ⟨0, rfl, by first | (simp only [accS]; rw [← HL.out]; done) | (simp only [accS]; rw [← HL.out]; rfl), ownDrewN (Below.refl _ _) _, by omega, by omega⟩
  case round =>
    obtain ⟨k, rfl, rfl, hbel, hk, hfu⟩ := hrel
    clear hI
    by_cases hlt : k + 1 < 4
    · obtain ⟨g', rfl⟩ : ∃ g', gk = g' + 1 := ⟨gk - 1, by omega⟩
      have hbk := HACC.out k (by omega)
      have hIk := index_b1 s k (by have := HS.out; omega)
      have hb1 := bI_bd s (k + 1)
      have hnx : accS lead s (k + 1) = accS lead s k * 64 + bI s (k + 1) % 64 := rfl
      have hki : (k : Int) + 1 < 4 := by omega
      generalize accS lead s k = x at *
      generalize bI s (k + 1) = b at *
      have ha := u8_and63 (x := b) hb1.1 hb1.2
      have ho := i64_or64 x (b % 64) hbk.1 (by omega) (by omega) (by omega)
      have HX := Lib.hid hnx
      clear hnx
      go_wp2_with fail
      go_roundg g'
      case measure => omega
      case rel => exact ⟨k + 1, by go_num, by rw [HX.out], hbel, by omega, by omega⟩
    · obtain rfl : k = 3 := by omega
      have hN := HN.out
      rw [hN]
      have hok := HK.out
      have hmm : ¬ (s.size : Int) < 4 := by have := HS.out; omega
      have hm2 : 4 ≤ s.size := HS.out
      clear HN HK HL HACC hlt hN hfu hk
      by_cases hch : ChI N
      · have hb : 0 ≤ N ∧ N ≤ 1114111 := by unfold ChI at hch; omega
        have CC : Hid (∀ W : World, Calls Tryd.prog 197 #[.int .i64 N] W fun e w' => e = .returned (.bool true) ∧ W = w') := Lib.hid (fun W => specCharOk_yes N hch W)
        by_cases hv : strOfNums (encI N) = s.extract 0 4
        · have ht : ok = true := hok.mpr ⟨hch, hv⟩
          subst ht
          have CT : Hid (∀ W : World, Calls Tryd.prog 198 #[.int .i64 N] W fun e w' => e = .returned (.string (s.extract 0 4)) ∧ Below W.heap.size W w') := Lib.hid (fun W => by rw [← hv]; exact l04Char_any N hb.1 hb.2 W)
          clear hok hch hv hb
          go_wp2_with fail
          go_region_held3 (fun _ => True) (trivial)
            (first
              | (go_at_call 197; (with_reducible refine (CC.out _).mono ?_); rintro e wv ⟨rfl, rfl⟩)
              | (go_at_call 198; (with_reducible refine (CT.out _).mono ?_); rintro e wv ⟨rfl, hbv⟩))
          all_goals
            go_wp2_with fail
            go_ret2
            exact ⟨rfl, bchain hbel.drew hbv hbel.size⟩
        · have ht : ok = false := by
            rw [Bool.eq_false_iff]
            intro h
            exact hv (hok.mp h).2
          subst ht
          have hne := ba_list_ne hv
          have CT : Hid (∀ W : World, Calls Tryd.prog 198 #[.int .i64 N] W fun e w' => e = .returned (.string (strOfNums (encI N))) ∧ Below W.heap.size W w') := Lib.hid (fun W => l04Char_any N hb.1 hb.2 W)
          generalize strOfNums (encI N) = V at *
          clear hok hch hv hb
          go_wp2_with fail
          go_region_held3 (fun _ => True) (trivial)
            (first
              | (go_at_call 197; (with_reducible refine (CC.out _).mono ?_); rintro e wv ⟨rfl, rfl⟩)
              | (go_at_call 198; (with_reducible refine (CT.out _).mono ?_); rintro e wv ⟨rfl, hbv⟩))
          all_goals
            go_wp2_with fail
            go_ret2
            exact ⟨rfl, bchain hbel.drew hbv hbel.size⟩
      · have ht : ok = false := by
          rw [Bool.eq_false_iff]
          intro h
          exact hch (hok.mp h).1
        subst ht
        have CC : Hid (∀ W : World, Calls Tryd.prog 197 #[.int .i64 N] W fun e w' => e = .returned (.bool false) ∧ W = w') := Lib.hid (fun W => specCharOk_no N hch W)
        clear hok hch
        go_wp2_with fail
        go_quiet ((go_at_call 197; exact Calls.quiet_of_same ((CC.out _).mono fun _ _ h => ⟨h.1, h.2.symm⟩)))
        go_wp2_with fail
        go_ret2
        exact ⟨rfl, ownDrewN hbel _⟩
end Go.Proofs.YthdnklhaagofhaaDoor
