/-
  Rows of numbers compared, by slices.Equal and by the model's l00Same.
-/
import Derived.Test.YtbjcldekapipaaaStWMa
import Derived.Deep.RegionHeld3
namespace Go.Proofs.Ytbjcldekapipaaa
open Go.ChangeShapes Go.WideShapes Go.ChangeAt Go.RowKit Go.Deep

theorem iffA_T {p : Prop} (h : p) : true = true ↔ p := ⟨fun _ => h, fun _ => rfl⟩
theorem iffA_F {p : Prop} (h : ¬ p) : false = true ↔ p := ⟨(by intro e; cases e), fun e => absurd e h⟩
theorem belowA {W a : World} (h : Below W.heap.size W a) (n : Nat) : Below W.heap.size W (a.drewN n) := ⟨h.os, h.tape, h.output, h.size, h.block⟩
/-- The call answers whether p. -/
def SaysA (p : Prop) (w : World) (e : Ending) (w' : World) : Prop := ∃ v : Bool, e = .returned (.bool v) ∧ (v = true ↔ p) ∧ Below w.heap.size w w'
theorem SaysA.yes {p : Prop} {w : World} {e : Ending} {w' : World} (h : SaysA p w e w') (hp : p) : e = .returned (.bool true) ∧ Below w.heap.size w w' := by
  obtain ⟨v, rfl, hv, hb⟩ := h
  exact ⟨by rw [hv.mpr hp], hb⟩
theorem SaysA.no {p : Prop} {w : World} {e : Ending} {w' : World} (h : SaysA p w e w') (hp : ¬ p) : e = .returned (.bool false) ∧ Below w.heap.size w w' := by
  obtain ⟨v, rfl, hv, hb⟩ := h
  cases v with
  | false => exact ⟨rfl, hb⟩
  | true => exact absurd (hv.mp rfl) hp
theorem Ivs_ext {xs ys : List Iv} (hl : xs.length = ys.length) (h : ∀ i, i < xs.length → xs[i]? = ys[i]?) : xs = ys := List.ext_getElem? fun i => by
  by_cases e : i < xs.length
  · exact h i e
  · rw [List.getElem?_eq_none (by omega), List.getElem?_eq_none (by omega)]
set_option maxHeartbeats 2000000 in
set_option maxRecDepth 100000 in
theorem equalIvs_any (xs ys : List Iv) (hx : xs.length ≤ 1048576) (A B : Option Addr) (ca cb lo lo' : Nat) (w : World) (h : Ivs w lo xs A) (h' : Ivs w lo' ys B) :
    Calls Try.prog 31 #[.slice A xs.length ca, .slice B ys.length cb] w (SaysA (xs = ys) w) := by
  have H := Lib.hid h
  have H' := Lib.hid h'
  clear h h'
  by_cases hl : xs.length = ys.length
  · rw [← hl]
    go_enter Try.func31, Try.ntmps31
    go_wp2_with fail
    go_loopw [13] (fun i wr => ∃ k : Nat, k ≤ xs.length ∧ i = .int .i64 k ∧ Hid (∀ i, i < k → xs[i]? = ys[i]?) ∧ Below w.heap.size w wr) (fun i _ => xs.length - (intOf i).toNat)
    case atStart => exact ⟨0, Nat.zero_le _, rfl, fun i hi => by omega, Below.refl _ _⟩
    case round =>
      obtain ⟨k, hk, rfl, hM, hbel⟩ := hrel
      by_cases hlt : k < xs.length
      · obtain ⟨b, o, y, rfl, _, hyk, hc⟩ := (Ivs.below H.out hbel).at_ hlt
        obtain ⟨c0, _⟩ := hc
        obtain ⟨b', o', z, rfl, _, hzk, hc'⟩ := (Ivs.below H'.out hbel).at_ (by omega : k < ys.length)
        obtain ⟨d0, _⟩ := hc'
        have HY := Lib.hid hyk
        have HZ := Lib.hid hzk
        have HB := Lib.hid hbel
        have hli : (k : Int) < (xs.length : Int) := by omega
        have hly : (k : Int) < (ys.length : Int) := by omega
        clear hyk hbel hzk
        by_cases h0 : y.n = z.n
        · have e0 : (y.n == z.n) = true := by rw [h0, beq_iff_eq]
          have e1 : (y.n != z.n) = false := by rw [h0, bne_eq_false_iff_eq]
          have HE : Hid (y = z) := Lib.hid (by cases y; cases z; simp_all)
          clear h0
          go_wp2_with fail
          go_quiet (fail)
          go_wp2_with fail
          go_roundw
          case rel => exact ⟨k + 1, by omega, by go_num, fun i hi => by
            by_cases e : i = k
            · rw [e, HY.out, HZ.out, HE.out]
            · exact hM.out i (by omega), belowA HB.out _⟩
          case measure => simp [intOf]; omega
        · have e0 : (y.n == z.n) = false := beq_eq_false_iff_ne.mpr h0
          have e1 : (y.n != z.n) = true := bne_iff_ne.mpr h0
          have HN : Hid (¬ xs = ys) := Lib.hid (fun e => by
            have e2 := HY.out
            rw [e, HZ.out] at e2
            cases e2
            exact h0 rfl)
          clear h0
          go_wp2_with fail
          go_quiet (fail)
          go_wp2_with fail
          go_ret
          exact ⟨false, rfl, iffA_F HN.out, belowA HB.out _⟩
      · have hk' : k = xs.length := by omega
        have HB := Lib.hid hbel
        have HE : Hid (xs = ys) := Lib.hid (Ivs_ext hl (hk' ▸ hM.out))
        clear hbel
        go_wp2_with fail
        go_ret
        exact ⟨true, rfl, iffA_T HE.out, HB.out⟩
  · have HN : Hid (¬ xs = ys) := Lib.hid (fun e => hl (congrArg List.length e))
    have hl' : ((xs.length : Int) == (ys.length : Int)) = false := by rw [beq_eq_false_iff_ne]; omega
    have hl2 : ((xs.length : Int) != (ys.length : Int)) = true := by rw [bne_iff_ne]; omega
    have hl3 : ¬ (xs.length : Int) = (ys.length : Int) := by omega
    clear hl
    go_enter Try.func31, Try.ntmps31
    go_wp2_with fail
    go_ret
    exact ⟨false, rfl, iffA_F HN.out, Below.refl _ _⟩

set_option maxHeartbeats 2000000 in
set_option maxRecDepth 100000 in
theorem l00Same_any (xs ys : List Iv) (hx : xs.length ≤ 1048576) (A B : Option Addr) (ca cb lo lo' : Nat) (w : World) (h : Ivs w lo xs A) (h' : Ivs w lo' ys B) :
    Calls Try.prog 26 #[.slice A xs.length ca, .slice B ys.length cb] w (SaysA (xs = ys) w) := by
  have H := Lib.hid h
  have H' := Lib.hid h'
  clear h h'
  by_cases hl : xs.length = ys.length
  · rw [← hl]
    go_enter Try.func26, Try.ntmps26
    go_wp2_with fail
    go_loopw [5] (fun i wr => ∃ k : Nat, k ≤ xs.length ∧ i = .int .i64 k ∧ Hid (∀ i, i < k → xs[i]? = ys[i]?) ∧ Below w.heap.size w wr) (fun i _ => xs.length - (intOf i).toNat)
    case atStart => exact ⟨0, Nat.zero_le _, rfl, fun i hi => by omega, Below.refl _ _⟩
    case round =>
      obtain ⟨k, hk, rfl, hM, hbel⟩ := hrel
      by_cases hlt : k < xs.length
      · obtain ⟨b, o, y, rfl, _, hyk, hc⟩ := (Ivs.below H.out hbel).at_ hlt
        obtain ⟨c0, _⟩ := hc
        obtain ⟨b', o', z, rfl, _, hzk, hc'⟩ := (Ivs.below H'.out hbel).at_ (by omega : k < ys.length)
        obtain ⟨d0, _⟩ := hc'
        have HY := Lib.hid hyk
        have HZ := Lib.hid hzk
        have HB := Lib.hid hbel
        have hli : (k : Int) < (xs.length : Int) := by omega
        have hly : (k : Int) < (ys.length : Int) := by omega
        clear hyk hbel hzk
        by_cases h0 : y.n = z.n
        · have e0 : (y.n == z.n) = true := by rw [h0, beq_iff_eq]
          have e1 : (y.n != z.n) = false := by rw [h0, bne_eq_false_iff_eq]
          have HE : Hid (y = z) := Lib.hid (by cases y; cases z; simp_all)
          clear h0
          go_wp2_with fail
          go_quiet (fail)
          go_wp2_with fail
          go_roundw
          case rel => exact ⟨k + 1, by omega, by go_num, fun i hi => by
            by_cases e : i = k
            · rw [e, HY.out, HZ.out, HE.out]
            · exact hM.out i (by omega), belowA HB.out _⟩
          case measure => simp [intOf]; omega
        · have e0 : (y.n == z.n) = false := beq_eq_false_iff_ne.mpr h0
          have e1 : (y.n != z.n) = true := bne_iff_ne.mpr h0
          have HN : Hid (¬ xs = ys) := Lib.hid (fun e => by
            have e2 := HY.out
            rw [e, HZ.out] at e2
            cases e2
            exact h0 rfl)
          clear h0
          go_wp2_with fail
          go_quiet (fail)
          go_wp2_with fail
          go_ret
          exact ⟨false, rfl, iffA_F HN.out, belowA HB.out _⟩
      · have hk' : k = xs.length := by omega
        have HB := Lib.hid hbel
        have HE : Hid (xs = ys) := Lib.hid (Ivs_ext hl (hk' ▸ hM.out))
        clear hbel
        go_wp2_with fail
        go_ret
        exact ⟨true, rfl, iffA_T HE.out, HB.out⟩
  · have HN : Hid (¬ xs = ys) := Lib.hid (fun e => hl (congrArg List.length e))
    have hl' : ((xs.length : Int) == (ys.length : Int)) = false := by rw [beq_eq_false_iff_ne]; omega
    have hl2 : ((xs.length : Int) != (ys.length : Int)) = true := by rw [bne_iff_ne]; omega
    have hl3 : ¬ (xs.length : Int) = (ys.length : Int) := by omega
    clear hl
    go_enter Try.func26, Try.ntmps26
    go_wp2_with fail
    go_ret
    exact ⟨false, rfl, iffA_F HN.out, Below.refl _ _⟩

end Go.Proofs.Ytbjcldekapipaaa
