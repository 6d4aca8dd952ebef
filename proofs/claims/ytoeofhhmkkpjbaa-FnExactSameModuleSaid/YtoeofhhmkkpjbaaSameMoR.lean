/-
  The walks of both SameModule: the rows compared by slices.Equal.
-/
import Derived.Test.YtoeofhhmkkpjbaaStWMo
namespace Go.Proofs.Ytoeofhhmkkpjbaa
open Go.ChangeShapes Go.WideShapes Go.ChangeAt Go.RowKit Go.Deep

theorem text_neM {a b : ByteArray} (h : a ≠ b) : (a.toList == b.toList) = false := by
  rw [beq_eq_false_iff_ne]
  intro e
  apply h
  apply ByteArray.ext
  apply Array.toList_inj.mp
  rw [← ByteArray.toList_eq, ← ByteArray.toList_eq]
  exact e
theorem iffM_T {p : Prop} (h : p) : true = true ↔ p := ⟨fun _ => h, fun _ => rfl⟩
theorem iffM_F {p : Prop} (h : ¬ p) : false = true ↔ p := ⟨(by intro e; cases e), fun e => absurd e h⟩
/-- The call answers whether p. -/
def SaysM (p : Prop) (w : World) (e : Ending) (w' : World) : Prop := ∃ v : Bool, e = .returned (.bool v) ∧ (v = true ↔ p) ∧ Below w.heap.size w w'
theorem SaysM.yes {p : Prop} {w : World} {e : Ending} {w' : World} (h : SaysM p w e w') (hp : p) : e = .returned (.bool true) ∧ Below w.heap.size w w' := by
  obtain ⟨v, rfl, hv, hb⟩ := h
  exact ⟨by rw [hv.mpr hp], hb⟩
theorem SaysM.no {p : Prop} {w : World} {e : Ending} {w' : World} (h : SaysM p w e w') (hp : ¬ p) : e = .returned (.bool false) ∧ Below w.heap.size w w' := by
  obtain ⟨v, rfl, hv, hb⟩ := h
  cases v with
  | false => exact ⟨rfl, hb⟩
  | true => exact absurd (hv.mp rfl) hp

theorem Ins_ext {xs ys : List In} (hl : xs.length = ys.length) (h : ∀ i, i < xs.length → xs[i]? = ys[i]?) : xs = ys := List.ext_getElem? fun i => by
  by_cases e : i < xs.length
  · exact h i e
  · rw [List.getElem?_eq_none (by omega), List.getElem?_eq_none (by omega)]
set_option maxHeartbeats 2000000 in
set_option maxRecDepth 100000 in
theorem equalIns_any (xs ys : List In) (hx : xs.length ≤ 1048576) (A B : Option Addr) (ca cb lo lo' : Nat) (w : World) (h : Ins w lo xs A) (h' : Ins w lo' ys B) :
    Calls Try.prog 58 #[.slice A xs.length ca, .slice B ys.length cb] w (SaysM (xs = ys) w) := by
  have H := Lib.hid h
  have H' := Lib.hid h'
  clear h h'
  by_cases hl : xs.length = ys.length
  · rw [← hl]
    go_enter Try.func58, Try.ntmps58
    go_wp2_with fail
    go_loopw [13] (fun i wr => ∃ k : Nat, k ≤ xs.length ∧ i = .int .i64 k ∧ Hid (∀ i, i < k → xs[i]? = ys[i]?) ∧ Below w.heap.size w wr) (fun i _ => xs.length - (intOf i).toNat)
    case atStart => exact ⟨0, Nat.zero_le _, rfl, fun i hi => by omega, Below.refl _ _⟩
    case round =>
      obtain ⟨k, hk, rfl, hM, hbel⟩ := hrel
      by_cases hlt : k < xs.length
      · obtain ⟨b, o, y, rfl, _, hyk, hc⟩ := (Ins.below H.out hbel).at_ hlt
        obtain ⟨c0, c1, _⟩ := hc
        obtain ⟨b', o', z, rfl, _, hzk, hc'⟩ := (Ins.below H'.out hbel).at_ (by omega : k < ys.length)
        obtain ⟨d0, d1, _⟩ := hc'
        have HY := Lib.hid hyk
        have HZ := Lib.hid hzk
        have HB := Lib.hid hbel
        have hli : (k : Int) < (xs.length : Int) := by omega
        have hly : (k : Int) < (ys.length : Int) := by omega
        clear hyk hbel hzk
        by_cases h0 : y.op = z.op
        · have e0 : (y.op == z.op) = true := by rw [h0, beq_iff_eq]
          by_cases h1 : y.a = z.a
          · have e1 : (y.a == z.a) = true := by rw [h1, beq_iff_eq]
            have HE : Hid (y = z) := Lib.hid (by cases y; cases z; simp_all)
            clear h0 h1
            go_wp2_with fail
            go_quiet (fail)
            go_wp2_with fail
            go_roundw
            case rel => exact ⟨k + 1, by omega, by go_num, fun i hi => by
              by_cases e : i = k
              · rw [e, HY.out, HZ.out, HE.out]
              · exact hM.out i (by omega), belowN HB.out _⟩
            case measure => simp [intOf]; omega
          · have e1 : (y.a == z.a) = false := beq_eq_false_iff_ne.mpr h1
            have HN : Hid (¬ xs = ys) := Lib.hid (fun e => by
              have e2 := HY.out
              rw [e, HZ.out] at e2
              cases e2
              exact h1 rfl)
            clear h0 h1
            go_wp2_with fail
            go_quiet (fail)
            go_wp2_with fail
            go_ret
            exact ⟨false, rfl, iffM_F HN.out, belowN HB.out _⟩
        · have e0 : (y.op == z.op) = false := beq_eq_false_iff_ne.mpr h0
          have HN : Hid (¬ xs = ys) := Lib.hid (fun e => by
            have e2 := HY.out
            rw [e, HZ.out] at e2
            cases e2
            exact h0 rfl)
          clear h0
          go_wp2_with fail
          go_quiet (fail)
          go_wp2_with fail
          go_ret
          exact ⟨false, rfl, iffM_F HN.out, belowN HB.out _⟩
      · have hk' : k = xs.length := by omega
        have HB := Lib.hid hbel
        have HE : Hid (xs = ys) := Lib.hid (Ins_ext hl (hk' ▸ hM.out))
        clear hbel
        go_wp2_with fail
        go_ret
        exact ⟨true, rfl, iffM_T HE.out, HB.out⟩
  · have HN : Hid (¬ xs = ys) := Lib.hid (fun e => hl (congrArg List.length e))
    have hl' : ¬ (xs.length : Int) = (ys.length : Int) := by omega
    clear hl
    go_enter Try.func58, Try.ntmps58
    go_wp2_with fail
    go_ret
    exact ⟨false, rfl, iffM_F HN.out, Below.refl _ _⟩

theorem Ims_ext {xs ys : List Im} (hl : xs.length = ys.length) (h : ∀ i, i < xs.length → xs[i]? = ys[i]?) : xs = ys := List.ext_getElem? fun i => by
  by_cases e : i < xs.length
  · exact h i e
  · rw [List.getElem?_eq_none (by omega), List.getElem?_eq_none (by omega)]
set_option maxHeartbeats 2000000 in
set_option maxRecDepth 100000 in
theorem equalIms_any (xs ys : List Im) (hx : xs.length ≤ 1048576) (A B : Option Addr) (ca cb lo lo' : Nat) (w : World) (h : Ims w lo xs A) (h' : Ims w lo' ys B) :
    Calls Try.prog 28 #[.slice A xs.length ca, .slice B ys.length cb] w (SaysM (xs = ys) w) := by
  have H := Lib.hid h
  have H' := Lib.hid h'
  clear h h'
  by_cases hl : xs.length = ys.length
  · rw [← hl]
    go_enter Try.func28, Try.ntmps28
    go_wp2_with fail
    go_loopw [13] (fun i wr => ∃ k : Nat, k ≤ xs.length ∧ i = .int .i64 k ∧ Hid (∀ i, i < k → xs[i]? = ys[i]?) ∧ Below w.heap.size w wr) (fun i _ => xs.length - (intOf i).toNat)
    case atStart => exact ⟨0, Nat.zero_le _, rfl, fun i hi => by omega, Below.refl _ _⟩
    case round =>
      obtain ⟨k, hk, rfl, hM, hbel⟩ := hrel
      by_cases hlt : k < xs.length
      · obtain ⟨b, o, y, rfl, _, hyk, hc⟩ := (Ims.below H.out hbel).at_ hlt
        obtain ⟨c0, c1, c2, _⟩ := hc
        obtain ⟨b', o', z, rfl, _, hzk, hc'⟩ := (Ims.below H'.out hbel).at_ (by omega : k < ys.length)
        obtain ⟨d0, d1, d2, _⟩ := hc'
        have HY := Lib.hid hyk
        have HZ := Lib.hid hzk
        have HB := Lib.hid hbel
        have hli : (k : Int) < (xs.length : Int) := by omega
        have hly : (k : Int) < (ys.length : Int) := by omega
        clear hyk hbel hzk
        by_cases h0 : y.name = z.name
        · have e0 : (y.name.toList == z.name.toList) = true := by rw [h0, beq_iff_eq]
          by_cases h1 : y.params = z.params
          · have e1 : (y.params == z.params) = true := by rw [h1, beq_iff_eq]
            by_cases h2 : y.result = z.result
            · have e2 : (y.result == z.result) = true := by rw [h2, beq_iff_eq]
              have HE : Hid (y = z) := Lib.hid (by cases y; cases z; simp_all)
              clear h0 h1 h2
              go_wp2_with fail
              go_quiet (fail)
              go_wp2_with fail
              go_roundw
              case rel => exact ⟨k + 1, by omega, by go_num, fun i hi => by
                by_cases e : i = k
                · rw [e, HY.out, HZ.out, HE.out]
                · exact hM.out i (by omega), belowN HB.out _⟩
              case measure => simp [intOf]; omega
            · have e2 : (y.result == z.result) = false := beq_eq_false_iff_ne.mpr h2
              have HN : Hid (¬ xs = ys) := Lib.hid (fun e => by
                have e2 := HY.out
                rw [e, HZ.out] at e2
                cases e2
                exact h2 rfl)
              clear h0 h1 h2
              go_wp2_with fail
              go_quiet (fail)
              go_wp2_with fail
              go_ret
              exact ⟨false, rfl, iffM_F HN.out, belowN HB.out _⟩
          · have e1 : (y.params == z.params) = false := beq_eq_false_iff_ne.mpr h1
            have HN : Hid (¬ xs = ys) := Lib.hid (fun e => by
              have e2 := HY.out
              rw [e, HZ.out] at e2
              cases e2
              exact h1 rfl)
            clear h0 h1
            go_wp2_with fail
            go_quiet (fail)
            go_wp2_with fail
            go_ret
            exact ⟨false, rfl, iffM_F HN.out, belowN HB.out _⟩
        · have e0 := text_neM h0
          have HN : Hid (¬ xs = ys) := Lib.hid (fun e => by
            have e2 := HY.out
            rw [e, HZ.out] at e2
            cases e2
            exact h0 rfl)
          clear h0
          go_wp2_with fail
          go_quiet (fail)
          go_wp2_with fail
          go_ret
          exact ⟨false, rfl, iffM_F HN.out, belowN HB.out _⟩
      · have hk' : k = xs.length := by omega
        have HB := Lib.hid hbel
        have HE : Hid (xs = ys) := Lib.hid (Ims_ext hl (hk' ▸ hM.out))
        clear hbel
        go_wp2_with fail
        go_ret
        exact ⟨true, rfl, iffM_T HE.out, HB.out⟩
  · have HN : Hid (¬ xs = ys) := Lib.hid (fun e => hl (congrArg List.length e))
    have hl' : ¬ (xs.length : Int) = (ys.length : Int) := by omega
    clear hl
    go_enter Try.func28, Try.ntmps28
    go_wp2_with fail
    go_ret
    exact ⟨false, rfl, iffM_F HN.out, Below.refl _ _⟩

end Go.Proofs.Ytoeofhhmkkpjbaa
