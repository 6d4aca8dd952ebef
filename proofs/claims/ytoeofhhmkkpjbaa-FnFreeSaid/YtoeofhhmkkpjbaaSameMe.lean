/-
  The walks of both SameMemory.
-/
import Derived.Test.YtoeofhhmkkpjbaaStWMe
namespace Go.Proofs.Ytoeofhhmkkpjbaa
open Go.ChangeShapes Go.WideShapes Go.ChangeAt Go.RowKit Go.Deep

theorem text_ne {a b : ByteArray} (h : a ≠ b) : (a.toList == b.toList) = false := by
  rw [beq_eq_false_iff_ne]
  intro e
  apply h
  apply ByteArray.ext
  apply Array.toList_inj.mp
  rw [← ByteArray.toList_eq, ← ByteArray.toList_eq]
  exact e
theorem iffT {p : Prop} (h : p) : true = true ↔ p := ⟨fun _ => h, fun _ => rfl⟩
theorem iffF {p : Prop} (h : ¬ p) : false = true ↔ p := ⟨(by intro e; cases e), fun e => absurd e h⟩
/-- The call answers whether p. -/
def SaysB (p : Prop) (w : World) (e : Ending) (w' : World) : Prop := ∃ v : Bool, e = .returned (.bool v) ∧ (v = true ↔ p) ∧ Below w.heap.size w w'
def SameMe (x y : Me) : Prop := x.bytes = y.bytes ∧ x.free = y.free
theorem bk_eq {a b : Bk} (h1 : a.pos = b.pos) (h2 : a.size = b.size) : a = b := by
  cases a
  cases b
  simp_all
theorem bks_eq {xs ys : List Bk} (hl : xs.length = ys.length) (h : ∀ i, i < xs.length → xs[i]? = ys[i]?) : xs = ys := List.ext_getElem? fun i => by
  by_cases e : i < xs.length
  · exact h i e
  · rw [List.getElem?_eq_none (by omega), List.getElem?_eq_none (by omega)]

set_option maxHeartbeats 1000000 in
set_option maxRecDepth 100000 in
theorem equalBks_any (xs ys : List Bk) (hx : xs.length ≤ 1048576) (A B : Option Addr) (ca cb lo lo' : Nat) (w : World) (h : Bks w lo xs A) (h' : Bks w lo' ys B) :
    Calls Try.prog 45 #[.slice A xs.length ca, .slice B ys.length cb] w fun e w' => ∃ v, e = .returned (.bool v) ∧ (v = true ↔ xs = ys) ∧ Below w.heap.size w w' := by
  have H := Lib.hid h
  have H' := Lib.hid h'
  clear h h'
  by_cases hl : xs.length = ys.length
  · rw [← hl]
    go_enter Try.func45, Try.ntmps45
    go_wp2_with fail
    go_loopw [13] (fun i wr => ∃ k : Nat, k ≤ xs.length ∧ i = .int .i64 k ∧ Hid (∀ i, i < k → xs[i]? = ys[i]?) ∧ Below w.heap.size w wr) (fun i _ => xs.length - (intOf i).toNat)
    case atStart => exact ⟨0, Nat.zero_le _, rfl, fun i hi => by omega, Below.refl _ _⟩
    case round =>
      obtain ⟨k, hk, rfl, hM, hbel⟩ := hrel
      by_cases hlt : k < xs.length
      · obtain ⟨b, o, y, rfl, _, hyk, hc⟩ := (Bks.below H.out hbel).at_ hlt
        obtain ⟨c0, c1, _⟩ := hc
        obtain ⟨b', o', z, rfl, _, hzk, hc'⟩ := (Bks.below H'.out hbel).at_ (by omega : k < ys.length)
        obtain ⟨d0, d1, _⟩ := hc'
        have HY := Lib.hid hyk
        have HZ := Lib.hid hzk
        have HB := Lib.hid hbel
        have hli : (k : Int) < (xs.length : Int) := by omega
        have hly : (k : Int) < (ys.length : Int) := by omega
        clear hyk hbel hzk
        by_cases h1 : y.pos = z.pos
        · by_cases h2 : y.size = z.size
          · have HE := Lib.hid (bk_eq h1 h2)
            go_wp2_with fail
            go_quiet (fail)
            go_wp2_with fail
            go_roundw
            case rel => exact ⟨k + 1, by omega, by go_num, fun i hi => by
              by_cases e : i = k
              · rw [e, HY.out, HZ.out, HE.out]
              · exact hM.out i (by omega), belowN HB.out _⟩
            case measure => simp [intOf]; omega
          · have HN : Hid (¬ xs = ys) := Lib.hid (fun e => by
              have e2 := HY.out
              rw [e, HZ.out] at e2
              cases e2
              exact h2 rfl)
            go_wp2_with fail
            go_quiet (fail)
            go_wp2_with fail
            go_ret
            exact ⟨false, rfl, iffF HN.out, belowN HB.out _⟩
        · have HN : Hid (¬ xs = ys) := Lib.hid (fun e => by
            have e2 := HY.out
            rw [e, HZ.out] at e2
            cases e2
            exact h1 rfl)
          go_wp2_with fail
          go_quiet (fail)
          go_wp2_with fail
          go_ret
          exact ⟨false, rfl, iffF HN.out, belowN HB.out _⟩
      · have hk' : k = xs.length := by omega
        have HB := Lib.hid hbel
        have HE : Hid (xs = ys) := Lib.hid (bks_eq hl (hk' ▸ hM.out))
        clear hbel
        go_wp2_with fail
        go_ret
        exact ⟨true, rfl, iffT HE.out, HB.out⟩
  · have HN : Hid (¬ xs = ys) := Lib.hid (fun e => hl (congrArg List.length e))
    have hl' : ¬ (xs.length : Int) = (ys.length : Int) := by omega
    clear hl
    go_enter Try.func45, Try.ntmps45
    go_wp2_with fail
    go_ret
    exact ⟨false, rfl, iffF HN.out, Below.refl _ _⟩

/-- The contract's words. -/
theorem implSameMemory_any (x y : Me) (hx : x.wt ≤ 1048576) (Rfree : Option Addr) (cfree : Nat) (Rfree' : Option Addr) (cfree' : Nat) (lo lo' : Nat) (w : World) (h : Me.At w lo x Rfree) (h' : Me.At w lo' y Rfree') :
    Calls Try.prog 16 #[.agg #[.string x.bytes, .slice Rfree x.free.length cfree], .agg #[.string y.bytes, .slice Rfree' y.free.length cfree']] w (SaysB (SameMe x y) w) := by
  obtain ⟨q_bytes, q_free, _⟩ := Me.parts_le hx
  rw [Bk.wts_zero] at q_free
  have CE := Lib.hid (fun W (a : Me.At W lo x Rfree) (b : Me.At W lo' y Rfree') => equalBks_any x.free y.free (by omega) Rfree Rfree' cfree cfree' lo lo' W a b)
  have H := Lib.hid h
  have H' := Lib.hid h'
  clear h h' hx
  by_cases hs : x.bytes = y.bytes
  · have e0 : (x.bytes.toList == y.bytes.toList) = true := by rw [hs, beq_iff_eq]
    have HS := Lib.hid hs
    clear hs
    go_enter Try.func16, Try.ntmps16
    go_wp2_with fail
    go_at_call 45
    refine (CE.out _ (Me.At.below H.out (below2 _ _ _)) (Me.At.below H'.out (below2 _ _ _))).mono ?_
    rintro e w2 ⟨v, rfl, hv, hb2⟩
    have HV := Lib.hid hv
    have HB2 := Lib.hid (bnext (below2 _ _ _) hb2)
    clear hv hb2
    go_wp2_with fail
    go_ret
    exact ⟨v, rfl, ⟨fun j => ⟨HS.out, HV.out.mp j⟩, fun j => HV.out.mpr j.2⟩, HB2.out⟩
  · have e0 := text_ne hs
    have HF := Lib.hid (fun h : SameMe x y => hs h.1)
    clear hs CE
    go_enter Try.func16, Try.ntmps16
    go_wp2_with fail
    go_ret
    exact ⟨false, rfl, iffF HF.out, below2 _ _ _⟩

set_option maxHeartbeats 1000000 in
set_option maxRecDepth 100000 in
theorem specSameMemory_any (x y : Me) (hx : x.wt ≤ 1048576) (Rfree : Option Addr) (cfree : Nat) (Rfree' : Option Addr) (cfree' : Nat) (lo lo' : Nat) (w : World) (h : Me.At w lo x Rfree) (h' : Me.At w lo' y Rfree') :
    Calls Try.prog 17 #[.agg #[.string x.bytes, .slice Rfree x.free.length cfree], .agg #[.string y.bytes, .slice Rfree' y.free.length cfree']] w (SaysB (SameMe x y) w) := by
  obtain ⟨q_bytes, q_free, _⟩ := Me.parts_le hx
  rw [Bk.wts_zero] at q_free
  have H := Lib.hid h
  have H' := Lib.hid h'
  clear h h' hx
  by_cases hs : x.bytes = y.bytes
  · have e0 : (x.bytes.toList == y.bytes.toList) = true := by rw [hs, beq_iff_eq]
    have HS := Lib.hid hs
    clear hs
    by_cases hl : x.free.length = y.free.length
    · have HL := Lib.hid hl
      go_enter Try.func17, Try.ntmps17
      go_wp2_with fail
      go_loopw [5] (fun i wr => ∃ k : Nat, k ≤ x.free.length ∧ i = .int .i64 k ∧ Hid (∀ i, i < k → x.free[i]? = y.free[i]?) ∧ wr.cell? ⟨w.heap.size, 1, none⟩ = some (.slice Rfree x.free.length cfree) ∧ wr.cell? ⟨w.heap.size + 1, 1, none⟩ = some (.slice Rfree' y.free.length cfree') ∧ Below w.heap.size w wr) (fun i _ => x.free.length - (intOf i).toNat)
      case atStart => exact ⟨0, Nat.zero_le _, rfl, fun i hi => by omega, by go_simp, by go_simp, below2 _ _ _⟩
      case round =>
        obtain ⟨k, hk, rfl, hM, kc, kd, hbel⟩ := hrel
        by_cases hlt : k < x.free.length
        · obtain ⟨b, o, p, rfl, _, hyk, hc⟩ := (Me.At.below H.out hbel).at_ hlt
          obtain ⟨c0, c1, _⟩ := hc
          obtain ⟨b', o', z, rfl, _, hzk, hc'⟩ := (Me.At.below H'.out hbel).at_ (by omega : k < y.free.length)
          obtain ⟨d0, d1, _⟩ := hc'
          have HY := Lib.hid hyk
          have HZ := Lib.hid hzk
          have HB := Lib.hid hbel
          have hli : (k : Int) < (x.free.length : Int) := by omega
          have hly : (k : Int) < (y.free.length : Int) := by omega
          clear hyk hbel hzk
          by_cases h1 : p.pos = z.pos
          · by_cases h2 : p.size = z.size
            · have HE := Lib.hid (bk_eq h1 h2)
              go_wp2_with fail
              go_quiet (fail)
              go_wp2_with fail
              go_roundw
              case rel => exact ⟨k + 1, by omega, by go_num, fun i hi => by
                by_cases e : i = k
                · rw [e, HY.out, HZ.out, HE.out]
                · exact hM.out i (by omega), kc, kd, belowN HB.out _⟩
              case measure => simp [intOf]; omega
            · have HN : Hid (¬ SameMe x y) := Lib.hid (fun e => by
                have e2 := HY.out
                rw [e.2, HZ.out] at e2
                cases e2
                exact h2 rfl)
              go_wp2_with fail
              go_quiet (fail)
              go_wp2_with fail
              go_ret
              exact ⟨false, rfl, iffF HN.out, belowN HB.out _⟩
          · have HN : Hid (¬ SameMe x y) := Lib.hid (fun e => by
              have e2 := HY.out
              rw [e.2, HZ.out] at e2
              cases e2
              exact h1 rfl)
            go_wp2_with fail
            go_quiet (fail)
            go_wp2_with fail
            go_ret
            exact ⟨false, rfl, iffF HN.out, belowN HB.out _⟩
        · have hk' : k = x.free.length := by omega
          have HB := Lib.hid hbel
          have HE : Hid (SameMe x y) := Lib.hid ⟨HS.out, bks_eq hl (hk' ▸ hM.out)⟩
          have hly : (k : Int) = (y.free.length : Int) := by omega
          clear hbel
          go_wp2_with fail
          go_ret
          exact ⟨true, rfl, iffT HE.out, HB.out⟩
    · have HN : Hid (¬ SameMe x y) := Lib.hid (fun e => hl (congrArg List.length e.2))
      have hl' : ¬ (x.free.length : Int) = (y.free.length : Int) := by omega
      clear hl
      go_enter Try.func17, Try.ntmps17
      go_wp2_with fail
      go_ret
      exact ⟨false, rfl, iffF HN.out, below2 _ _ _⟩
  · have e0 := text_ne hs
    have HF := Lib.hid (fun h : SameMe x y => hs h.1)
    clear hs
    go_enter Try.func17, Try.ntmps17
    go_wp2_with fail
    go_ret
    exact ⟨false, rfl, iffF HF.out, below2 _ _ _⟩
end Go.Proofs.Ytoeofhhmkkpjbaa
