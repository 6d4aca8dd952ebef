/-
  Frames compared: impl.sameFrame, and rows of them by slices.EqualFunc.
-/
import Derived.Test.YtbjcldekapipaaaSameMaR
namespace Go.Proofs.Ytbjcldekapipaaa
open Go.ChangeShapes Go.WideShapes Go.ChangeAt Go.RowKit Go.Deep

set_option maxHeartbeats 2000000 in
set_option maxRecDepth 100000 in
theorem implSameFrame_any (T : Prop) (c1 c2 p1 p2 b1 b2 : Int) (l1 l2 : List Iv) (hx : l1.length ≤ 1048576) (R : Option Addr) (cc : Nat) (R' : Option Addr) (cc' : Nat) (lo lo' : Nat) (w : World) (h : Ivs w lo l1 R) (h' : Ivs w lo' l2 R') (hT : T ↔ (c1 = c2 ∧ p1 = p2 ∧ b1 = b2 ∧ l1 = l2)) :
    Calls Try.prog 30 #[.agg #[.int .i64 c1, .int .i64 p1, .int .i64 b1, .slice R l1.length cc], .agg #[.int .i64 c2, .int .i64 p2, .int .i64 b2, .slice R' l2.length cc']] w (SaysA T w) := by
  have CE := Lib.hid (fun W (a : Ivs W lo l1 R) (b : Ivs W lo' l2 R') => equalIvs_any l1 l2 hx R R' cc cc' lo lo' W a b)
  have H := Lib.hid h
  have H' := Lib.hid h'
  clear h h' hx
  by_cases hc : c1 = c2
  · subst hc
    by_cases hp : p1 = p2
    · subst hp
      by_cases hb : b1 = b2
      · subst hb
        have HT : Hid (T ↔ l1 = l2) := Lib.hid (by rw [hT]; simp)
        clear hT
        go_enter Try.func30, Try.ntmps30
        go_wp2_with fail
        go_at_call 31
        refine (CE.out _ (Ivs.below H.out (below2 _ _ _)) (Ivs.below H'.out (below2 _ _ _))).mono ?_
        rintro e w2 ⟨v, rfl, hv, hb2⟩
        have HV := Lib.hid hv
        have HB2 := Lib.hid (bnext (below2 _ _ _) hb2)
        clear hv hb2
        go_wp2_with fail
        go_ret
        exact ⟨v, rfl, ⟨fun j => HT.out.mpr (HV.out.mp j), fun j => HV.out.mpr (HT.out.mp j)⟩, HB2.out⟩
      · have e0 : (b1 == b2) = false := beq_eq_false_iff_ne.mpr hb
        have HF : Hid (¬ T) := Lib.hid (fun h0 => hb (hT.mp h0).2.2.1)
        clear hb hT
        go_enter Try.func30, Try.ntmps30
        go_wp2_with fail
        go_ret
        exact ⟨false, rfl, iffA_F HF.out, below2 _ _ _⟩
    · have e0 : (p1 == p2) = false := beq_eq_false_iff_ne.mpr hp
      have HF : Hid (¬ T) := Lib.hid (fun h0 => hp (hT.mp h0).2.1)
      clear hp hT
      go_enter Try.func30, Try.ntmps30
      go_wp2_with fail
      go_ret
      exact ⟨false, rfl, iffA_F HF.out, below2 _ _ _⟩
  · have e0 : (c1 == c2) = false := beq_eq_false_iff_ne.mpr hc
    have HF : Hid (¬ T) := Lib.hid (fun h0 => hc (hT.mp h0).1)
    clear hc hT
    go_enter Try.func30, Try.ntmps30
    go_wp2_with fail
    go_ret
    exact ⟨false, rfl, iffA_F HF.out, below2 _ _ _⟩

theorem Fr.ext_iff' (x y : Fr) : x = y ↔ (x.core = y.core ∧ x.pc = y.pc ∧ x.base = y.base ∧ x.locals = y.locals) := by
  cases x
  cases y
  simp
theorem implSameFr_any (x y : Fr) (hx : x.wt ≤ 1048576) (R : Option Addr) (cc : Nat) (R' : Option Addr) (cc' : Nat) (lo lo' : Nat) (w : World) (h : Fr.At w lo x R) (h' : Fr.At w lo' y R') :
    Calls Try.prog 30 #[.agg #[.int .i64 x.core, .int .i64 x.pc, .int .i64 x.base, .slice R x.locals.length cc], .agg #[.int .i64 y.core, .int .i64 y.pc, .int .i64 y.base, .slice R' y.locals.length cc']] w (SaysA (x = y) w) := by
  obtain ⟨q_locals, _⟩ := Fr.parts_le hx
  have := Iv.wts_nonneg x.locals
  exact implSameFrame_any (x = y) x.core y.core x.pc y.pc x.base y.base x.locals y.locals (by omega) R cc R' cc' lo lo' w h h' (Fr.ext_iff' x y)
theorem Frs_ext {xs ys : List Fr} (hl : xs.length = ys.length) (h : ∀ i, i < xs.length → xs[i]? = ys[i]?) : xs = ys := List.ext_getElem? fun i => by
  by_cases e : i < xs.length
  · exact h i e
  · rw [List.getElem?_eq_none (by omega), List.getElem?_eq_none (by omega)]

set_option maxHeartbeats 1000000 in
theorem eqfFr_any (xs ys : List Fr) (hx : xs.length ≤ 1048576) (hwx : ∀ (i : Nat) (p : Fr), xs[i]? = some p → p.wt ≤ 1048576) (A B : Option Addr) (ca cb lo lo' : Nat) (w : World) (h : Frs w lo xs A) (h' : Frs w lo' ys B) :
    Calls Try.prog 29 #[.slice A xs.length ca, .slice B ys.length cb, .func (.func 30) #[] #[]] w (SaysA (xs = ys) w) := by
  have H := Lib.hid h
  have H' := Lib.hid h'
  have HWX := Lib.hid hwx
  clear h h' hwx
  by_cases hl : xs.length = ys.length
  · rw [← hl]
    have HL := Lib.hid hl
    clear hl
    go_enter Try.func29, Try.ntmps29
    go_wp2_with fail
    go_loopw [17] (fun i wr => ∃ k : Nat, k ≤ xs.length ∧ i = .int .i64 k ∧ Hid (∀ i, i < k → xs[i]? = ys[i]?) ∧ Below w.heap.size w wr) (fun i _ => xs.length - (intOf i).toNat)
    case atStart => exact ⟨0, Nat.zero_le _, rfl, (fun i hi => by omega), Below.refl _ _⟩
    case round =>
      obtain ⟨k, hk, rfl, hno, hbel⟩ := hrel
      by_cases hlt : k < xs.length
      · obtain ⟨b, o, p, R1, cc1, rfl, _, hpk, hc⟩ := (Frs.below H.out hbel).at_ hlt
        obtain ⟨b', o', q, R2, cc2, rfl, _, hqk, hd⟩ := (Frs.below H'.out hbel).at_ (k := k) (by have := HL.out; omega)
        have CS := (fun W x y => implSameFr_any p q (HWX.out k p hpk) R1 cc1 R2 cc2 lo lo' W x y)
        have HA1 := Lib.hid hc.at_
        have HA2 := Lib.hid hd.at_
        have hz1 : b < wr.heap.size := World.block_lt_of_cell? wr _ hc.c0_
        have hz2 : b' < wr.heap.size := World.block_lt_of_cell? wr _ hd.c0_
        obtain ⟨c0, c1, c2, c3, _⟩ := hc
        obtain ⟨d0, d1, d2, d3, _⟩ := hd
        have HP := Lib.hid hpk
        have HQ := Lib.hid hqk
        have HB := Lib.hid hbel
        have hli : (k : Int) < (xs.length : Int) := by omega
        clear hpk hqk hbel
        by_cases hs : p = q
        · have C := Lib.hid (fun W x y => (CS W x y).mono fun _ _ j => j.yes hs)
          have HS := Lib.hid hs
          clear hs CS
          go_wp2_with fail
          go_at_call 30
          refine (C.out _ (Fr.At.below HA1.out (below2 _ _ _)) (Fr.At.below HA2.out (below2 _ _ _))).mono ?_
          rintro e w2 ⟨rfl, hb2⟩
          have HB2 := Lib.hid (bnext HB.out (bnext (below2 _ _ _) hb2))
          clear hb2
          go_wp2_with fail
          go_roundw
          case rel => exact ⟨k + 1, by omega, by go_num, fun i hi => by
            by_cases e : i = k
            · rw [e, HP.out, HQ.out, HS.out]
            · exact hno.out i (by omega), HB2.out⟩
          case measure => simp [intOf]; omega
        · have C := Lib.hid (fun W x y => (CS W x y).mono fun _ _ j => j.no hs)
          have HN : Hid (¬ xs = ys) := Lib.hid (fun e => by
            have e2 := HP.out
            rw [e, HQ.out] at e2
            exact hs (Option.some.inj e2).symm)
          clear hs CS
          go_wp2_with fail
          go_at_call 30
          refine (C.out _ (Fr.At.below HA1.out (below2 _ _ _)) (Fr.At.below HA2.out (below2 _ _ _))).mono ?_
          rintro e w2 ⟨rfl, hb2⟩
          have HB2 := Lib.hid (bnext HB.out (bnext (below2 _ _ _) hb2))
          clear hb2
          go_wp2_with fail
          go_ret
          exact ⟨false, rfl, iffA_F HN.out, HB2.out⟩
      · have hk' : k = xs.length := by omega
        have HALL : Hid (xs = ys) := Lib.hid (Frs_ext HL.out (hk' ▸ hno.out))
        have HB := Lib.hid hbel
        clear hbel
        go_wp2
        go_ret
        exact ⟨true, rfl, iffA_T HALL.out, HB.out⟩
  · have hl2 : ((xs.length : Int) == (ys.length : Int)) = false := by rw [beq_eq_false_iff_ne]; omega
    have HL := Lib.hid hl
    clear hl
    go_enter Try.func29, Try.ntmps29
    go_wp2_with fail
    go_ret
    exact ⟨false, rfl, iffA_F (fun h => HL.out (congrArg List.length h)), Below.refl _ _⟩

end Go.Proofs.Ytbjcldekapipaaa
