/-
  The walks of both SameFunc.
-/
import Derived.Test.YtfadodmkppeodaaSamePm
import Derived.Test.YtfadodmkppeodaaStWFn
namespace Go.Proofs.Ytfadodmkppeodaa
open Go.ChangeShapes Go.WideShapes Go.ChangeAt Go.RowKit Go.Deep

/-- Function types that are alike. -/
def SameFn (x y : Fn) : Prop := x.async = y.async ∧ SamePms x.params y.params ∧ SameOk x.res y.res 1

set_option maxHeartbeats 4000000 in
set_option maxRecDepth 100000 in
theorem specSameFunc_any (x y : Fn) (hx : x.wt ≤ 1048576) (hy : y.wt ≤ 1048576) (Rparams : Option Addr) (cparams : Nat) (Ares : Option Addr) (Bres : Option Addr) (cres : Nat) (dres : Nat) (Rparams' : Option Addr) (cparams' : Nat) (Ares' : Option Addr) (Bres' : Option Addr) (cres' : Nat) (dres' : Nat) (lo lo' : Nat) (w : World) (h : Fn.At w lo x Rparams Ares Bres) (h' : Fn.At w lo' y Rparams' Ares' Bres') :
    Calls Try.prog 29 #[.agg #[.slice Rparams x.params.length cparams, .int .i64 x.res.kind, .string x.res.name, .slice Ares x.res.labels.length cres, .slice Bres x.res.kids.length dres, .bool x.async], .agg #[.slice Rparams' y.params.length cparams', .int .i64 y.res.kind, .string y.res.name, .slice Ares' y.res.labels.length cres', .slice Bres' y.res.kids.length dres', .bool y.async]] w (SaysB (SameFn x y) w) := by
  have hwx : ∀ (i : Nat) (p : Pm), x.params[i]? = some p → p.wt ≤ 1048576 := fun i p hp => by have := Pm.wt_mem hp; have := x.res.wt_nonneg; unfold Fn.wt at hx; omega
  have hwy : ∀ (i : Nat) (p : Pm), y.params[i]? = some p → p.wt ≤ 1048576 := fun i p hp => by have := Pm.wt_mem hp; have := y.res.wt_nonneg; unfold Fn.wt at hy; omega
  have hlx : x.params.length ≤ 1048576 := by have := Pm.wts_nonneg x.params; have := x.res.wt_nonneg; unfold Fn.wt at hx; omega
  have hrx : x.res.wt ≤ 1048576 := by have := Pm.wts_nonneg x.params; unfold Fn.wt at hx; omega
  have hry : y.res.wt ≤ 1048576 := by have := Pm.wts_nonneg y.params; unfold Fn.wt at hy; omega
  have CR := (fun W (a : Ty.Ao W lo x.res Ares Bres) (b : Ty.Ao W lo' y.res Ares' Bres') => specSameType_any x.res y.res hrx hry Ares Bres Ares' Bres' cres dres cres' dres' lo lo' W a.1 b.1)
  have HWX := Lib.hid hwx
  have HWY := Lib.hid hwy
  have HPX := Lib.hid h.1
  have HPY := Lib.hid h'.1
  have HRX := Lib.hid h.2
  have HRY := Lib.hid h'.2
  clear hwx hwy h h' hx hy hrx hry
  by_cases hl : ¬ x.params.length = y.params.length
  · have e1 : ((x.params.length : Int) == (y.params.length : Int)) = false := by rw [beq_eq_false_iff_ne]; omega
    have e1' : ((x.params.length : Int) != (y.params.length : Int)) = true := by rw [bne_iff_ne]; omega
    have HF := Lib.hid (fun h : SameFn x y => hl h.2.1.1)
    clear CR
    go_enter Try.func29, Try.ntmps29
    go_wp2_with fail
    go_ret
    exact ⟨false, rfl, iffF HF.out, below2 _ _ _⟩
  replace hl := Classical.not_not.mp hl
  rw [← hl]
  have HL := Lib.hid hl
  clear hl
  by_cases ha : ¬ x.async = y.async
  · have e1 : (x.async == y.async) = false := by rw [beq_eq_false_iff_ne]; exact ha
    have e1' : (x.async != y.async) = true := by rw [bne_iff_ne]; exact ha
    have HF := Lib.hid (fun h : SameFn x y => ha h.1)
    clear ha CR
    go_enter Try.func29, Try.ntmps29
    go_wp2_with fail
    go_ret
    exact ⟨false, rfl, iffF HF.out, below2 _ _ _⟩
  replace ha := Classical.not_not.mp ha
  rw [← ha]
  have HAS := Lib.hid ha
  clear ha
  by_cases hr : ¬ SameOk x.res y.res 1
  · have CR' := Lib.hid (fun W a b => (CR W a b).mono fun _ _ j => j.no hr)
    have HF := Lib.hid (fun h : SameFn x y => hr h.2.2)
    clear hr CR
    go_enter Try.func29, Try.ntmps29
    go_wp2_with fail
    go_at_call 26
    refine (CR'.out _ (HRX.out.below (below2 _ _ _)) (HRY.out.below (below2 _ _ _))).mono ?_
    rintro e w2 ⟨rfl, hb2⟩
    have HB2 := Lib.hid (bnext (below2 _ _ _) hb2)
    clear hb2
    go_wp2_with fail
    go_ret
    exact ⟨false, rfl, iffF HF.out, HB2.out⟩
  replace hr := Classical.not_not.mp hr
  have CR' := Lib.hid (fun W a b => (CR W a b).mono fun _ _ j => j.yes hr)
  have HR := Lib.hid hr
  clear hr CR
  go_enter Try.func29, Try.ntmps29
  go_wp2_with fail
  go_at_call 26
  refine (CR'.out _ (HRX.out.below (below2 _ _ _)) (HRY.out.below (below2 _ _ _))).mono ?_
  rintro e w2 ⟨rfl, hb2⟩
  have hq0 := keepCell (a := ⟨w.heap.size, 0, none⟩) (v := .slice Rparams x.params.length cparams) hb2 (by go_simp)
  have hq1 := keepCell (a := ⟨w.heap.size + 1, 0, none⟩) (v := .slice Rparams' x.params.length cparams') hb2 (by go_simp)
  have HBL := Lib.hid (bnext (below2 _ _ _) hb2)
  clear hb2 CR'
  go_wp2_with fail
  go_loopw [5] (fun i wr => ∃ k : Nat, k ≤ x.params.length ∧ i = .int .i64 k ∧ Hid (SamePmTo x.params y.params k) ∧ wr.cell? ⟨w.heap.size, 0, none⟩ = some (.slice Rparams x.params.length cparams) ∧ wr.cell? ⟨w.heap.size + 1, 0, none⟩ = some (.slice Rparams' x.params.length cparams') ∧ Below w.heap.size w wr) (fun i _ => x.params.length - (intOf i).toNat)
  case atStart => exact ⟨0, Nat.zero_le _, rfl, (fun i p q hi => by omega), hq0, hq1, HBL.out⟩
  case round =>
    clear hq0 hq1
    obtain ⟨k, hk, rfl, hno, hx3, hy3, hbel⟩ := hrel
    by_cases hlt : k < x.params.length
    · obtain ⟨b, o, p, Aty1, Bty1, cty1, dty1, rfl, _, hpk, hc⟩ := (HPX.out.below hbel).at_ hlt
      obtain ⟨b', o', q, Aty2, Bty2, cty2, dty2, rfl, _, hqk, hd⟩ := (HPY.out.below hbel).at_ (k := k) (by have := HL.out; omega)
      have hpw := HWX.out k p hpk
      have hqw := HWY.out k q hqk
      have CS := (fun n : Nat => specSameType_any p.ty q.ty (by have := p.name.size; unfold Pm.wt at hpw; omega) (by unfold Pm.wt at hqw; omega) Aty1 Bty1 Aty2 Bty2 cty1 dty1 cty2 dty2 lo lo' (wr.drewN n) ((hc.at_.below (belowN (Below.refl _ _) n)).1) ((hd.at_.below (belowN (Below.refl _ _) n)).1))
      obtain ⟨c0, c1, c2, c3, c4, _⟩ := hc
      obtain ⟨d0, d1, d2, d3, d4, _⟩ := hd
      have HP := Lib.hid hpk
      have HQ := Lib.hid hqk
      have HB := Lib.hid hbel
      have hli : (k : Int) < (x.params.length : Int) := by omega
      clear hpk hqk hbel hpw hqw
      by_cases hn : p.name = q.name
      · have e2 : (p.name.toList == q.name.toList) = true := by rw [hn, beq_iff_eq]
        have HN := Lib.hid hn
        clear hn
        by_cases hs : SameOk p.ty q.ty 1
        · skip
          have C' : Hid (∀ n : Nat, Calls Try.prog 26 #[.agg #[.int .i64 p.ty.kind, .string p.ty.name, .slice Aty1 p.ty.labels.length cty1, .slice Bty1 p.ty.kids.length dty1], .agg #[.int .i64 q.ty.kind, .string q.ty.name, .slice Aty2 q.ty.labels.length cty2, .slice Bty2 q.ty.kids.length dty2]] (wr.drewN n) fun e w' => e = .returned (.bool true) ∧ Below wr.heap.size (wr.drewN n) w') := Lib.hid (fun n => (CS n).mono fun _ _ j => j.yes hs)
          have HS := Lib.hid hs
          clear hs CS
          go_wp2_with fail
          go_region_held3 (fun w' => w'.cell? ⟨b, o + k * 5, none⟩ = some (.string p.name) ∧ w'.cell? ⟨b, o + k * 5 + 1, none⟩ = some (.int .i64 p.ty.kind) ∧ w'.cell? ⟨b, o + k * 5 + 2, none⟩ = some (.string p.ty.name) ∧ w'.cell? ⟨b, o + k * 5 + 3, none⟩ = some (.slice Aty1 p.ty.labels.length cty1) ∧ w'.cell? ⟨b, o + k * 5 + 4, none⟩ = some (.slice Bty1 p.ty.kids.length dty1) ∧ w'.cell? ⟨b', o' + k * 5, none⟩ = some (.string q.name) ∧ w'.cell? ⟨b', o' + k * 5 + 1, none⟩ = some (.int .i64 q.ty.kind) ∧ w'.cell? ⟨b', o' + k * 5 + 2, none⟩ = some (.string q.ty.name) ∧ w'.cell? ⟨b', o' + k * 5 + 3, none⟩ = some (.slice Aty2 q.ty.labels.length cty2) ∧ w'.cell? ⟨b', o' + k * 5 + 4, none⟩ = some (.slice Bty2 q.ty.kids.length dty2) ∧ w'.cell? ⟨w.heap.size, 0, none⟩ = some (.slice (some ⟨b, o, none⟩) x.params.length cparams) ∧ w'.cell? ⟨w.heap.size + 1, 0, none⟩ = some (.slice (some ⟨b', o', none⟩) x.params.length cparams') ∧ Below wr.heap.size wr w')
            (first | assumption | (exact (Below.refl _ _).drew) | (exact ⟨c0, c1, c2, c3, c4, d0, d1, d2, d3, d4, hx3, hy3, (Below.refl _ _).drew⟩) | (refine ⟨?_, ?_, ?_, ?_, ?_, ?_, ?_, ?_, ?_, ?_, ?_, ?_, ?_⟩ <;> assumption))
            (first | (go_at_call 26; refine (C'.out 1).mono ?_; rintro e wx ⟨rfl, hbx⟩; have hbw : Below wr.heap.size wr wx := (Below.refl wr.heap.size wr).drew.trans hbx; have u0 := keepCell hbw c0; have u1 := keepCell hbw c1; have u2 := keepCell hbw c2; have u3 := keepCell hbw c3; have u4 := keepCell hbw c4; have v0 := keepCell hbw d0; have v1 := keepCell hbw d1; have v2 := keepCell hbw d2; have v3 := keepCell hbw d3; have v4 := keepCell hbw d4; have u99 := keepCell hbw hx3; have v99 := keepCell hbw hy3))
          go_wp2_with fail
          go_roundw
          case rel => exact ⟨k + 1, by omega, by go_num, hno.out.step HP.out HQ.out ⟨HN.out, HS.out⟩, by assumption, by assumption, bnext HB.out (by assumption)⟩
          case measure => simp [intOf]; omega
        · skip
          have C' : Hid (∀ n : Nat, Calls Try.prog 26 #[.agg #[.int .i64 p.ty.kind, .string p.ty.name, .slice Aty1 p.ty.labels.length cty1, .slice Bty1 p.ty.kids.length dty1], .agg #[.int .i64 q.ty.kind, .string q.ty.name, .slice Aty2 q.ty.labels.length cty2, .slice Bty2 q.ty.kids.length dty2]] (wr.drewN n) fun e w' => e = .returned (.bool false) ∧ Below wr.heap.size (wr.drewN n) w') := Lib.hid (fun n => (CS n).mono fun _ _ j => j.no hs)
          have HS := Lib.hid hs
          clear hs CS
          go_wp2_with fail
          go_region_held3 (fun w' => w'.cell? ⟨b, o + k * 5, none⟩ = some (.string p.name) ∧ w'.cell? ⟨b, o + k * 5 + 1, none⟩ = some (.int .i64 p.ty.kind) ∧ w'.cell? ⟨b, o + k * 5 + 2, none⟩ = some (.string p.ty.name) ∧ w'.cell? ⟨b, o + k * 5 + 3, none⟩ = some (.slice Aty1 p.ty.labels.length cty1) ∧ w'.cell? ⟨b, o + k * 5 + 4, none⟩ = some (.slice Bty1 p.ty.kids.length dty1) ∧ w'.cell? ⟨b', o' + k * 5, none⟩ = some (.string q.name) ∧ w'.cell? ⟨b', o' + k * 5 + 1, none⟩ = some (.int .i64 q.ty.kind) ∧ w'.cell? ⟨b', o' + k * 5 + 2, none⟩ = some (.string q.ty.name) ∧ w'.cell? ⟨b', o' + k * 5 + 3, none⟩ = some (.slice Aty2 q.ty.labels.length cty2) ∧ w'.cell? ⟨b', o' + k * 5 + 4, none⟩ = some (.slice Bty2 q.ty.kids.length dty2) ∧ w'.cell? ⟨w.heap.size, 0, none⟩ = some (.slice (some ⟨b, o, none⟩) x.params.length cparams) ∧ w'.cell? ⟨w.heap.size + 1, 0, none⟩ = some (.slice (some ⟨b', o', none⟩) x.params.length cparams') ∧ Below wr.heap.size wr w')
            (first | assumption | (exact (Below.refl _ _).drew) | (exact ⟨c0, c1, c2, c3, c4, d0, d1, d2, d3, d4, hx3, hy3, (Below.refl _ _).drew⟩) | (refine ⟨?_, ?_, ?_, ?_, ?_, ?_, ?_, ?_, ?_, ?_, ?_, ?_, ?_⟩ <;> assumption))
            (first | (go_at_call 26; refine (C'.out 1).mono ?_; rintro e wx ⟨rfl, hbx⟩; have hbw : Below wr.heap.size wr wx := (Below.refl wr.heap.size wr).drew.trans hbx; have u0 := keepCell hbw c0; have u1 := keepCell hbw c1; have u2 := keepCell hbw c2; have u3 := keepCell hbw c3; have u4 := keepCell hbw c4; have v0 := keepCell hbw d0; have v1 := keepCell hbw d1; have v2 := keepCell hbw d2; have v3 := keepCell hbw d3; have v4 := keepCell hbw d4; have u99 := keepCell hbw hx3; have v99 := keepCell hbw hy3))
          go_wp2_with fail
          go_ret
          exact ⟨false, rfl, iffF (fun h => HS.out (h.2.1.2 k p q HP.out HQ.out).2), bnext HB.out (by assumption)⟩
      · have e2 := text_ne hn
        have HN := Lib.hid hn
        clear hn CS
        go_wp2_with fail
        go_quiet (fail)
        go_wp2_with fail
        go_ret
        exact ⟨false, rfl, iffF (fun h => HN.out (h.2.1.2 k p q HP.out HQ.out).1), belowN HB.out _⟩
    · have hk' : k = x.params.length := by omega
      have h9 := hno.out
      rw [hk'] at h9
      have HALL := Lib.hid (SamePmTo.all HL.out h9)
      have HB := Lib.hid hbel
      clear h9 hbel
      go_wp2
      go_ret
      exact ⟨true, rfl, iffT (⟨HAS.out, HALL.out, HR.out⟩), HB.out⟩

theorem implSameFunc_any (x y : Fn) (hx : x.wt ≤ 1048576) (hy : y.wt ≤ 1048576) (Rparams : Option Addr) (cparams : Nat) (Ares : Option Addr) (Bres : Option Addr) (cres : Nat) (dres : Nat) (Rparams' : Option Addr) (cparams' : Nat) (Ares' : Option Addr) (Bres' : Option Addr) (cres' : Nat) (dres' : Nat) (lo lo' : Nat) (h0 : 0 < lo) (h0' : 0 < lo') (w : World) (h : Fn.At w lo x Rparams Ares Bres) (h' : Fn.At w lo' y Rparams' Ares' Bres') :
    Calls Try.prog 31 #[.agg #[.slice Rparams x.params.length cparams, .int .i64 x.res.kind, .string x.res.name, .slice Ares x.res.labels.length cres, .slice Bres x.res.kids.length dres, .bool x.async], .agg #[.slice Rparams' y.params.length cparams', .int .i64 y.res.kind, .string y.res.name, .slice Ares' y.res.labels.length cres', .slice Bres' y.res.kids.length dres', .bool y.async]] w (SaysB (SameFn x y) w) := by
  have hwx : ∀ (i : Nat) (p : Pm), x.params[i]? = some p → p.wt ≤ 1048576 := fun i p hp => by have := Pm.wt_mem hp; have := x.res.wt_nonneg; unfold Fn.wt at hx; omega
  have hwy : ∀ (i : Nat) (p : Pm), y.params[i]? = some p → p.wt ≤ 1048576 := fun i p hp => by have := Pm.wt_mem hp; have := y.res.wt_nonneg; unfold Fn.wt at hy; omega
  have hlx : x.params.length ≤ 1048576 := by have := Pm.wts_nonneg x.params; have := x.res.wt_nonneg; unfold Fn.wt at hx; omega
  have hrx : x.res.wt ≤ 1048576 := by have := Pm.wts_nonneg x.params; unfold Fn.wt at hx; omega
  have hry : y.res.wt ≤ 1048576 := by have := Pm.wts_nonneg y.params; unfold Fn.wt at hy; omega
  have CR := Lib.hid (fun W (a : Ty.Ao W lo x.res Ares Bres) (b : Ty.Ao W lo' y.res Ares' Bres') => implSameType_any x.res y.res hrx hry Ares Bres Ares' Bres' cres dres cres' dres' W (a.pl h0) (b.pl h0'))
  have CP := (fun W a b => eqfPm_any x.params y.params hlx hwx hwy Rparams Rparams' cparams cparams' lo lo' h0 h0' W a b)
  have HPX := Lib.hid h.1
  have HPY := Lib.hid h'.1
  have HRX := Lib.hid h.2
  have HRY := Lib.hid h'.2
  clear hwx hwy h h' hx hy hrx hry h0 h0'
  by_cases ha : ¬ x.async = y.async
  · have e1 : (x.async == y.async) = false := by rw [beq_eq_false_iff_ne]; exact ha
    have HF := Lib.hid (fun h : SameFn x y => ha h.1)
    clear ha CR CP
    go_enter Try.func31, Try.ntmps31
    go_wp2_with fail
    go_ret
    exact ⟨false, rfl, iffF HF.out, below2 _ _ _⟩
  replace ha := Classical.not_not.mp ha
  rw [← ha]
  have HAS := Lib.hid ha
  clear ha
  by_cases hp : ¬ SamePms x.params y.params
  · have CP' := Lib.hid (fun W a b => (CP W a b).mono fun _ _ j => j.no hp)
    have HF := Lib.hid (fun h : SameFn x y => hp h.2.1)
    clear hp CR CP
    go_enter Try.func31, Try.ntmps31
    go_wp2_with fail
    go_at_call 65
    refine (CP'.out _ (HPX.out.below (below2 _ _ _)) (HPY.out.below (below2 _ _ _))).mono ?_
    rintro e w2 ⟨rfl, hb2⟩
    have HB2 := Lib.hid (bnext (below2 _ _ _) hb2)
    clear hb2
    go_wp2_with fail
    go_ret
    exact ⟨false, rfl, iffF HF.out, HB2.out⟩
  replace hp := Classical.not_not.mp hp
  have CP' := Lib.hid (fun W a b => (CP W a b).mono fun _ _ j => j.yes hp)
  have HPP := Lib.hid hp
  clear hp CP
  go_enter Try.func31, Try.ntmps31
  go_wp2_with fail
  go_at_call 65
  refine (CP'.out _ (HPX.out.below (below2 _ _ _)) (HPY.out.below (below2 _ _ _))).mono ?_
  rintro e w2 ⟨rfl, hb2⟩
  have k1 := keepCell (a := ⟨w.heap.size, 1, none⟩) (v := .int .i64 x.res.kind) hb2 (by go_simp)
  have l1 := keepCell (a := ⟨w.heap.size + 1, 1, none⟩) (v := .int .i64 y.res.kind) hb2 (by go_simp)
  have k2 := keepCell (a := ⟨w.heap.size, 2, none⟩) (v := .string x.res.name) hb2 (by go_simp)
  have l2 := keepCell (a := ⟨w.heap.size + 1, 2, none⟩) (v := .string y.res.name) hb2 (by go_simp)
  have k3 := keepCell (a := ⟨w.heap.size, 3, none⟩) (v := .slice Ares x.res.labels.length cres) hb2 (by go_simp)
  have l3 := keepCell (a := ⟨w.heap.size + 1, 3, none⟩) (v := .slice Ares' y.res.labels.length cres') hb2 (by go_simp)
  have k4 := keepCell (a := ⟨w.heap.size, 4, none⟩) (v := .slice Bres x.res.kids.length dres) hb2 (by go_simp)
  have l4 := keepCell (a := ⟨w.heap.size + 1, 4, none⟩) (v := .slice Bres' y.res.kids.length dres') hb2 (by go_simp)
  have HB2 := Lib.hid (bnext (below2 _ _ _) hb2)
  clear hb2 CP'
  go_wp2_with fail
  go_at_call 27
  refine (CR.out _ (HRX.out.below HB2.out) (HRY.out.below HB2.out)).mono ?_
  rintro e w3 ⟨v, rfl, hv, hb3⟩
  have HV := Lib.hid hv
  have HB3 := Lib.hid (bnext HB2.out hb3)
  clear hv hb3
  go_wp2_with fail
  go_ret
  exact ⟨v, rfl, ⟨fun j => ⟨HAS.out, HPP.out, HV.out.mp j⟩, fun j => HV.out.mpr j.2.2⟩, HB3.out⟩
end Go.Proofs.Ytfadodmkppeodaa
