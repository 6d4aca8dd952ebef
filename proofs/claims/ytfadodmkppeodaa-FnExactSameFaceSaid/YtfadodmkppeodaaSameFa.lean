/-
  The walks of both SameFace.
-/
import Derived.Test.YtfadodmkppeodaaSameFc
import Derived.Test.YtfadodmkppeodaaStWFa
namespace Go.Proofs.Ytfadodmkppeodaa
open Go.ChangeShapes Go.WideShapes Go.ChangeAt Go.RowKit Go.Deep

/-- Interfaces that are alike. -/
def SameFa (x y : Fa) : Prop := x.pack = y.pack ∧ x.name = y.name ∧ x.version = y.version ∧ x.ress = y.ress ∧ SameFcs x.funcs y.funcs

set_option maxHeartbeats 4000000 in
set_option maxRecDepth 100000 in
theorem specSameFace_any (x y : Fa) (hx : x.wt ≤ 1048576) (hy : y.wt ≤ 1048576) (Aress : Option Addr) (cress : Nat) (Rfuncs : Option Addr) (cfuncs : Nat) (Aress' : Option Addr) (cress' : Nat) (Rfuncs' : Option Addr) (cfuncs' : Nat) (lo lo' : Nat) (w : World) (h : Fa.At w lo x Aress Rfuncs) (h' : Fa.At w lo' y Aress' Rfuncs') :
    Calls Try.prog 34 #[.agg #[.string x.pack, .string x.name, .string x.version, .slice Aress x.ress.length cress, .slice Rfuncs x.funcs.length cfuncs], .agg #[.string y.pack, .string y.name, .string y.version, .slice Aress' y.ress.length cress', .slice Rfuncs' y.funcs.length cfuncs']] w (SaysB (SameFa x y) w) := by
  have hss := sumSz_nonneg x.ress
  have hsy := sumSz_nonneg y.ress
  have hfx := Fc.wts_nonneg x.funcs
  have hfy := Fc.wts_nonneg y.funcs
  unfold Fa.wt at hx hy
  have hwx : ∀ (i : Nat) (p : Fc), x.funcs[i]? = some p → p.wt ≤ 1048576 := fun i p hp => by have := Fc.wt_mem hp; omega
  have hwy : ∀ (i : Nat) (p : Fc), y.funcs[i]? = some p → p.wt ≤ 1048576 := fun i p hp => by have := Fc.wt_mem hp; omega
  have hlx : x.funcs.length ≤ 1048576 := by omega
  have hrx : x.ress.length ≤ 1048576 := by omega
  have hry : y.ress.length ≤ 1048576 := by omega
  have CT := (fun W (a : Strs W lo x.ress Aress) (b : Strs W lo' y.ress Aress') => l03Texts_any x.ress y.ress hrx hry Aress Aress' cress cress' lo lo' W a b)
  have HWX := Lib.hid hwx
  have HWY := Lib.hid hwy
  have HRX := Lib.hid h.1
  have HRY := Lib.hid h'.1
  have HPX := Lib.hid h.2
  have HPY := Lib.hid h'.2
  clear hwx hwy h h' hx hy hrx hry hss hsy hfx hfy
  by_cases hs0 : ¬ x.pack = y.pack
  · have e0 := text_ne hs0
    have HF := Lib.hid (fun h : SameFa x y => hs0 h.1)
    clear hs0 CT
    go_enter Try.func34, Try.ntmps34
    go_wp2_with fail
    go_ret
    exact ⟨false, rfl, iffF HF.out, below2 _ _ _⟩
  replace hs0 := Classical.not_not.mp hs0
  have e0 : (x.pack.toList == y.pack.toList) = true := by rw [hs0, beq_iff_eq]
  have HS0 := Lib.hid hs0
  clear hs0
  by_cases hs1 : ¬ x.name = y.name
  · have e1 := text_ne hs1
    have HF := Lib.hid (fun h : SameFa x y => hs1 h.2.1)
    clear hs1 CT
    go_enter Try.func34, Try.ntmps34
    go_wp2_with fail
    go_ret
    exact ⟨false, rfl, iffF HF.out, below2 _ _ _⟩
  replace hs1 := Classical.not_not.mp hs1
  have e1 : (x.name.toList == y.name.toList) = true := by rw [hs1, beq_iff_eq]
  have HS1 := Lib.hid hs1
  clear hs1
  by_cases hs2 : ¬ x.version = y.version
  · have e2 := text_ne hs2
    have HF := Lib.hid (fun h : SameFa x y => hs2 h.2.2.1)
    clear hs2 CT
    go_enter Try.func34, Try.ntmps34
    go_wp2_with fail
    go_ret
    exact ⟨false, rfl, iffF HF.out, below2 _ _ _⟩
  replace hs2 := Classical.not_not.mp hs2
  have e2 : (x.version.toList == y.version.toList) = true := by rw [hs2, beq_iff_eq]
  have HS2 := Lib.hid hs2
  clear hs2
  by_cases hr : ¬ x.ress = y.ress
  · have CT' := Lib.hid (fun W a b => (CT W a b).mono fun e w' (k : SaysD _ W e w') => (show e = .returned (.bool false) ∧ Below W.heap.size W w' by
      obtain ⟨v, rfl, hv, n, hn⟩ := k
      refine ⟨?_, hn ▸ belowN (Below.refl _ _) n⟩
      cases v
      · rfl
      · exact absurd (hv.mp rfl) hr))
    have HF := Lib.hid (fun h : SameFa x y => hr h.2.2.2.1)
    clear hr CT
    go_enter Try.func34, Try.ntmps34
    go_wp2_with fail
    go_at_call 69
    refine (CT'.out _ (HRX.out.below (below2 _ _ _)) (HRY.out.below (below2 _ _ _))).mono ?_
    rintro e w2 ⟨rfl, hb2⟩
    have HB2 := Lib.hid (bnext (below2 _ _ _) hb2)
    clear hb2
    go_wp2_with fail
    go_ret
    exact ⟨false, rfl, iffF HF.out, HB2.out⟩
  replace hr := Classical.not_not.mp hr
  have CT' := Lib.hid (fun W a b => (CT W a b).mono fun e w' (k : SaysD _ W e w') => (show e = .returned (.bool true) ∧ Below W.heap.size W w' by
      obtain ⟨v, rfl, hv, n, hn⟩ := k
      rw [hv.mpr hr]
      exact ⟨rfl, hn ▸ belowN (Below.refl _ _) n⟩))
  have HR := Lib.hid hr
  clear hr CT
  by_cases hl : ¬ x.funcs.length = y.funcs.length
  · have e3 : ((x.funcs.length : Int) == (y.funcs.length : Int)) = false := by rw [beq_eq_false_iff_ne]; omega
    have e3' : ((x.funcs.length : Int) != (y.funcs.length : Int)) = true := by rw [bne_iff_ne]; omega
    have HF := Lib.hid (fun h : SameFa x y => hl h.2.2.2.2.1)
    go_enter Try.func34, Try.ntmps34
    go_wp2_with fail
    go_at_call 69
    refine (CT'.out _ (HRX.out.below (below2 _ _ _)) (HRY.out.below (below2 _ _ _))).mono ?_
    rintro e w2 ⟨rfl, hb2⟩
    have hq0 := keepCell (a := ⟨w.heap.size, 4, none⟩) (v := .slice Rfuncs x.funcs.length cfuncs) hb2 (by go_simp)
    have hq1 := keepCell (a := ⟨w.heap.size + 1, 4, none⟩) (v := .slice Rfuncs' y.funcs.length cfuncs') hb2 (by go_simp)
    have HB2 := Lib.hid (bnext (below2 _ _ _) hb2)
    clear hb2
    go_wp2_with fail
    go_ret
    exact ⟨false, rfl, iffF HF.out, HB2.out⟩
  replace hl := Classical.not_not.mp hl
  rw [← hl]
  have HL := Lib.hid hl
  clear hl
  go_enter Try.func34, Try.ntmps34
  go_wp2_with fail
  go_at_call 69
  refine (CT'.out _ (HRX.out.below (below2 _ _ _)) (HRY.out.below (below2 _ _ _))).mono ?_
  rintro e w2 ⟨rfl, hb2⟩
  have hq0 := keepCell (a := ⟨w.heap.size, 4, none⟩) (v := .slice Rfuncs x.funcs.length cfuncs) hb2 (by go_simp)
  have hq1 := keepCell (a := ⟨w.heap.size + 1, 4, none⟩) (v := .slice Rfuncs' x.funcs.length cfuncs') hb2 (by go_simp)
  have HBL := Lib.hid (bnext (below2 _ _ _) hb2)
  clear hb2 CT'
  go_wp2_with fail
  go_loopw [5] (fun i wr => ∃ k : Nat, k ≤ x.funcs.length ∧ i = .int .i64 k ∧ Hid (SameFcTo x.funcs y.funcs k) ∧ wr.cell? ⟨w.heap.size, 4, none⟩ = some (.slice Rfuncs x.funcs.length cfuncs) ∧ wr.cell? ⟨w.heap.size + 1, 4, none⟩ = some (.slice Rfuncs' x.funcs.length cfuncs') ∧ Below w.heap.size w wr) (fun i _ => x.funcs.length - (intOf i).toNat)
  case atStart => exact ⟨0, Nat.zero_le _, rfl, (fun i p q hi => by omega), hq0, hq1, HBL.out⟩
  case round =>
    clear hq0 hq1
    obtain ⟨k, hk, rfl, hno, hx3, hy3, hbel⟩ := hrel
    by_cases hlt : k < x.funcs.length
    · obtain ⟨b, o, p, Rtypeparams1, ctypeparams1, Atyperes1, Btyperes1, ctyperes1, dtyperes1, rfl, _, hpk, hc⟩ := (HPX.out.below hbel).at_ hlt
      obtain ⟨b', o', q, Rtypeparams2, ctypeparams2, Atyperes2, Btyperes2, ctyperes2, dtyperes2, rfl, _, hqk, hd⟩ := (HPY.out.below hbel).at_ (k := k) (by have := HL.out; omega)
      have hpw := HWX.out k p hpk
      have hqw := HWY.out k q hqk
      have CS := (fun n : Nat => specSameFunc_any p.type q.type (by unfold Fc.wt at hpw; omega) (by unfold Fc.wt at hqw; omega) Rtypeparams1 ctypeparams1 Atyperes1 Btyperes1 ctyperes1 dtyperes1 Rtypeparams2 ctypeparams2 Atyperes2 Btyperes2 ctyperes2 dtyperes2 lo lo' (wr.drewN n) (hc.at_.below (belowN (Below.refl _ _) n)) (hd.at_.below (belowN (Below.refl _ _) n)))
      obtain ⟨c0, c1, c2, c3, c4, c5, c6, _⟩ := hc
      obtain ⟨d0, d1, d2, d3, d4, d5, d6, _⟩ := hd
      have HP := Lib.hid hpk
      have HQ := Lib.hid hqk
      have HB := Lib.hid hbel
      have hli : (k : Int) < (x.funcs.length : Int) := by omega
      clear hpk hqk hbel hpw hqw
      by_cases hn : p.name = q.name
      · have e2 : (p.name.toList == q.name.toList) = true := by rw [hn, beq_iff_eq]
        have HN := Lib.hid hn
        clear hn
        by_cases hs : SameFn p.type q.type
        · skip
          have C' : Hid (∀ n : Nat, Calls Try.prog 29 #[.agg #[.slice Rtypeparams1 p.type.params.length ctypeparams1, .int .i64 p.type.res.kind, .string p.type.res.name, .slice Atyperes1 p.type.res.labels.length ctyperes1, .slice Btyperes1 p.type.res.kids.length dtyperes1, .bool p.type.async], .agg #[.slice Rtypeparams2 q.type.params.length ctypeparams2, .int .i64 q.type.res.kind, .string q.type.res.name, .slice Atyperes2 q.type.res.labels.length ctyperes2, .slice Btyperes2 q.type.res.kids.length dtyperes2, .bool q.type.async]] (wr.drewN n) fun e w' => e = .returned (.bool true) ∧ Below wr.heap.size (wr.drewN n) w') := Lib.hid (fun n => (CS n).mono fun _ _ j => j.yes hs)
          have HS := Lib.hid hs
          clear hs CS
          go_wp2_with fail
          go_region_held3 (fun w' => w'.cell? ⟨b, o + k * 7, none⟩ = some (.string p.name) ∧ w'.cell? ⟨b, o + k * 7 + 1, none⟩ = some (.slice Rtypeparams1 p.type.params.length ctypeparams1) ∧ w'.cell? ⟨b, o + k * 7 + 2, none⟩ = some (.int .i64 p.type.res.kind) ∧ w'.cell? ⟨b, o + k * 7 + 3, none⟩ = some (.string p.type.res.name) ∧ w'.cell? ⟨b, o + k * 7 + 4, none⟩ = some (.slice Atyperes1 p.type.res.labels.length ctyperes1) ∧ w'.cell? ⟨b, o + k * 7 + 5, none⟩ = some (.slice Btyperes1 p.type.res.kids.length dtyperes1) ∧ w'.cell? ⟨b, o + k * 7 + 6, none⟩ = some (.bool p.type.async) ∧ w'.cell? ⟨b', o' + k * 7, none⟩ = some (.string q.name) ∧ w'.cell? ⟨b', o' + k * 7 + 1, none⟩ = some (.slice Rtypeparams2 q.type.params.length ctypeparams2) ∧ w'.cell? ⟨b', o' + k * 7 + 2, none⟩ = some (.int .i64 q.type.res.kind) ∧ w'.cell? ⟨b', o' + k * 7 + 3, none⟩ = some (.string q.type.res.name) ∧ w'.cell? ⟨b', o' + k * 7 + 4, none⟩ = some (.slice Atyperes2 q.type.res.labels.length ctyperes2) ∧ w'.cell? ⟨b', o' + k * 7 + 5, none⟩ = some (.slice Btyperes2 q.type.res.kids.length dtyperes2) ∧ w'.cell? ⟨b', o' + k * 7 + 6, none⟩ = some (.bool q.type.async) ∧ w'.cell? ⟨w.heap.size, 4, none⟩ = some (.slice (some ⟨b, o, none⟩) x.funcs.length cfuncs) ∧ w'.cell? ⟨w.heap.size + 1, 4, none⟩ = some (.slice (some ⟨b', o', none⟩) x.funcs.length cfuncs') ∧ Below wr.heap.size wr w')
            (first | assumption | (exact (Below.refl _ _).drew) | (exact ⟨c0, c1, c2, c3, c4, c5, c6, d0, d1, d2, d3, d4, d5, d6, hx3, hy3, (Below.refl _ _).drew⟩) | (refine ⟨?_, ?_, ?_, ?_, ?_, ?_, ?_, ?_, ?_, ?_, ?_, ?_, ?_, ?_, ?_, ?_, ?_⟩ <;> assumption))
            (first | (go_at_call 29; refine (C'.out 1).mono ?_; rintro e wx ⟨rfl, hbx⟩; have hbw : Below wr.heap.size wr wx := (Below.refl wr.heap.size wr).drew.trans hbx; have u0 := keepCell hbw c0; have u1 := keepCell hbw c1; have u2 := keepCell hbw c2; have u3 := keepCell hbw c3; have u4 := keepCell hbw c4; have u5 := keepCell hbw c5; have u6 := keepCell hbw c6; have v0 := keepCell hbw d0; have v1 := keepCell hbw d1; have v2 := keepCell hbw d2; have v3 := keepCell hbw d3; have v4 := keepCell hbw d4; have v5 := keepCell hbw d5; have v6 := keepCell hbw d6; have u99 := keepCell hbw hx3; have v99 := keepCell hbw hy3))
          go_wp2_with fail
          go_roundw
          case rel => exact ⟨k + 1, by omega, by go_num, hno.out.step HP.out HQ.out ⟨HN.out, HS.out⟩, by assumption, by assumption, bnext HB.out (by assumption)⟩
          case measure => simp [intOf]; omega
        · skip
          have C' : Hid (∀ n : Nat, Calls Try.prog 29 #[.agg #[.slice Rtypeparams1 p.type.params.length ctypeparams1, .int .i64 p.type.res.kind, .string p.type.res.name, .slice Atyperes1 p.type.res.labels.length ctyperes1, .slice Btyperes1 p.type.res.kids.length dtyperes1, .bool p.type.async], .agg #[.slice Rtypeparams2 q.type.params.length ctypeparams2, .int .i64 q.type.res.kind, .string q.type.res.name, .slice Atyperes2 q.type.res.labels.length ctyperes2, .slice Btyperes2 q.type.res.kids.length dtyperes2, .bool q.type.async]] (wr.drewN n) fun e w' => e = .returned (.bool false) ∧ Below wr.heap.size (wr.drewN n) w') := Lib.hid (fun n => (CS n).mono fun _ _ j => j.no hs)
          have HS := Lib.hid hs
          clear hs CS
          go_wp2_with fail
          go_region_held3 (fun w' => w'.cell? ⟨b, o + k * 7, none⟩ = some (.string p.name) ∧ w'.cell? ⟨b, o + k * 7 + 1, none⟩ = some (.slice Rtypeparams1 p.type.params.length ctypeparams1) ∧ w'.cell? ⟨b, o + k * 7 + 2, none⟩ = some (.int .i64 p.type.res.kind) ∧ w'.cell? ⟨b, o + k * 7 + 3, none⟩ = some (.string p.type.res.name) ∧ w'.cell? ⟨b, o + k * 7 + 4, none⟩ = some (.slice Atyperes1 p.type.res.labels.length ctyperes1) ∧ w'.cell? ⟨b, o + k * 7 + 5, none⟩ = some (.slice Btyperes1 p.type.res.kids.length dtyperes1) ∧ w'.cell? ⟨b, o + k * 7 + 6, none⟩ = some (.bool p.type.async) ∧ w'.cell? ⟨b', o' + k * 7, none⟩ = some (.string q.name) ∧ w'.cell? ⟨b', o' + k * 7 + 1, none⟩ = some (.slice Rtypeparams2 q.type.params.length ctypeparams2) ∧ w'.cell? ⟨b', o' + k * 7 + 2, none⟩ = some (.int .i64 q.type.res.kind) ∧ w'.cell? ⟨b', o' + k * 7 + 3, none⟩ = some (.string q.type.res.name) ∧ w'.cell? ⟨b', o' + k * 7 + 4, none⟩ = some (.slice Atyperes2 q.type.res.labels.length ctyperes2) ∧ w'.cell? ⟨b', o' + k * 7 + 5, none⟩ = some (.slice Btyperes2 q.type.res.kids.length dtyperes2) ∧ w'.cell? ⟨b', o' + k * 7 + 6, none⟩ = some (.bool q.type.async) ∧ w'.cell? ⟨w.heap.size, 4, none⟩ = some (.slice (some ⟨b, o, none⟩) x.funcs.length cfuncs) ∧ w'.cell? ⟨w.heap.size + 1, 4, none⟩ = some (.slice (some ⟨b', o', none⟩) x.funcs.length cfuncs') ∧ Below wr.heap.size wr w')
            (first | assumption | (exact (Below.refl _ _).drew) | (exact ⟨c0, c1, c2, c3, c4, c5, c6, d0, d1, d2, d3, d4, d5, d6, hx3, hy3, (Below.refl _ _).drew⟩) | (refine ⟨?_, ?_, ?_, ?_, ?_, ?_, ?_, ?_, ?_, ?_, ?_, ?_, ?_, ?_, ?_, ?_, ?_⟩ <;> assumption))
            (first | (go_at_call 29; refine (C'.out 1).mono ?_; rintro e wx ⟨rfl, hbx⟩; have hbw : Below wr.heap.size wr wx := (Below.refl wr.heap.size wr).drew.trans hbx; have u0 := keepCell hbw c0; have u1 := keepCell hbw c1; have u2 := keepCell hbw c2; have u3 := keepCell hbw c3; have u4 := keepCell hbw c4; have u5 := keepCell hbw c5; have u6 := keepCell hbw c6; have v0 := keepCell hbw d0; have v1 := keepCell hbw d1; have v2 := keepCell hbw d2; have v3 := keepCell hbw d3; have v4 := keepCell hbw d4; have v5 := keepCell hbw d5; have v6 := keepCell hbw d6; have u99 := keepCell hbw hx3; have v99 := keepCell hbw hy3))
          go_wp2_with fail
          go_ret
          exact ⟨false, rfl, iffF (fun h => HS.out (h.2.2.2.2.2 k p q HP.out HQ.out).2), bnext HB.out (by assumption)⟩
      · have e2 := text_ne hn
        have HN := Lib.hid hn
        clear hn CS
        go_wp2_with fail
        go_quiet (fail)
        go_wp2_with fail
        go_ret
        exact ⟨false, rfl, iffF (fun h => HN.out (h.2.2.2.2.2 k p q HP.out HQ.out).1), belowN HB.out _⟩
    · have hk' : k = x.funcs.length := by omega
      have h9 := hno.out
      rw [hk'] at h9
      have HALL := Lib.hid (SameFcTo.all HL.out h9)
      have HB := Lib.hid hbel
      clear h9 hbel
      go_wp2
      go_ret
      exact ⟨true, rfl, iffT (⟨HS0.out, HS1.out, HS2.out, HR.out, HALL.out⟩), HB.out⟩

theorem implSameFace_any (x y : Fa) (hx : x.wt ≤ 1048576) (hy : y.wt ≤ 1048576) (Aress : Option Addr) (cress : Nat) (Rfuncs : Option Addr) (cfuncs : Nat) (Aress' : Option Addr) (cress' : Nat) (Rfuncs' : Option Addr) (cfuncs' : Nat) (lo lo' : Nat) (h0 : 0 < lo) (h0' : 0 < lo') (w : World) (h : Fa.At w lo x Aress Rfuncs) (h' : Fa.At w lo' y Aress' Rfuncs') :
    Calls Try.prog 36 #[.agg #[.string x.pack, .string x.name, .string x.version, .slice Aress x.ress.length cress, .slice Rfuncs x.funcs.length cfuncs], .agg #[.string y.pack, .string y.name, .string y.version, .slice Aress' y.ress.length cress', .slice Rfuncs' y.funcs.length cfuncs']] w (SaysB (SameFa x y) w) := by
  have hss := sumSz_nonneg x.ress
  have hsy := sumSz_nonneg y.ress
  have hfx := Fc.wts_nonneg x.funcs
  have hfy := Fc.wts_nonneg y.funcs
  unfold Fa.wt at hx hy
  have hwx : ∀ (i : Nat) (p : Fc), x.funcs[i]? = some p → p.wt ≤ 1048576 := fun i p hp => by have := Fc.wt_mem hp; omega
  have hwy : ∀ (i : Nat) (p : Fc), y.funcs[i]? = some p → p.wt ≤ 1048576 := fun i p hp => by have := Fc.wt_mem hp; omega
  have hlx : x.funcs.length ≤ 1048576 := by omega
  have hrx : x.ress.length ≤ 1048576 := by omega
  have hry : y.ress.length ≤ 1048576 := by omega
  have CT := (fun W (a : Strs W lo x.ress Aress) (b : Strs W lo' y.ress Aress') => sliEqual_any x.ress y.ress hrx hry Aress Aress' cress cress' lo lo' W a b)
  have CP := Lib.hid (fun W a b => eqfFc_any x.funcs y.funcs hlx hwx hwy Rfuncs Rfuncs' cfuncs cfuncs' lo lo' h0 h0' W a b)
  have HWX := Lib.hid hwx
  have HWY := Lib.hid hwy
  have HRX := Lib.hid h.1
  have HRY := Lib.hid h'.1
  have HPX := Lib.hid h.2
  have HPY := Lib.hid h'.2
  clear hwx hwy h h' hx hy hrx hry hss hsy hfx hfy
  clear h0 h0'
  by_cases hs0 : ¬ x.pack = y.pack
  · have e0 := text_ne hs0
    have HF := Lib.hid (fun h : SameFa x y => hs0 h.1)
    clear hs0 CT CP
    go_enter Try.func36, Try.ntmps36
    go_wp2_with fail
    go_ret
    exact ⟨false, rfl, iffF HF.out, below2 _ _ _⟩
  replace hs0 := Classical.not_not.mp hs0
  have e0 : (x.pack.toList == y.pack.toList) = true := by rw [hs0, beq_iff_eq]
  have HS0 := Lib.hid hs0
  clear hs0
  by_cases hs1 : ¬ x.name = y.name
  · have e1 := text_ne hs1
    have HF := Lib.hid (fun h : SameFa x y => hs1 h.2.1)
    clear hs1 CT CP
    go_enter Try.func36, Try.ntmps36
    go_wp2_with fail
    go_ret
    exact ⟨false, rfl, iffF HF.out, below2 _ _ _⟩
  replace hs1 := Classical.not_not.mp hs1
  have e1 : (x.name.toList == y.name.toList) = true := by rw [hs1, beq_iff_eq]
  have HS1 := Lib.hid hs1
  clear hs1
  by_cases hs2 : ¬ x.version = y.version
  · have e2 := text_ne hs2
    have HF := Lib.hid (fun h : SameFa x y => hs2 h.2.2.1)
    clear hs2 CT CP
    go_enter Try.func36, Try.ntmps36
    go_wp2_with fail
    go_ret
    exact ⟨false, rfl, iffF HF.out, below2 _ _ _⟩
  replace hs2 := Classical.not_not.mp hs2
  have e2 : (x.version.toList == y.version.toList) = true := by rw [hs2, beq_iff_eq]
  have HS2 := Lib.hid hs2
  clear hs2
  by_cases hr : ¬ x.ress = y.ress
  · have CT' := Lib.hid (fun W a b => (CT W a b).mono fun e w' (k : SaysD _ W e w') => (show e = .returned (.bool false) ∧ Below W.heap.size W w' by
      obtain ⟨v, rfl, hv, n, hn⟩ := k
      refine ⟨?_, hn ▸ belowN (Below.refl _ _) n⟩
      cases v
      · rfl
      · exact absurd (hv.mp rfl) hr))
    have HF := Lib.hid (fun h : SameFa x y => hr h.2.2.2.1)
    clear hr CT CP
    go_enter Try.func36, Try.ntmps36
    go_wp2_with fail
    go_at_call 71
    refine (CT'.out _ (HRX.out.below (below2 _ _ _)) (HRY.out.below (below2 _ _ _))).mono ?_
    rintro e w2 ⟨rfl, hb2⟩
    have HB2 := Lib.hid (bnext (below2 _ _ _) hb2)
    clear hb2
    go_wp2_with fail
    go_ret
    exact ⟨false, rfl, iffF HF.out, HB2.out⟩
  replace hr := Classical.not_not.mp hr
  have CT' := Lib.hid (fun W a b => (CT W a b).mono fun e w' (k : SaysD _ W e w') => (show e = .returned (.bool true) ∧ Below W.heap.size W w' by
      obtain ⟨v, rfl, hv, n, hn⟩ := k
      rw [hv.mpr hr]
      exact ⟨rfl, hn ▸ belowN (Below.refl _ _) n⟩))
  have HR := Lib.hid hr
  clear hr CT
  go_enter Try.func36, Try.ntmps36
  go_wp2_with fail
  go_at_call 71
  refine (CT'.out _ (HRX.out.below (below2 _ _ _)) (HRY.out.below (below2 _ _ _))).mono ?_
  rintro e w2 ⟨rfl, hb2⟩
  have hq0 := keepCell (a := ⟨w.heap.size, 4, none⟩) (v := .slice Rfuncs x.funcs.length cfuncs) hb2 (by go_simp)
  have hq1 := keepCell (a := ⟨w.heap.size + 1, 4, none⟩) (v := .slice Rfuncs' y.funcs.length cfuncs') hb2 (by go_simp)
  have HB2 := Lib.hid (bnext (below2 _ _ _) hb2)
  clear hb2 CT'
  go_wp2_with fail
  go_at_call 72
  refine (CP.out _ (HPX.out.below HB2.out) (HPY.out.below HB2.out)).mono ?_
  rintro e w3 ⟨v, rfl, hv, hb3⟩
  have HV := Lib.hid hv
  have HB3 := Lib.hid (bnext HB2.out hb3)
  clear hv hb3
  go_wp2_with fail
  go_ret
  exact ⟨v, rfl, ⟨fun j => ⟨HS0.out, HS1.out, HS2.out, HR.out, HV.out.mp j⟩, fun j => HV.out.mpr j.2.2.2.2⟩, HB3.out⟩
end Go.Proofs.Ytfadodmkppeodaa
