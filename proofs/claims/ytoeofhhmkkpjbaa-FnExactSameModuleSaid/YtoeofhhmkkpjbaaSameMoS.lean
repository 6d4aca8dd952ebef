/-
  The walk of the model's SameModule.
-/
import Derived.Test.YtoeofhhmkkpjbaaSameMo
namespace Go.Proofs.Ytoeofhhmkkpjbaa
open Go.ChangeShapes Go.WideShapes Go.ChangeAt Go.RowKit Go.Deep

set_option maxHeartbeats 4000000 in
set_option maxRecDepth 100000 in
theorem specSameModule_any (x y : Mo) (hx : x.wt ≤ 1048576) (Rimports : Option Addr) (cimports : Nat) (Rcores : Option Addr) (ccores : Nat) (Rimports' : Option Addr) (cimports' : Nat) (Rcores' : Option Addr) (ccores' : Nat) (lo lo' : Nat) (w : World) (h : Mo.At w lo x Rimports Rcores) (h' : Mo.At w lo' y Rimports' Rcores') :
    Calls Try.prog 7 #[.agg #[.int .i64 x.pages, .slice Rimports x.imports.length cimports, .slice Rcores x.cores.length ccores], .agg #[.int .i64 y.pages, .slice Rimports' y.imports.length cimports', .slice Rcores' y.cores.length ccores']] w (SaysM (x = y) w) := by
  obtain ⟨q_imports, q_cores, _⟩ := Mo.parts_le hx
  have hm1 : x.imports.length ≤ 1048576 := by have := Im.wts_nonneg x.imports; omega
  have hm2 : x.cores.length ≤ 1048576 := by have := Co.wts_nonneg x.cores; omega
  have HW : Hid (∀ (i : Nat) (p : Co), x.cores[i]? = some p → p.wt ≤ 1048576) := Lib.hid (fun i p hp => by have := Co.wt_mem hp; omega)
  have H := Lib.hid h
  have H' := Lib.hid h'
  have HT := Lib.hid (Mo.ext_iff' x y)
  generalize hT : (x = y) = T at *
  clear h h' hx q_imports q_cores
  by_cases hp : x.pages = y.pages
  · have e0 : (x.pages == y.pages) = true := by rw [beq_iff_eq, hp]
    have e0' : (x.pages != y.pages) = false := by rw [bne_eq_false_iff_eq, hp]
    have HP := Lib.hid hp
    clear hp
    by_cases hl1 : x.imports.length = y.imports.length
    · have HL1 := Lib.hid hl1
      have e1 : ((x.imports.length : Int) == (y.imports.length : Int)) = true := by rw [beq_iff_eq]; omega
      have e1' : ((x.imports.length : Int) != (y.imports.length : Int)) = false := by rw [bne_eq_false_iff_eq]; omega
      clear hl1
      by_cases hl2 : x.cores.length = y.cores.length
      · have HL2 := Lib.hid hl2
        have e2 : ((x.cores.length : Int) == (y.cores.length : Int)) = true := by rw [beq_iff_eq]; omega
        have e2' : ((x.cores.length : Int) != (y.cores.length : Int)) = false := by rw [bne_eq_false_iff_eq]; omega
        clear hl2
        go_enter Try.func7, Try.ntmps7
        go_wp2_with fail
        clear e0 e0' e1 e1' e2 e2'
        go_loopw [5] (fun i wr => ∃ k : Nat, k ≤ x.imports.length ∧ i = .int .i64 k ∧ Hid (∀ i, i < k → x.imports[i]? = y.imports[i]?) ∧ wr.cell? ⟨w.heap.size, 1, none⟩ = some (.slice Rimports x.imports.length cimports) ∧ wr.cell? ⟨w.heap.size, 2, none⟩ = some (.slice Rcores x.cores.length ccores) ∧ wr.cell? ⟨w.heap.size + 1, 1, none⟩ = some (.slice Rimports' y.imports.length cimports') ∧ wr.cell? ⟨w.heap.size + 1, 2, none⟩ = some (.slice Rcores' y.cores.length ccores') ∧ Below w.heap.size w wr) (fun i _ => x.imports.length - (intOf i).toNat)
        case atStart => exact ⟨0, Nat.zero_le _, rfl, fun i hi => by omega, by go_simp, by go_simp, by go_simp, by go_simp, below2 _ _ _⟩
        case round =>
          obtain ⟨k, hk, rfl, hM, ka, kb, kc, kd, hbel⟩ := hrel
          by_cases hlt : k < x.imports.length
          · obtain ⟨b, o, p, rfl, _, hyk, hc⟩ := (Ims.below H.out.1 hbel).at_ hlt
            obtain ⟨c0_, c1_, c2_, _⟩ := hc
            obtain ⟨b', o', z, rfl, _, hzk, hc'⟩ := (Ims.below H'.out.1 hbel).at_ (k := k) (by have := HL1.out; omega)
            obtain ⟨d0_, d1_, d2_, _⟩ := hc'
            have HY := Lib.hid hyk
            have HZ := Lib.hid hzk
            have HB := Lib.hid hbel
            have hli : (k : Int) < (x.imports.length : Int) := by omega
            have hly : (k : Int) < (y.imports.length : Int) := by have := HL1.out; omega
            clear hyk hbel hzk
            by_cases h0 : p.name = z.name
            · have f0 : (p.name.toList == z.name.toList) = true := by rw [h0, beq_iff_eq]
              by_cases h1 : p.params = z.params
              · have f1 : (p.params == z.params) = true := by rw [h1, beq_iff_eq]
                by_cases h2 : p.result = z.result
                · have f2 : (p.result == z.result) = true := by rw [h2, beq_iff_eq]
                  have HE : Hid (p = z) := Lib.hid (by cases p; cases z; simp_all)
                  clear h0 h1 h2
                  go_wp2_with fail
                  go_quiet (fail)
                  go_wp2_with fail
                  go_roundw
                  case rel => exact ⟨k + 1, by omega, by go_num, fun i hi => by
                    by_cases e : i = k
                    · rw [e, HY.out, HZ.out, HE.out]
                    · exact hM.out i (by omega), ka, kb, kc, kd, belowN HB.out _⟩
                  case measure => simp [intOf]; omega
                · have f2 : (p.result == z.result) = false := beq_eq_false_iff_ne.mpr h2
                  have HN : Hid (¬ T) := Lib.hid (fun e => by
                    have e2 := HY.out
                    rw [(HT.out.mp e).2.1, HZ.out] at e2
                    cases e2
                    exact h2 rfl)
                  go_wp2_with fail
                  go_quiet (fail)
                  go_wp2_with fail
                  go_ret
                  exact ⟨false, rfl, iffM_F HN.out, belowN HB.out _⟩
              · have f1 : (p.params == z.params) = false := beq_eq_false_iff_ne.mpr h1
                have HN : Hid (¬ T) := Lib.hid (fun e => by
                  have e2 := HY.out
                  rw [(HT.out.mp e).2.1, HZ.out] at e2
                  cases e2
                  exact h1 rfl)
                go_wp2_with fail
                go_quiet (fail)
                go_wp2_with fail
                go_ret
                exact ⟨false, rfl, iffM_F HN.out, belowN HB.out _⟩
            · have f0 := text_neM h0
              have HN : Hid (¬ T) := Lib.hid (fun e => by
                have e2 := HY.out
                rw [(HT.out.mp e).2.1, HZ.out] at e2
                cases e2
                exact h0 rfl)
              go_wp2_with fail
              go_quiet (fail)
              go_wp2_with fail
              go_ret
              exact ⟨false, rfl, iffM_F HN.out, belowN HB.out _⟩
          · have hk' : k = x.imports.length := by omega
            have HI : Hid (x.imports = y.imports) := Lib.hid (Ims_ext HL1.out (hk' ▸ hM.out))
            have hly : ¬ (k : Int) < (x.imports.length : Int) := by omega
            have HB := Lib.hid hbel
            clear hbel hM
            go_wp2_with fail
            clear hlt hly hk'
            have hbel := HB.out
            go_loopw [6] (fun i wr => ∃ k : Nat, k ≤ x.cores.length ∧ i = .int .i64 k ∧ Hid (∀ i, i < k → x.cores[i]? = y.cores[i]?) ∧ wr.cell? ⟨w.heap.size, 1, none⟩ = some (.slice Rimports x.imports.length cimports) ∧ wr.cell? ⟨w.heap.size, 2, none⟩ = some (.slice Rcores x.cores.length ccores) ∧ wr.cell? ⟨w.heap.size + 1, 1, none⟩ = some (.slice Rimports' y.imports.length cimports') ∧ wr.cell? ⟨w.heap.size + 1, 2, none⟩ = some (.slice Rcores' y.cores.length ccores') ∧ Below w.heap.size w wr) (fun i _ => x.cores.length - (intOf i).toNat)
            case atStart => exact ⟨0, Nat.zero_le _, rfl, fun i hi => by omega, ka, kb, kc, kd, hbel⟩
            case round =>
              clear ka kb kc kd hbel HB
              obtain ⟨k, hk, rfl, hM, ka, kb, kc, kd, hbel⟩ := hrel
              by_cases hlt : k < x.cores.length
              · obtain ⟨b, o, p, R1, cc1, rfl, _, hpk, hc⟩ := (Cos.below H.out.2 hbel).at_ hlt
                obtain ⟨b', o', q, R2, cc2, rfl, _, hqk, hd⟩ := (Cos.below H'.out.2 hbel).at_ (k := k) (by have := HL2.out; omega)
                have CS := (fun W x y => specSameCo_any p q (HW.out k p hpk) R1 cc1 R2 cc2 lo lo' W x y)
                have HA1 := Lib.hid hc.at_
                have HA2 := Lib.hid hd.at_
                obtain ⟨c0, c1, c2, c3, c4, _⟩ := hc
                obtain ⟨d0, d1, d2, d3, d4, _⟩ := hd
                have HY := Lib.hid hpk
                have HZ := Lib.hid hqk
                have HB := Lib.hid hbel
                have hli : (k : Int) < (x.cores.length : Int) := by omega
                have hly : (k : Int) < (y.cores.length : Int) := by have := HL2.out; omega
                clear hpk hqk hbel
                by_cases hs : p = q
                · have C := Lib.hid (fun W x y => (CS W x y).mono fun _ _ j => j.yes hs)
                  have HS := Lib.hid hs
                  clear hs CS
                  go_wp2_with fail
                  go_region_held3 (fun w' => w'.cell? ⟨w.heap.size, 2, none⟩ = some (.slice (some ⟨b, o, none⟩) x.cores.length ccores) ∧ w'.cell? ⟨w.heap.size + 1, 2, none⟩ = some (.slice (some ⟨b', o', none⟩) y.cores.length ccores') ∧ w'.cell? ⟨b, o + k * 5, none⟩ = some (.string p.name) ∧ w'.cell? ⟨b, o + k * 5 + 1, none⟩ = some (.int .i64 p.params) ∧ w'.cell? ⟨b, o + k * 5 + 2, none⟩ = some (.int .i64 p.locals) ∧ w'.cell? ⟨b, o + k * 5 + 3, none⟩ = some (.bool p.result) ∧ w'.cell? ⟨b, o + k * 5 + 4, none⟩ = some (.slice R1 p.code.length cc1) ∧ w'.cell? ⟨b', o' + k * 5, none⟩ = some (.string q.name) ∧ w'.cell? ⟨b', o' + k * 5 + 1, none⟩ = some (.int .i64 q.params) ∧ w'.cell? ⟨b', o' + k * 5 + 2, none⟩ = some (.int .i64 q.locals) ∧ w'.cell? ⟨b', o' + k * 5 + 3, none⟩ = some (.bool q.result) ∧ w'.cell? ⟨b', o' + k * 5 + 4, none⟩ = some (.slice R2 q.code.length cc2) ∧ Below wr.heap.size wr w')
                      (first | assumption | (exact ⟨kb, kd, c0, c1, c2, c3, c4, d0, d1, d2, d3, d4, Below.refl _ _⟩) | (exact ⟨kb, kd, c0, c1, c2, c3, c4, d0, d1, d2, d3, d4, (Below.refl _ _).drew⟩) | (exact ⟨ub, ud, u0, u1, u2, u3, u4, v0, v1, v2, v3, v4, hbw⟩))
                      (first | (go_at_call 25; refine (C.out _ (Co.At.below HA1.out (Below.refl _ _).drew) (Co.At.below HA2.out (Below.refl _ _).drew)).mono ?_; rintro e wx ⟨rfl, hbx⟩; have hbw : Below wr.heap.size wr wx := (Below.refl wr.heap.size wr).drew.trans hbx; have ua := keepCell hbw ka; have ub := keepCell hbw kb; have uc := keepCell hbw kc; have ud := keepCell hbw kd; have u0 := keepCell hbw c0; have u1 := keepCell hbw c1; have u2 := keepCell hbw c2; have u3 := keepCell hbw c3; have u4 := keepCell hbw c4; have v0 := keepCell hbw d0; have v1 := keepCell hbw d1; have v2 := keepCell hbw d2; have v3 := keepCell hbw d3; have v4 := keepCell hbw d4))
                  all_goals
                    go_wp2_with fail
                    go_roundw
                    case rel => exact ⟨k + 1, by omega, by go_num, fun i hi => by
                      by_cases e : i = k
                      · rw [e, HY.out, HZ.out, HS.out]
                      · exact hM.out i (by omega), ua, ub, uc, ud, bnext HB.out hbw⟩
                    case measure => simp [intOf]; omega
                · have C := Lib.hid (fun W x y => (CS W x y).mono fun _ _ j => j.no hs)
                  have HN : Hid (¬ T) := Lib.hid (fun e => by
                    have e2 := HY.out
                    rw [(HT.out.mp e).2.2, HZ.out] at e2
                    exact hs (Option.some.inj e2).symm)
                  clear hs CS
                  go_wp2_with fail
                  go_region_held3 (fun w' => w'.cell? ⟨w.heap.size, 2, none⟩ = some (.slice (some ⟨b, o, none⟩) x.cores.length ccores) ∧ w'.cell? ⟨w.heap.size + 1, 2, none⟩ = some (.slice (some ⟨b', o', none⟩) y.cores.length ccores') ∧ w'.cell? ⟨b, o + k * 5, none⟩ = some (.string p.name) ∧ w'.cell? ⟨b, o + k * 5 + 1, none⟩ = some (.int .i64 p.params) ∧ w'.cell? ⟨b, o + k * 5 + 2, none⟩ = some (.int .i64 p.locals) ∧ w'.cell? ⟨b, o + k * 5 + 3, none⟩ = some (.bool p.result) ∧ w'.cell? ⟨b, o + k * 5 + 4, none⟩ = some (.slice R1 p.code.length cc1) ∧ w'.cell? ⟨b', o' + k * 5, none⟩ = some (.string q.name) ∧ w'.cell? ⟨b', o' + k * 5 + 1, none⟩ = some (.int .i64 q.params) ∧ w'.cell? ⟨b', o' + k * 5 + 2, none⟩ = some (.int .i64 q.locals) ∧ w'.cell? ⟨b', o' + k * 5 + 3, none⟩ = some (.bool q.result) ∧ w'.cell? ⟨b', o' + k * 5 + 4, none⟩ = some (.slice R2 q.code.length cc2) ∧ Below wr.heap.size wr w')
                      (first | assumption | (exact ⟨kb, kd, c0, c1, c2, c3, c4, d0, d1, d2, d3, d4, Below.refl _ _⟩) | (exact ⟨kb, kd, c0, c1, c2, c3, c4, d0, d1, d2, d3, d4, (Below.refl _ _).drew⟩) | (exact ⟨ub, ud, u0, u1, u2, u3, u4, v0, v1, v2, v3, v4, hbw⟩))
                      (first | (go_at_call 25; refine (C.out _ (Co.At.below HA1.out (Below.refl _ _).drew) (Co.At.below HA2.out (Below.refl _ _).drew)).mono ?_; rintro e wx ⟨rfl, hbx⟩; have hbw : Below wr.heap.size wr wx := (Below.refl wr.heap.size wr).drew.trans hbx; have ua := keepCell hbw ka; have ub := keepCell hbw kb; have uc := keepCell hbw kc; have ud := keepCell hbw kd; have u0 := keepCell hbw c0; have u1 := keepCell hbw c1; have u2 := keepCell hbw c2; have u3 := keepCell hbw c3; have u4 := keepCell hbw c4; have v0 := keepCell hbw d0; have v1 := keepCell hbw d1; have v2 := keepCell hbw d2; have v3 := keepCell hbw d3; have v4 := keepCell hbw d4))
                  all_goals
                    go_wp2_with fail
                    go_ret
                    exact ⟨false, rfl, iffM_F HN.out, bnext HB.out hbw⟩
              · have hk' : k = x.cores.length := by omega
                have HC : Hid (x.cores = y.cores) := Lib.hid (Cos_ext HL2.out (hk' ▸ hM.out))
                have HE : Hid T := Lib.hid (HT.out.mpr ⟨HP.out, HI.out, HC.out⟩)
                have hly : ¬ (k : Int) < (x.cores.length : Int) := by omega
                have HB := Lib.hid hbel
                clear hbel hM
                go_wp2_with fail
                go_ret
                exact ⟨true, rfl, iffM_T HE.out, HB.out⟩
      · have HF : Hid (¬ T) := Lib.hid (fun h0 => hl2 (congrArg List.length (HT.out.mp h0).2.2))
        have e2 : ((x.cores.length : Int) == (y.cores.length : Int)) = false := beq_eq_false_iff_ne.mpr (by omega)
        have e2' : ((x.cores.length : Int) != (y.cores.length : Int)) = true := bne_iff_ne.mpr (by omega)
        clear hl2
        go_enter Try.func7, Try.ntmps7
        go_wp2_with fail
        go_ret
        exact ⟨false, rfl, iffM_F HF.out, below2 _ _ _⟩
    · have HF : Hid (¬ T) := Lib.hid (fun h0 => hl1 (congrArg List.length (HT.out.mp h0).2.1))
      have e1 : ((x.imports.length : Int) == (y.imports.length : Int)) = false := beq_eq_false_iff_ne.mpr (by omega)
      have e1' : ((x.imports.length : Int) != (y.imports.length : Int)) = true := bne_iff_ne.mpr (by omega)
      clear hl1
      go_enter Try.func7, Try.ntmps7
      go_wp2_with fail
      go_ret
      exact ⟨false, rfl, iffM_F HF.out, below2 _ _ _⟩
  · have e0 : (x.pages == y.pages) = false := beq_eq_false_iff_ne.mpr hp
    have e0' : (x.pages != y.pages) = true := bne_iff_ne.mpr hp
    have HF : Hid (¬ T) := Lib.hid (fun h0 => hp (HT.out.mp h0).1)
    clear hp
    go_enter Try.func7, Try.ntmps7
    go_wp2_with fail
    go_ret
    exact ⟨false, rfl, iffM_F HF.out, below2 _ _ _⟩
end Go.Proofs.Ytoeofhhmkkpjbaa
