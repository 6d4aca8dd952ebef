/-
  Walks of measuring, copying and comparing Module by value and in slices.
-/
import Derived.Test.YtbjcldekapipaaaGreatDoorStMo
import Derived.Test.YtbjcldekapipaaaGreatDoorRowGen
import Derived.Test.YtbjcldekapipaaaGreatDoorStEx
import Derived.Test.YtbjcldekapipaaaGreatDoorMIw
import Derived.Test.YtbjcldekapipaaaGreatDoorMCw
namespace Go.Proofs.YtbjcldekapipaaaGreatDoor
open Go.ChangeShapes Go.WideShapes Go.ChangeAt Go.RowKit Go.Deep

theorem Mo.parts_le {x : Mo} (h : x.wt ≤ 1048576) : ((x.imports.length : Int) + Im.wts x.imports) ≤ 1048576 ∧ ((x.cores.length : Int) + Co.wts x.cores) ≤ 1048576 ∧ True := by
  have := Im.wts_nonneg x.imports
  have := Co.wts_nonneg x.cores
  unfold Mo.wt at h
  refine ⟨by omega, by omega, trivial⟩

theorem szModule_any (x : Mo) (hf : x.Fin) (left : Int) (h0 : 0 ≤ left) (h1 : left ≤ 1048576) (Rimports : Option Addr) (cimports : Nat) (Rcores : Option Addr) (ccores : Nat) (lo : Nat) (w : World) (h : Mo.At w lo x Rimports Rcores) :
    Calls Tryz.prog 6 #[.agg #[.int .i64 x.pages, .slice Rimports x.imports.length cimports, .slice Rcores x.cores.length ccores], .int .i64 left] w fun e w' => e = .returned (.int .i64 (leftOr (left - x.wt))) ∧ Below w.heap.size w w' := by
  obtain ⟨f0, f1, f2⟩ := hf
  have hw : x.wt = ((x.imports.length : Int) + Im.wts x.imports) + ((x.cores.length : Int) + Co.wts x.cores) := rfl
  have n_imports := Im.wts_nonneg x.imports
  have n_cores := Co.wts_nonneg x.cores
  obtain ⟨p_imports, p_cores⟩ := h
  have HP_imports := Lib.hid p_imports
  have HP_cores := Lib.hid p_cores
  have C_imports : Hid (∀ (l : Int), 0 ≤ l → l ≤ 1048576 → ∀ W : World, Ims W lo x.imports Rimports → Calls Tryz.prog 19 #[.slice Rimports x.imports.length cimports, .int .i64 l] W fun e w' => e = .returned (.int .i64 (leftOr (l - ((x.imports.length : Int) + Im.wts x.imports)))) ∧ Below W.heap.size W w') := Lib.hid (fun l l0 l1 W hW => szImportS_any x.imports f1.1 f1.2 l l0 l1 Rimports cimports lo W hW)
  have C_cores : Hid (∀ (l : Int), 0 ≤ l → l ≤ 1048576 → ∀ W : World, Cos W lo x.cores Rcores → Calls Tryz.prog 20 #[.slice Rcores x.cores.length ccores, .int .i64 l] W fun e w' => e = .returned (.int .i64 (leftOr (l - ((x.cores.length : Int) + Co.wts x.cores)))) ∧ Below W.heap.size W w') := Lib.hid (fun l l0 l1 W hW => szCoreS_any x.cores f2.1 f2.2 l l0 l1 Rcores ccores lo W hW)
  obtain ⟨R, hR⟩ : ∃ R, leftOr (left - x.wt) = R := ⟨_, rfl⟩
  rw [hR]
  have HRR := Lib.hid hR
  have HW := Lib.hid hw
  clear hR hw p_imports p_cores
  generalize Im.wts x.imports = w_imports at *
  generalize x.imports.length = l_imports at *
  generalize Co.wts x.cores = w_cores at *
  generalize x.cores.length = l_cores at *
  generalize x.wt = W0 at *
  go_enter Tryz.func6, Tryz.ntmps6
  go_wp2_with fail
  go_at_call 19
  refine (C_imports.out _ h0 h1 _ (HP_imports.out.below (below1 _ _))).mono ?_
  rintro e v1 ⟨rfl, hb1⟩
  have k_1_cores_0 := keepCell (a := ⟨w.heap.size, 2, none⟩) (v := .slice Rcores l_cores ccores) hb1 (by go_simp)
  have HB1 := Lib.hid (bnext (below1 _ _) hb1)
  clear hb1
  by_cases e1 : left - ((l_imports : Int) + w_imports) < 0
  · rw [leftOr_neg e1]
    go_wp2_with fail
    go_ret
    refine ⟨ret_int ?_, HB1.out⟩
    have := HW.out
    rw [← HRR.out, leftOr_neg (by omega)]
  · rw [leftOr_pos (by omega)]
    obtain ⟨M1, hm1⟩ : ∃ M, left - ((l_imports : Int) + w_imports) = M := ⟨_, rfl⟩
    rw [hm1]
    have hx1 : 0 ≤ M1 := by omega
    have hy1 : M1 ≤ 1048576 := by omega
    have Hm1 := Lib.hid hm1
    clear e1 hm1
    go_wp2_with fail
    go_at_call 20
    refine (C_cores.out _ hx1 hy1 _ (HP_cores.out.below (HB1.out))).mono ?_
    rintro e v2 ⟨rfl, hb2⟩
    have HB2 := Lib.hid (bnext (HB1.out) hb2)
    clear hb2
    by_cases e2 : M1 - ((l_cores : Int) + w_cores) < 0
    · rw [leftOr_neg e2]
      go_wp2_with fail
      go_ret
      refine ⟨ret_int ?_, HB2.out⟩
      have := HW.out
      have := Hm1.out
      rw [← HRR.out, leftOr_neg (by omega)]
    · rw [leftOr_pos (by omega)]
      obtain ⟨M2, hm2⟩ : ∃ M, M1 - ((l_cores : Int) + w_cores) = M := ⟨_, rfl⟩
      rw [hm2]
      have hx2 : 0 ≤ M2 := by omega
      have hy2 : M2 ≤ 1048576 := by omega
      have Hm2 := Lib.hid hm2
      clear e2 hm2
      go_wp2_with fail
      go_ret
      refine ⟨ret_int ?_, HB2.out⟩
      have := HW.out
      have := Hm1.out
      have := Hm2.out
      rw [← HRR.out, leftOr_pos (by omega)]
      omega

/-- What copying leaves: the same in new memory. -/
def ToModulePost (x : Mo) (w : World) (e : Ending) (w' : World) : Prop := ∃ (Rimports : Option Addr), ∃ (cimports : Nat), ∃ (Rcores : Option Addr), ∃ (ccores : Nat), e = .returned (.agg #[.int .i64 x.pages, .slice Rimports x.imports.length cimports, .slice Rcores x.cores.length ccores]) ∧ (x.imports.length ≤ cimports ∧ x.cores.length ≤ ccores) ∧ Mo.At w' w.heap.size x Rimports Rcores ∧ Below w.heap.size w w'
set_option maxRecDepth 100000 in
theorem toModule_any (x : Mo) (hT : x.wt ≤ 1048576) (Rimports : Option Addr) (cimports : Nat) (Rcores : Option Addr) (ccores : Nat) (lo : Nat) (w : World) (h : Mo.At w lo x Rimports Rcores) :
    Calls Tryz.prog 8 #[.agg #[.int .i64 x.pages, .slice Rimports x.imports.length cimports, .slice Rcores x.cores.length ccores]] w (ToModulePost x w) := by
  obtain ⟨q_imports, q_cores, _⟩ := Mo.parts_le hT
  obtain ⟨p_imports, p_cores⟩ := h
  have HP_imports := Lib.hid p_imports
  have HP_cores := Lib.hid p_cores
  have C_imports : Hid (∀ W : World, Ims W lo x.imports Rimports → Calls Tryz.prog 24 #[.slice Rimports x.imports.length cimports] W fun e w' => ∃ (Rimports' : Option Addr), ∃ (cimports' : Nat), e = .returned (.slice Rimports' x.imports.length cimports') ∧ x.imports.length ≤ cimports' ∧ Ims w' W.heap.size x.imports Rimports' ∧ Below W.heap.size W w') := Lib.hid (fun W hW => toImportS_any x.imports (by have := Im.wts_nonneg x.imports; omega) (fun i y hy => by have := Im.wt_mem hy; omega) Rimports cimports lo W hW)
  have C_cores : Hid (∀ W : World, Cos W lo x.cores Rcores → Calls Tryz.prog 25 #[.slice Rcores x.cores.length ccores] W fun e w' => ∃ (Rcores' : Option Addr), ∃ (ccores' : Nat), e = .returned (.slice Rcores' x.cores.length ccores') ∧ x.cores.length ≤ ccores' ∧ Cos w' W.heap.size x.cores Rcores' ∧ Below W.heap.size W w') := Lib.hid (fun W hW => toCoreS_any x.cores (by have := Co.wts_nonneg x.cores; omega) (fun i y hy => by have := Co.wt_mem hy; omega) Rcores ccores lo W hW)
  clear hT p_imports p_cores q_imports q_cores
  go_enter Tryz.func8, Tryz.ntmps8
  go_wp2_with fail
  go_at_call 24
  refine (C_imports.out _ (HP_imports.out.below (by (repeat (with_reducible refine Below.setCell ?_ (by first | (simp; done) | (simp; omega)) _)); exact below3 _ _ _ _))).mono ?_
  rintro e v1 ⟨Rimportsz, cimportsz, rfl, hcap1, hp1, hb1⟩
  have HC1 := Lib.hid hcap1
  clear hcap1
  obtain ⟨hc1, hf1⟩ := bcell hb1
  have d1_0 := keepCell (a := ⟨w.heap.size + 1 + 1, 0, none⟩) (v := .int .i64 x.pages) hb1 (by go_simp)
  have r1_0 := keepCell (a := ⟨w.heap.size + 1, 0, none⟩) (v := .int .i64 0) hb1 (by go_simp)
  have d1_1 := keepCell (a := ⟨w.heap.size + 1 + 1, 1, none⟩) (v := .slice none 0 0) hb1 (by go_simp)
  have r1_1 := keepCell (a := ⟨w.heap.size + 1, 1, none⟩) (v := .slice none 0 0) hb1 (by go_simp)
  have d1_2 := keepCell (a := ⟨w.heap.size + 1 + 1, 2, none⟩) (v := .slice none 0 0) hb1 (by go_simp)
  have r1_2 := keepCell (a := ⟨w.heap.size + 1, 2, none⟩) (v := .slice none 0 0) hb1 (by go_simp)
  have a1_2 := keepCell (a := ⟨w.heap.size, 2, none⟩) (v := .slice Rcores x.cores.length ccores) hb1 (by go_simp)
  have HB1 : Hid (Below w.heap.size w v1) := Lib.hid (bnext (by (repeat (with_reducible refine Below.setCell ?_ (by first | (simp; done) | (simp; omega)) _)); exact below3 _ _ _ _) hb1)
  have HS1 := Lib.hid hb1
  have hz1 : w.heap.size + 1 + 1 < v1.heap.size := (by have h9 := hb1.size; simp at h9; omega)
  have g1 : ∀ o, v1.frozen? ⟨w.heap.size + 1, o, none⟩ = false := (fun o => (hf1 _ _ (by first | (simp; done) | (simp; omega))).trans (by go_simp))
  have h1 : ∀ o, v1.frozen? ⟨w.heap.size + 1 + 1, o, none⟩ = false := (fun o => (hf1 _ _ (by first | (simp; done) | (simp; omega))).trans (by go_simp))
  have P1 := Lib.hid (hp1.low (lo' := w.heap.size + 1 + 1 + 1) (by first | (simp; done) | (simp; omega)))
  clear hp1 hb1 hc1 hf1
  go_wp2_with fail
  go_at_call 25
  refine (C_cores.out _ (HP_cores.out.below (by (repeat (with_reducible refine Below.setCell ?_ (by first | (simp; done) | (simp; omega)) _)); exact HB1.out))).mono ?_
  rintro e v2 ⟨Rcoresz, ccoresz, rfl, hcap2, hp2, hb2⟩
  have HC2 := Lib.hid hcap2
  clear hcap2
  obtain ⟨hc2, hf2⟩ := bcell hb2
  have d2_0 := keepCell (a := ⟨w.heap.size + 1 + 1, 0, none⟩) (v := .int .i64 x.pages) hb2 (by go_simp)
  have r2_0 := keepCell (a := ⟨w.heap.size + 1, 0, none⟩) (v := .int .i64 0) hb2 (by go_simp)
  have d2_1 := keepCell (a := ⟨w.heap.size + 1 + 1, 1, none⟩) (v := .slice Rimportsz x.imports.length cimportsz) hb2 (by go_simp)
  have r2_1 := keepCell (a := ⟨w.heap.size + 1, 1, none⟩) (v := .slice none 0 0) hb2 (by go_simp)
  have d2_2 := keepCell (a := ⟨w.heap.size + 1 + 1, 2, none⟩) (v := .slice none 0 0) hb2 (by go_simp)
  have r2_2 := keepCell (a := ⟨w.heap.size + 1, 2, none⟩) (v := .slice none 0 0) hb2 (by go_simp)
  have HB2 : Hid (Below w.heap.size w v2) := Lib.hid (bnext (by (repeat (with_reducible refine Below.setCell ?_ (by first | (simp; done) | (simp; omega)) _)); exact HB1.out) hb2)
  have HS2 := Lib.hid hb2
  have hz2 : w.heap.size + 1 + 1 < v2.heap.size := (by have h9 := hb2.size; simp at h9; omega)
  have g2 : ∀ o, v2.frozen? ⟨w.heap.size + 1, o, none⟩ = false := (fun o => (hf2 _ _ (by first | (simp; done) | (simp; omega))).trans (by go_simp))
  have h2 : ∀ o, v2.frozen? ⟨w.heap.size + 1 + 1, o, none⟩ = false := (fun o => (hf2 _ _ (by first | (simp; done) | (simp; omega))).trans (by go_simp))
  have P2 := Lib.hid (hp2.low (lo' := w.heap.size + 1 + 1 + 1) (by first | (simp; done) | (simp; omega)))
  clear hp2 hb2 hc2 hf2 d1_0 r1_0 d1_1 r1_1 d1_2 r1_2 a1_2 g1 h1
  go_wp2_with fail
  have kk := sets_in (v2.setCell ⟨w.heap.size + 1 + 1, 2, none⟩ (.slice Rcoresz x.cores.length ccoresz)) (w.heap.size + 1) [.int .i64 x.pages, .slice Rimportsz x.imports.length cimportsz, .slice Rcoresz x.cores.length ccoresz] (fun j hj => by
    have h4 : j = 0 ∨ j = 1 ∨ j = 2 := by simp at hj; omega
    rcases h4 with rfl | rfl | rfl <;> simp [World.cell?_setCell_other, r2_0, r2_1, r2_2])
  have k0 : ((((v2.setCell ⟨w.heap.size + 1 + 1, 2, none⟩ (.slice Rcoresz x.cores.length ccoresz)).setCell ⟨w.heap.size + 1, 0, none⟩ (.int .i64 x.pages)).setCell ⟨w.heap.size + 1, 1, none⟩ (.slice Rimportsz x.imports.length cimportsz)).setCell ⟨w.heap.size + 1, 2, none⟩ (.slice Rcoresz x.cores.length ccoresz)).cell? ⟨w.heap.size + 1, 0, none⟩ = some (.int .i64 x.pages) := kk 0 (by simp)
  have k1 : ((((v2.setCell ⟨w.heap.size + 1 + 1, 2, none⟩ (.slice Rcoresz x.cores.length ccoresz)).setCell ⟨w.heap.size + 1, 0, none⟩ (.int .i64 x.pages)).setCell ⟨w.heap.size + 1, 1, none⟩ (.slice Rimportsz x.imports.length cimportsz)).setCell ⟨w.heap.size + 1, 2, none⟩ (.slice Rcoresz x.cores.length ccoresz)).cell? ⟨w.heap.size + 1, 1, none⟩ = some (.slice Rimportsz x.imports.length cimportsz) := kk 1 (by simp)
  have k2 : ((((v2.setCell ⟨w.heap.size + 1 + 1, 2, none⟩ (.slice Rcoresz x.cores.length ccoresz)).setCell ⟨w.heap.size + 1, 0, none⟩ (.int .i64 x.pages)).setCell ⟨w.heap.size + 1, 1, none⟩ (.slice Rimportsz x.imports.length cimportsz)).setCell ⟨w.heap.size + 1, 2, none⟩ (.slice Rcoresz x.cores.length ccoresz)).cell? ⟨w.heap.size + 1, 2, none⟩ = some (.slice Rcoresz x.cores.length ccoresz) := kk 2 (by simp)
  clear kk
  refine bodyPost_ret (v := .agg #[.int .i64 x.pages, .slice Rimportsz x.imports.length cimportsz, .slice Rcoresz x.cores.length ccoresz]) (by simp [results, Tryz.results8, go_sem, k0, k1, k2]) rfl ?_
  refine ⟨_, _, _, _, rfl, ⟨HC1.out, HC2.out⟩, ?_, ?_⟩
  · refine ⟨?_, ?_⟩
    · refine Ims.low (lo := w.heap.size + 1 + 1 + 1) ?_ (by omega)
      (repeat (with_reducible refine Ims.keep ?_ (KeptFrom.setCell (by first | (simp; done) | (simp; omega)) _)))
      refine Ims.below ?_ HS2.out
      (repeat (with_reducible refine Ims.keep ?_ (KeptFrom.setCell (by first | (simp; done) | (simp; omega)) _)))
      exact P1.out
    · refine Cos.low (lo := w.heap.size + 1 + 1 + 1) ?_ (by omega)
      (repeat (with_reducible refine Cos.keep ?_ (KeptFrom.setCell (by first | (simp; done) | (simp; omega)) _)))
      exact P2.out
  · (repeat (with_reducible refine Below.setCell ?_ (by first | (simp; done) | (simp; omega)) _))
    exact HB2.out

theorem eqModule_any (x : Mo) (hT : x.wt ≤ 1048576) (Rimports : Option Addr) (cimports : Nat) (Rcores : Option Addr) (ccores : Nat) (Rimports' : Option Addr) (cimports' : Nat) (Rcores' : Option Addr) (ccores' : Nat) (lo lo' : Nat) (w : World) (h : Mo.At w lo x Rimports Rcores) (h' : Mo.At w lo' x Rimports' Rcores') :
    Calls Tryz.prog 10 #[.agg #[.int .i64 x.pages, .slice Rimports x.imports.length cimports, .slice Rcores x.cores.length ccores], .agg #[.int .i64 x.pages, .slice Rimports' x.imports.length cimports', .slice Rcores' x.cores.length ccores']] w fun e w' => e = .returned (.bool true) ∧ Below w.heap.size w w' := by
  obtain ⟨q_imports, q_cores, _⟩ := Mo.parts_le hT
  obtain ⟨p_imports, p_cores⟩ := h
  obtain ⟨pp_imports, pp_cores⟩ := h'
  have HP_imports := Lib.hid p_imports
  have HQ_imports := Lib.hid pp_imports
  have HP_cores := Lib.hid p_cores
  have HQ_cores := Lib.hid pp_cores
  have C_imports : Hid (∀ W : World, Ims W lo x.imports Rimports → Ims W lo' x.imports Rimports' → Calls Tryz.prog 32 #[.slice Rimports x.imports.length cimports, .slice Rimports' x.imports.length cimports'] W fun e w' => e = .returned (.bool true) ∧ Below W.heap.size W w') := Lib.hid (fun W h1 h2 => eqImportS_any x.imports (by have := Im.wts_nonneg x.imports; omega) (fun i y hy => by have := Im.wt_mem hy; omega) Rimports Rimports' cimports cimports' lo lo' W h1 h2)
  have C_cores : Hid (∀ W : World, Cos W lo x.cores Rcores → Cos W lo' x.cores Rcores' → Calls Tryz.prog 33 #[.slice Rcores x.cores.length ccores, .slice Rcores' x.cores.length ccores'] W fun e w' => e = .returned (.bool true) ∧ Below W.heap.size W w') := Lib.hid (fun W h1 h2 => eqCoreS_any x.cores (by have := Co.wts_nonneg x.cores; omega) (fun i y hy => by have := Co.wt_mem hy; omega) Rcores Rcores' ccores ccores' lo lo' W h1 h2)
  clear hT p_imports pp_imports p_cores pp_cores q_imports q_cores
  go_enter Tryz.func10, Tryz.ntmps10
  go_wp2_with fail
  go_at_call 32
  refine (C_imports.out _ (HP_imports.out.below (below2 _ _ _)) (HQ_imports.out.below (below2 _ _ _))).mono ?_
  rintro e v1 ⟨rfl, hb1⟩
  have a1_2 := keepCell (a := ⟨w.heap.size, 2, none⟩) (v := .slice Rcores x.cores.length ccores) hb1 (by go_simp)
  have b1_2 := keepCell (a := ⟨w.heap.size + 1, 2, none⟩) (v := .slice Rcores' x.cores.length ccores') hb1 (by go_simp)
  have HB1 := Lib.hid (bnext (below2 _ _ _) hb1)
  clear hb1
  go_wp2_with fail
  go_at_call 33
  refine (C_cores.out _ (HP_cores.out.below (HB1.out)) (HQ_cores.out.below (HB1.out))).mono ?_
  rintro e v2 ⟨rfl, hb2⟩
  have HB2 := Lib.hid (bnext (HB1.out) hb2)
  clear hb2
  go_wp2_with fail
  go_ret
  exact ⟨rfl, HB2.out⟩
end Go.Proofs.YtbjcldekapipaaaGreatDoor
