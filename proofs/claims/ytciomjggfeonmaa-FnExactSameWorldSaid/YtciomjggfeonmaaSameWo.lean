/-
  The walks of both SameWorld.
-/
import Derived.Test.YtciomjggfeonmaaSameFaL
namespace Go.Proofs.Ytciomjggfeonmaa
open Go.ChangeShapes Go.WideShapes Go.ChangeAt Go.RowKit Go.Deep

def SameWo (x y : Wo) : Prop := x.pack = y.pack ∧ x.name = y.name ∧ x.version = y.version ∧ SameFas x.imps y.imps ∧ SameFas x.exps y.exps

set_option maxHeartbeats 2000000 in
set_option maxRecDepth 100000 in
theorem specSameWorld_any (x y : Wo) (hx : x.wt ≤ 1048576) (hy : y.wt ≤ 1048576) (Rimps : Option Addr) (cimps : Nat) (Rexps : Option Addr) (cexps : Nat) (Rimps' : Option Addr) (cimps' : Nat) (Rexps' : Option Addr) (cexps' : Nat) (lo lo' : Nat) (w : World) (h : Wo.At w lo x Rimps Rexps) (h' : Wo.At w lo' y Rimps' Rexps') :
    Calls Try.prog 15 #[.agg #[.string x.pack, .string x.name, .string x.version, .slice Rimps x.imps.length cimps, .slice Rexps x.exps.length cexps], .agg #[.string y.pack, .string y.name, .string y.version, .slice Rimps' y.imps.length cimps', .slice Rexps' y.exps.length cexps']] w (SaysB (SameWo x y) w) := by
  have hfx := Fa.wts_nonneg x.imps
  have hfy := Fa.wts_nonneg y.imps
  have hgx := Fa.wts_nonneg x.exps
  have hgy := Fa.wts_nonneg y.exps
  unfold Wo.wt at hx hy
  have hwx : ∀ (i : Nat) (p : Fa), x.imps[i]? = some p → p.wt ≤ 1048576 := fun i p hp => by have := Fa.wt_mem hp; omega
  have hwy : ∀ (i : Nat) (p : Fa), y.imps[i]? = some p → p.wt ≤ 1048576 := fun i p hp => by have := Fa.wt_mem hp; omega
  have hvx : ∀ (i : Nat) (p : Fa), x.exps[i]? = some p → p.wt ≤ 1048576 := fun i p hp => by have := Fa.wt_mem hp; omega
  have hvy : ∀ (i : Nat) (p : Fa), y.exps[i]? = some p → p.wt ≤ 1048576 := fun i p hp => by have := Fa.wt_mem hp; omega
  have hlx : x.imps.length ≤ 1048576 := by omega
  have hrx : x.exps.length ≤ 1048576 := by omega
  have C1 := Lib.hid (fun W a b => sameFasS_any x.imps y.imps hlx hwx hwy Rimps Rimps' cimps cimps' lo lo' W a b)
  have C2 := Lib.hid (fun W a b => sameFasS_any x.exps y.exps hrx hvx hvy Rexps Rexps' cexps cexps' lo lo' W a b)
  have H1 := Lib.hid h.1
  have H1' := Lib.hid h'.1
  have H2 := Lib.hid h.2
  have H2' := Lib.hid h'.2
  clear hwx hwy hvx hvy h h' hx hy hfx hfy hgx hgy hlx hrx
  by_cases hs0 : ¬ x.pack = y.pack
  · have e0 := text_ne hs0
    have HF := Lib.hid (fun h : SameWo x y => hs0 h.1)
    clear hs0 C1 C2
    go_enter Try.func15, Try.ntmps15
    go_wp2_with fail
    go_ret
    exact ⟨false, rfl, iffF HF.out, below2 _ _ _⟩
  replace hs0 := Classical.not_not.mp hs0
  have e0 : (x.pack.toList == y.pack.toList) = true := by rw [hs0, beq_iff_eq]
  have HS0 := Lib.hid hs0
  clear hs0
  by_cases hs1 : ¬ x.name = y.name
  · have e1 := text_ne hs1
    have HF := Lib.hid (fun h : SameWo x y => hs1 h.2.1)
    clear hs1 C1 C2
    go_enter Try.func15, Try.ntmps15
    go_wp2_with fail
    go_ret
    exact ⟨false, rfl, iffF HF.out, below2 _ _ _⟩
  replace hs1 := Classical.not_not.mp hs1
  have e1 : (x.name.toList == y.name.toList) = true := by rw [hs1, beq_iff_eq]
  have HS1 := Lib.hid hs1
  clear hs1
  by_cases hs2 : ¬ x.version = y.version
  · have e2 := text_ne hs2
    have HF := Lib.hid (fun h : SameWo x y => hs2 h.2.2.1)
    clear hs2 C1 C2
    go_enter Try.func15, Try.ntmps15
    go_wp2_with fail
    go_ret
    exact ⟨false, rfl, iffF HF.out, below2 _ _ _⟩
  replace hs2 := Classical.not_not.mp hs2
  have e2 : (x.version.toList == y.version.toList) = true := by rw [hs2, beq_iff_eq]
  have HS2 := Lib.hid hs2
  clear hs2
  by_cases hi : SameFas x.imps y.imps
  · have C1' := Lib.hid (fun W a b => (C1.out W a b).mono fun _ _ j => j.yes hi)
    have HI := Lib.hid hi
    clear hi C1
    go_enter Try.func15, Try.ntmps15
    go_wp2_with fail
    go_at_call 35
    refine (C1'.out _ (H1.out.below (below2 _ _ _)) (H1'.out.below (below2 _ _ _))).mono ?_
    rintro e w2 ⟨rfl, hb2⟩
    have hq0 := keepCell (a := ⟨w.heap.size, 4, none⟩) (v := .slice Rexps x.exps.length cexps) hb2 (by go_simp)
    have hq1 := keepCell (a := ⟨w.heap.size + 1, 4, none⟩) (v := .slice Rexps' y.exps.length cexps') hb2 (by go_simp)
    have HB2 := Lib.hid (bnext (below2 _ _ _) hb2)
    clear hb2 C1'
    go_wp2_with fail
    go_at_call 35
    refine (C2.out _ (H2.out.below HB2.out) (H2'.out.below HB2.out)).mono ?_
    rintro e w3 ⟨v, rfl, hv, hb3⟩
    have HV := Lib.hid hv
    have HB3 := Lib.hid (bnext HB2.out hb3)
    clear hv hb3
    go_wp2_with fail
    go_ret
    exact ⟨v, rfl, ⟨fun j => ⟨HS0.out, HS1.out, HS2.out, HI.out, HV.out.mp j⟩, fun j => HV.out.mpr j.2.2.2.2⟩, HB3.out⟩
  · have C1' := Lib.hid (fun W a b => (C1.out W a b).mono fun _ _ j => j.no hi)
    have HF := Lib.hid (fun h : SameWo x y => hi h.2.2.2.1)
    clear hi C1 C2
    go_enter Try.func15, Try.ntmps15
    go_wp2_with fail
    go_at_call 35
    refine (C1'.out _ (H1.out.below (below2 _ _ _)) (H1'.out.below (below2 _ _ _))).mono ?_
    rintro e w2 ⟨rfl, hb2⟩
    have HB2 := Lib.hid (bnext (below2 _ _ _) hb2)
    clear hb2
    go_wp2_with fail
    go_ret
    exact ⟨false, rfl, iffF HF.out, HB2.out⟩

set_option maxHeartbeats 2000000 in
set_option maxRecDepth 100000 in
theorem implSameWorld_any (x y : Wo) (hx : x.wt ≤ 1048576) (hy : y.wt ≤ 1048576) (Rimps : Option Addr) (cimps : Nat) (Rexps : Option Addr) (cexps : Nat) (Rimps' : Option Addr) (cimps' : Nat) (Rexps' : Option Addr) (cexps' : Nat) (lo lo' : Nat) (h0 : 0 < lo) (h0' : 0 < lo') (w : World) (h : Wo.At w lo x Rimps Rexps) (h' : Wo.At w lo' y Rimps' Rexps') :
    Calls Try.prog 17 #[.agg #[.string x.pack, .string x.name, .string x.version, .slice Rimps x.imps.length cimps, .slice Rexps x.exps.length cexps], .agg #[.string y.pack, .string y.name, .string y.version, .slice Rimps' y.imps.length cimps', .slice Rexps' y.exps.length cexps']] w (SaysB (SameWo x y) w) := by
  have hfx := Fa.wts_nonneg x.imps
  have hfy := Fa.wts_nonneg y.imps
  have hgx := Fa.wts_nonneg x.exps
  have hgy := Fa.wts_nonneg y.exps
  unfold Wo.wt at hx hy
  have hwx : ∀ (i : Nat) (p : Fa), x.imps[i]? = some p → p.wt ≤ 1048576 := fun i p hp => by have := Fa.wt_mem hp; omega
  have hwy : ∀ (i : Nat) (p : Fa), y.imps[i]? = some p → p.wt ≤ 1048576 := fun i p hp => by have := Fa.wt_mem hp; omega
  have hvx : ∀ (i : Nat) (p : Fa), x.exps[i]? = some p → p.wt ≤ 1048576 := fun i p hp => by have := Fa.wt_mem hp; omega
  have hvy : ∀ (i : Nat) (p : Fa), y.exps[i]? = some p → p.wt ≤ 1048576 := fun i p hp => by have := Fa.wt_mem hp; omega
  have hlx : x.imps.length ≤ 1048576 := by omega
  have hrx : x.exps.length ≤ 1048576 := by omega
  have C1 := Lib.hid (fun W a b => eqfFa_any x.imps y.imps hlx hwx hwy Rimps Rimps' cimps cimps' lo lo' h0 h0' W a b)
  have C2 := Lib.hid (fun W a b => eqfFa_any x.exps y.exps hrx hvx hvy Rexps Rexps' cexps cexps' lo lo' h0 h0' W a b)
  have H1 := Lib.hid h.1
  have H1' := Lib.hid h'.1
  have H2 := Lib.hid h.2
  have H2' := Lib.hid h'.2
  clear hwx hwy hvx hvy h h' hx hy hfx hfy hgx hgy hlx hrx
  clear h0 h0'
  by_cases hs0 : ¬ x.pack = y.pack
  · have e0 := text_ne hs0
    have HF := Lib.hid (fun h : SameWo x y => hs0 h.1)
    clear hs0 C1 C2
    go_enter Try.func17, Try.ntmps17
    go_wp2_with fail
    go_ret
    exact ⟨false, rfl, iffF HF.out, below2 _ _ _⟩
  replace hs0 := Classical.not_not.mp hs0
  have e0 : (x.pack.toList == y.pack.toList) = true := by rw [hs0, beq_iff_eq]
  have HS0 := Lib.hid hs0
  clear hs0
  by_cases hs1 : ¬ x.name = y.name
  · have e1 := text_ne hs1
    have HF := Lib.hid (fun h : SameWo x y => hs1 h.2.1)
    clear hs1 C1 C2
    go_enter Try.func17, Try.ntmps17
    go_wp2_with fail
    go_ret
    exact ⟨false, rfl, iffF HF.out, below2 _ _ _⟩
  replace hs1 := Classical.not_not.mp hs1
  have e1 : (x.name.toList == y.name.toList) = true := by rw [hs1, beq_iff_eq]
  have HS1 := Lib.hid hs1
  clear hs1
  by_cases hs2 : ¬ x.version = y.version
  · have e2 := text_ne hs2
    have HF := Lib.hid (fun h : SameWo x y => hs2 h.2.2.1)
    clear hs2 C1 C2
    go_enter Try.func17, Try.ntmps17
    go_wp2_with fail
    go_ret
    exact ⟨false, rfl, iffF HF.out, below2 _ _ _⟩
  replace hs2 := Classical.not_not.mp hs2
  have e2 : (x.version.toList == y.version.toList) = true := by rw [hs2, beq_iff_eq]
  have HS2 := Lib.hid hs2
  clear hs2
  by_cases hi : SameFas x.imps y.imps
  · have C1' := Lib.hid (fun W a b => (C1.out W a b).mono fun _ _ j => j.yes hi)
    have HI := Lib.hid hi
    clear hi C1
    go_enter Try.func17, Try.ntmps17
    go_wp2_with fail
    go_at_call 37
    refine (C1'.out _ (H1.out.below (below2 _ _ _)) (H1'.out.below (below2 _ _ _))).mono ?_
    rintro e w2 ⟨rfl, hb2⟩
    have hq0 := keepCell (a := ⟨w.heap.size, 4, none⟩) (v := .slice Rexps x.exps.length cexps) hb2 (by go_simp)
    have hq1 := keepCell (a := ⟨w.heap.size + 1, 4, none⟩) (v := .slice Rexps' y.exps.length cexps') hb2 (by go_simp)
    have HB2 := Lib.hid (bnext (below2 _ _ _) hb2)
    clear hb2 C1'
    go_wp2_with fail
    go_at_call 37
    refine (C2.out _ (H2.out.below HB2.out) (H2'.out.below HB2.out)).mono ?_
    rintro e w3 ⟨v, rfl, hv, hb3⟩
    have HV := Lib.hid hv
    have HB3 := Lib.hid (bnext HB2.out hb3)
    clear hv hb3
    go_wp2_with fail
    go_ret
    exact ⟨v, rfl, ⟨fun j => ⟨HS0.out, HS1.out, HS2.out, HI.out, HV.out.mp j⟩, fun j => HV.out.mpr j.2.2.2.2⟩, HB3.out⟩
  · have C1' := Lib.hid (fun W a b => (C1.out W a b).mono fun _ _ j => j.no hi)
    have HF := Lib.hid (fun h : SameWo x y => hi h.2.2.2.1)
    clear hi C1 C2
    go_enter Try.func17, Try.ntmps17
    go_wp2_with fail
    go_at_call 37
    refine (C1'.out _ (H1.out.below (below2 _ _ _)) (H1'.out.below (below2 _ _ _))).mono ?_
    rintro e w2 ⟨rfl, hb2⟩
    have HB2 := Lib.hid (bnext (below2 _ _ _) hb2)
    clear hb2
    go_wp2_with fail
    go_ret
    exact ⟨false, rfl, iffF HF.out, HB2.out⟩
end Go.Proofs.Ytciomjggfeonmaa
