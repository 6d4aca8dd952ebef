/-
  ModuleShape of the program.
-/
import Derived.Test.YtoeofhhmkkpjbaaDoorShapeN
namespace Go.Proofs.YtoeofhhmkkpjbaaDoor
open Go.ChangeShapes Go.WideShapes Go.ChangeAt Go.RowKit Go.Deep

theorem im_wt {x : Mo} (hx : x.wt ≤ 1048576) : ∀ (i : Nat) (y : Im), x.imports[i]? = some y → y.wt ≤ 1048576 := fun i y hy => by
  have := Im.wt_mem hy
  have := Co.wts_nonneg x.cores
  unfold Mo.wt at hx
  omega
theorem co_wt {x : Mo} (hx : x.wt ≤ 1048576) : ∀ (i : Nat) (y : Co), x.cores[i]? = some y → y.wt ≤ 1048576 := fun i y hy => by
  have := Co.wt_mem hy
  have := Im.wts_nonneg x.imports
  unfold Mo.wt at hx
  omega
theorem imN_size {x : Mo} (hx : x.wt ≤ 1048576) : ∀ s ∈ imN x, s.size ≤ 1048576 := fun s hs => by
  obtain ⟨i, hi⟩ := List.getElem?_of_mem hs
  unfold imN at hi
  rw [List.getElem?_map] at hi
  cases hy : x.imports[i]? with
  | none => rw [hy] at hi; cases hi
  | some y =>
    rw [hy] at hi
    injection hi with hi
    have := im_wt hx i y hy
    unfold Im.wt at this
    rw [← hi]
    omega
theorem coN_size {x : Mo} (hx : x.wt ≤ 1048576) : ∀ s ∈ coN x, s.size ≤ 1048576 := fun s hs => by
  obtain ⟨i, hi⟩ := List.getElem?_of_mem hs
  unfold coN at hi
  rw [List.getElem?_map] at hi
  cases hy : x.cores[i]? with
  | none => rw [hy] at hi; cases hi
  | some y =>
    rw [hy] at hi
    injection hi with hi
    have := co_wt hx i y hy
    have := In.wts_nonneg y.code
    unfold Co.wt at *
    rw [← hi]
    omega

set_option maxHeartbeats 4000000 in
set_option maxRecDepth 100000 in
theorem implShape_any (x : Mo) (hx : x.wt ≤ 1048576) (Rimports : Option Addr) (cimports : Nat) (Rcores : Option Addr) (ccores : Nat) (lo : Nat) (w : World) (h : Mo.At w lo x Rimports Rcores) (ht : OpTab w) :
    Calls Tryd.prog 27 #[.agg #[.int .i64 x.pages, .slice Rimports x.imports.length cimports, .slice Rcores x.cores.length ccores]] w (SaysM (ShapeP x) w) := by
  obtain ⟨q_imports, q_cores, _⟩ := Mo.parts_le hx
  have hm1 : x.imports.length ≤ 1048576 := by have := Im.wts_nonneg x.imports; omega
  have hm2 : x.cores.length ≤ 1048576 := by have := Co.wts_nonneg x.cores; omega
  have CP := Lib.hid (fun W => has15_any 1 16 x.pages W)
  have CI := (fun W (hb : Below w.heap.size w W) => contIm_any x.imports hm1 (im_wt hx) Rimports cimports lo W (Ims.below h.1 hb) (ht.keep hb))
  have CC := (fun W (hb : Below w.heap.size w W) => contCo_any x.cores hm2 (co_wt hx) Rcores ccores lo W (Cos.below h.2 hb) (ht.keep hb))
  have CIN := Lib.hid (fun W (hb : Below w.heap.size w W) => importNames_any x hx Rimports cimports Rcores ccores lo W (h.below hb))
  have CCN := Lib.hid (fun W (hb : Below w.heap.size w W) => coreNames_any x hx Rimports cimports Rcores ccores lo W (h.below hb))
  have hn1 : (imN x).length ≤ 1048576 := by unfold imN; rw [List.length_map]; exact hm1
  have hn2 : (coN x).length ≤ 1048576 := by unfold coN; rw [List.length_map]; exact hm2
  have CD1 := (fun (A : Option Addr) (c l : Nat) (W : World) (hs : Strs W l (imN x) A) => areDistinct_any (imN x) (imN_size hx) hn1 A c l W hs)
  have CD2 := (fun (A : Option Addr) (c l : Nat) (W : World) (hs : Strs W l (coN x) A) => areDistinct_any (coN x) (coN_size hx) hn2 A c l W hs)
  have HT : Hid (ShapeP x ↔ ((1 ≤ x.pages ∧ x.pages ≤ 16) ∧ x.imports.length ≤ 12 ∧ x.cores.length ≤ 8 ∧ ¬ BadE imV x.imports x.imports.length ∧ ¬ BadE coV x.cores x.cores.length ∧ DistTo (imN x) (imN x).length ∧ DistTo (coN x) (coN x).length)) := Lib.hid (by
    unfold ShapeP
    constructor
    · rintro ⟨a, b, c, d, e, f, g⟩
      exact ⟨a, b, c, fun hb => BadE.not_all hb d, fun hb => BadE.not_all hb e, f, g⟩
    · rintro ⟨a, b, c, d, e, f, g⟩
      exact ⟨a, b, c, BadE.all d, BadE.all e, f, g⟩)
  generalize hT : ShapeP x = T at *
  clear h ht hx hT q_imports q_cores
  by_cases hp : 1 ≤ x.pages ∧ x.pages ≤ 16
  · rw [decide_eq_true hp] at CP
    have HP := Lib.hid hp
    clear hp
    by_cases h12 : x.imports.length ≤ 12
    · have g12 : ¬ 12 < (x.imports.length : Int) := by omega
      have d12 : decide (12 < (x.imports.length : Int)) = false := decide_eq_false g12
      have e12 : ¬ 12 < x.imports.length := by omega
      by_cases h8 : x.cores.length ≤ 8
      · have g8 : ¬ 8 < (x.cores.length : Int) := by omega
        have d8 : decide (8 < (x.cores.length : Int)) = false := decide_eq_false g8
        have e8 : ¬ 8 < x.cores.length := by omega
        have H12 := Lib.hid h12
        have H8 := Lib.hid h8
        clear h12 h8
        by_cases hbi : BadE imV x.imports x.imports.length
        · have CI := Lib.hid (fun W hb => (CI W hb).mono fun _ _ j => j.yes hbi)
          have HF : Hid (¬ T) := Lib.hid (fun h0 => (HT.out.mp h0).2.2.2.1 hbi)
          clear hbi CC CD1 CD2
          go_enter Tryd.func27, Tryd.ntmps27
          go_wp2_with (first
            | (go_at_call 48; (with_reducible refine (CP.out _).mono ?_); rintro e w1 ⟨rfl, h1⟩; have HB1 := Lib.hid (bnext (by first | exact below1 _ _ | exact below2 _ _ _) h1); have k0 := keepCell (a := ⟨w.heap.size, 0, none⟩) (v := .int .i64 x.pages) h1 (by go_simp); have k1 := keepCell (a := ⟨w.heap.size, 1, none⟩) (v := .slice Rimports x.imports.length cimports) h1 (by go_simp); have k2 := keepCell (a := ⟨w.heap.size, 2, none⟩) (v := .slice Rcores x.cores.length ccores) h1 (by go_simp); clear h1)
            | (go_at_call 61; (with_reducible refine (CI.out _ HB1.out).mono ?_); rintro e w2 ⟨rfl, h2⟩; have HB2 := Lib.hid (bnext HB1.out h2); have j0 := keepCell h2 k0; have j1 := keepCell h2 k1; have j2 := keepCell h2 k2; clear h2 k0 k1 k2)
            )
          go_ret
          exact ⟨false, rfl, iffM_F HF.out, HB2.out⟩

        · have CI := Lib.hid (fun W hb => (CI W hb).mono fun _ _ j => j.no hbi)
          have HBI := Lib.hid hbi
          clear hbi
          by_cases hbc : BadE coV x.cores x.cores.length
          · have CC := Lib.hid (fun W hb => (CC W hb).mono fun _ _ j => j.yes hbc)
            have HF : Hid (¬ T) := Lib.hid (fun h0 => (HT.out.mp h0).2.2.2.2.1 hbc)
            clear hbc CD1 CD2
            go_enter Tryd.func27, Tryd.ntmps27
            go_wp2_with (first
              | (go_at_call 48; (with_reducible refine (CP.out _).mono ?_); rintro e w1 ⟨rfl, h1⟩; have HB1 := Lib.hid (bnext (by first | exact below1 _ _ | exact below2 _ _ _) h1); have k0 := keepCell (a := ⟨w.heap.size, 0, none⟩) (v := .int .i64 x.pages) h1 (by go_simp); have k1 := keepCell (a := ⟨w.heap.size, 1, none⟩) (v := .slice Rimports x.imports.length cimports) h1 (by go_simp); have k2 := keepCell (a := ⟨w.heap.size, 2, none⟩) (v := .slice Rcores x.cores.length ccores) h1 (by go_simp); clear h1)
              | (go_at_call 61; (with_reducible refine (CI.out _ HB1.out).mono ?_); rintro e w2 ⟨rfl, h2⟩; have HB2 := Lib.hid (bnext HB1.out h2); have j0 := keepCell h2 k0; have j1 := keepCell h2 k1; have j2 := keepCell h2 k2; clear h2 k0 k1 k2)
              | (go_at_call 63; (with_reducible refine (CC.out _ HB2.out).mono ?_); rintro e w3 ⟨rfl, h3⟩; have HB3 := Lib.hid (bnext HB2.out h3); have i0 := keepCell h3 j0; have i1 := keepCell h3 j1; have i2 := keepCell h3 j2; clear h3 j0 j1 j2)
              )
            go_ret
            exact ⟨false, rfl, iffM_F HF.out, HB3.out⟩

          · have CC := Lib.hid (fun W hb => (CC W hb).mono fun _ _ j => j.no hbc)
            have HBC := Lib.hid hbc
            clear hbc
            by_cases hd1 : DistTo (imN x) (imN x).length
            · have CD1 := Lib.hid (fun A c l W hs => (CD1 A c l W hs).mono fun _ _ j => j.yes hd1)
              have HD1 := Lib.hid hd1
              clear hd1
              by_cases hd2 : DistTo (coN x) (coN x).length
              · have CD2 := Lib.hid (fun A c l W hs => (CD2 A c l W hs).mono fun _ _ j => j.yes hd2)
                have HE : Hid T := Lib.hid (HT.out.mpr ⟨HP.out, H12.out, H8.out, HBI.out, HBC.out, HD1.out, hd2⟩)
                clear hd2
                go_enter Tryd.func27, Tryd.ntmps27
                go_wp2_with (first
                  | (go_at_call 48; (with_reducible refine (CP.out _).mono ?_); rintro e w1 ⟨rfl, h1⟩; have HB1 := Lib.hid (bnext (by first | exact below1 _ _ | exact below2 _ _ _) h1); have k0 := keepCell (a := ⟨w.heap.size, 0, none⟩) (v := .int .i64 x.pages) h1 (by go_simp); have k1 := keepCell (a := ⟨w.heap.size, 1, none⟩) (v := .slice Rimports x.imports.length cimports) h1 (by go_simp); have k2 := keepCell (a := ⟨w.heap.size, 2, none⟩) (v := .slice Rcores x.cores.length ccores) h1 (by go_simp); clear h1)
                  | (go_at_call 61; (with_reducible refine (CI.out _ HB1.out).mono ?_); rintro e w2 ⟨rfl, h2⟩; have HB2 := Lib.hid (bnext HB1.out h2); have j0 := keepCell h2 k0; have j1 := keepCell h2 k1; have j2 := keepCell h2 k2; clear h2 k0 k1 k2)
                  | (go_at_call 63; (with_reducible refine (CC.out _ HB2.out).mono ?_); rintro e w3 ⟨rfl, h3⟩; have HB3 := Lib.hid (bnext HB2.out h3); have i0 := keepCell h3 j0; have i1 := keepCell h3 j1; have i2 := keepCell h3 j2; clear h3 j0 j1 j2)
                  | (go_at_call 66; (with_reducible refine (CIN.out _ HB3.out).mono ?_); rintro e w4 ⟨A4, c4, rfl, hs4, h4⟩; have HS4 := Lib.hid hs4; have HL4 := Lib.hid h4; have HB4 := Lib.hid (bnext HB3.out h4); have m0 := keepCell h4 i0; have m1 := keepCell h4 i1; have m2 := keepCell h4 i2; clear h4 hs4 i0 i1 i2)
                  | (go_at_call 67; (with_reducible refine (CCN.out _ HB5.out).mono ?_); rintro e w6 ⟨A6, c6, rfl, hs6, h6⟩; have HS6 := Lib.hid hs6; have HB6 := Lib.hid (bnext HB5.out h6); clear h6 hs6)
                  | (go_at_call 65; (with_reducible refine (CD2.out _ _ _ _ HS6.out).mono ?_); rintro e w7 ⟨rfl, h7⟩; have HB7 := Lib.hid (bnext HB6.out h7); clear h7)
                  | (go_at_call 65; (with_reducible refine (CD1.out _ _ _ _ HS4.out).mono ?_); rintro e w5 ⟨rfl, h5⟩; have HB5 := Lib.hid (bnext HB4.out h5); have n0 := keepCell h5 m0; have n1 := keepCell h5 m1; have n2 := keepCell h5 m2; clear h5 m0 m1 m2)
                  )
                go_ret
                exact ⟨true, rfl, iffM_T HE.out, HB7.out⟩

              · have CD2 := Lib.hid (fun A c l W hs => (CD2 A c l W hs).mono fun _ _ j => j.no hd2)
                have HF : Hid (¬ T) := Lib.hid (fun h0 => hd2 (HT.out.mp h0).2.2.2.2.2.2)
                clear hd2
                go_enter Tryd.func27, Tryd.ntmps27
                go_wp2_with (first
                  | (go_at_call 48; (with_reducible refine (CP.out _).mono ?_); rintro e w1 ⟨rfl, h1⟩; have HB1 := Lib.hid (bnext (by first | exact below1 _ _ | exact below2 _ _ _) h1); have k0 := keepCell (a := ⟨w.heap.size, 0, none⟩) (v := .int .i64 x.pages) h1 (by go_simp); have k1 := keepCell (a := ⟨w.heap.size, 1, none⟩) (v := .slice Rimports x.imports.length cimports) h1 (by go_simp); have k2 := keepCell (a := ⟨w.heap.size, 2, none⟩) (v := .slice Rcores x.cores.length ccores) h1 (by go_simp); clear h1)
                  | (go_at_call 61; (with_reducible refine (CI.out _ HB1.out).mono ?_); rintro e w2 ⟨rfl, h2⟩; have HB2 := Lib.hid (bnext HB1.out h2); have j0 := keepCell h2 k0; have j1 := keepCell h2 k1; have j2 := keepCell h2 k2; clear h2 k0 k1 k2)
                  | (go_at_call 63; (with_reducible refine (CC.out _ HB2.out).mono ?_); rintro e w3 ⟨rfl, h3⟩; have HB3 := Lib.hid (bnext HB2.out h3); have i0 := keepCell h3 j0; have i1 := keepCell h3 j1; have i2 := keepCell h3 j2; clear h3 j0 j1 j2)
                  | (go_at_call 66; (with_reducible refine (CIN.out _ HB3.out).mono ?_); rintro e w4 ⟨A4, c4, rfl, hs4, h4⟩; have HS4 := Lib.hid hs4; have HL4 := Lib.hid h4; have HB4 := Lib.hid (bnext HB3.out h4); have m0 := keepCell h4 i0; have m1 := keepCell h4 i1; have m2 := keepCell h4 i2; clear h4 hs4 i0 i1 i2)
                  | (go_at_call 67; (with_reducible refine (CCN.out _ HB5.out).mono ?_); rintro e w6 ⟨A6, c6, rfl, hs6, h6⟩; have HS6 := Lib.hid hs6; have HB6 := Lib.hid (bnext HB5.out h6); clear h6 hs6)
                  | (go_at_call 65; (with_reducible refine (CD2.out _ _ _ _ HS6.out).mono ?_); rintro e w7 ⟨rfl, h7⟩; have HB7 := Lib.hid (bnext HB6.out h7); clear h7)
                  | (go_at_call 65; (with_reducible refine (CD1.out _ _ _ _ HS4.out).mono ?_); rintro e w5 ⟨rfl, h5⟩; have HB5 := Lib.hid (bnext HB4.out h5); have n0 := keepCell h5 m0; have n1 := keepCell h5 m1; have n2 := keepCell h5 m2; clear h5 m0 m1 m2)
                  )
                go_ret
                exact ⟨false, rfl, iffM_F HF.out, HB7.out⟩

            · have CD1 := Lib.hid (fun A c l W hs => (CD1 A c l W hs).mono fun _ _ j => j.no hd1)
              have HF : Hid (¬ T) := Lib.hid (fun h0 => hd1 (HT.out.mp h0).2.2.2.2.2.1)
              clear hd1 CD2
              go_enter Tryd.func27, Tryd.ntmps27
              go_wp2_with (first
                | (go_at_call 48; (with_reducible refine (CP.out _).mono ?_); rintro e w1 ⟨rfl, h1⟩; have HB1 := Lib.hid (bnext (by first | exact below1 _ _ | exact below2 _ _ _) h1); have k0 := keepCell (a := ⟨w.heap.size, 0, none⟩) (v := .int .i64 x.pages) h1 (by go_simp); have k1 := keepCell (a := ⟨w.heap.size, 1, none⟩) (v := .slice Rimports x.imports.length cimports) h1 (by go_simp); have k2 := keepCell (a := ⟨w.heap.size, 2, none⟩) (v := .slice Rcores x.cores.length ccores) h1 (by go_simp); clear h1)
                | (go_at_call 61; (with_reducible refine (CI.out _ HB1.out).mono ?_); rintro e w2 ⟨rfl, h2⟩; have HB2 := Lib.hid (bnext HB1.out h2); have j0 := keepCell h2 k0; have j1 := keepCell h2 k1; have j2 := keepCell h2 k2; clear h2 k0 k1 k2)
                | (go_at_call 63; (with_reducible refine (CC.out _ HB2.out).mono ?_); rintro e w3 ⟨rfl, h3⟩; have HB3 := Lib.hid (bnext HB2.out h3); have i0 := keepCell h3 j0; have i1 := keepCell h3 j1; have i2 := keepCell h3 j2; clear h3 j0 j1 j2)
                | (go_at_call 66; (with_reducible refine (CIN.out _ HB3.out).mono ?_); rintro e w4 ⟨A4, c4, rfl, hs4, h4⟩; have HS4 := Lib.hid hs4; have HL4 := Lib.hid h4; have HB4 := Lib.hid (bnext HB3.out h4); have m0 := keepCell h4 i0; have m1 := keepCell h4 i1; have m2 := keepCell h4 i2; clear h4 hs4 i0 i1 i2)
                | (go_at_call 65; (with_reducible refine (CD1.out _ _ _ _ HS4.out).mono ?_); rintro e w5 ⟨rfl, h5⟩; have HB5 := Lib.hid (bnext HB4.out h5); have n0 := keepCell h5 m0; have n1 := keepCell h5 m1; have n2 := keepCell h5 m2; clear h5 m0 m1 m2)
                )
              go_ret
              exact ⟨false, rfl, iffM_F HF.out, HB5.out⟩

      · have g8 : 8 < (x.cores.length : Int) := by omega
        have d8 : decide (8 < (x.cores.length : Int)) = true := decide_eq_true g8
        have e8 : 8 < x.cores.length := by omega
        have HF : Hid (¬ T) := Lib.hid (fun h0 => h8 (HT.out.mp h0).2.2.1)
        clear h8 CI CC CD1 CD2
        go_enter Tryd.func27, Tryd.ntmps27
        go_wp2_with (first
          | (go_at_call 48; (with_reducible refine (CP.out _).mono ?_); rintro e w1 ⟨rfl, h1⟩; have HB1 := Lib.hid (bnext (by first | exact below1 _ _ | exact below2 _ _ _) h1); have k0 := keepCell (a := ⟨w.heap.size, 0, none⟩) (v := .int .i64 x.pages) h1 (by go_simp); have k1 := keepCell (a := ⟨w.heap.size, 1, none⟩) (v := .slice Rimports x.imports.length cimports) h1 (by go_simp); have k2 := keepCell (a := ⟨w.heap.size, 2, none⟩) (v := .slice Rcores x.cores.length ccores) h1 (by go_simp); clear h1)
          )
        go_ret
        exact ⟨false, rfl, iffM_F HF.out, HB1.out⟩

    · have g12 : 12 < (x.imports.length : Int) := by omega
      have d12 : decide (12 < (x.imports.length : Int)) = true := decide_eq_true g12
      have e12 : 12 < x.imports.length := by omega
      have HF : Hid (¬ T) := Lib.hid (fun h0 => h12 (HT.out.mp h0).2.1)
      clear h12 CI CC CD1 CD2
      go_enter Tryd.func27, Tryd.ntmps27
      go_wp2_with (first
        | (go_at_call 48; (with_reducible refine (CP.out _).mono ?_); rintro e w1 ⟨rfl, h1⟩; have HB1 := Lib.hid (bnext (by first | exact below1 _ _ | exact below2 _ _ _) h1); have k0 := keepCell (a := ⟨w.heap.size, 0, none⟩) (v := .int .i64 x.pages) h1 (by go_simp); have k1 := keepCell (a := ⟨w.heap.size, 1, none⟩) (v := .slice Rimports x.imports.length cimports) h1 (by go_simp); have k2 := keepCell (a := ⟨w.heap.size, 2, none⟩) (v := .slice Rcores x.cores.length ccores) h1 (by go_simp); clear h1)
        )
      go_ret
      exact ⟨false, rfl, iffM_F HF.out, HB1.out⟩

  · rw [decide_eq_false hp] at CP
    have HF : Hid (¬ T) := Lib.hid (fun h0 => hp (HT.out.mp h0).1)
    clear hp CI CC CD1 CD2
    go_enter Tryd.func27, Tryd.ntmps27
    go_wp2_with (first
      | (go_at_call 48; (with_reducible refine (CP.out _).mono ?_); rintro e w1 ⟨rfl, h1⟩; have HB1 := Lib.hid (bnext (by first | exact below1 _ _ | exact below2 _ _ _) h1); have k0 := keepCell (a := ⟨w.heap.size, 0, none⟩) (v := .int .i64 x.pages) h1 (by go_simp); have k1 := keepCell (a := ⟨w.heap.size, 1, none⟩) (v := .slice Rimports x.imports.length cimports) h1 (by go_simp); have k2 := keepCell (a := ⟨w.heap.size, 2, none⟩) (v := .slice Rcores x.cores.length ccores) h1 (by go_simp); clear h1)
      )
    go_ret
    exact ⟨false, rfl, iffM_F HF.out, HB1.out⟩

end Go.Proofs.YtoeofhhmkkpjbaaDoor
