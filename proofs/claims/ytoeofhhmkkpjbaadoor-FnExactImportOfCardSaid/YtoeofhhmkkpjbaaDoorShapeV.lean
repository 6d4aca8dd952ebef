/-
  ModuleShape, CoreOf and ImportOf of the model; both sides' answers as functions.
-/
import Derived.Test.YtoeofhhmkkpjbaaDoorShapeU
namespace Go.Proofs.YtoeofhhmkkpjbaaDoor
open Go.ChangeShapes Go.WideShapes Go.ChangeAt Go.RowKit Go.Deep

/-- Is a module in order? -/
noncomputable def shapeV (x : Mo) : Bool := @decide (ShapeP x) (Classical.propDecidable _)
theorem shapeV_iff (x : Mo) : shapeV x = true ↔ ShapeP x := by
  unfold shapeV
  exact @decide_eq_true_iff (ShapeP x) (Classical.propDecidable _)
/-- A name's place, as CoreOf and ImportOf answer it. -/
def ofI (ls : List ByteArray) (s : ByteArray) (t : Bool) : Int := if t = true then (if 0 ≤ ixGo ls s 0 then ixGo ls s 0 else 0) else 0
def ofB (ls : List ByteArray) (s : ByteArray) (t : Bool) : Bool := t && decide (0 ≤ ixGo ls s 0)
theorem SaysM.val {p : Prop} {w : World} {e : Ending} {w' : World} (h : SaysM p w e w') {v : Bool} (hv : v = true ↔ p) : e = .returned (.bool v) ∧ Below w.heap.size w w' := by
  obtain ⟨u, rfl, hu, hb⟩ := h
  obtain rfl : u = v := Bool.eq_iff_iff.mpr (hu.trans hv.symm)
  exact ⟨rfl, hb⟩
theorem l15Shape_val (x : Mo) (hx : x.wt ≤ 1048576) (Rimports : Option Addr) (cimports : Nat) (Rcores : Option Addr) (ccores : Nat) (hc : (x.imports.length ≤ cimports ∧ x.cores.length ≤ ccores)) (lo : Nat) (w : World) (h : Mo.At w lo x Rimports Rcores) :
    Calls Tryd.prog 58 #[.agg #[.int .i64 x.pages, .slice Rimports x.imports.length cimports, .slice Rcores x.cores.length ccores]] w fun e w' => e = .returned (.bool (shapeV x)) ∧ Below w.heap.size w w' :=
  (specShape_any x hx Rimports cimports Rcores ccores hc trivial lo w h).mono fun _ _ j => j.val (shapeV_iff x)
theorem specModuleShape_any (x : Mo) (hx : x.wt ≤ 1048576) (_hf : x.Fin) (Rimports : Option Addr) (cimports : Nat) (Rcores : Option Addr) (ccores : Nat) (lo : Nat) (w : World) (h : Mo.At w lo x Rimports Rcores) (hc : (x.imports.length ≤ cimports ∧ x.cores.length ≤ ccores)) :
    Calls Tryd.prog 25 #[.agg #[.int .i64 x.pages, .slice Rimports x.imports.length cimports, .slice Rcores x.cores.length ccores]] w fun e w' => e = .returned (.bool (shapeV x)) ∧ Below w.heap.size w w' := by
  have C := Lib.hid (fun W hb => l15Shape_val x hx Rimports cimports Rcores ccores hc lo W (h.below (w' := W) hb))
  generalize shapeV x = T at *
  clear h hc hx
  go_enter Tryd.func25, Tryd.ntmps25
  go_wp2_with (go_at_call 58; (with_reducible refine (C.out _ (below1 _ _)).mono ?_); rintro e w2 ⟨rfl, h2⟩; have HB2 := Lib.hid (bnext (below1 _ _) h2); clear h2)
  go_ret
  exact ⟨rfl, HB2.out⟩
theorem implModuleShape2_any (x : Mo) (hx : x.wt ≤ 1048576) (_hf : x.Fin) (Rimports : Option Addr) (cimports : Nat) (Rcores : Option Addr) (ccores : Nat) (lo : Nat) (w : World) (h : Mo.At w lo x Rimports Rcores) (ht : OpTab w) :
    Calls Tryd.prog 27 #[.agg #[.int .i64 x.pages, .slice Rimports x.imports.length cimports, .slice Rcores x.cores.length ccores]] w fun e w' => e = .returned (.bool (shapeV x)) ∧ Below w.heap.size w w' :=
  (implShape_any x hx Rimports cimports Rcores ccores lo w h ht).mono fun _ _ j => j.val (shapeV_iff x)

theorem specCoreOf_any (x : Mo) (hx : x.wt ≤ 1048576) (_hf : x.Fin) (Rimports : Option Addr) (cimports : Nat) (Rcores : Option Addr) (ccores : Nat) (s : ByteArray) (_hs : s.size ≤ maxLen) (lo : Nat) (w : World) (h : Mo.At w lo x Rimports Rcores) (hc : (x.imports.length ≤ cimports ∧ x.cores.length ≤ ccores)) :
    Calls Tryd.prog 29 #[.agg #[.int .i64 x.pages, .slice Rimports x.imports.length cimports, .slice Rcores x.cores.length ccores], .string s] w fun e w' => e = .returned (.tuple #[.int .i64 (ofI (coN x) s (shapeV x)), .bool (ofB (coN x) s (shapeV x))]) ∧ Below w.heap.size w w' := by
  obtain ⟨q_imports, q_cores, _⟩ := Mo.parts_le hx
  have hm1 : x.imports.length ≤ 1048576 := by have := Im.wts_nonneg x.imports; omega
  have hm2 : x.cores.length ≤ 1048576 := by have := Co.wts_nonneg x.cores; omega
  have CS := Lib.hid (fun W hb => l15Shape_val x hx Rimports cimports Rcores ccores hc lo W (h.below (w' := W) hb))
  have CA := Lib.hid (fun W (hb : Below w.heap.size w W) => l15CoreAt_any x.cores s (by omega) Rcores ccores lo W (Cos.below h.2 hb))
  have hnm : x.cores.map Co.name = coN x := rfl
  rw [hnm] at CA
  unfold ofI ofB
  generalize ixGo (coN x) s 0 = V at *
  generalize shapeV x = T at *
  clear h hc hx hnm hm1 hm2 q_imports q_cores
  cases T with
  | false =>
    go_enter Tryd.func29, Tryd.ntmps29
    go_wp2_with (first
      | (go_at_call 70; (with_reducible refine (CA.out _ (below1 _ _)).mono ?_); rintro e w1 ⟨rfl, rfl⟩)
      | (go_at_call 58; (with_reducible refine (CS.out _ (below1 _ _)).mono ?_); rintro e w2 ⟨rfl, h2⟩; have HB2 := Lib.hid (bnext (below1 _ _) h2); clear h2))
    exact bodyPost_ret (v := .tuple #[.int .i64 0, .bool false]) (by simp [results, Tryd.results29, go_sem]) rfl ⟨rfl, HB2.out⟩
  | true =>
    by_cases hV : 0 ≤ V
    · have d0 : decide (V < 0) = false := decide_eq_false (by omega)
      have g0 : ¬ V < 0 := by omega
      go_enter Tryd.func29, Tryd.ntmps29
      go_wp2_with (first
        | (go_at_call 70; (with_reducible refine (CA.out _ (below1 _ _)).mono ?_); rintro e w1 ⟨rfl, rfl⟩)
        | (go_at_call 58; (with_reducible refine (CS.out _ (below1 _ _)).mono ?_); rintro e w2 ⟨rfl, h2⟩; have HB2 := Lib.hid (bnext (below1 _ _) h2); clear h2))
      exact bodyPost_ret (v := .tuple #[.int .i64 V, .bool true]) (by simp [results, Tryd.results29, go_sem]) rfl ⟨by first | rfl | (rw [if_pos rfl, if_pos hV, decide_eq_true hV]; rfl), HB2.out⟩
    · have d0 : decide (V < 0) = true := decide_eq_true (by omega)
      have g0 : V < 0 := by omega
      go_enter Tryd.func29, Tryd.ntmps29
      go_wp2_with (first
        | (go_at_call 70; (with_reducible refine (CA.out _ (below1 _ _)).mono ?_); rintro e w1 ⟨rfl, rfl⟩)
        | (go_at_call 58; (with_reducible refine (CS.out _ (below1 _ _)).mono ?_); rintro e w2 ⟨rfl, h2⟩; have HB2 := Lib.hid (bnext (below1 _ _) h2); clear h2))
      exact bodyPost_ret (v := .tuple #[.int .i64 0, .bool false]) (by simp [results, Tryd.results29, go_sem]) rfl ⟨by first | rfl | (rw [if_pos rfl, if_neg hV, decide_eq_false hV]; rfl), HB2.out⟩
theorem implCoreOf2_any (x : Mo) (hx : x.wt ≤ 1048576) (_hf : x.Fin) (Rimports : Option Addr) (cimports : Nat) (Rcores : Option Addr) (ccores : Nat) (s : ByteArray) (_hs : s.size ≤ maxLen) (lo : Nat) (w : World) (h : Mo.At w lo x Rimports Rcores) (ht : OpTab w) :
    Calls Tryd.prog 30 #[.agg #[.int .i64 x.pages, .slice Rimports x.imports.length cimports, .slice Rcores x.cores.length ccores], .string s] w fun e w' => e = .returned (.tuple #[.int .i64 (ofI (coN x) s (shapeV x)), .bool (ofB (coN x) s (shapeV x))]) ∧ Below w.heap.size w w' :=
  implCoreOf_any x hx Rimports cimports Rcores ccores lo w h ht s (shapeV x) (shapeV_iff x)

theorem specImportOf_any (x : Mo) (hx : x.wt ≤ 1048576) (_hf : x.Fin) (Rimports : Option Addr) (cimports : Nat) (Rcores : Option Addr) (ccores : Nat) (s : ByteArray) (_hs : s.size ≤ maxLen) (lo : Nat) (w : World) (h : Mo.At w lo x Rimports Rcores) (hc : (x.imports.length ≤ cimports ∧ x.cores.length ≤ ccores)) :
    Calls Tryd.prog 31 #[.agg #[.int .i64 x.pages, .slice Rimports x.imports.length cimports, .slice Rcores x.cores.length ccores], .string s] w fun e w' => e = .returned (.tuple #[.int .i64 (ofI (imN x) s (shapeV x)), .bool (ofB (imN x) s (shapeV x))]) ∧ Below w.heap.size w w' := by
  obtain ⟨q_imports, q_cores, _⟩ := Mo.parts_le hx
  have hm1 : x.imports.length ≤ 1048576 := by have := Im.wts_nonneg x.imports; omega
  have hm2 : x.cores.length ≤ 1048576 := by have := Co.wts_nonneg x.cores; omega
  have CS := Lib.hid (fun W hb => l15Shape_val x hx Rimports cimports Rcores ccores hc lo W (h.below (w' := W) hb))
  have CA := Lib.hid (fun W (hb : Below w.heap.size w W) => l15ImportAt_any x.imports s (by omega) Rimports cimports lo W (Ims.below h.1 hb))
  have hnm : x.imports.map Im.name = imN x := rfl
  rw [hnm] at CA
  unfold ofI ofB
  generalize ixGo (imN x) s 0 = V at *
  generalize shapeV x = T at *
  clear h hc hx hnm hm1 hm2 q_imports q_cores
  cases T with
  | false =>
    go_enter Tryd.func31, Tryd.ntmps31
    go_wp2_with (first
      | (go_at_call 72; (with_reducible refine (CA.out _ (below1 _ _)).mono ?_); rintro e w1 ⟨rfl, rfl⟩)
      | (go_at_call 58; (with_reducible refine (CS.out _ (below1 _ _)).mono ?_); rintro e w2 ⟨rfl, h2⟩; have HB2 := Lib.hid (bnext (below1 _ _) h2); clear h2))
    exact bodyPost_ret (v := .tuple #[.int .i64 0, .bool false]) (by simp [results, Tryd.results31, go_sem]) rfl ⟨rfl, HB2.out⟩
  | true =>
    by_cases hV : 0 ≤ V
    · have d0 : decide (V < 0) = false := decide_eq_false (by omega)
      have g0 : ¬ V < 0 := by omega
      go_enter Tryd.func31, Tryd.ntmps31
      go_wp2_with (first
        | (go_at_call 72; (with_reducible refine (CA.out _ (below1 _ _)).mono ?_); rintro e w1 ⟨rfl, rfl⟩)
        | (go_at_call 58; (with_reducible refine (CS.out _ (below1 _ _)).mono ?_); rintro e w2 ⟨rfl, h2⟩; have HB2 := Lib.hid (bnext (below1 _ _) h2); clear h2))
      exact bodyPost_ret (v := .tuple #[.int .i64 V, .bool true]) (by simp [results, Tryd.results31, go_sem]) rfl ⟨by first | rfl | (rw [if_pos rfl, if_pos hV, decide_eq_true hV]; rfl), HB2.out⟩
    · have d0 : decide (V < 0) = true := decide_eq_true (by omega)
      have g0 : V < 0 := by omega
      go_enter Tryd.func31, Tryd.ntmps31
      go_wp2_with (first
        | (go_at_call 72; (with_reducible refine (CA.out _ (below1 _ _)).mono ?_); rintro e w1 ⟨rfl, rfl⟩)
        | (go_at_call 58; (with_reducible refine (CS.out _ (below1 _ _)).mono ?_); rintro e w2 ⟨rfl, h2⟩; have HB2 := Lib.hid (bnext (below1 _ _) h2); clear h2))
      exact bodyPost_ret (v := .tuple #[.int .i64 0, .bool false]) (by simp [results, Tryd.results31, go_sem]) rfl ⟨by first | rfl | (rw [if_pos rfl, if_neg hV, decide_eq_false hV]; rfl), HB2.out⟩
theorem implImportOf2_any (x : Mo) (hx : x.wt ≤ 1048576) (_hf : x.Fin) (Rimports : Option Addr) (cimports : Nat) (Rcores : Option Addr) (ccores : Nat) (s : ByteArray) (_hs : s.size ≤ maxLen) (lo : Nat) (w : World) (h : Mo.At w lo x Rimports Rcores) (ht : OpTab w) :
    Calls Tryd.prog 32 #[.agg #[.int .i64 x.pages, .slice Rimports x.imports.length cimports, .slice Rcores x.cores.length ccores], .string s] w fun e w' => e = .returned (.tuple #[.int .i64 (ofI (imN x) s (shapeV x)), .bool (ofB (imN x) s (shapeV x))]) ∧ Below w.heap.size w w' :=
  implImportOf_any x hx Rimports cimports Rcores ccores lo w h ht s (shapeV x) (shapeV_iff x)

end Go.Proofs.YtoeofhhmkkpjbaaDoor
