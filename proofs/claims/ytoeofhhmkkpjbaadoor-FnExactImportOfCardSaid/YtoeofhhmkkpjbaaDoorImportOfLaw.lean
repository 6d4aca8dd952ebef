/-
  The walk of the law FnExactImportOf: both answer alike, and the argument stays.
-/
import Derived.Test.YtoeofhhmkkpjbaaDoorShapeV
namespace Go.Proofs.YtoeofhhmkkpjbaaDoor
open Go.ChangeShapes Go.WideShapes Go.ChangeAt Go.RowKit Go.Deep

set_option maxHeartbeats 2000000 in
set_option maxRecDepth 100000 in
theorem fnExactImportOfLaw1 (x : Mo) (Rimports : Option Addr) (cimports : Nat) (Rcores : Option Addr) (ccores : Nat) (s : ByteArray) (w : World) (hat : Mo.At w 0 x Rimports Rcores) (hfin : x.Fin) (hx_s : s.size ≤ maxLen) (hss : s.size ≤ 1048576) (ht : OpTab w) :
    Calls Tryd.prog 10 #[.agg #[.int .i64 x.pages, .slice Rimports x.imports.length cimports, .slice Rcores x.cores.length ccores], .string s] w fun e w' => e = .returned (.bool true) ∧ Below w.heap.size w w' := by
  have S := fun W h => szModule_any x hfin 1048576 (by omega) (by omega) Rimports cimports Rcores ccores 0 W h
  have HA := Lib.hid hat
  have HOT := Lib.hid ht
  clear ht
  have hsn : ¬ (1048576 : Int) < (s.size : Int) := by omega
  clear hss
  have hn0 := x.wt_nonneg
  clear hat
  by_cases hn : 1048576 - x.wt < 0
  · rw [leftOr_neg hn] at S
    have S := Lib.hid S
    clear hn
    go_enter Tryd.func10, Tryd.ntmps10
    go_wp2_with fail
    go_at_call 24
    refine (S.out _ (HA.out.below (below1 _ _))).mono ?_
    rintro e w2 ⟨rfl, hb2⟩
    have HB2 := Lib.hid (bnext (below1 _ _) hb2)
    clear hb2
    go_wp2_with fail
    go_ret
    exact ⟨rfl, HB2.out⟩
  · have hT : x.wt ≤ 1048576 := by omega
    rw [leftOr_pos (by omega)] at S
    obtain ⟨L, hL⟩ : ∃ L, 1048576 - x.wt = L := ⟨_, rfl⟩
    rw [hL] at S
    have hL0 : 0 ≤ L := by omega
    have S := Lib.hid S
    have HT := Lib.hid (fun W h => toModule_any x hT Rimports cimports Rcores ccores 0 W h)
    have HE := Lib.hid (fun Rimports1 cimports1 Rcores1 ccores1 Rimports2 cimports2 Rcores2 ccores2 lo lo' W h h' => eqModule_any x hT Rimports1 cimports1 Rcores1 ccores1 Rimports2 cimports2 Rcores2 ccores2 lo lo' W h h')
    obtain ⟨v0, hv0⟩ : ∃ v, ofI (imN x) s (shapeV x) = v := ⟨_, rfl⟩
    obtain ⟨v1, hv1⟩ : ∃ v, ofB (imN x) s (shapeV x) = v := ⟨_, rfl⟩
    have HS : Hid (∀ (Rimports : Option Addr) (cimports : Nat) (Rcores : Option Addr) (ccores : Nat) (lo : Nat) (W : World), Mo.At W lo x Rimports Rcores → (x.imports.length ≤ cimports ∧ x.cores.length ≤ ccores) → Calls Tryd.prog 31 #[.agg #[.int .i64 x.pages, .slice Rimports x.imports.length cimports, .slice Rcores x.cores.length ccores], .string s] W fun e w' => e = .returned (.tuple #[.int .i64 v0, .bool v1]) ∧ Below W.heap.size W w') := Lib.hid (fun Rimports cimports Rcores ccores lo W h hc => by
      have hh := specImportOf_any x hT hfin Rimports cimports Rcores ccores s hx_s lo W h hc
      rw [hv0, hv1] at hh
      exact hh)
    have HI : Hid (∀ (Rimports : Option Addr) (cimports : Nat) (Rcores : Option Addr) (ccores : Nat) (lo : Nat) (W : World), Mo.At W lo x Rimports Rcores → OpTab W → Calls Tryd.prog 32 #[.agg #[.int .i64 x.pages, .slice Rimports x.imports.length cimports, .slice Rcores x.cores.length ccores], .string s] W fun e w' => e = .returned (.tuple #[.int .i64 v0, .bool v1]) ∧ Below W.heap.size W w') := Lib.hid (fun Rimports cimports Rcores ccores lo W h ht => by
      have hh := implImportOf2_any x hT hfin Rimports cimports Rcores ccores s hx_s lo W h ht
      rw [hv0, hv1] at hh
      exact hh)
    clear hn hL hn0 hT hfin hv0 hv1
    go_enter Tryd.func10, Tryd.ntmps10
    go_wp2_with fail
    go_at_call 24
    refine (S.out _ (HA.out.below (below1 _ _))).mono ?_
    rintro e w2 ⟨rfl, hb2⟩
    have k0 := keepCell (a := ⟨w.heap.size, 0, none⟩) (v := .int .i64 x.pages) hb2 (by go_simp)
    have k1 := keepCell (a := ⟨w.heap.size, 1, none⟩) (v := .slice Rimports x.imports.length cimports) hb2 (by go_simp)
    have k2 := keepCell (a := ⟨w.heap.size, 2, none⟩) (v := .slice Rcores x.cores.length ccores) hb2 (by go_simp)
    have HB2 := Lib.hid (bnext (below1 _ _) hb2)
    clear hb2 S
    go_wp2_with fail
    go_at_call 26
    refine (HT.out _ (HA.out.below HB2.out)).mono ?_
    rintro e w3 ⟨Rimports3, cimports3, Rcores3, ccores3, rfl, hc3, ha3, hb3⟩
    replace k0 := keepCell hb3 k0
    replace k1 := keepCell hb3 k1
    replace k2 := keepCell hb3 k2
    have HB3 := Lib.hid (bnext HB2.out hb3)
    have HA3 := Lib.hid ha3
    have HC3 := Lib.hid hc3
    clear hb3 ha3 hc3
    go_wp2_with fail
    go_at_call 31
    refine (HS.out _ _ _ _ _ _ HA3.out HC3.out).mono ?_
    rintro e w4 ⟨rfl, hb4⟩
    replace k0 := keepCell hb4 k0
    replace k1 := keepCell hb4 k1
    replace k2 := keepCell hb4 k2
    have HB4 := Lib.hid (bnext HB3.out hb4)
    clear hb4
    go_wp2_with fail
    go_at_call 26
    refine (HT.out _ (HA.out.below HB4.out)).mono ?_
    rintro e w5 ⟨Rimports5, cimports5, Rcores5, ccores5, rfl, _, ha5, hb5⟩
    replace k0 := keepCell hb5 k0
    replace k1 := keepCell hb5 k1
    replace k2 := keepCell hb5 k2
    have HB5 := Lib.hid (bnext HB4.out hb5)
    have HA5 := Lib.hid ha5
    clear hb5 ha5
    go_wp2_with fail
    go_at_call 32
    refine (HI.out _ _ _ _ _ _ (HA5.out.below (below1 _ _)) (HOT.out.keep (bnext HB5.out (below1 _ _)))).mono ?_
    rintro e w6 ⟨rfl, hb6⟩
    have j0 := keepCell (a := ⟨w5.heap.size, 0, none⟩) (v := .int .i64 x.pages) hb6 (by go_simp)
    have j1 := keepCell (a := ⟨w5.heap.size, 1, none⟩) (v := .slice Rimports5 x.imports.length cimports5) hb6 (by go_simp)
    have j2 := keepCell (a := ⟨w5.heap.size, 2, none⟩) (v := .slice Rcores5 x.cores.length ccores5) hb6 (by go_simp)
    replace k0 := keepCell hb6 (keepCell (below1 w5 _) k0)
    replace k1 := keepCell hb6 (keepCell (below1 w5 _) k1)
    replace k2 := keepCell hb6 (keepCell (below1 w5 _) k2)
    have HB6 := Lib.hid (bnext (bnext HB5.out (below1 _ _)) hb6)
    have HN6 := Lib.hid (bnext (below1 _ _) hb6)
    clear hb6
    go_wp2_with fail
    go_region_held3 (fun w' => w'.cell? ⟨w5.heap.size, 0, none⟩ = some (.int .i64 x.pages) ∧ w'.cell? ⟨w5.heap.size, 1, none⟩ = some (.slice Rimports5 x.imports.length cimports5) ∧ w'.cell? ⟨w5.heap.size, 2, none⟩ = some (.slice Rcores5 x.cores.length ccores5) ∧ w'.cell? ⟨w.heap.size, 0, none⟩ = some (.int .i64 x.pages) ∧ w'.cell? ⟨w.heap.size, 1, none⟩ = some (.slice Rimports x.imports.length cimports) ∧ w'.cell? ⟨w.heap.size, 2, none⟩ = some (.slice Rcores x.cores.length ccores) ∧ Below w6.heap.size w6 w')
      (first | assumption | (exact (Below.refl _ _).drew) | (exact ⟨j0, j1, j2, k0, k1, k2, (Below.refl _ _).drew⟩) | (refine ⟨?_, ?_, ?_, ?_, ?_, ?_, ?_⟩ <;> assumption))
      (first
        | (go_at_call 26; refine (HT.out _ (HA.out.below HB6.out.drew)).mono ?_; rintro e w7 ⟨Rimports7, cimports7, Rcores7, ccores7, rfl, _, ha7, hb7⟩; have hbw : Below w6.heap.size w6 w7 := (Below.refl w6.heap.size w6).drew.trans hb7; have pj0 := keepCell hbw j0; have pj1 := keepCell hbw j1; have pj2 := keepCell hbw j2; have pk0 := keepCell hbw k0; have pk1 := keepCell hbw k1; have pk2 := keepCell hbw k2)
        | (go_at_call 28; refine (HE.out _ _ _ _ _ _ _ _ _ _ _ ((HA5.out.below HN6.out).below hbw) ha7).mono ?_; rintro e w8 ⟨rfl, hb8⟩; have hbw8 : Below w6.heap.size w6 w8 := hbw.trans (hb8.mono hbw.size); have rj0 := keepCell hbw8 j0; have rj1 := keepCell hbw8 j1; have rj2 := keepCell hbw8 j2; have rk0 := keepCell hbw8 k0; have rk1 := keepCell hbw8 k1; have rk2 := keepCell hbw8 k2))
    go_wp2_with fail
    go_ret
    exact ⟨rfl, bnext HB6.out (by assumption)⟩
theorem fnExactImportOfLaw (x : Mo) (Rimports : Option Addr) (cimports : Nat) (Rcores : Option Addr) (ccores : Nat) (s : ByteArray) (w : World) (hat : Mo.At w 0 x Rimports Rcores) (hfin : x.Fin) (hs : s.size ≤ maxLen) (ht : OpTab w) :
    Calls Tryd.prog 10 #[.agg #[.int .i64 x.pages, .slice Rimports x.imports.length cimports, .slice Rcores x.cores.length ccores], .string s] w fun e w' => e = .returned (.bool true) ∧ Below w.heap.size w w' := by
  by_cases hss : s.size ≤ 1048576
  · exact fnExactImportOfLaw1 x Rimports cimports Rcores ccores s w hat hfin hs hss ht
  · have hsn : (1048576 : Int) < (s.size : Int) := by omega
    go_enter Tryd.func10, Tryd.ntmps10
    go_wp2
    go_ret
    exact ⟨rfl, below1 _ _⟩
end Go.Proofs.YtoeofhhmkkpjbaaDoor
