/-
  The walk of the law FnExactSameModule: both answer alike, and the arguments stay.
-/
import Derived.Test.YtoeofhhmkkpjbaaSameMoS
namespace Go.Proofs.Ytoeofhhmkkpjbaa
open Go.ChangeShapes Go.WideShapes Go.ChangeAt Go.RowKit Go.Deep

theorem says_valMo {p : Prop} {w : World} {e : Ending} {w' : World} (h : SaysM p w e w') {v : Bool} (hv : v = true ↔ p) : e = .returned (.bool v) ∧ Below w.heap.size w w' := by
  obtain ⟨u, rfl, hu, hb⟩ := h
  obtain rfl : u = v := Bool.eq_iff_iff.mpr (hu.trans hv.symm)
  exact ⟨rfl, hb⟩
theorem dec_valMo (p : Prop) : ∃ v : Bool, v = true ↔ p := by
  by_cases h : p
  · exact ⟨true, iffM_T h⟩
  · exact ⟨false, iffM_F h⟩

set_option maxHeartbeats 4000000 in
set_option maxRecDepth 100000 in
theorem fnExactSameModuleLaw (x y : Mo) (Rimportsx : Option Addr) (cimportsx : Nat) (Rcoresx : Option Addr) (ccoresx : Nat) (Rimportsy : Option Addr) (cimportsy : Nat) (Rcoresy : Option Addr) (ccoresy : Nat) (w : World) (hax : Mo.At w 0 x Rimportsx Rcoresx) (hay : Mo.At w 0 y Rimportsy Rcoresy) (hfx : Mo.Fin x) (hfy : Mo.Fin y) :
    Calls Try.prog 3 #[.agg #[.int .i64 x.pages, .slice Rimportsx x.imports.length cimportsx, .slice Rcoresx x.cores.length ccoresx], .agg #[.int .i64 y.pages, .slice Rimportsy y.imports.length cimportsy, .slice Rcoresy y.cores.length ccoresy]] w fun e w' => e = .returned (.bool true) ∧ Below w.heap.size w w' := by
  have SX := (fun W (h : Mo.At W 0 x Rimportsx Rcoresx) => szModule_any x hfx 1048576 (by omega) (by omega) Rimportsx cimportsx Rcoresx ccoresx 0 W h)
  have HAX := Lib.hid hax
  have HAY := Lib.hid hay
  have hn0 := x.wt_nonneg
  have hm0 := y.wt_nonneg
  clear hax hay
  by_cases hn : 1048576 - x.wt < 0
  · rw [leftOr_neg hn] at SX
    have SX := Lib.hid SX
    clear hn hn0 hm0
    go_enter Try.func3, Try.ntmps3
    go_wp2_with fail
    go_at_call 6
    refine (SX.out _ (HAX.out.below (below2 _ _ _))).mono ?_
    rintro e w2 ⟨rfl, hb2⟩
    have HB2 := Lib.hid (bnext (below2 _ _ _) hb2)
    clear hb2
    go_wp2_with fail
    go_ret
    exact ⟨rfl, HB2.out⟩
  have hx : x.wt ≤ 1048576 := by omega
  rw [leftOr_pos (by omega)] at SX
  obtain ⟨M, hM⟩ : ∃ M, 1048576 - x.wt = M := ⟨_, rfl⟩
  rw [hM] at SX
  have hM0 : 0 ≤ M := by omega
  have hM1 : M ≤ 1048576 := by omega
  have SX := Lib.hid SX
  have SY := (fun W (h : Mo.At W 0 y Rimportsy Rcoresy) => szModule_any y hfy M hM0 hM1 Rimportsy cimportsy Rcoresy ccoresy 0 W h)
  by_cases hn2 : M - y.wt < 0
  · rw [leftOr_neg hn2] at SY
    have SY := Lib.hid SY
    clear hn hn0 hm0 hn2 hM hx
    go_enter Try.func3, Try.ntmps3
    go_wp2_with fail
    go_at_call 6
    refine (SX.out _ (HAX.out.below (below2 _ _ _))).mono ?_
    rintro e w2 ⟨rfl, hb2⟩
    have kx0 := keepCell (a := ⟨w.heap.size, 0, none⟩) (v := .int .i64 x.pages) hb2 (by go_simp)
    have kx1 := keepCell (a := ⟨w.heap.size, 1, none⟩) (v := .slice Rimportsx x.imports.length cimportsx) hb2 (by go_simp)
    have kx2 := keepCell (a := ⟨w.heap.size, 2, none⟩) (v := .slice Rcoresx x.cores.length ccoresx) hb2 (by go_simp)
    have ky0 := keepCell (a := ⟨w.heap.size + 1, 0, none⟩) (v := .int .i64 y.pages) hb2 (by go_simp)
    have ky1 := keepCell (a := ⟨w.heap.size + 1, 1, none⟩) (v := .slice Rimportsy y.imports.length cimportsy) hb2 (by go_simp)
    have ky2 := keepCell (a := ⟨w.heap.size + 1, 2, none⟩) (v := .slice Rcoresy y.cores.length ccoresy) hb2 (by go_simp)
    have HB2 := Lib.hid (bnext (below2 _ _ _) hb2)
    clear hb2
    go_wp2_with fail
    go_at_call 6
    refine (SY.out _ (HAY.out.below HB2.out)).mono ?_
    rintro e w3 ⟨rfl, hb3⟩
    have HB3 := Lib.hid (bnext HB2.out hb3)
    clear hb3
    go_wp2_with fail
    go_ret
    exact ⟨rfl, HB3.out⟩
  have hy : y.wt ≤ 1048576 := by omega
  rw [leftOr_pos (by omega)] at SY
  obtain ⟨N, hN⟩ : ∃ N, M - y.wt = N := ⟨_, rfl⟩
  rw [hN] at SY
  have hN0 : 0 ≤ N := by omega
  have SY := Lib.hid SY
  obtain ⟨v, hv⟩ := dec_valMo (x = y)
  have TX := Lib.hid (fun lo W (h : Mo.At W lo x Rimportsx Rcoresx) => toModule_any x hx Rimportsx cimportsx Rcoresx ccoresx lo W h)
  have TY := Lib.hid (fun lo W (h : Mo.At W lo y Rimportsy Rcoresy) => toModule_any y hy Rimportsy cimportsy Rcoresy ccoresy lo W h)
  have EX := Lib.hid (fun (Rimports : Option Addr) (cimports : Nat) (Rcores : Option Addr) (ccores : Nat) (Rimports' : Option Addr) (cimports' : Nat) (Rcores' : Option Addr) (ccores' : Nat) lo lo' W (h1 : Mo.At W lo x Rimports Rcores) (h2 : Mo.At W lo' x Rimports' Rcores') => eqModule_any x hx Rimports cimports Rcores ccores Rimports' cimports' Rcores' ccores' lo lo' W h1 h2)
  have EY := Lib.hid (fun (Rimports : Option Addr) (cimports : Nat) (Rcores : Option Addr) (ccores : Nat) (Rimports' : Option Addr) (cimports' : Nat) (Rcores' : Option Addr) (ccores' : Nat) lo lo' W (h1 : Mo.At W lo y Rimports Rcores) (h2 : Mo.At W lo' y Rimports' Rcores') => eqModule_any y hy Rimports cimports Rcores ccores Rimports' cimports' Rcores' ccores' lo lo' W h1 h2)
  have SP := Lib.hid (fun (Rimports : Option Addr) (cimports : Nat) (Rcores : Option Addr) (ccores : Nat) (Rimports' : Option Addr) (cimports' : Nat) (Rcores' : Option Addr) (ccores' : Nat) lo lo' W (h1 : Mo.At W lo x Rimports Rcores) (h2 : Mo.At W lo' y Rimports' Rcores') => (specSameModule_any x y hx Rimports cimports Rcores ccores Rimports' cimports' Rcores' ccores' lo lo' W h1 h2).mono fun _ _ j => says_valMo j hv)
  have IM := Lib.hid (fun (Rimports : Option Addr) (cimports : Nat) (Rcores : Option Addr) (ccores : Nat) (Rimports' : Option Addr) (cimports' : Nat) (Rcores' : Option Addr) (ccores' : Nat) lo lo' (hlo : 0 < lo) (hlo' : 0 < lo') W (h1 : Mo.At W lo x Rimports Rcores) (h2 : Mo.At W lo' y Rimports' Rcores') => (implSameModule_any x y hx Rimports cimports Rcores ccores Rimports' cimports' Rcores' ccores' lo lo' W h1 h2).mono fun _ _ j => says_valMo j hv)
  clear hn hn0 hm0 hn2 hM hN hx hy hv hfx hfy
  go_enter Try.func3, Try.ntmps3
  go_wp2_with fail
  go_at_call 6
  refine (SX.out _ (HAX.out.below (below2 _ _ _))).mono ?_
  rintro e w2 ⟨rfl, hb2⟩
  have kx0 := keepCell (a := ⟨w.heap.size, 0, none⟩) (v := .int .i64 x.pages) hb2 (by go_simp)
  have kx1 := keepCell (a := ⟨w.heap.size, 1, none⟩) (v := .slice Rimportsx x.imports.length cimportsx) hb2 (by go_simp)
  have kx2 := keepCell (a := ⟨w.heap.size, 2, none⟩) (v := .slice Rcoresx x.cores.length ccoresx) hb2 (by go_simp)
  have ky0 := keepCell (a := ⟨w.heap.size + 1, 0, none⟩) (v := .int .i64 y.pages) hb2 (by go_simp)
  have ky1 := keepCell (a := ⟨w.heap.size + 1, 1, none⟩) (v := .slice Rimportsy y.imports.length cimportsy) hb2 (by go_simp)
  have ky2 := keepCell (a := ⟨w.heap.size + 1, 2, none⟩) (v := .slice Rcoresy y.cores.length ccoresy) hb2 (by go_simp)
  have HB2 := Lib.hid (bnext (below2 _ _ _) hb2)
  clear hb2 SX
  go_wp2_with fail
  go_at_call 6
  refine (SY.out _ (HAY.out.below HB2.out)).mono ?_
  rintro e w3 ⟨rfl, hb3⟩
  replace kx0 := keepCell hb3 kx0
  replace kx1 := keepCell hb3 kx1
  replace kx2 := keepCell hb3 kx2
  replace ky0 := keepCell hb3 ky0
  replace ky1 := keepCell hb3 ky1
  replace ky2 := keepCell hb3 ky2
  have HB3 := Lib.hid (bnext HB2.out hb3)
  have HZ3 : 0 < w3.heap.size := Nat.lt_of_le_of_lt (Nat.zero_le _) (World.block_lt_of_cell? w3 _ kx0)
  clear hb3 SY
  go_wp2_with fail
  go_region_held3 (fun w' => w'.cell? ⟨w.heap.size, 0, none⟩ = some (.int .i64 x.pages) ∧ w'.cell? ⟨w.heap.size, 1, none⟩ = some (.slice Rimportsx x.imports.length cimportsx) ∧ w'.cell? ⟨w.heap.size, 2, none⟩ = some (.slice Rcoresx x.cores.length ccoresx) ∧ w'.cell? ⟨w.heap.size + 1, 0, none⟩ = some (.int .i64 y.pages) ∧ w'.cell? ⟨w.heap.size + 1, 1, none⟩ = some (.slice Rimportsy y.imports.length cimportsy) ∧ w'.cell? ⟨w.heap.size + 1, 2, none⟩ = some (.slice Rcoresy y.cores.length ccoresy) ∧ Below w3.heap.size w3 w')
    (first | assumption | (exact (Below.refl _ _).drew) | (exact ⟨kx0, kx1, kx2, ky0, ky1, ky2, (Below.refl _ _).drew⟩) | (refine ⟨?_, ?_, ?_, ?_, ?_, ?_, ?_⟩ <;> assumption))
    (first
      | (go_at_call 8; first | ((with_reducible refine (TX.out 0 _ (HAX.out.below HB3.out.drew)).mono ?_); rintro e w4 ⟨Rimports4, cimports4, Rcores4, ccores4, rfl, ha4, hb4⟩; have hbw4 : Below w3.heap.size w3 w4 := (Below.refl w3.heap.size w3).drew.trans hb4; have pkx0 := keepCell hbw4 kx0; have pkx1 := keepCell hbw4 kx1; have pkx2 := keepCell hbw4 kx2; have pky0 := keepCell hbw4 ky0; have pky1 := keepCell hbw4 ky1; have pky2 := keepCell hbw4 ky2) | ((with_reducible refine (TY.out 0 _ ((HAY.out.below HB3.out).below hbw4)).mono ?_); rintro e w5 ⟨Rimports5, cimports5, Rcores5, ccores5, rfl, ha5, hb5⟩; have hbw5 : Below w3.heap.size w3 w5 := hbw4.trans (hb5.mono hbw4.size); have qkx0 := keepCell hbw5 kx0; have qkx1 := keepCell hbw5 kx1; have qkx2 := keepCell hbw5 kx2; have qky0 := keepCell hbw5 ky0; have qky1 := keepCell hbw5 ky1; have qky2 := keepCell hbw5 ky2))
      | (go_at_call 7; refine (SP.out _ _ _ _ _ _ _ _ _ _ _ (ha4.below hb5) ha5).mono ?_; rintro e w6 ⟨rfl, hb6⟩; have hbw6 : Below w3.heap.size w3 w6 := hbw5.trans (hb6.mono hbw5.size); have rkx0 := keepCell hbw6 kx0; have rkx1 := keepCell hbw6 kx1; have rkx2 := keepCell hbw6 kx2; have rky0 := keepCell hbw6 ky0; have rky1 := keepCell hbw6 ky1; have rky2 := keepCell hbw6 ky2))
  replace kx0 := rkx0
  replace kx1 := rkx1
  replace kx2 := rkx2
  replace ky0 := rky0
  replace ky1 := rky1
  replace ky2 := rky2
  have HB6 := Lib.hid (bnext HB3.out hbw6)
  have HZ6 : 0 < w6.heap.size := Nat.lt_of_le_of_lt (Nat.zero_le _) (World.block_lt_of_cell? w6 _ kx0)
  clear pkx0 pkx1 pkx2 pky0 pky1 pky2 qkx0 qkx1 qkx2 qky0 qky1 qky2 ha4 ha5 hb4 hb5 hb6 hbw4 hbw5 hbw6 SP
  go_wp2_with fail
  go_at_call 8
  refine (TX.out 0 _ (HAX.out.below HB6.out)).mono ?_
  rintro e w7 ⟨Rimports7, cimports7, Rcores7, ccores7, rfl, ha7, hb7⟩
  replace kx0 := keepCell hb7 kx0
  replace kx1 := keepCell hb7 kx1
  replace kx2 := keepCell hb7 kx2
  replace ky0 := keepCell hb7 ky0
  replace ky1 := keepCell hb7 ky1
  replace ky2 := keepCell hb7 ky2
  have HB7 := Lib.hid (bnext HB6.out hb7)
  have HA7 := Lib.hid ha7
  have hz7x : w.heap.size < w7.heap.size := World.block_lt_of_cell? w7 _ kx0
  have hz7y : w.heap.size + 1 < w7.heap.size := World.block_lt_of_cell? w7 _ ky0
  clear hb7 ha7
  go_wp2_with fail
  go_at_call 8
  refine (TY.out 0 _ ((HAY.out.below HB7.out).below (below1 _ _))).mono ?_
  rintro e w8 ⟨Rimports8, cimports8, Rcores8, ccores8, rfl, ha8, hb8⟩
  replace kx0 := keepCell hb8 (keepCell (below1 w7 _) kx0)
  replace kx1 := keepCell hb8 (keepCell (below1 w7 _) kx1)
  replace kx2 := keepCell hb8 (keepCell (below1 w7 _) kx2)
  replace ky0 := keepCell hb8 (keepCell (below1 w7 _) ky0)
  replace ky1 := keepCell hb8 (keepCell (below1 w7 _) ky1)
  replace ky2 := keepCell hb8 (keepCell (below1 w7 _) ky2)
  have jx0 := keepCell (a := ⟨w7.heap.size, 0, none⟩) (v := .int .i64 x.pages) hb8 (by go_simp)
  have jx1 := keepCell (a := ⟨w7.heap.size, 1, none⟩) (v := .slice Rimports7 x.imports.length cimports7) hb8 (by go_simp)
  have jx2 := keepCell (a := ⟨w7.heap.size, 2, none⟩) (v := .slice Rcores7 x.cores.length ccores7) hb8 (by go_simp)
  have HB8 := Lib.hid (bnext (bnext HB7.out (below1 _ _)) hb8)
  have HA7' := Lib.hid ((HA7.out.below (below1 _ _)).below hb8)
  have HA8 := Lib.hid ha8
  have HZ8 : 0 < w8.heap.size := Nat.lt_of_le_of_lt (Nat.zero_le _) (World.block_lt_of_cell? w8 _ kx0)
  have hz8 : w7.heap.size < w8.heap.size := World.block_lt_of_cell? w8 _ jx0
  clear hb8 ha8 HA7 hz7x hz7y
  go_wp2_with fail
  go_at_call 9
  refine (IM.out _ _ _ _ _ _ _ _ _ _ (by first | exact HZ6 | simp) (by first | exact HZ6 | simp) _ (HA7'.out.below (below1 _ _)) (HA8.out.below (below1 _ _))).mono ?_
  rintro e w9 ⟨rfl, hb9⟩
  replace kx0 := keepCell hb9 (keepCell (below1 w8 _) kx0)
  replace kx1 := keepCell hb9 (keepCell (below1 w8 _) kx1)
  replace kx2 := keepCell hb9 (keepCell (below1 w8 _) kx2)
  replace ky0 := keepCell hb9 (keepCell (below1 w8 _) ky0)
  replace ky1 := keepCell hb9 (keepCell (below1 w8 _) ky1)
  replace ky2 := keepCell hb9 (keepCell (below1 w8 _) ky2)
  replace jx0 := keepCell hb9 (keepCell (below1 w8 _) jx0)
  replace jx1 := keepCell hb9 (keepCell (below1 w8 _) jx1)
  replace jx2 := keepCell hb9 (keepCell (below1 w8 _) jx2)
  have jy0 := keepCell (a := ⟨w8.heap.size, 0, none⟩) (v := .int .i64 y.pages) hb9 (by go_simp)
  have jy1 := keepCell (a := ⟨w8.heap.size, 1, none⟩) (v := .slice Rimports8 y.imports.length cimports8) hb9 (by go_simp)
  have jy2 := keepCell (a := ⟨w8.heap.size, 2, none⟩) (v := .slice Rcores8 y.cores.length ccores8) hb9 (by go_simp)
  have HB9 := Lib.hid (bnext (bnext HB8.out (below1 _ _)) hb9)
  have HA9x := Lib.hid ((HA7'.out.below (below1 _ _)).below hb9)
  have HA9y := Lib.hid ((HA8.out.below (below1 _ _)).below hb9)
  clear hb9 HA7' HA8 IM hz8
  go_wp2_with fail
  go_region_held3 (fun w' => w'.cell? ⟨w.heap.size, 0, none⟩ = some (.int .i64 x.pages) ∧ w'.cell? ⟨w.heap.size, 1, none⟩ = some (.slice Rimportsx x.imports.length cimportsx) ∧ w'.cell? ⟨w.heap.size, 2, none⟩ = some (.slice Rcoresx x.cores.length ccoresx) ∧ w'.cell? ⟨w.heap.size + 1, 0, none⟩ = some (.int .i64 y.pages) ∧ w'.cell? ⟨w.heap.size + 1, 1, none⟩ = some (.slice Rimportsy y.imports.length cimportsy) ∧ w'.cell? ⟨w.heap.size + 1, 2, none⟩ = some (.slice Rcoresy y.cores.length ccoresy) ∧ w'.cell? ⟨w7.heap.size, 0, none⟩ = some (.int .i64 x.pages) ∧ w'.cell? ⟨w7.heap.size, 1, none⟩ = some (.slice Rimports7 x.imports.length cimports7) ∧ w'.cell? ⟨w7.heap.size, 2, none⟩ = some (.slice Rcores7 x.cores.length ccores7) ∧ w'.cell? ⟨w8.heap.size, 0, none⟩ = some (.int .i64 y.pages) ∧ w'.cell? ⟨w8.heap.size, 1, none⟩ = some (.slice Rimports8 y.imports.length cimports8) ∧ w'.cell? ⟨w8.heap.size, 2, none⟩ = some (.slice Rcores8 y.cores.length ccores8) ∧ Below w9.heap.size w9 w')
    (first | assumption | (exact (Below.refl _ _).drew) | (exact ⟨kx0, kx1, kx2, ky0, ky1, ky2, jx0, jx1, jx2, jy0, jy1, jy2, (Below.refl _ _).drew⟩) | (refine ⟨?_, ?_, ?_, ?_, ?_, ?_, ?_, ?_, ?_, ?_, ?_, ?_, ?_⟩ <;> assumption))
    (first
      | (go_at_call 8; refine (TX.out 0 _ (HAX.out.below HB9.out.drew)).mono ?_; rintro e w10 ⟨Rimports10, cimports10, Rcores10, ccores10, rfl, hat, hbt⟩; have hbw : Below w9.heap.size w9 w10 := (Below.refl w9.heap.size w9).drew.trans hbt; have pkx0 := keepCell hbw kx0; have pkx1 := keepCell hbw kx1; have pkx2 := keepCell hbw kx2; have pky0 := keepCell hbw ky0; have pky1 := keepCell hbw ky1; have pky2 := keepCell hbw ky2; have pjx0 := keepCell hbw jx0; have pjx1 := keepCell hbw jx1; have pjx2 := keepCell hbw jx2; have pjy0 := keepCell hbw jy0; have pjy1 := keepCell hbw jy1; have pjy2 := keepCell hbw jy2)
      | (go_at_call 10; refine (EX.out _ _ _ _ _ _ _ _ _ _ _ (HA9x.out.below hbw) hat).mono ?_; rintro e w11 ⟨rfl, hbe⟩; have hbv : Below w9.heap.size w9 w11 := hbw.trans (hbe.mono hbw.size); have rkx0 := keepCell hbv kx0; have rkx1 := keepCell hbv kx1; have rkx2 := keepCell hbv kx2; have rky0 := keepCell hbv ky0; have rky1 := keepCell hbv ky1; have rky2 := keepCell hbv ky2; have rjx0 := keepCell hbv jx0; have rjx1 := keepCell hbv jx1; have rjx2 := keepCell hbv jx2; have rjy0 := keepCell hbv jy0; have rjy1 := keepCell hbv jy1; have rjy2 := keepCell hbv jy2))
  replace kx0 := rkx0
  replace kx1 := rkx1
  replace kx2 := rkx2
  replace ky0 := rky0
  replace ky1 := rky1
  replace ky2 := rky2
  replace jx0 := rjx0
  replace jx1 := rjx1
  replace jx2 := rjx2
  replace jy0 := rjy0
  replace jy1 := rjy1
  replace jy2 := rjy2
  have HB11 := Lib.hid (bnext HB9.out hbv)
  have HA11y := Lib.hid (HA9y.out.below hbv)
  clear pkx0 pkx1 pkx2 pky0 pky1 pky2 pjx0 pjx1 pjx2 pjy0 pjy1 pjy2 hat hbt hbw hbe hbv HA9x HA9y EX TX
  go_wp2_with fail
  go_region_held3 (fun w' => w'.cell? ⟨w.heap.size, 0, none⟩ = some (.int .i64 x.pages) ∧ w'.cell? ⟨w.heap.size, 1, none⟩ = some (.slice Rimportsx x.imports.length cimportsx) ∧ w'.cell? ⟨w.heap.size, 2, none⟩ = some (.slice Rcoresx x.cores.length ccoresx) ∧ w'.cell? ⟨w.heap.size + 1, 0, none⟩ = some (.int .i64 y.pages) ∧ w'.cell? ⟨w.heap.size + 1, 1, none⟩ = some (.slice Rimportsy y.imports.length cimportsy) ∧ w'.cell? ⟨w.heap.size + 1, 2, none⟩ = some (.slice Rcoresy y.cores.length ccoresy) ∧ w'.cell? ⟨w7.heap.size, 0, none⟩ = some (.int .i64 x.pages) ∧ w'.cell? ⟨w7.heap.size, 1, none⟩ = some (.slice Rimports7 x.imports.length cimports7) ∧ w'.cell? ⟨w7.heap.size, 2, none⟩ = some (.slice Rcores7 x.cores.length ccores7) ∧ w'.cell? ⟨w8.heap.size, 0, none⟩ = some (.int .i64 y.pages) ∧ w'.cell? ⟨w8.heap.size, 1, none⟩ = some (.slice Rimports8 y.imports.length cimports8) ∧ w'.cell? ⟨w8.heap.size, 2, none⟩ = some (.slice Rcores8 y.cores.length ccores8) ∧ Below w11.heap.size w11 w')
    (first | assumption | (exact (Below.refl _ _).drew) | (exact ⟨kx0, kx1, kx2, ky0, ky1, ky2, jx0, jx1, jx2, jy0, jy1, jy2, (Below.refl _ _).drew⟩) | (refine ⟨?_, ?_, ?_, ?_, ?_, ?_, ?_, ?_, ?_, ?_, ?_, ?_, ?_⟩ <;> assumption))
    (first
      | (go_at_call 8; refine (TY.out 0 _ (HAY.out.below HB11.out.drew)).mono ?_; rintro e w12 ⟨Rimports12, cimports12, Rcores12, ccores12, rfl, hat, hbt⟩; have hbw : Below w11.heap.size w11 w12 := (Below.refl w11.heap.size w11).drew.trans hbt; have pkx0 := keepCell hbw kx0; have pkx1 := keepCell hbw kx1; have pkx2 := keepCell hbw kx2; have pky0 := keepCell hbw ky0; have pky1 := keepCell hbw ky1; have pky2 := keepCell hbw ky2; have pjx0 := keepCell hbw jx0; have pjx1 := keepCell hbw jx1; have pjx2 := keepCell hbw jx2; have pjy0 := keepCell hbw jy0; have pjy1 := keepCell hbw jy1; have pjy2 := keepCell hbw jy2)
      | (go_at_call 10; refine (EY.out _ _ _ _ _ _ _ _ _ _ _ (HA11y.out.below hbw) hat).mono ?_; rintro e w13 ⟨rfl, hbe⟩; have hbv : Below w11.heap.size w11 w13 := hbw.trans (hbe.mono hbw.size); have rkx0 := keepCell hbv kx0; have rkx1 := keepCell hbv kx1; have rkx2 := keepCell hbv kx2; have rky0 := keepCell hbv ky0; have rky1 := keepCell hbv ky1; have rky2 := keepCell hbv ky2; have rjx0 := keepCell hbv jx0; have rjx1 := keepCell hbv jx1; have rjx2 := keepCell hbv jx2; have rjy0 := keepCell hbv jy0; have rjy1 := keepCell hbv jy1; have rjy2 := keepCell hbv jy2))
  go_wp2_with fail
  go_ret
  exact ⟨rfl, bnext HB11.out hbv⟩
end Go.Proofs.Ytoeofhhmkkpjbaa
