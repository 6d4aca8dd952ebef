/-
  The walk of the law FnExactSameMachine: both answer alike, and the arguments stay.
-/
import Derived.Test.YtbjcldekapipaaaSameMaS
namespace Go.Proofs.Ytbjcldekapipaaa
open Go.ChangeShapes Go.WideShapes Go.ChangeAt Go.RowKit Go.Deep

theorem says_valMa {p : Prop} {w : World} {e : Ending} {w' : World} (h : SaysA p w e w') {v : Bool} (hv : v = true ↔ p) : e = .returned (.bool v) ∧ Below w.heap.size w w' := by
  obtain ⟨u, rfl, hu, hb⟩ := h
  obtain rfl : u = v := Bool.eq_iff_iff.mpr (hu.trans hv.symm)
  exact ⟨rfl, hb⟩
theorem dec_valMa (p : Prop) : ∃ v : Bool, v = true ↔ p := by
  by_cases h : p
  · exact ⟨true, iffA_T h⟩
  · exact ⟨false, iffA_F h⟩

set_option maxHeartbeats 4000000 in
set_option maxRecDepth 100000 in
theorem fnExactSameMachineLaw (x y : Ma) (Rframesx : Option Addr) (cframesx : Nat) (Rstackx : Option Addr) (cstackx : Nat) (Rargsx : Option Addr) (cargsx : Nat) (Rframesy : Option Addr) (cframesy : Nat) (Rstacky : Option Addr) (cstacky : Nat) (Rargsy : Option Addr) (cargsy : Nat) (w : World) (hax : Ma.At w 0 x Rframesx Rstackx Rargsx) (hay : Ma.At w 0 y Rframesy Rstacky Rargsy) (hfx : Ma.Fin x) (hfy : Ma.Fin y) :
    Calls Try.prog 3 #[.agg #[.int .i64 x.status, .slice Rframesx x.frames.length cframesx, .slice Rstackx x.stack.length cstackx, .int .i64 x.imp, .slice Rargsx x.args.length cargsx, .int .i64 x.result, .int .i64 x.trap], .agg #[.int .i64 y.status, .slice Rframesy y.frames.length cframesy, .slice Rstacky y.stack.length cstacky, .int .i64 y.imp, .slice Rargsy y.args.length cargsy, .int .i64 y.result, .int .i64 y.trap]] w fun e w' => e = .returned (.bool true) ∧ Below w.heap.size w w' := by
  have SX := (fun W (h : Ma.At W 0 x Rframesx Rstackx Rargsx) => szMachine_any x hfx 1048576 (by omega) (by omega) Rframesx cframesx Rstackx cstackx Rargsx cargsx 0 W h)
  have HAX := Lib.hid hax
  have HAY := Lib.hid hay
  have hn0 := x.wt_nonneg
  have hm0 := y.wt_nonneg
  clear hax hay
  by_cases hn : 1048576 - x.wt < 0
  · rw [leftOr_neg hn] at SX
    have SX := Lib.hid SX
    clear hn hn0 hm0
    go_enter Try.func3, Try.ntmps3
    go_wp2_with fail
    go_at_call 6
    refine (SX.out _ (HAX.out.below (below2 _ _ _))).mono ?_
    rintro e w2 ⟨rfl, hb2⟩
    have HB2 := Lib.hid (bnext (below2 _ _ _) hb2)
    clear hb2
    go_wp2_with fail
    go_ret
    exact ⟨rfl, HB2.out⟩
  have hx : x.wt ≤ 1048576 := by omega
  rw [leftOr_pos (by omega)] at SX
  obtain ⟨M, hM⟩ : ∃ M, 1048576 - x.wt = M := ⟨_, rfl⟩
  rw [hM] at SX
  have hM0 : 0 ≤ M := by omega
  have hM1 : M ≤ 1048576 := by omega
  have SX := Lib.hid SX
  have SY := (fun W (h : Ma.At W 0 y Rframesy Rstacky Rargsy) => szMachine_any y hfy M hM0 hM1 Rframesy cframesy Rstacky cstacky Rargsy cargsy 0 W h)
  by_cases hn2 : M - y.wt < 0
  · rw [leftOr_neg hn2] at SY
    have SY := Lib.hid SY
    clear hn hn0 hm0 hn2 hM hx
    go_enter Try.func3, Try.ntmps3
    go_wp2_with fail
    go_at_call 6
    refine (SX.out _ (HAX.out.below (below2 _ _ _))).mono ?_
    rintro e w2 ⟨rfl, hb2⟩
    have kx0 := keepCell (a := ⟨w.heap.size, 0, none⟩) (v := .int .i64 x.status) hb2 (by go_simp)
    have kx1 := keepCell (a := ⟨w.heap.size, 1, none⟩) (v := .slice Rframesx x.frames.length cframesx) hb2 (by go_simp)
    have kx2 := keepCell (a := ⟨w.heap.size, 2, none⟩) (v := .slice Rstackx x.stack.length cstackx) hb2 (by go_simp)
    have kx3 := keepCell (a := ⟨w.heap.size, 3, none⟩) (v := .int .i64 x.imp) hb2 (by go_simp)
    have kx4 := keepCell (a := ⟨w.heap.size, 4, none⟩) (v := .slice Rargsx x.args.length cargsx) hb2 (by go_simp)
    have kx5 := keepCell (a := ⟨w.heap.size, 5, none⟩) (v := .int .i64 x.result) hb2 (by go_simp)
    have kx6 := keepCell (a := ⟨w.heap.size, 6, none⟩) (v := .int .i64 x.trap) hb2 (by go_simp)
    have ky0 := keepCell (a := ⟨w.heap.size + 1, 0, none⟩) (v := .int .i64 y.status) hb2 (by go_simp)
    have ky1 := keepCell (a := ⟨w.heap.size + 1, 1, none⟩) (v := .slice Rframesy y.frames.length cframesy) hb2 (by go_simp)
    have ky2 := keepCell (a := ⟨w.heap.size + 1, 2, none⟩) (v := .slice Rstacky y.stack.length cstacky) hb2 (by go_simp)
    have ky3 := keepCell (a := ⟨w.heap.size + 1, 3, none⟩) (v := .int .i64 y.imp) hb2 (by go_simp)
    have ky4 := keepCell (a := ⟨w.heap.size + 1, 4, none⟩) (v := .slice Rargsy y.args.length cargsy) hb2 (by go_simp)
    have ky5 := keepCell (a := ⟨w.heap.size + 1, 5, none⟩) (v := .int .i64 y.result) hb2 (by go_simp)
    have ky6 := keepCell (a := ⟨w.heap.size + 1, 6, none⟩) (v := .int .i64 y.trap) hb2 (by go_simp)
    have HB2 := Lib.hid (bnext (below2 _ _ _) hb2)
    clear hb2
    go_wp2_with fail
    go_at_call 6
    refine (SY.out _ (HAY.out.below HB2.out)).mono ?_
    rintro e w3 ⟨rfl, hb3⟩
    have HB3 := Lib.hid (bnext HB2.out hb3)
    clear hb3
    go_wp2_with fail
    go_ret
    exact ⟨rfl, HB3.out⟩
  have hy : y.wt ≤ 1048576 := by omega
  rw [leftOr_pos (by omega)] at SY
  obtain ⟨N, hN⟩ : ∃ N, M - y.wt = N := ⟨_, rfl⟩
  rw [hN] at SY
  have hN0 : 0 ≤ N := by omega
  have SY := Lib.hid SY
  obtain ⟨v, hv⟩ := dec_valMa (x = y)
  have TX := Lib.hid (fun lo W (h : Ma.At W lo x Rframesx Rstackx Rargsx) => toMachine_any x hx Rframesx cframesx Rstackx cstackx Rargsx cargsx lo W h)
  have TY := Lib.hid (fun lo W (h : Ma.At W lo y Rframesy Rstacky Rargsy) => toMachine_any y hy Rframesy cframesy Rstacky cstacky Rargsy cargsy lo W h)
  have EX := Lib.hid (fun (Rframes : Option Addr) (cframes : Nat) (Rstack : Option Addr) (cstack : Nat) (Rargs : Option Addr) (cargs : Nat) (Rframes' : Option Addr) (cframes' : Nat) (Rstack' : Option Addr) (cstack' : Nat) (Rargs' : Option Addr) (cargs' : Nat) lo lo' W (h1 : Ma.At W lo x Rframes Rstack Rargs) (h2 : Ma.At W lo' x Rframes' Rstack' Rargs') => eqMachine_any x hx Rframes cframes Rstack cstack Rargs cargs Rframes' cframes' Rstack' cstack' Rargs' cargs' lo lo' W h1 h2)
  have EY := Lib.hid (fun (Rframes : Option Addr) (cframes : Nat) (Rstack : Option Addr) (cstack : Nat) (Rargs : Option Addr) (cargs : Nat) (Rframes' : Option Addr) (cframes' : Nat) (Rstack' : Option Addr) (cstack' : Nat) (Rargs' : Option Addr) (cargs' : Nat) lo lo' W (h1 : Ma.At W lo y Rframes Rstack Rargs) (h2 : Ma.At W lo' y Rframes' Rstack' Rargs') => eqMachine_any y hy Rframes cframes Rstack cstack Rargs cargs Rframes' cframes' Rstack' cstack' Rargs' cargs' lo lo' W h1 h2)
  have SP := Lib.hid (fun (Rframes : Option Addr) (cframes : Nat) (Rstack : Option Addr) (cstack : Nat) (Rargs : Option Addr) (cargs : Nat) (Rframes' : Option Addr) (cframes' : Nat) (Rstack' : Option Addr) (cstack' : Nat) (Rargs' : Option Addr) (cargs' : Nat) lo lo' W (h1 : Ma.At W lo x Rframes Rstack Rargs) (h2 : Ma.At W lo' y Rframes' Rstack' Rargs') => (specSameMachine_any x y hx Rframes cframes Rstack cstack Rargs cargs Rframes' cframes' Rstack' cstack' Rargs' cargs' lo lo' W h1 h2).mono fun _ _ j => says_valMa j hv)
  have IM := Lib.hid (fun (Rframes : Option Addr) (cframes : Nat) (Rstack : Option Addr) (cstack : Nat) (Rargs : Option Addr) (cargs : Nat) (Rframes' : Option Addr) (cframes' : Nat) (Rstack' : Option Addr) (cstack' : Nat) (Rargs' : Option Addr) (cargs' : Nat) lo lo' (hlo : 0 < lo) (hlo' : 0 < lo') W (h1 : Ma.At W lo x Rframes Rstack Rargs) (h2 : Ma.At W lo' y Rframes' Rstack' Rargs') => (implSameMachine_any x y hx Rframes cframes Rstack cstack Rargs cargs Rframes' cframes' Rstack' cstack' Rargs' cargs' lo lo' W h1 h2).mono fun _ _ j => says_valMa j hv)
  clear hn hn0 hm0 hn2 hM hN hx hy hv hfx hfy
  go_enter Try.func3, Try.ntmps3
  go_wp2_with fail
  go_at_call 6
  refine (SX.out _ (HAX.out.below (below2 _ _ _))).mono ?_
  rintro e w2 ⟨rfl, hb2⟩
  have kx0 := keepCell (a := ⟨w.heap.size, 0, none⟩) (v := .int .i64 x.status) hb2 (by go_simp)
  have kx1 := keepCell (a := ⟨w.heap.size, 1, none⟩) (v := .slice Rframesx x.frames.length cframesx) hb2 (by go_simp)
  have kx2 := keepCell (a := ⟨w.heap.size, 2, none⟩) (v := .slice Rstackx x.stack.length cstackx) hb2 (by go_simp)
  have kx3 := keepCell (a := ⟨w.heap.size, 3, none⟩) (v := .int .i64 x.imp) hb2 (by go_simp)
  have kx4 := keepCell (a := ⟨w.heap.size, 4, none⟩) (v := .slice Rargsx x.args.length cargsx) hb2 (by go_simp)
  have kx5 := keepCell (a := ⟨w.heap.size, 5, none⟩) (v := .int .i64 x.result) hb2 (by go_simp)
  have kx6 := keepCell (a := ⟨w.heap.size, 6, none⟩) (v := .int .i64 x.trap) hb2 (by go_simp)
  have ky0 := keepCell (a := ⟨w.heap.size + 1, 0, none⟩) (v := .int .i64 y.status) hb2 (by go_simp)
  have ky1 := keepCell (a := ⟨w.heap.size + 1, 1, none⟩) (v := .slice Rframesy y.frames.length cframesy) hb2 (by go_simp)
  have ky2 := keepCell (a := ⟨w.heap.size + 1, 2, none⟩) (v := .slice Rstacky y.stack.length cstacky) hb2 (by go_simp)
  have ky3 := keepCell (a := ⟨w.heap.size + 1, 3, none⟩) (v := .int .i64 y.imp) hb2 (by go_simp)
  have ky4 := keepCell (a := ⟨w.heap.size + 1, 4, none⟩) (v := .slice Rargsy y.args.length cargsy) hb2 (by go_simp)
  have ky5 := keepCell (a := ⟨w.heap.size + 1, 5, none⟩) (v := .int .i64 y.result) hb2 (by go_simp)
  have ky6 := keepCell (a := ⟨w.heap.size + 1, 6, none⟩) (v := .int .i64 y.trap) hb2 (by go_simp)
  have HB2 := Lib.hid (bnext (below2 _ _ _) hb2)
  clear hb2 SX
  go_wp2_with fail
  go_at_call 6
  refine (SY.out _ (HAY.out.below HB2.out)).mono ?_
  rintro e w3 ⟨rfl, hb3⟩
  replace kx0 := keepCell hb3 kx0
  replace kx1 := keepCell hb3 kx1
  replace kx2 := keepCell hb3 kx2
  replace kx3 := keepCell hb3 kx3
  replace kx4 := keepCell hb3 kx4
  replace kx5 := keepCell hb3 kx5
  replace kx6 := keepCell hb3 kx6
  replace ky0 := keepCell hb3 ky0
  replace ky1 := keepCell hb3 ky1
  replace ky2 := keepCell hb3 ky2
  replace ky3 := keepCell hb3 ky3
  replace ky4 := keepCell hb3 ky4
  replace ky5 := keepCell hb3 ky5
  replace ky6 := keepCell hb3 ky6
  have HB3 := Lib.hid (bnext HB2.out hb3)
  have HZ3 : 0 < w3.heap.size := Nat.lt_of_le_of_lt (Nat.zero_le _) (World.block_lt_of_cell? w3 _ kx0)
  clear hb3 SY
  go_wp2_with fail
  go_region_held3 (fun w' => w'.cell? ⟨w.heap.size, 0, none⟩ = some (.int .i64 x.status) ∧ w'.cell? ⟨w.heap.size, 1, none⟩ = some (.slice Rframesx x.frames.length cframesx) ∧ w'.cell? ⟨w.heap.size, 2, none⟩ = some (.slice Rstackx x.stack.length cstackx) ∧ w'.cell? ⟨w.heap.size, 3, none⟩ = some (.int .i64 x.imp) ∧ w'.cell? ⟨w.heap.size, 4, none⟩ = some (.slice Rargsx x.args.length cargsx) ∧ w'.cell? ⟨w.heap.size, 5, none⟩ = some (.int .i64 x.result) ∧ w'.cell? ⟨w.heap.size, 6, none⟩ = some (.int .i64 x.trap) ∧ w'.cell? ⟨w.heap.size + 1, 0, none⟩ = some (.int .i64 y.status) ∧ w'.cell? ⟨w.heap.size + 1, 1, none⟩ = some (.slice Rframesy y.frames.length cframesy) ∧ w'.cell? ⟨w.heap.size + 1, 2, none⟩ = some (.slice Rstacky y.stack.length cstacky) ∧ w'.cell? ⟨w.heap.size + 1, 3, none⟩ = some (.int .i64 y.imp) ∧ w'.cell? ⟨w.heap.size + 1, 4, none⟩ = some (.slice Rargsy y.args.length cargsy) ∧ w'.cell? ⟨w.heap.size + 1, 5, none⟩ = some (.int .i64 y.result) ∧ w'.cell? ⟨w.heap.size + 1, 6, none⟩ = some (.int .i64 y.trap) ∧ Below w3.heap.size w3 w')
    (first | assumption | (exact (Below.refl _ _).drew) | (exact ⟨kx0, kx1, kx2, kx3, kx4, kx5, kx6, ky0, ky1, ky2, ky3, ky4, ky5, ky6, (Below.refl _ _).drew⟩) | (refine ⟨?_, ?_, ?_, ?_, ?_, ?_, ?_, ?_, ?_, ?_, ?_, ?_, ?_, ?_, ?_⟩ <;> assumption))
    (first
      | (go_at_call 8; first | ((with_reducible refine (TX.out 0 _ (HAX.out.below HB3.out.drew)).mono ?_); rintro e w4 ⟨Rframes4, cframes4, Rstack4, cstack4, Rargs4, cargs4, rfl, ha4, hb4⟩; have hbw4 : Below w3.heap.size w3 w4 := (Below.refl w3.heap.size w3).drew.trans hb4; have pkx0 := keepCell hbw4 kx0; have pkx1 := keepCell hbw4 kx1; have pkx2 := keepCell hbw4 kx2; have pkx3 := keepCell hbw4 kx3; have pkx4 := keepCell hbw4 kx4; have pkx5 := keepCell hbw4 kx5; have pkx6 := keepCell hbw4 kx6; have pky0 := keepCell hbw4 ky0; have pky1 := keepCell hbw4 ky1; have pky2 := keepCell hbw4 ky2; have pky3 := keepCell hbw4 ky3; have pky4 := keepCell hbw4 ky4; have pky5 := keepCell hbw4 ky5; have pky6 := keepCell hbw4 ky6) | ((with_reducible refine (TY.out 0 _ ((HAY.out.below HB3.out).below hbw4)).mono ?_); rintro e w5 ⟨Rframes5, cframes5, Rstack5, cstack5, Rargs5, cargs5, rfl, ha5, hb5⟩; have hbw5 : Below w3.heap.size w3 w5 := hbw4.trans (hb5.mono hbw4.size); have qkx0 := keepCell hbw5 kx0; have qkx1 := keepCell hbw5 kx1; have qkx2 := keepCell hbw5 kx2; have qkx3 := keepCell hbw5 kx3; have qkx4 := keepCell hbw5 kx4; have qkx5 := keepCell hbw5 kx5; have qkx6 := keepCell hbw5 kx6; have qky0 := keepCell hbw5 ky0; have qky1 := keepCell hbw5 ky1; have qky2 := keepCell hbw5 ky2; have qky3 := keepCell hbw5 ky3; have qky4 := keepCell hbw5 ky4; have qky5 := keepCell hbw5 ky5; have qky6 := keepCell hbw5 ky6))
      | (go_at_call 7; refine (SP.out _ _ _ _ _ _ _ _ _ _ _ _ _ _ _ (ha4.below hb5) ha5).mono ?_; rintro e w6 ⟨rfl, hb6⟩; have hbw6 : Below w3.heap.size w3 w6 := hbw5.trans (hb6.mono hbw5.size); have rkx0 := keepCell hbw6 kx0; have rkx1 := keepCell hbw6 kx1; have rkx2 := keepCell hbw6 kx2; have rkx3 := keepCell hbw6 kx3; have rkx4 := keepCell hbw6 kx4; have rkx5 := keepCell hbw6 kx5; have rkx6 := keepCell hbw6 kx6; have rky0 := keepCell hbw6 ky0; have rky1 := keepCell hbw6 ky1; have rky2 := keepCell hbw6 ky2; have rky3 := keepCell hbw6 ky3; have rky4 := keepCell hbw6 ky4; have rky5 := keepCell hbw6 ky5; have rky6 := keepCell hbw6 ky6))
  replace kx0 := rkx0
  replace kx1 := rkx1
  replace kx2 := rkx2
  replace kx3 := rkx3
  replace kx4 := rkx4
  replace kx5 := rkx5
  replace kx6 := rkx6
  replace ky0 := rky0
  replace ky1 := rky1
  replace ky2 := rky2
  replace ky3 := rky3
  replace ky4 := rky4
  replace ky5 := rky5
  replace ky6 := rky6
  have HB6 := Lib.hid (bnext HB3.out hbw6)
  have HZ6 : 0 < w6.heap.size := Nat.lt_of_le_of_lt (Nat.zero_le _) (World.block_lt_of_cell? w6 _ kx0)
  clear pkx0 pkx1 pkx2 pkx3 pkx4 pkx5 pkx6 pky0 pky1 pky2 pky3 pky4 pky5 pky6 qkx0 qkx1 qkx2 qkx3 qkx4 qkx5 qkx6 qky0 qky1 qky2 qky3 qky4 qky5 qky6 ha4 ha5 hb4 hb5 hb6 hbw4 hbw5 hbw6 SP
  go_wp2_with fail
  go_at_call 8
  refine (TX.out 0 _ (HAX.out.below HB6.out)).mono ?_
  rintro e w7 ⟨Rframes7, cframes7, Rstack7, cstack7, Rargs7, cargs7, rfl, ha7, hb7⟩
  replace kx0 := keepCell hb7 kx0
  replace kx1 := keepCell hb7 kx1
  replace kx2 := keepCell hb7 kx2
  replace kx3 := keepCell hb7 kx3
  replace kx4 := keepCell hb7 kx4
  replace kx5 := keepCell hb7 kx5
  replace kx6 := keepCell hb7 kx6
  replace ky0 := keepCell hb7 ky0
  replace ky1 := keepCell hb7 ky1
  replace ky2 := keepCell hb7 ky2
  replace ky3 := keepCell hb7 ky3
  replace ky4 := keepCell hb7 ky4
  replace ky5 := keepCell hb7 ky5
  replace ky6 := keepCell hb7 ky6
  have HB7 := Lib.hid (bnext HB6.out hb7)
  have HA7 := Lib.hid ha7
  have hz7x : w.heap.size < w7.heap.size := World.block_lt_of_cell? w7 _ kx0
  have hz7y : w.heap.size + 1 < w7.heap.size := World.block_lt_of_cell? w7 _ ky0
  clear hb7 ha7
  go_wp2_with fail
  go_at_call 8
  refine (TY.out 0 _ ((HAY.out.below HB7.out).below (below1 _ _))).mono ?_
  rintro e w8 ⟨Rframes8, cframes8, Rstack8, cstack8, Rargs8, cargs8, rfl, ha8, hb8⟩
  replace kx0 := keepCell hb8 (keepCell (below1 w7 _) kx0)
  replace kx1 := keepCell hb8 (keepCell (below1 w7 _) kx1)
  replace kx2 := keepCell hb8 (keepCell (below1 w7 _) kx2)
  replace kx3 := keepCell hb8 (keepCell (below1 w7 _) kx3)
  replace kx4 := keepCell hb8 (keepCell (below1 w7 _) kx4)
  replace kx5 := keepCell hb8 (keepCell (below1 w7 _) kx5)
  replace kx6 := keepCell hb8 (keepCell (below1 w7 _) kx6)
  replace ky0 := keepCell hb8 (keepCell (below1 w7 _) ky0)
  replace ky1 := keepCell hb8 (keepCell (below1 w7 _) ky1)
  replace ky2 := keepCell hb8 (keepCell (below1 w7 _) ky2)
  replace ky3 := keepCell hb8 (keepCell (below1 w7 _) ky3)
  replace ky4 := keepCell hb8 (keepCell (below1 w7 _) ky4)
  replace ky5 := keepCell hb8 (keepCell (below1 w7 _) ky5)
  replace ky6 := keepCell hb8 (keepCell (below1 w7 _) ky6)
  have jx0 := keepCell (a := ⟨w7.heap.size, 0, none⟩) (v := .int .i64 x.status) hb8 (by go_simp)
  have jx1 := keepCell (a := ⟨w7.heap.size, 1, none⟩) (v := .slice Rframes7 x.frames.length cframes7) hb8 (by go_simp)
  have jx2 := keepCell (a := ⟨w7.heap.size, 2, none⟩) (v := .slice Rstack7 x.stack.length cstack7) hb8 (by go_simp)
  have jx3 := keepCell (a := ⟨w7.heap.size, 3, none⟩) (v := .int .i64 x.imp) hb8 (by go_simp)
  have jx4 := keepCell (a := ⟨w7.heap.size, 4, none⟩) (v := .slice Rargs7 x.args.length cargs7) hb8 (by go_simp)
  have jx5 := keepCell (a := ⟨w7.heap.size, 5, none⟩) (v := .int .i64 x.result) hb8 (by go_simp)
  have jx6 := keepCell (a := ⟨w7.heap.size, 6, none⟩) (v := .int .i64 x.trap) hb8 (by go_simp)
  have HB8 := Lib.hid (bnext (bnext HB7.out (below1 _ _)) hb8)
  have HA7' := Lib.hid ((HA7.out.below (below1 _ _)).below hb8)
  have HA8 := Lib.hid ha8
  have HZ8 : 0 < w8.heap.size := Nat.lt_of_le_of_lt (Nat.zero_le _) (World.block_lt_of_cell? w8 _ kx0)
  have hz8 : w7.heap.size < w8.heap.size := World.block_lt_of_cell? w8 _ jx0
  clear hb8 ha8 HA7 hz7x hz7y
  go_wp2_with fail
  go_at_call 9
  refine (IM.out _ _ _ _ _ _ _ _ _ _ _ _ _ _ (by first | exact HZ6 | simp) (by first | exact HZ6 | simp) _ (HA7'.out.below (below1 _ _)) (HA8.out.below (below1 _ _))).mono ?_
  rintro e w9 ⟨rfl, hb9⟩
  replace kx0 := keepCell hb9 (keepCell (below1 w8 _) kx0)
  replace kx1 := keepCell hb9 (keepCell (below1 w8 _) kx1)
  replace kx2 := keepCell hb9 (keepCell (below1 w8 _) kx2)
  replace kx3 := keepCell hb9 (keepCell (below1 w8 _) kx3)
  replace kx4 := keepCell hb9 (keepCell (below1 w8 _) kx4)
  replace kx5 := keepCell hb9 (keepCell (below1 w8 _) kx5)
  replace kx6 := keepCell hb9 (keepCell (below1 w8 _) kx6)
  replace ky0 := keepCell hb9 (keepCell (below1 w8 _) ky0)
  replace ky1 := keepCell hb9 (keepCell (below1 w8 _) ky1)
  replace ky2 := keepCell hb9 (keepCell (below1 w8 _) ky2)
  replace ky3 := keepCell hb9 (keepCell (below1 w8 _) ky3)
  replace ky4 := keepCell hb9 (keepCell (below1 w8 _) ky4)
  replace ky5 := keepCell hb9 (keepCell (below1 w8 _) ky5)
  replace ky6 := keepCell hb9 (keepCell (below1 w8 _) ky6)
  replace jx0 := keepCell hb9 (keepCell (below1 w8 _) jx0)
  replace jx1 := keepCell hb9 (keepCell (below1 w8 _) jx1)
  replace jx2 := keepCell hb9 (keepCell (below1 w8 _) jx2)
  replace jx3 := keepCell hb9 (keepCell (below1 w8 _) jx3)
  replace jx4 := keepCell hb9 (keepCell (below1 w8 _) jx4)
  replace jx5 := keepCell hb9 (keepCell (below1 w8 _) jx5)
  replace jx6 := keepCell hb9 (keepCell (below1 w8 _) jx6)
  have jy0 := keepCell (a := ⟨w8.heap.size, 0, none⟩) (v := .int .i64 y.status) hb9 (by go_simp)
  have jy1 := keepCell (a := ⟨w8.heap.size, 1, none⟩) (v := .slice Rframes8 y.frames.length cframes8) hb9 (by go_simp)
  have jy2 := keepCell (a := ⟨w8.heap.size, 2, none⟩) (v := .slice Rstack8 y.stack.length cstack8) hb9 (by go_simp)
  have jy3 := keepCell (a := ⟨w8.heap.size, 3, none⟩) (v := .int .i64 y.imp) hb9 (by go_simp)
  have jy4 := keepCell (a := ⟨w8.heap.size, 4, none⟩) (v := .slice Rargs8 y.args.length cargs8) hb9 (by go_simp)
  have jy5 := keepCell (a := ⟨w8.heap.size, 5, none⟩) (v := .int .i64 y.result) hb9 (by go_simp)
  have jy6 := keepCell (a := ⟨w8.heap.size, 6, none⟩) (v := .int .i64 y.trap) hb9 (by go_simp)
  have HB9 := Lib.hid (bnext (bnext HB8.out (below1 _ _)) hb9)
  have HA9x := Lib.hid ((HA7'.out.below (below1 _ _)).below hb9)
  have HA9y := Lib.hid ((HA8.out.below (below1 _ _)).below hb9)
  clear hb9 HA7' HA8 IM hz8
  go_wp2_with fail
  go_region_held3 (fun w' => w'.cell? ⟨w.heap.size, 0, none⟩ = some (.int .i64 x.status) ∧ w'.cell? ⟨w.heap.size, 1, none⟩ = some (.slice Rframesx x.frames.length cframesx) ∧ w'.cell? ⟨w.heap.size, 2, none⟩ = some (.slice Rstackx x.stack.length cstackx) ∧ w'.cell? ⟨w.heap.size, 3, none⟩ = some (.int .i64 x.imp) ∧ w'.cell? ⟨w.heap.size, 4, none⟩ = some (.slice Rargsx x.args.length cargsx) ∧ w'.cell? ⟨w.heap.size, 5, none⟩ = some (.int .i64 x.result) ∧ w'.cell? ⟨w.heap.size, 6, none⟩ = some (.int .i64 x.trap) ∧ w'.cell? ⟨w.heap.size + 1, 0, none⟩ = some (.int .i64 y.status) ∧ w'.cell? ⟨w.heap.size + 1, 1, none⟩ = some (.slice Rframesy y.frames.length cframesy) ∧ w'.cell? ⟨w.heap.size + 1, 2, none⟩ = some (.slice Rstacky y.stack.length cstacky) ∧ w'.cell? ⟨w.heap.size + 1, 3, none⟩ = some (.int .i64 y.imp) ∧ w'.cell? ⟨w.heap.size + 1, 4, none⟩ = some (.slice Rargsy y.args.length cargsy) ∧ w'.cell? ⟨w.heap.size + 1, 5, none⟩ = some (.int .i64 y.result) ∧ w'.cell? ⟨w.heap.size + 1, 6, none⟩ = some (.int .i64 y.trap) ∧ w'.cell? ⟨w7.heap.size, 0, none⟩ = some (.int .i64 x.status) ∧ w'.cell? ⟨w7.heap.size, 1, none⟩ = some (.slice Rframes7 x.frames.length cframes7) ∧ w'.cell? ⟨w7.heap.size, 2, none⟩ = some (.slice Rstack7 x.stack.length cstack7) ∧ w'.cell? ⟨w7.heap.size, 3, none⟩ = some (.int .i64 x.imp) ∧ w'.cell? ⟨w7.heap.size, 4, none⟩ = some (.slice Rargs7 x.args.length cargs7) ∧ w'.cell? ⟨w7.heap.size, 5, none⟩ = some (.int .i64 x.result) ∧ w'.cell? ⟨w7.heap.size, 6, none⟩ = some (.int .i64 x.trap) ∧ w'.cell? ⟨w8.heap.size, 0, none⟩ = some (.int .i64 y.status) ∧ w'.cell? ⟨w8.heap.size, 1, none⟩ = some (.slice Rframes8 y.frames.length cframes8) ∧ w'.cell? ⟨w8.heap.size, 2, none⟩ = some (.slice Rstack8 y.stack.length cstack8) ∧ w'.cell? ⟨w8.heap.size, 3, none⟩ = some (.int .i64 y.imp) ∧ w'.cell? ⟨w8.heap.size, 4, none⟩ = some (.slice Rargs8 y.args.length cargs8) ∧ w'.cell? ⟨w8.heap.size, 5, none⟩ = some (.int .i64 y.result) ∧ w'.cell? ⟨w8.heap.size, 6, none⟩ = some (.int .i64 y.trap) ∧ Below w9.heap.size w9 w')
    (first | assumption | (exact (Below.refl _ _).drew) | (exact ⟨kx0, kx1, kx2, kx3, kx4, kx5, kx6, ky0, ky1, ky2, ky3, ky4, ky5, ky6, jx0, jx1, jx2, jx3, jx4, jx5, jx6, jy0, jy1, jy2, jy3, jy4, jy5, jy6, (Below.refl _ _).drew⟩) | (refine ⟨?_, ?_, ?_, ?_, ?_, ?_, ?_, ?_, ?_, ?_, ?_, ?_, ?_, ?_, ?_, ?_, ?_, ?_, ?_, ?_, ?_, ?_, ?_, ?_, ?_, ?_, ?_, ?_, ?_⟩ <;> assumption))
    (first
      | (go_at_call 8; refine (TX.out 0 _ (HAX.out.below HB9.out.drew)).mono ?_; rintro e w10 ⟨Rframes10, cframes10, Rstack10, cstack10, Rargs10, cargs10, rfl, hat, hbt⟩; have hbw : Below w9.heap.size w9 w10 := (Below.refl w9.heap.size w9).drew.trans hbt; have pkx0 := keepCell hbw kx0; have pkx1 := keepCell hbw kx1; have pkx2 := keepCell hbw kx2; have pkx3 := keepCell hbw kx3; have pkx4 := keepCell hbw kx4; have pkx5 := keepCell hbw kx5; have pkx6 := keepCell hbw kx6; have pky0 := keepCell hbw ky0; have pky1 := keepCell hbw ky1; have pky2 := keepCell hbw ky2; have pky3 := keepCell hbw ky3; have pky4 := keepCell hbw ky4; have pky5 := keepCell hbw ky5; have pky6 := keepCell hbw ky6; have pjx0 := keepCell hbw jx0; have pjx1 := keepCell hbw jx1; have pjx2 := keepCell hbw jx2; have pjx3 := keepCell hbw jx3; have pjx4 := keepCell hbw jx4; have pjx5 := keepCell hbw jx5; have pjx6 := keepCell hbw jx6; have pjy0 := keepCell hbw jy0; have pjy1 := keepCell hbw jy1; have pjy2 := keepCell hbw jy2; have pjy3 := keepCell hbw jy3; have pjy4 := keepCell hbw jy4; have pjy5 := keepCell hbw jy5; have pjy6 := keepCell hbw jy6)
      | (go_at_call 10; refine (EX.out _ _ _ _ _ _ _ _ _ _ _ _ _ _ _ (HA9x.out.below hbw) hat).mono ?_; rintro e w11 ⟨rfl, hbe⟩; have hbv : Below w9.heap.size w9 w11 := hbw.trans (hbe.mono hbw.size); have rkx0 := keepCell hbv kx0; have rkx1 := keepCell hbv kx1; have rkx2 := keepCell hbv kx2; have rkx3 := keepCell hbv kx3; have rkx4 := keepCell hbv kx4; have rkx5 := keepCell hbv kx5; have rkx6 := keepCell hbv kx6; have rky0 := keepCell hbv ky0; have rky1 := keepCell hbv ky1; have rky2 := keepCell hbv ky2; have rky3 := keepCell hbv ky3; have rky4 := keepCell hbv ky4; have rky5 := keepCell hbv ky5; have rky6 := keepCell hbv ky6; have rjx0 := keepCell hbv jx0; have rjx1 := keepCell hbv jx1; have rjx2 := keepCell hbv jx2; have rjx3 := keepCell hbv jx3; have rjx4 := keepCell hbv jx4; have rjx5 := keepCell hbv jx5; have rjx6 := keepCell hbv jx6; have rjy0 := keepCell hbv jy0; have rjy1 := keepCell hbv jy1; have rjy2 := keepCell hbv jy2; have rjy3 := keepCell hbv jy3; have rjy4 := keepCell hbv jy4; have rjy5 := keepCell hbv jy5; have rjy6 := keepCell hbv jy6))
  replace kx0 := rkx0
  replace kx1 := rkx1
  replace kx2 := rkx2
  replace kx3 := rkx3
  replace kx4 := rkx4
  replace kx5 := rkx5
  replace kx6 := rkx6
  replace ky0 := rky0
  replace ky1 := rky1
  replace ky2 := rky2
  replace ky3 := rky3
  replace ky4 := rky4
  replace ky5 := rky5
  replace ky6 := rky6
  replace jx0 := rjx0
  replace jx1 := rjx1
  replace jx2 := rjx2
  replace jx3 := rjx3
  replace jx4 := rjx4
  replace jx5 := rjx5
  replace jx6 := rjx6
  replace jy0 := rjy0
  replace jy1 := rjy1
  replace jy2 := rjy2
  replace jy3 := rjy3
  replace jy4 := rjy4
  replace jy5 := rjy5
  replace jy6 := rjy6
  have HB11 := Lib.hid (bnext HB9.out hbv)
  have HA11y := Lib.hid (HA9y.out.below hbv)
  clear pkx0 pkx1 pkx2 pkx3 pkx4 pkx5 pkx6 pky0 pky1 pky2 pky3 pky4 pky5 pky6 pjx0 pjx1 pjx2 pjx3 pjx4 pjx5 pjx6 pjy0 pjy1 pjy2 pjy3 pjy4 pjy5 pjy6 hat hbt hbw hbe hbv HA9x HA9y EX TX
  go_wp2_with fail
  go_region_held3 (fun w' => w'.cell? ⟨w.heap.size, 0, none⟩ = some (.int .i64 x.status) ∧ w'.cell? ⟨w.heap.size, 1, none⟩ = some (.slice Rframesx x.frames.length cframesx) ∧ w'.cell? ⟨w.heap.size, 2, none⟩ = some (.slice Rstackx x.stack.length cstackx) ∧ w'.cell? ⟨w.heap.size, 3, none⟩ = some (.int .i64 x.imp) ∧ w'.cell? ⟨w.heap.size, 4, none⟩ = some (.slice Rargsx x.args.length cargsx) ∧ w'.cell? ⟨w.heap.size, 5, none⟩ = some (.int .i64 x.result) ∧ w'.cell? ⟨w.heap.size, 6, none⟩ = some (.int .i64 x.trap) ∧ w'.cell? ⟨w.heap.size + 1, 0, none⟩ = some (.int .i64 y.status) ∧ w'.cell? ⟨w.heap.size + 1, 1, none⟩ = some (.slice Rframesy y.frames.length cframesy) ∧ w'.cell? ⟨w.heap.size + 1, 2, none⟩ = some (.slice Rstacky y.stack.length cstacky) ∧ w'.cell? ⟨w.heap.size + 1, 3, none⟩ = some (.int .i64 y.imp) ∧ w'.cell? ⟨w.heap.size + 1, 4, none⟩ = some (.slice Rargsy y.args.length cargsy) ∧ w'.cell? ⟨w.heap.size + 1, 5, none⟩ = some (.int .i64 y.result) ∧ w'.cell? ⟨w.heap.size + 1, 6, none⟩ = some (.int .i64 y.trap) ∧ w'.cell? ⟨w7.heap.size, 0, none⟩ = some (.int .i64 x.status) ∧ w'.cell? ⟨w7.heap.size, 1, none⟩ = some (.slice Rframes7 x.frames.length cframes7) ∧ w'.cell? ⟨w7.heap.size, 2, none⟩ = some (.slice Rstack7 x.stack.length cstack7) ∧ w'.cell? ⟨w7.heap.size, 3, none⟩ = some (.int .i64 x.imp) ∧ w'.cell? ⟨w7.heap.size, 4, none⟩ = some (.slice Rargs7 x.args.length cargs7) ∧ w'.cell? ⟨w7.heap.size, 5, none⟩ = some (.int .i64 x.result) ∧ w'.cell? ⟨w7.heap.size, 6, none⟩ = some (.int .i64 x.trap) ∧ w'.cell? ⟨w8.heap.size, 0, none⟩ = some (.int .i64 y.status) ∧ w'.cell? ⟨w8.heap.size, 1, none⟩ = some (.slice Rframes8 y.frames.length cframes8) ∧ w'.cell? ⟨w8.heap.size, 2, none⟩ = some (.slice Rstack8 y.stack.length cstack8) ∧ w'.cell? ⟨w8.heap.size, 3, none⟩ = some (.int .i64 y.imp) ∧ w'.cell? ⟨w8.heap.size, 4, none⟩ = some (.slice Rargs8 y.args.length cargs8) ∧ w'.cell? ⟨w8.heap.size, 5, none⟩ = some (.int .i64 y.result) ∧ w'.cell? ⟨w8.heap.size, 6, none⟩ = some (.int .i64 y.trap) ∧ Below w11.heap.size w11 w')
    (first | assumption | (exact (Below.refl _ _).drew) | (exact ⟨kx0, kx1, kx2, kx3, kx4, kx5, kx6, ky0, ky1, ky2, ky3, ky4, ky5, ky6, jx0, jx1, jx2, jx3, jx4, jx5, jx6, jy0, jy1, jy2, jy3, jy4, jy5, jy6, (Below.refl _ _).drew⟩) | (refine ⟨?_, ?_, ?_, ?_, ?_, ?_, ?_, ?_, ?_, ?_, ?_, ?_, ?_, ?_, ?_, ?_, ?_, ?_, ?_, ?_, ?_, ?_, ?_, ?_, ?_, ?_, ?_, ?_, ?_⟩ <;> assumption))
    (first
      | (go_at_call 8; refine (TY.out 0 _ (HAY.out.below HB11.out.drew)).mono ?_; rintro e w12 ⟨Rframes12, cframes12, Rstack12, cstack12, Rargs12, cargs12, rfl, hat, hbt⟩; have hbw : Below w11.heap.size w11 w12 := (Below.refl w11.heap.size w11).drew.trans hbt; have pkx0 := keepCell hbw kx0; have pkx1 := keepCell hbw kx1; have pkx2 := keepCell hbw kx2; have pkx3 := keepCell hbw kx3; have pkx4 := keepCell hbw kx4; have pkx5 := keepCell hbw kx5; have pkx6 := keepCell hbw kx6; have pky0 := keepCell hbw ky0; have pky1 := keepCell hbw ky1; have pky2 := keepCell hbw ky2; have pky3 := keepCell hbw ky3; have pky4 := keepCell hbw ky4; have pky5 := keepCell hbw ky5; have pky6 := keepCell hbw ky6; have pjx0 := keepCell hbw jx0; have pjx1 := keepCell hbw jx1; have pjx2 := keepCell hbw jx2; have pjx3 := keepCell hbw jx3; have pjx4 := keepCell hbw jx4; have pjx5 := keepCell hbw jx5; have pjx6 := keepCell hbw jx6; have pjy0 := keepCell hbw jy0; have pjy1 := keepCell hbw jy1; have pjy2 := keepCell hbw jy2; have pjy3 := keepCell hbw jy3; have pjy4 := keepCell hbw jy4; have pjy5 := keepCell hbw jy5; have pjy6 := keepCell hbw jy6)
      | (go_at_call 10; refine (EY.out _ _ _ _ _ _ _ _ _ _ _ _ _ _ _ (HA11y.out.below hbw) hat).mono ?_; rintro e w13 ⟨rfl, hbe⟩; have hbv : Below w11.heap.size w11 w13 := hbw.trans (hbe.mono hbw.size); have rkx0 := keepCell hbv kx0; have rkx1 := keepCell hbv kx1; have rkx2 := keepCell hbv kx2; have rkx3 := keepCell hbv kx3; have rkx4 := keepCell hbv kx4; have rkx5 := keepCell hbv kx5; have rkx6 := keepCell hbv kx6; have rky0 := keepCell hbv ky0; have rky1 := keepCell hbv ky1; have rky2 := keepCell hbv ky2; have rky3 := keepCell hbv ky3; have rky4 := keepCell hbv ky4; have rky5 := keepCell hbv ky5; have rky6 := keepCell hbv ky6; have rjx0 := keepCell hbv jx0; have rjx1 := keepCell hbv jx1; have rjx2 := keepCell hbv jx2; have rjx3 := keepCell hbv jx3; have rjx4 := keepCell hbv jx4; have rjx5 := keepCell hbv jx5; have rjx6 := keepCell hbv jx6; have rjy0 := keepCell hbv jy0; have rjy1 := keepCell hbv jy1; have rjy2 := keepCell hbv jy2; have rjy3 := keepCell hbv jy3; have rjy4 := keepCell hbv jy4; have rjy5 := keepCell hbv jy5; have rjy6 := keepCell hbv jy6))
  go_wp2_with fail
  go_ret
  exact ⟨rfl, bnext HB11.out hbv⟩
end Go.Proofs.Ytbjcldekapipaaa
