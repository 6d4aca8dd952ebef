/-
  The walk of the law FnExactWhyNotFunc: both answer alike, and the arguments stay.
-/
import Derived.Test.YtifchfecfkdjlaaGreatDoorWfW
import Derived.Deep.Cut
namespace Go.Proofs.YtifchfecfkdjlaaGreatDoor
open Go.ChangeShapes Go.WideShapes Go.ChangeAt Go.RowKit Go.Deep

theorem eqReason_same (k : Int) (p : ByteArray) (w : World) : Calls Tryz.prog 14 #[.agg #[.int .i64 k, .string p], .agg #[.int .i64 k, .string p]] w fun e w' => e = .returned (.bool true) ∧ Below w.heap.size w w' := by
  go_enter Tryz.func14, Tryz.ntmps14
  go_wp2_with fail
  go_ret
  exact ⟨rfl, below2 _ _ _⟩

set_option maxHeartbeats 20000000 in
set_option maxRecDepth 100000 in
theorem fnExactWhyNotFuncLaw (x y : Fn) (Rx Ax Bx : Option Addr) (nx cax cbx : Nat) (Ry Ay By : Option Addr) (ny cay cby : Nat) (w : World) (hax : Fn.At w 0 x Rx Ax Bx) (hay : Fn.At w 0 y Ry Ay By) (hfx : x.Fin) (hfy : y.Fin) (ht : RTable w) (hm : MaxC w) :
    Calls Tryz.prog 6 #[.agg #[.slice Rx x.params.length nx, .int .i64 x.res.kind, .string x.res.name, .slice Ax x.res.labels.length cax, .slice Bx x.res.kids.length cbx, .bool x.async], .agg #[.slice Ry y.params.length ny, .int .i64 y.res.kind, .string y.res.name, .slice Ay y.res.labels.length cay, .slice By y.res.kids.length cby, .bool y.async]] w fun e w' => e = .returned (.bool true) ∧ Below w.heap.size w w' := by
  have SX := (fun W (h : Fn.At W 0 x Rx Ax Bx) => szFuncType_any x hfx 1048576 (by omega) (by omega) Rx nx Ax Bx cax cbx 0 W h)
  have HT := Lib.hid ht
  have HM := Lib.hid hm
  clear ht hm
  have HAX := Lib.hid hax
  have HAY := Lib.hid hay
  have hn0 := x.wt_nonneg
  have hm0 := y.wt_nonneg
  clear hax hay
  by_cases hn : 1048576 - x.wt < 0
  · rw [leftOr_neg hn] at SX
    have SX := Lib.hid SX
    clear hn hn0 hm0
    go_enter Tryz.func6, Tryz.ntmps6
    go_wp2_with fail
    go_at_call 15
    refine (SX.out _ (HAX.out.below (below2 _ _ _))).mono ?_
    rintro e w2 ⟨rfl, hb2⟩
    have HB2 := Lib.hid (bnext (below2 _ _ _) hb2)
    clear hb2
    go_wp2_with fail
    go_ret
    exact ⟨rfl, HB2.out⟩
  have hx : x.wt ≤ 1048576 := by omega
  rw [leftOr_pos (by omega)] at SX
  obtain ⟨M, hM⟩ : ∃ M, 1048576 - x.wt = M := ⟨_, rfl⟩
  rw [hM] at SX
  have hM0 : 0 ≤ M := by omega
  have hM1 : M ≤ 1048576 := by omega
  have SX := Lib.hid SX
  have SY := (fun W (h : Fn.At W 0 y Ry Ay By) => szFuncType_any y hfy M hM0 hM1 Ry ny Ay By cay cby 0 W h)
  by_cases hn2 : M - y.wt < 0
  · rw [leftOr_neg hn2] at SY
    have SY := Lib.hid SY
    clear hn hn0 hm0 hn2 hM hx
    go_enter Tryz.func6, Tryz.ntmps6
    go_wp2_with fail
    go_at_call 15
    refine (SX.out _ (HAX.out.below (below2 _ _ _))).mono ?_
    rintro e w2 ⟨rfl, hb2⟩
    have kx0 := keepCell (a := ⟨w.heap.size, 0, none⟩) (v := .slice Rx x.params.length nx) hb2 (by go_simp)
    have kx1 := keepCell (a := ⟨w.heap.size, 1, none⟩) (v := .int .i64 x.res.kind) hb2 (by go_simp)
    have kx2 := keepCell (a := ⟨w.heap.size, 2, none⟩) (v := .string x.res.name) hb2 (by go_simp)
    have kx3 := keepCell (a := ⟨w.heap.size, 3, none⟩) (v := .slice Ax x.res.labels.length cax) hb2 (by go_simp)
    have kx4 := keepCell (a := ⟨w.heap.size, 4, none⟩) (v := .slice Bx x.res.kids.length cbx) hb2 (by go_simp)
    have kx5 := keepCell (a := ⟨w.heap.size, 5, none⟩) (v := .bool x.async) hb2 (by go_simp)
    have ky0 := keepCell (a := ⟨w.heap.size + 1, 0, none⟩) (v := .slice Ry y.params.length ny) hb2 (by go_simp)
    have ky1 := keepCell (a := ⟨w.heap.size + 1, 1, none⟩) (v := .int .i64 y.res.kind) hb2 (by go_simp)
    have ky2 := keepCell (a := ⟨w.heap.size + 1, 2, none⟩) (v := .string y.res.name) hb2 (by go_simp)
    have ky3 := keepCell (a := ⟨w.heap.size + 1, 3, none⟩) (v := .slice Ay y.res.labels.length cay) hb2 (by go_simp)
    have ky4 := keepCell (a := ⟨w.heap.size + 1, 4, none⟩) (v := .slice By y.res.kids.length cby) hb2 (by go_simp)
    have ky5 := keepCell (a := ⟨w.heap.size + 1, 5, none⟩) (v := .bool y.async) hb2 (by go_simp)
    have HB2 := Lib.hid (bnext (below2 _ _ _) hb2)
    clear hb2
    go_wp2_with fail
    go_at_call 15
    refine (SY.out _ (HAY.out.below HB2.out)).mono ?_
    rintro e w3 ⟨rfl, hb3⟩
    have HB3 := Lib.hid (bnext HB2.out hb3)
    clear hb3
    go_wp2_with fail
    go_ret
    exact ⟨rfl, HB3.out⟩
  have hy : y.wt ≤ 1048576 := by omega
  rw [leftOr_pos (by omega)] at SY
  obtain ⟨N, hN⟩ : ∃ N, M - y.wt = N := ⟨_, rfl⟩
  rw [hN] at SY
  have hN0 : 0 ≤ N := by omega
  have SY := Lib.hid SY
  have TX := Lib.hid (fun W (h : Fn.At W 0 x Rx Ax Bx) => toFuncType_any x hx Rx nx Ax Bx cax cbx 0 W h)
  have TY := Lib.hid (fun W (h : Fn.At W 0 y Ry Ay By) => toFuncType_any y hy Ry ny Ay By cay cby 0 W h)
  have EX := Lib.hid (fun R n A B ca cb R' n' A' B' ca' cb' lo lo' W h1 h2 => eqFuncType_any x hx R n A B ca cb R' n' A' B' ca' cb' lo lo' W h1 h2)
  have EY := Lib.hid (fun R n A B ca cb R' n' A' B' ca' cb' lo lo' W h1 h2 => eqFuncType_any y hy R n A B ca cb R' n' A' B' ca' cb' lo lo' W h1 h2)
  have WS0 := fun Ra Rb A B A' B' na nb ca cb ca' cb' lo lo' W h1 h2 => specWhyNotFunc_any (why_any 4 (by omega)) x y hx hy (wnf x y) (fun h => wnf_yes h) (fun h => wnf_no h) Ra Rb A B A' B' na nb ca cb ca' cb' lo lo' W h1 h2
  have WI0 := fun Ra Rb A B A' B' na nb ca cb ca' cb' lo lo' hlo hlo' W h1 h2 h3 h4 => implWNF_any (typeReason_any 4 (by omega)) x y hx hy Ra Rb A B A' B' na nb ca cb ca' cb' lo lo' hlo hlo' W h1 h2 h3 h4
  generalize wnf x y = Z at WS0 WI0
  obtain ⟨k, p, n, hZ1, hZ2, hZ3⟩ : ∃ (k : Int) (p : ByteArray) (n : Bool), rk Z = k ∧ ra Z = p ∧ Z.isSome = n := ⟨_, _, _, rfl, rfl, rfl⟩
  have SP := Lib.hid (fun Ra Rb A B A' B' na nb ca cb ca' cb' lo lo' W h1 h2 => (WS0 Ra Rb A B A' B' na nb ca cb ca' cb' lo lo' W h1 h2).mono fun e w' h => (show e = .returned (.tuple #[.agg #[.int .i64 k, .string p], .bool n]) ∧ Below W.heap.size W w' by
    obtain ⟨h1, h2⟩ := h
    refine ⟨?_, h2⟩
    rw [h1, ← hZ1, ← hZ2, ← hZ3]
    cases Z <;> rfl))
  have IM := Lib.hid (fun Ra Rb A B A' B' na nb ca cb ca' cb' lo lo' hlo hlo' W h1 h2 h3 h4 => (WI0 Ra Rb A B A' B' na nb ca cb ca' cb' lo lo' hlo hlo' W h1 h2 h3 h4).mono fun e w' h => (show e = .returned (.tuple #[.agg #[.int .i64 k, .string p], .bool n]) ∧ Below W.heap.size W w' by
    obtain ⟨h1, h2⟩ := h
    exact ⟨by rw [h1, ← hZ1, ← hZ2, ← hZ3], h2⟩))
  have ER := Lib.hid (fun W => eqReason_same k p W)
  clear hn hn0 hm0 hn2 hM hN hx hy WS0 WI0 hZ1 hZ2 hZ3 hfx hfy
  go_enter Tryz.func6, Tryz.ntmps6
  go_wp2_with fail
  go_at_call 15
  refine (SX.out _ (HAX.out.below (below2 _ _ _))).mono ?_
  rintro e w2 ⟨rfl, hb2⟩
  have kx0 := keepCell (a := ⟨w.heap.size, 0, none⟩) (v := .slice Rx x.params.length nx) hb2 (by go_simp)
  have kx1 := keepCell (a := ⟨w.heap.size, 1, none⟩) (v := .int .i64 x.res.kind) hb2 (by go_simp)
  have kx2 := keepCell (a := ⟨w.heap.size, 2, none⟩) (v := .string x.res.name) hb2 (by go_simp)
  have kx3 := keepCell (a := ⟨w.heap.size, 3, none⟩) (v := .slice Ax x.res.labels.length cax) hb2 (by go_simp)
  have kx4 := keepCell (a := ⟨w.heap.size, 4, none⟩) (v := .slice Bx x.res.kids.length cbx) hb2 (by go_simp)
  have kx5 := keepCell (a := ⟨w.heap.size, 5, none⟩) (v := .bool x.async) hb2 (by go_simp)
  have ky0 := keepCell (a := ⟨w.heap.size + 1, 0, none⟩) (v := .slice Ry y.params.length ny) hb2 (by go_simp)
  have ky1 := keepCell (a := ⟨w.heap.size + 1, 1, none⟩) (v := .int .i64 y.res.kind) hb2 (by go_simp)
  have ky2 := keepCell (a := ⟨w.heap.size + 1, 2, none⟩) (v := .string y.res.name) hb2 (by go_simp)
  have ky3 := keepCell (a := ⟨w.heap.size + 1, 3, none⟩) (v := .slice Ay y.res.labels.length cay) hb2 (by go_simp)
  have ky4 := keepCell (a := ⟨w.heap.size + 1, 4, none⟩) (v := .slice By y.res.kids.length cby) hb2 (by go_simp)
  have ky5 := keepCell (a := ⟨w.heap.size + 1, 5, none⟩) (v := .bool y.async) hb2 (by go_simp)
  have HB2 := Lib.hid (bnext (below2 _ _ _) hb2)
  clear hb2 SX
  go_wp2_with fail
  go_at_call 15
  refine (SY.out _ (HAY.out.below HB2.out)).mono ?_
  rintro e w3 ⟨rfl, hb3⟩
  replace kx0 := keepCell hb3 kx0
  replace kx1 := keepCell hb3 kx1
  replace kx2 := keepCell hb3 kx2
  replace kx3 := keepCell hb3 kx3
  replace kx4 := keepCell hb3 kx4
  replace kx5 := keepCell hb3 kx5
  replace ky0 := keepCell hb3 ky0
  replace ky1 := keepCell hb3 ky1
  replace ky2 := keepCell hb3 ky2
  replace ky3 := keepCell hb3 ky3
  replace ky4 := keepCell hb3 ky4
  replace ky5 := keepCell hb3 ky5
  have HB3 := Lib.hid (bnext HB2.out hb3)
  clear hb3 SY
  have hz3x : w.heap.size < w3.heap.size := World.block_lt_of_cell? w3 _ kx0
  have hz3y : w.heap.size + 1 < w3.heap.size := World.block_lt_of_cell? w3 _ ky0
  go_wp2_with fail
  go_cut [6, 7] from 12 (fun bp bv w' => ∃ g : Nat, w3.heap.size ≤ g ∧ bp = .pointer (some ⟨g, 0, none⟩) ∧ bv = .bool n ∧ w'.cell? ⟨g, 0, none⟩ = some (.int .i64 k) ∧ w'.cell? ⟨g, 1, none⟩ = some (.string p) ∧ w'.cell? ⟨w.heap.size, 0, none⟩ = some (.slice Rx x.params.length nx) ∧ w'.cell? ⟨w.heap.size, 1, none⟩ = some (.int .i64 x.res.kind) ∧ w'.cell? ⟨w.heap.size, 2, none⟩ = some (.string x.res.name) ∧ w'.cell? ⟨w.heap.size, 3, none⟩ = some (.slice Ax x.res.labels.length cax) ∧ w'.cell? ⟨w.heap.size, 4, none⟩ = some (.slice Bx x.res.kids.length cbx) ∧ w'.cell? ⟨w.heap.size, 5, none⟩ = some (.bool x.async) ∧ w'.cell? ⟨w.heap.size + 1, 0, none⟩ = some (.slice Ry y.params.length ny) ∧ w'.cell? ⟨w.heap.size + 1, 1, none⟩ = some (.int .i64 y.res.kind) ∧ w'.cell? ⟨w.heap.size + 1, 2, none⟩ = some (.string y.res.name) ∧ w'.cell? ⟨w.heap.size + 1, 3, none⟩ = some (.slice Ay y.res.labels.length cay) ∧ w'.cell? ⟨w.heap.size + 1, 4, none⟩ = some (.slice By y.res.kids.length cby) ∧ w'.cell? ⟨w.heap.size + 1, 5, none⟩ = some (.bool y.async) ∧ Below w3.heap.size w3 w')
  case first =>
    go_region_held3 (fun w' => w'.cell? ⟨w.heap.size, 0, none⟩ = some (.slice Rx x.params.length nx) ∧ w'.cell? ⟨w.heap.size, 1, none⟩ = some (.int .i64 x.res.kind) ∧ w'.cell? ⟨w.heap.size, 2, none⟩ = some (.string x.res.name) ∧ w'.cell? ⟨w.heap.size, 3, none⟩ = some (.slice Ax x.res.labels.length cax) ∧ w'.cell? ⟨w.heap.size, 4, none⟩ = some (.slice Bx x.res.kids.length cbx) ∧ w'.cell? ⟨w.heap.size, 5, none⟩ = some (.bool x.async) ∧ w'.cell? ⟨w.heap.size + 1, 0, none⟩ = some (.slice Ry y.params.length ny) ∧ w'.cell? ⟨w.heap.size + 1, 1, none⟩ = some (.int .i64 y.res.kind) ∧ w'.cell? ⟨w.heap.size + 1, 2, none⟩ = some (.string y.res.name) ∧ w'.cell? ⟨w.heap.size + 1, 3, none⟩ = some (.slice Ay y.res.labels.length cay) ∧ w'.cell? ⟨w.heap.size + 1, 4, none⟩ = some (.slice By y.res.kids.length cby) ∧ w'.cell? ⟨w.heap.size + 1, 5, none⟩ = some (.bool y.async) ∧ Below w3.heap.size w3 w')
      (first | assumption | (exact (Below.refl _ _).drew) | (exact ⟨kx0, kx1, kx2, kx3, kx4, kx5, ky0, ky1, ky2, ky3, ky4, ky5, (Below.refl _ _).drew⟩) | (first | assumption | (exact farSet (by first | (dsimp only; omega) | (simp; omega)) (farSet (by first | (dsimp only; omega) | (simp; omega)) (by assumption))) | (exact farSet (by first | (dsimp only; omega) | (simp; omega)) (by assumption)) | (exact keepCell (below1 _ _) (by assumption)) | (exact bnext (by assumption) (below1 _ _)) | (exact bnext (Below.refl _ _).drew (below1 _ _)) | (exact bnext (W := w3) (a := w3.drew) (Below.refl w3.heap.size w3).drew (below1 w3.drew _)) | (exact keepCell (below1 w3.drew _) kx0) | (exact keepCell (below1 w3.drew _) kx1) | (exact keepCell (below1 w3.drew _) kx2) | (exact keepCell (below1 w3.drew _) kx3) | (exact keepCell (below1 w3.drew _) kx4) | (exact keepCell (below1 w3.drew _) kx5) | (exact keepCell (below1 w3.drew _) ky0) | (exact keepCell (below1 w3.drew _) ky1) | (exact keepCell (below1 w3.drew _) ky2) | (exact keepCell (below1 w3.drew _) ky3) | (exact keepCell (below1 w3.drew _) ky4) | (exact keepCell (below1 w3.drew _) ky5) | ((with_reducible refine Below.setCell ?_ (by first | exact Nat.le_refl _ | assumption | (simp; omega)) _); (try (with_reducible refine Below.setCell ?_ (by first | exact Nat.le_refl _ | assumption | (simp; omega)) _)); first | assumption | exact bnext (by assumption) (below1 _ _)) | fail) | (refine ⟨?_, ?_, ?_, ?_, ?_, ?_, ?_, ?_, ?_, ?_, ?_, ?_, ?_⟩ <;> (first | assumption | (exact farSet (by first | (dsimp only; omega) | (simp; omega)) (farSet (by first | (dsimp only; omega) | (simp; omega)) (by assumption))) | (exact farSet (by first | (dsimp only; omega) | (simp; omega)) (by assumption)) | (exact keepCell (below1 _ _) (by assumption)) | (exact bnext (by assumption) (below1 _ _)) | (exact bnext (Below.refl _ _).drew (below1 _ _)) | (exact bnext (W := w3) (a := w3.drew) (Below.refl w3.heap.size w3).drew (below1 w3.drew _)) | (exact keepCell (below1 w3.drew _) kx0) | (exact keepCell (below1 w3.drew _) kx1) | (exact keepCell (below1 w3.drew _) kx2) | (exact keepCell (below1 w3.drew _) kx3) | (exact keepCell (below1 w3.drew _) kx4) | (exact keepCell (below1 w3.drew _) kx5) | (exact keepCell (below1 w3.drew _) ky0) | (exact keepCell (below1 w3.drew _) ky1) | (exact keepCell (below1 w3.drew _) ky2) | (exact keepCell (below1 w3.drew _) ky3) | (exact keepCell (below1 w3.drew _) ky4) | (exact keepCell (below1 w3.drew _) ky5) | ((with_reducible refine Below.setCell ?_ (by first | exact Nat.le_refl _ | assumption | (simp; omega)) _); (try (with_reducible refine Below.setCell ?_ (by first | exact Nat.le_refl _ | assumption | (simp; omega)) _)); first | assumption | exact bnext (by assumption) (below1 _ _)) | fail)))
      (first
        | (go_at_call 17; first | ((with_reducible refine (TX.out _ (by first | exact HAX.out.below HB3.out.drew | exact (HAX.out.below HB3.out.drew).below (below1 _ _))).mono ?_); rintro e w4 ⟨R4, n4, A4, B4, ca4, cb4, rfl, ha4, hb4⟩; have hbw4 : Below w3.heap.size w3 w4 := (by first | exact (Below.refl w3.heap.size w3).drew.trans hb4 | exact bnext ((below1 _ _).drew) hb4 | exact bnext (bnext (Below.refl w3.heap.size w3).drew (below1 _ _)) hb4); have pkx0 := keepCell hbw4 kx0; have pkx1 := keepCell hbw4 kx1; have pkx2 := keepCell hbw4 kx2; have pkx3 := keepCell hbw4 kx3; have pkx4 := keepCell hbw4 kx4; have pkx5 := keepCell hbw4 kx5; have pky0 := keepCell hbw4 ky0; have pky1 := keepCell hbw4 ky1; have pky2 := keepCell hbw4 ky2; have pky3 := keepCell hbw4 ky3; have pky4 := keepCell hbw4 ky4; have pky5 := keepCell hbw4 ky5; (try have ba0 := keepCell (a := ⟨w3.heap.size, 0, none⟩) (v := .int .i64 0) hb4 (by first | (go_simp; done) | fail)); (try have ba1 := keepCell (a := ⟨w3.heap.size, 1, none⟩) (v := .string ⟨#[]⟩) hb4 (by first | (go_simp; done) | fail)); (try have baf : ∀ o, w4.frozen? ⟨w3.heap.size, o, none⟩ = false := (fun o => ((bcell hb4).2 _ _ (by first | (simp; done) | (simp; omega))).trans (by first | (go_simp; done) | fail)))) | ((with_reducible refine (TY.out _ (by first | exact (HAY.out.below HB3.out).below hbw4 | exact ((HAY.out.below HB3.out).below hbw4).below (below1 _ _))).mono ?_); rintro e w5 ⟨R5, n5, A5, B5, ca5, cb5, rfl, ha5, hb5⟩; have hb45 : Below w4.heap.size w4 w5 := (by first | exact hb5 | exact bnext (below1 _ _) hb5); have hbw5 : Below w3.heap.size w3 w5 := hbw4.trans (hb45.mono hbw4.size); have hs4 := hbw4.size; have hs5 := hbw5.size; have qkx0 := keepCell hbw5 kx0; have qkx1 := keepCell hbw5 kx1; have qkx2 := keepCell hbw5 kx2; have qkx3 := keepCell hbw5 kx3; have qkx4 := keepCell hbw5 kx4; have qkx5 := keepCell hbw5 kx5; have qky0 := keepCell hbw5 ky0; have qky1 := keepCell hbw5 ky1; have qky2 := keepCell hbw5 ky2; have qky3 := keepCell hbw5 ky3; have qky4 := keepCell hbw5 ky4; have qky5 := keepCell hbw5 ky5; (try replace baf : ∀ o, w5.frozen? ⟨w3.heap.size, o, none⟩ = false := (fun o => ((bcell hb45).2 _ _ (World.block_lt_of_cell? _ _ ba0)).trans (baf o))); (try replace ba0 := keepCell hb45 ba0); (try replace ba1 := keepCell hb45 ba1); (try have bb0 := keepCell (a := ⟨w4.heap.size, 0, none⟩) (v := .int .i64 0) hb5 (by first | (go_simp; done) | fail)); (try have bb1 := keepCell (a := ⟨w4.heap.size, 1, none⟩) (v := .string ⟨#[]⟩) hb5 (by first | (go_simp; done) | fail)); (try have bbf : ∀ o, w5.frozen? ⟨w4.heap.size, o, none⟩ = false := (fun o => ((bcell hb5).2 _ _ (by first | (simp; done) | (simp; omega))).trans (by first | (go_simp; done) | fail)))))
        | (go_at_call 20; refine (SP.out _ _ _ _ _ _ _ _ _ _ _ _ _ _ _ (by first | exact ha4.below hb45 | exact (ha4.below hb45).below (below1 _ _)) (by first | exact ha5 | exact ha5.below (below1 _ _))).mono ?_; rintro e w6 ⟨rfl, hb6⟩; have hb56 : Below w5.heap.size w5 w6 := (by first | exact hb6 | exact bnext (below1 _ _) hb6); have hbw6 : Below w3.heap.size w3 w6 := hbw5.trans (hb56.mono hbw5.size); have hs6 := hbw6.size; have rkx0 := keepCell hbw6 kx0; have rkx1 := keepCell hbw6 kx1; have rkx2 := keepCell hbw6 kx2; have rkx3 := keepCell hbw6 kx3; have rkx4 := keepCell hbw6 kx4; have rkx5 := keepCell hbw6 kx5; have rky0 := keepCell hbw6 ky0; have rky1 := keepCell hbw6 ky1; have rky2 := keepCell hbw6 ky2; have rky3 := keepCell hbw6 ky3; have rky4 := keepCell hbw6 ky4; have rky5 := keepCell hbw6 ky5; (try replace baf : ∀ o, w6.frozen? ⟨w3.heap.size, o, none⟩ = false := (fun o => ((bcell hb56).2 _ _ (World.block_lt_of_cell? _ _ ba0)).trans (baf o))); (try replace ba0 := keepCell hb56 ba0); (try replace ba1 := keepCell hb56 ba1); (try replace bbf : ∀ o, w6.frozen? ⟨w4.heap.size, o, none⟩ = false := (fun o => ((bcell hb56).2 _ _ (World.block_lt_of_cell? _ _ bb0)).trans (bbf o))); (try replace bb0 := keepCell hb56 bb0); (try replace bb1 := keepCell hb56 bb1); (try have bc0 := keepCell (a := ⟨w5.heap.size, 0, none⟩) (v := .int .i64 0) hb6 (by first | (go_simp; done) | fail)); (try have bc1 := keepCell (a := ⟨w5.heap.size, 1, none⟩) (v := .string ⟨#[]⟩) hb6 (by first | (go_simp; done) | fail)); (try have bcf : ∀ o, w6.frozen? ⟨w5.heap.size, o, none⟩ = false := (fun o => ((bcell hb6).2 _ _ (by first | (simp; done) | (simp; omega))).trans (by first | (go_simp; done) | fail)))))
    all_goals go_wp2_with fail
    all_goals go_meet
    all_goals exact ⟨_, by first | exact Nat.le_refl _ | assumption, rfl, rfl, by first | exact (setTwo ba0 ba1).1 | exact (setTwo bb0 bb1).1 | exact (setTwo bc0 bc1).1 | (go_simp; done), by first | exact (setTwo ba0 ba1).2 | exact (setTwo bb0 bb1).2 | exact (setTwo bc0 bc1).2 | (go_simp; done), by assumption⟩
  case rest =>
  obtain ⟨g, hg, rfl, rfl, jw0, jw1, kx0, kx1, kx2, kx3, kx4, kx5, ky0, ky1, ky2, ky3, ky4, ky5, hbw6⟩ := hcut
  have HB6 := Lib.hid (bnext HB3.out hbw6)
  have HZ6 : 0 < wc.heap.size := Nat.lt_of_le_of_lt (Nat.zero_le _) (World.block_lt_of_cell? wc _ kx0)
  clear hbw6 SP hg
  go_wp2_with fail
  go_at_call 17
  refine (TX.out _ (HAX.out.below HB6.out)).mono ?_
  rintro e w7 ⟨R7, n7, A7, B7, ca7, cb7, rfl, ha7, hb7⟩
  replace kx0 := keepCell hb7 kx0
  replace kx1 := keepCell hb7 kx1
  replace kx2 := keepCell hb7 kx2
  replace kx3 := keepCell hb7 kx3
  replace kx4 := keepCell hb7 kx4
  replace kx5 := keepCell hb7 kx5
  replace ky0 := keepCell hb7 ky0
  replace ky1 := keepCell hb7 ky1
  replace ky2 := keepCell hb7 ky2
  replace ky3 := keepCell hb7 ky3
  replace ky4 := keepCell hb7 ky4
  replace ky5 := keepCell hb7 ky5
  replace jw0 := keepCell hb7 jw0
  replace jw1 := keepCell hb7 jw1
  have HB7 := Lib.hid (bnext HB6.out hb7)
  have HA7 := Lib.hid ha7
  have hz7x : w.heap.size < w7.heap.size := World.block_lt_of_cell? w7 _ kx0
  have hz7y : w.heap.size + 1 < w7.heap.size := World.block_lt_of_cell? w7 _ ky0
  clear hb7 ha7
  go_wp2_with fail
  go_at_call 17
  refine (TY.out _ ((HAY.out.below HB7.out).below (below1 _ _))).mono ?_
  rintro e w8 ⟨R8, n8, A8, B8, ca8, cb8, rfl, ha8, hb8⟩
  replace kx0 := keepCell hb8 (keepCell (below1 w7 _) kx0)
  replace kx1 := keepCell hb8 (keepCell (below1 w7 _) kx1)
  replace kx2 := keepCell hb8 (keepCell (below1 w7 _) kx2)
  replace kx3 := keepCell hb8 (keepCell (below1 w7 _) kx3)
  replace kx4 := keepCell hb8 (keepCell (below1 w7 _) kx4)
  replace kx5 := keepCell hb8 (keepCell (below1 w7 _) kx5)
  replace ky0 := keepCell hb8 (keepCell (below1 w7 _) ky0)
  replace ky1 := keepCell hb8 (keepCell (below1 w7 _) ky1)
  replace ky2 := keepCell hb8 (keepCell (below1 w7 _) ky2)
  replace ky3 := keepCell hb8 (keepCell (below1 w7 _) ky3)
  replace ky4 := keepCell hb8 (keepCell (below1 w7 _) ky4)
  replace ky5 := keepCell hb8 (keepCell (below1 w7 _) ky5)
  replace jw0 := keepCell hb8 (keepCell (below1 w7 _) jw0)
  replace jw1 := keepCell hb8 (keepCell (below1 w7 _) jw1)
  have jx0 := keepCell (a := ⟨w7.heap.size, 0, none⟩) (v := .slice R7 x.params.length n7) hb8 (by go_simp)
  have jx1 := keepCell (a := ⟨w7.heap.size, 1, none⟩) (v := .int .i64 x.res.kind) hb8 (by go_simp)
  have jx2 := keepCell (a := ⟨w7.heap.size, 2, none⟩) (v := .string x.res.name) hb8 (by go_simp)
  have jx3 := keepCell (a := ⟨w7.heap.size, 3, none⟩) (v := .slice A7 x.res.labels.length ca7) hb8 (by go_simp)
  have jx4 := keepCell (a := ⟨w7.heap.size, 4, none⟩) (v := .slice B7 x.res.kids.length cb7) hb8 (by go_simp)
  have jx5 := keepCell (a := ⟨w7.heap.size, 5, none⟩) (v := .bool x.async) hb8 (by go_simp)
  have HB8 := Lib.hid (bnext (bnext HB7.out (below1 _ _)) hb8)
  have HA7' := Lib.hid ((HA7.out.below (below1 _ _)).below hb8)
  have HA8 := Lib.hid ha8
  have hz8 : w7.heap.size < w8.heap.size := World.block_lt_of_cell? w8 _ jx0
  have HP7 : 0 < wc.heap.size := HZ6
  have HP8 : 0 < (w7.alloc (.cells #[.slice R7 x.params.length n7, .int .i64 x.res.kind, .string x.res.name, .slice A7 x.res.labels.length ca7, .slice B7 x.res.kids.length cb7, .bool x.async] 45)).heap.size := by simp
  clear hb8 ha8 HA7 hz7x hz7y
  go_wp2_with fail
  go_at_call 21
  refine (IM.out _ _ _ _ _ _ _ _ _ _ _ _ _ _ HP7 HP8 _ (HA7'.out.below (below1 _ _)) (HA8.out.below (below1 _ _)) (HT.out.keep (bnext HB8.out (below1 _ _))) (HM.out.keep (bnext HB8.out (below1 _ _)))).mono ?_
  rintro e wv ⟨rfl, hbv9⟩
  replace kx0 := keepCell hbv9 (keepCell (below1 w8 _) kx0)
  replace kx1 := keepCell hbv9 (keepCell (below1 w8 _) kx1)
  replace kx2 := keepCell hbv9 (keepCell (below1 w8 _) kx2)
  replace kx3 := keepCell hbv9 (keepCell (below1 w8 _) kx3)
  replace kx4 := keepCell hbv9 (keepCell (below1 w8 _) kx4)
  replace kx5 := keepCell hbv9 (keepCell (below1 w8 _) kx5)
  replace ky0 := keepCell hbv9 (keepCell (below1 w8 _) ky0)
  replace ky1 := keepCell hbv9 (keepCell (below1 w8 _) ky1)
  replace ky2 := keepCell hbv9 (keepCell (below1 w8 _) ky2)
  replace ky3 := keepCell hbv9 (keepCell (below1 w8 _) ky3)
  replace ky4 := keepCell hbv9 (keepCell (below1 w8 _) ky4)
  replace ky5 := keepCell hbv9 (keepCell (below1 w8 _) ky5)
  replace jw0 := keepCell hbv9 (keepCell (below1 w8 _) jw0)
  replace jw1 := keepCell hbv9 (keepCell (below1 w8 _) jw1)
  replace jx0 := keepCell hbv9 (keepCell (below1 w8 _) jx0)
  replace jx1 := keepCell hbv9 (keepCell (below1 w8 _) jx1)
  replace jx2 := keepCell hbv9 (keepCell (below1 w8 _) jx2)
  replace jx3 := keepCell hbv9 (keepCell (below1 w8 _) jx3)
  replace jx4 := keepCell hbv9 (keepCell (below1 w8 _) jx4)
  replace jx5 := keepCell hbv9 (keepCell (below1 w8 _) jx5)
  have jy0 := keepCell (a := ⟨w8.heap.size, 0, none⟩) (v := .slice R8 y.params.length n8) hbv9 (by go_simp)
  have jy1 := keepCell (a := ⟨w8.heap.size, 1, none⟩) (v := .int .i64 y.res.kind) hbv9 (by go_simp)
  have jy2 := keepCell (a := ⟨w8.heap.size, 2, none⟩) (v := .string y.res.name) hbv9 (by go_simp)
  have jy3 := keepCell (a := ⟨w8.heap.size, 3, none⟩) (v := .slice A8 y.res.labels.length ca8) hbv9 (by go_simp)
  have jy4 := keepCell (a := ⟨w8.heap.size, 4, none⟩) (v := .slice B8 y.res.kids.length cb8) hbv9 (by go_simp)
  have jy5 := keepCell (a := ⟨w8.heap.size, 5, none⟩) (v := .bool y.async) hbv9 (by go_simp)
  have HBV := Lib.hid (bnext (bnext HB8.out (below1 _ _)) hbv9)
  have HAVx := Lib.hid ((HA7'.out.below (below1 _ _)).below hbv9)
  have HAVy := Lib.hid ((HA8.out.below (below1 _ _)).below hbv9)
  have yw0 := fun o => keepCell (below1 wv o) jw0
  have yw1 := fun o => keepCell (below1 wv o) jw1
  clear hbv9 HA7' HA8 IM hz8 HP7 HP8
  go_wp2_with fail
  go_at_call 14
  refine (ER.out _).mono ?_
  rintro e w9 ⟨rfl, hb9⟩
  replace kx0 := keepCell hb9 (keepCell (below1 wv _) kx0)
  replace kx1 := keepCell hb9 (keepCell (below1 wv _) kx1)
  replace kx2 := keepCell hb9 (keepCell (below1 wv _) kx2)
  replace kx3 := keepCell hb9 (keepCell (below1 wv _) kx3)
  replace kx4 := keepCell hb9 (keepCell (below1 wv _) kx4)
  replace kx5 := keepCell hb9 (keepCell (below1 wv _) kx5)
  replace ky0 := keepCell hb9 (keepCell (below1 wv _) ky0)
  replace ky1 := keepCell hb9 (keepCell (below1 wv _) ky1)
  replace ky2 := keepCell hb9 (keepCell (below1 wv _) ky2)
  replace ky3 := keepCell hb9 (keepCell (below1 wv _) ky3)
  replace ky4 := keepCell hb9 (keepCell (below1 wv _) ky4)
  replace ky5 := keepCell hb9 (keepCell (below1 wv _) ky5)
  replace jx0 := keepCell hb9 (keepCell (below1 wv _) jx0)
  replace jx1 := keepCell hb9 (keepCell (below1 wv _) jx1)
  replace jx2 := keepCell hb9 (keepCell (below1 wv _) jx2)
  replace jx3 := keepCell hb9 (keepCell (below1 wv _) jx3)
  replace jx4 := keepCell hb9 (keepCell (below1 wv _) jx4)
  replace jx5 := keepCell hb9 (keepCell (below1 wv _) jx5)
  replace jy0 := keepCell hb9 (keepCell (below1 wv _) jy0)
  replace jy1 := keepCell hb9 (keepCell (below1 wv _) jy1)
  replace jy2 := keepCell hb9 (keepCell (below1 wv _) jy2)
  replace jy3 := keepCell hb9 (keepCell (below1 wv _) jy3)
  replace jy4 := keepCell hb9 (keepCell (below1 wv _) jy4)
  replace jy5 := keepCell hb9 (keepCell (below1 wv _) jy5)
  have HB9 := Lib.hid (bnext (bnext HBV.out (below1 _ _)) hb9)
  have HA9x := Lib.hid ((HAVx.out.below (below1 _ _)).below hb9)
  have HA9y := Lib.hid ((HAVy.out.below (below1 _ _)).below hb9)
  clear hb9 HAVx HAVy jw0 jw1 yw0 yw1 ER
  go_wp2_with fail
  go_region_held3 (fun w' => w'.cell? ⟨w.heap.size, 0, none⟩ = some (.slice Rx x.params.length nx) ∧ w'.cell? ⟨w.heap.size, 1, none⟩ = some (.int .i64 x.res.kind) ∧ w'.cell? ⟨w.heap.size, 2, none⟩ = some (.string x.res.name) ∧ w'.cell? ⟨w.heap.size, 3, none⟩ = some (.slice Ax x.res.labels.length cax) ∧ w'.cell? ⟨w.heap.size, 4, none⟩ = some (.slice Bx x.res.kids.length cbx) ∧ w'.cell? ⟨w.heap.size, 5, none⟩ = some (.bool x.async) ∧ w'.cell? ⟨w.heap.size + 1, 0, none⟩ = some (.slice Ry y.params.length ny) ∧ w'.cell? ⟨w.heap.size + 1, 1, none⟩ = some (.int .i64 y.res.kind) ∧ w'.cell? ⟨w.heap.size + 1, 2, none⟩ = some (.string y.res.name) ∧ w'.cell? ⟨w.heap.size + 1, 3, none⟩ = some (.slice Ay y.res.labels.length cay) ∧ w'.cell? ⟨w.heap.size + 1, 4, none⟩ = some (.slice By y.res.kids.length cby) ∧ w'.cell? ⟨w.heap.size + 1, 5, none⟩ = some (.bool y.async) ∧ w'.cell? ⟨w7.heap.size, 0, none⟩ = some (.slice R7 x.params.length n7) ∧ w'.cell? ⟨w7.heap.size, 1, none⟩ = some (.int .i64 x.res.kind) ∧ w'.cell? ⟨w7.heap.size, 2, none⟩ = some (.string x.res.name) ∧ w'.cell? ⟨w7.heap.size, 3, none⟩ = some (.slice A7 x.res.labels.length ca7) ∧ w'.cell? ⟨w7.heap.size, 4, none⟩ = some (.slice B7 x.res.kids.length cb7) ∧ w'.cell? ⟨w7.heap.size, 5, none⟩ = some (.bool x.async) ∧ w'.cell? ⟨w8.heap.size, 0, none⟩ = some (.slice R8 y.params.length n8) ∧ w'.cell? ⟨w8.heap.size, 1, none⟩ = some (.int .i64 y.res.kind) ∧ w'.cell? ⟨w8.heap.size, 2, none⟩ = some (.string y.res.name) ∧ w'.cell? ⟨w8.heap.size, 3, none⟩ = some (.slice A8 y.res.labels.length ca8) ∧ w'.cell? ⟨w8.heap.size, 4, none⟩ = some (.slice B8 y.res.kids.length cb8) ∧ w'.cell? ⟨w8.heap.size, 5, none⟩ = some (.bool y.async) ∧ Below w9.heap.size w9 w')
    (first | assumption | (exact (Below.refl _ _).drew) | (exact ⟨kx0, kx1, kx2, kx3, kx4, kx5, ky0, ky1, ky2, ky3, ky4, ky5, jx0, jx1, jx2, jx3, jx4, jx5, jy0, jy1, jy2, jy3, jy4, jy5, (Below.refl _ _).drew⟩) | (refine ⟨?_, ?_, ?_, ?_, ?_, ?_, ?_, ?_, ?_, ?_, ?_, ?_, ?_, ?_, ?_, ?_, ?_, ?_, ?_, ?_, ?_, ?_, ?_, ?_, ?_⟩ <;> assumption))
    (first
      | (go_at_call 17; refine (TX.out _ (HAX.out.below HB9.out.drew)).mono ?_; rintro e w10 ⟨R10, n10, A10, B10, ca10, cb10, rfl, hat, hbt⟩; have hbw : Below w9.heap.size w9 w10 := (Below.refl w9.heap.size w9).drew.trans hbt; have pkx0 := keepCell hbw kx0; have pkx1 := keepCell hbw kx1; have pkx2 := keepCell hbw kx2; have pkx3 := keepCell hbw kx3; have pkx4 := keepCell hbw kx4; have pkx5 := keepCell hbw kx5; have pky0 := keepCell hbw ky0; have pky1 := keepCell hbw ky1; have pky2 := keepCell hbw ky2; have pky3 := keepCell hbw ky3; have pky4 := keepCell hbw ky4; have pky5 := keepCell hbw ky5; have pjx0 := keepCell hbw jx0; have pjx1 := keepCell hbw jx1; have pjx2 := keepCell hbw jx2; have pjx3 := keepCell hbw jx3; have pjx4 := keepCell hbw jx4; have pjx5 := keepCell hbw jx5; have pjy0 := keepCell hbw jy0; have pjy1 := keepCell hbw jy1; have pjy2 := keepCell hbw jy2; have pjy3 := keepCell hbw jy3; have pjy4 := keepCell hbw jy4; have pjy5 := keepCell hbw jy5)
      | (go_at_call 19; refine (EX.out _ _ _ _ _ _ _ _ _ _ _ _ _ _ _ (HA9x.out.below hbw) hat).mono ?_; rintro e w11 ⟨rfl, hbe⟩; have hbv : Below w9.heap.size w9 w11 := hbw.trans (hbe.mono hbw.size); have rkx0 := keepCell hbv kx0; have rkx1 := keepCell hbv kx1; have rkx2 := keepCell hbv kx2; have rkx3 := keepCell hbv kx3; have rkx4 := keepCell hbv kx4; have rkx5 := keepCell hbv kx5; have rky0 := keepCell hbv ky0; have rky1 := keepCell hbv ky1; have rky2 := keepCell hbv ky2; have rky3 := keepCell hbv ky3; have rky4 := keepCell hbv ky4; have rky5 := keepCell hbv ky5; have rjx0 := keepCell hbv jx0; have rjx1 := keepCell hbv jx1; have rjx2 := keepCell hbv jx2; have rjx3 := keepCell hbv jx3; have rjx4 := keepCell hbv jx4; have rjx5 := keepCell hbv jx5; have rjy0 := keepCell hbv jy0; have rjy1 := keepCell hbv jy1; have rjy2 := keepCell hbv jy2; have rjy3 := keepCell hbv jy3; have rjy4 := keepCell hbv jy4; have rjy5 := keepCell hbv jy5))
  replace kx0 := rkx0
  replace kx1 := rkx1
  replace kx2 := rkx2
  replace kx3 := rkx3
  replace kx4 := rkx4
  replace kx5 := rkx5
  replace ky0 := rky0
  replace ky1 := rky1
  replace ky2 := rky2
  replace ky3 := rky3
  replace ky4 := rky4
  replace ky5 := rky5
  replace jx0 := rjx0
  replace jx1 := rjx1
  replace jx2 := rjx2
  replace jx3 := rjx3
  replace jx4 := rjx4
  replace jx5 := rjx5
  replace jy0 := rjy0
  replace jy1 := rjy1
  replace jy2 := rjy2
  replace jy3 := rjy3
  replace jy4 := rjy4
  replace jy5 := rjy5
  have HB11 := Lib.hid (bnext HB9.out hbv)
  have HA11y := Lib.hid (HA9y.out.below hbv)
  clear pkx0 pkx1 pkx2 pkx3 pkx4 pkx5 pky0 pky1 pky2 pky3 pky4 pky5 pjx0 pjx1 pjx2 pjx3 pjx4 pjx5 pjy0 pjy1 pjy2 pjy3 pjy4 pjy5 hat hbt hbw hbe hbv HA9x HA9y EX TX
  go_wp2_with fail
  go_region_held3 (fun w' => w'.cell? ⟨w.heap.size, 0, none⟩ = some (.slice Rx x.params.length nx) ∧ w'.cell? ⟨w.heap.size, 1, none⟩ = some (.int .i64 x.res.kind) ∧ w'.cell? ⟨w.heap.size, 2, none⟩ = some (.string x.res.name) ∧ w'.cell? ⟨w.heap.size, 3, none⟩ = some (.slice Ax x.res.labels.length cax) ∧ w'.cell? ⟨w.heap.size, 4, none⟩ = some (.slice Bx x.res.kids.length cbx) ∧ w'.cell? ⟨w.heap.size, 5, none⟩ = some (.bool x.async) ∧ w'.cell? ⟨w.heap.size + 1, 0, none⟩ = some (.slice Ry y.params.length ny) ∧ w'.cell? ⟨w.heap.size + 1, 1, none⟩ = some (.int .i64 y.res.kind) ∧ w'.cell? ⟨w.heap.size + 1, 2, none⟩ = some (.string y.res.name) ∧ w'.cell? ⟨w.heap.size + 1, 3, none⟩ = some (.slice Ay y.res.labels.length cay) ∧ w'.cell? ⟨w.heap.size + 1, 4, none⟩ = some (.slice By y.res.kids.length cby) ∧ w'.cell? ⟨w.heap.size + 1, 5, none⟩ = some (.bool y.async) ∧ w'.cell? ⟨w7.heap.size, 0, none⟩ = some (.slice R7 x.params.length n7) ∧ w'.cell? ⟨w7.heap.size, 1, none⟩ = some (.int .i64 x.res.kind) ∧ w'.cell? ⟨w7.heap.size, 2, none⟩ = some (.string x.res.name) ∧ w'.cell? ⟨w7.heap.size, 3, none⟩ = some (.slice A7 x.res.labels.length ca7) ∧ w'.cell? ⟨w7.heap.size, 4, none⟩ = some (.slice B7 x.res.kids.length cb7) ∧ w'.cell? ⟨w7.heap.size, 5, none⟩ = some (.bool x.async) ∧ w'.cell? ⟨w8.heap.size, 0, none⟩ = some (.slice R8 y.params.length n8) ∧ w'.cell? ⟨w8.heap.size, 1, none⟩ = some (.int .i64 y.res.kind) ∧ w'.cell? ⟨w8.heap.size, 2, none⟩ = some (.string y.res.name) ∧ w'.cell? ⟨w8.heap.size, 3, none⟩ = some (.slice A8 y.res.labels.length ca8) ∧ w'.cell? ⟨w8.heap.size, 4, none⟩ = some (.slice B8 y.res.kids.length cb8) ∧ w'.cell? ⟨w8.heap.size, 5, none⟩ = some (.bool y.async) ∧ Below w11.heap.size w11 w')
    (first | assumption | (exact (Below.refl _ _).drew) | (exact ⟨kx0, kx1, kx2, kx3, kx4, kx5, ky0, ky1, ky2, ky3, ky4, ky5, jx0, jx1, jx2, jx3, jx4, jx5, jy0, jy1, jy2, jy3, jy4, jy5, (Below.refl _ _).drew⟩) | (refine ⟨?_, ?_, ?_, ?_, ?_, ?_, ?_, ?_, ?_, ?_, ?_, ?_, ?_, ?_, ?_, ?_, ?_, ?_, ?_, ?_, ?_, ?_, ?_, ?_, ?_⟩ <;> assumption))
    (first
      | (go_at_call 17; refine (TY.out _ (HAY.out.below HB11.out.drew)).mono ?_; rintro e w12 ⟨R10, n10, A10, B10, ca10, cb10, rfl, hat, hbt⟩; have hbw : Below w11.heap.size w11 w12 := (Below.refl w11.heap.size w11).drew.trans hbt; have pkx0 := keepCell hbw kx0; have pkx1 := keepCell hbw kx1; have pkx2 := keepCell hbw kx2; have pkx3 := keepCell hbw kx3; have pkx4 := keepCell hbw kx4; have pkx5 := keepCell hbw kx5; have pky0 := keepCell hbw ky0; have pky1 := keepCell hbw ky1; have pky2 := keepCell hbw ky2; have pky3 := keepCell hbw ky3; have pky4 := keepCell hbw ky4; have pky5 := keepCell hbw ky5; have pjx0 := keepCell hbw jx0; have pjx1 := keepCell hbw jx1; have pjx2 := keepCell hbw jx2; have pjx3 := keepCell hbw jx3; have pjx4 := keepCell hbw jx4; have pjx5 := keepCell hbw jx5; have pjy0 := keepCell hbw jy0; have pjy1 := keepCell hbw jy1; have pjy2 := keepCell hbw jy2; have pjy3 := keepCell hbw jy3; have pjy4 := keepCell hbw jy4; have pjy5 := keepCell hbw jy5)
      | (go_at_call 19; refine (EY.out _ _ _ _ _ _ _ _ _ _ _ _ _ _ _ (HA11y.out.below hbw) hat).mono ?_; rintro e w13 ⟨rfl, hbe⟩; have hbv : Below w11.heap.size w11 w13 := hbw.trans (hbe.mono hbw.size); have rkx0 := keepCell hbv kx0; have rkx1 := keepCell hbv kx1; have rkx2 := keepCell hbv kx2; have rkx3 := keepCell hbv kx3; have rkx4 := keepCell hbv kx4; have rkx5 := keepCell hbv kx5; have rky0 := keepCell hbv ky0; have rky1 := keepCell hbv ky1; have rky2 := keepCell hbv ky2; have rky3 := keepCell hbv ky3; have rky4 := keepCell hbv ky4; have rky5 := keepCell hbv ky5; have rjx0 := keepCell hbv jx0; have rjx1 := keepCell hbv jx1; have rjx2 := keepCell hbv jx2; have rjx3 := keepCell hbv jx3; have rjx4 := keepCell hbv jx4; have rjx5 := keepCell hbv jx5; have rjy0 := keepCell hbv jy0; have rjy1 := keepCell hbv jy1; have rjy2 := keepCell hbv jy2; have rjy3 := keepCell hbv jy3; have rjy4 := keepCell hbv jy4; have rjy5 := keepCell hbv jy5))
  go_wp2_with fail
  go_ret
  exact ⟨rfl, bnext HB11.out hbv⟩
end Go.Proofs.YtifchfecfkdjlaaGreatDoor
