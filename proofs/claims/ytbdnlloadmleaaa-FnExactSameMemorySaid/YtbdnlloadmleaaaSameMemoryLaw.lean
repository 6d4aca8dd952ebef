/-
  The walk of the law FnExactSameMemory: both answer alike, and the arguments stay.
-/
import Derived.Test.YtbdnlloadmleaaaSameMe
namespace Go.Proofs.Ytbdnlloadmleaaa
open Go.ChangeShapes Go.WideShapes Go.ChangeAt Go.RowKit Go.Deep

theorem says_valMe {p : Prop} {w : World} {e : Ending} {w' : World} (h : SaysB p w e w') {v : Bool} (hv : v = true ↔ p) : e = .returned (.bool v) ∧ Below w.heap.size w w' := by
  obtain ⟨u, rfl, hu, hb⟩ := h
  obtain rfl : u = v := Bool.eq_iff_iff.mpr (hu.trans hv.symm)
  exact ⟨rfl, hb⟩
theorem dec_valMe (p : Prop) : ∃ v : Bool, v = true ↔ p := by
  by_cases h : p
  · exact ⟨true, iffT h⟩
  · exact ⟨false, iffF h⟩

set_option maxHeartbeats 4000000 in
set_option maxRecDepth 100000 in
theorem fnExactSameMemoryLaw (x y : Me) (Rfreex : Option Addr) (cfreex : Nat) (Rfreey : Option Addr) (cfreey : Nat) (w : World) (hax : Me.At w 0 x Rfreex) (hay : Me.At w 0 y Rfreey) (hfx : Me.Fin x) (hfy : Me.Fin y) :
    Calls Try.prog 4 #[.agg #[.string x.bytes, .slice Rfreex x.free.length cfreex], .agg #[.string y.bytes, .slice Rfreey y.free.length cfreey]] w fun e w' => e = .returned (.bool true) ∧ Below w.heap.size w w' := by
  have SX := (fun W (h : Me.At W 0 x Rfreex) => szMemory_any x hfx 1048576 (by omega) (by omega) Rfreex cfreex 0 W h)
  have HAX := Lib.hid hax
  have HAY := Lib.hid hay
  have hn0 := x.wt_nonneg
  have hm0 := y.wt_nonneg
  clear hax hay
  by_cases hn : 1048576 - x.wt < 0
  · rw [leftOr_neg hn] at SX
    have SX := Lib.hid SX
    clear hn hn0 hm0
    go_enter Try.func4, Try.ntmps4
    go_wp2_with fail
    go_at_call 15
    refine (SX.out _ (HAX.out.below (below2 _ _ _))).mono ?_
    rintro e w2 ⟨rfl, hb2⟩
    have HB2 := Lib.hid (bnext (below2 _ _ _) hb2)
    clear hb2
    go_wp2_with fail
    go_ret
    exact ⟨rfl, HB2.out⟩
  have hx : x.wt ≤ 1048576 := by omega
  rw [leftOr_pos (by omega)] at SX
  obtain ⟨M, hM⟩ : ∃ M, 1048576 - x.wt = M := ⟨_, rfl⟩
  rw [hM] at SX
  have hM0 : 0 ≤ M := by omega
  have hM1 : M ≤ 1048576 := by omega
  have SX := Lib.hid SX
  have SY := (fun W (h : Me.At W 0 y Rfreey) => szMemory_any y hfy M hM0 hM1 Rfreey cfreey 0 W h)
  by_cases hn2 : M - y.wt < 0
  · rw [leftOr_neg hn2] at SY
    have SY := Lib.hid SY
    clear hn hn0 hm0 hn2 hM hx
    go_enter Try.func4, Try.ntmps4
    go_wp2_with fail
    go_at_call 15
    refine (SX.out _ (HAX.out.below (below2 _ _ _))).mono ?_
    rintro e w2 ⟨rfl, hb2⟩
    have kx0 := keepCell (a := ⟨w.heap.size, 0, none⟩) (v := .string x.bytes) hb2 (by go_simp)
    have kx1 := keepCell (a := ⟨w.heap.size, 1, none⟩) (v := .slice Rfreex x.free.length cfreex) hb2 (by go_simp)
    have ky0 := keepCell (a := ⟨w.heap.size + 1, 0, none⟩) (v := .string y.bytes) hb2 (by go_simp)
    have ky1 := keepCell (a := ⟨w.heap.size + 1, 1, none⟩) (v := .slice Rfreey y.free.length cfreey) hb2 (by go_simp)
    have HB2 := Lib.hid (bnext (below2 _ _ _) hb2)
    clear hb2
    go_wp2_with fail
    go_at_call 15
    refine (SY.out _ (HAY.out.below HB2.out)).mono ?_
    rintro e w3 ⟨rfl, hb3⟩
    have HB3 := Lib.hid (bnext HB2.out hb3)
    clear hb3
    go_wp2_with fail
    go_ret
    exact ⟨rfl, HB3.out⟩
  have hy : y.wt ≤ 1048576 := by omega
  rw [leftOr_pos (by omega)] at SY
  obtain ⟨N, hN⟩ : ∃ N, M - y.wt = N := ⟨_, rfl⟩
  rw [hN] at SY
  have hN0 : 0 ≤ N := by omega
  have SY := Lib.hid SY
  obtain ⟨v, hv⟩ := dec_valMe (SameMe x y)
  have TX := Lib.hid (fun lo W (h : Me.At W lo x Rfreex) => toMemory_any x hx Rfreex cfreex lo W h)
  have TY := Lib.hid (fun lo W (h : Me.At W lo y Rfreey) => toMemory_any y hy Rfreey cfreey lo W h)
  have EX := Lib.hid (fun (Rfree : Option Addr) (cfree : Nat) (Rfree' : Option Addr) (cfree' : Nat) lo lo' W (h1 : Me.At W lo x Rfree) (h2 : Me.At W lo' x Rfree') => eqMemory_any x hx Rfree cfree Rfree' cfree' lo lo' W h1 h2)
  have EY := Lib.hid (fun (Rfree : Option Addr) (cfree : Nat) (Rfree' : Option Addr) (cfree' : Nat) lo lo' W (h1 : Me.At W lo y Rfree) (h2 : Me.At W lo' y Rfree') => eqMemory_any y hy Rfree cfree Rfree' cfree' lo lo' W h1 h2)
  have SP := Lib.hid (fun (Rfree : Option Addr) (cfree : Nat) (Rfree' : Option Addr) (cfree' : Nat) lo lo' W (h1 : Me.At W lo x Rfree) (h2 : Me.At W lo' y Rfree') => (specSameMemory_any x y hx Rfree cfree Rfree' cfree' lo lo' W h1 h2).mono fun _ _ j => says_valMe j hv)
  have IM := Lib.hid (fun (Rfree : Option Addr) (cfree : Nat) (Rfree' : Option Addr) (cfree' : Nat) lo lo' (hlo : 0 < lo) (hlo' : 0 < lo') W (h1 : Me.At W lo x Rfree) (h2 : Me.At W lo' y Rfree') => (implSameMemory_any x y hx Rfree cfree Rfree' cfree' lo lo' W h1 h2).mono fun _ _ j => says_valMe j hv)
  clear hn hn0 hm0 hn2 hM hN hx hy hv hfx hfy
  go_enter Try.func4, Try.ntmps4
  go_wp2_with fail
  go_at_call 15
  refine (SX.out _ (HAX.out.below (below2 _ _ _))).mono ?_
  rintro e w2 ⟨rfl, hb2⟩
  have kx0 := keepCell (a := ⟨w.heap.size, 0, none⟩) (v := .string x.bytes) hb2 (by go_simp)
  have kx1 := keepCell (a := ⟨w.heap.size, 1, none⟩) (v := .slice Rfreex x.free.length cfreex) hb2 (by go_simp)
  have ky0 := keepCell (a := ⟨w.heap.size + 1, 0, none⟩) (v := .string y.bytes) hb2 (by go_simp)
  have ky1 := keepCell (a := ⟨w.heap.size + 1, 1, none⟩) (v := .slice Rfreey y.free.length cfreey) hb2 (by go_simp)
  have HB2 := Lib.hid (bnext (below2 _ _ _) hb2)
  clear hb2 SX
  go_wp2_with fail
  go_at_call 15
  refine (SY.out _ (HAY.out.below HB2.out)).mono ?_
  rintro e w3 ⟨rfl, hb3⟩
  replace kx0 := keepCell hb3 kx0
  replace kx1 := keepCell hb3 kx1
  replace ky0 := keepCell hb3 ky0
  replace ky1 := keepCell hb3 ky1
  have HB3 := Lib.hid (bnext HB2.out hb3)
  have HZ3 : 0 < w3.heap.size := Nat.lt_of_le_of_lt (Nat.zero_le _) (World.block_lt_of_cell? w3 _ kx0)
  clear hb3 SY
  go_wp2_with fail
  go_region_held3 (fun w' => w'.cell? ⟨w.heap.size, 0, none⟩ = some (.string x.bytes) ∧ w'.cell? ⟨w.heap.size, 1, none⟩ = some (.slice Rfreex x.free.length cfreex) ∧ w'.cell? ⟨w.heap.size + 1, 0, none⟩ = some (.string y.bytes) ∧ w'.cell? ⟨w.heap.size + 1, 1, none⟩ = some (.slice Rfreey y.free.length cfreey) ∧ Below w3.heap.size w3 w')
    (first | assumption | (exact (Below.refl _ _).drew) | (exact ⟨kx0, kx1, ky0, ky1, (Below.refl _ _).drew⟩) | (refine ⟨?_, ?_, ?_, ?_, ?_⟩ <;> assumption))
    (first
      | (go_at_call 17; first | ((with_reducible refine (TX.out 0 _ (HAX.out.below HB3.out.drew)).mono ?_); rintro e w4 ⟨Rfree4, cfree4, rfl, ha4, hb4⟩; have hbw4 : Below w3.heap.size w3 w4 := (Below.refl w3.heap.size w3).drew.trans hb4; have pkx0 := keepCell hbw4 kx0; have pkx1 := keepCell hbw4 kx1; have pky0 := keepCell hbw4 ky0; have pky1 := keepCell hbw4 ky1) | ((with_reducible refine (TY.out 0 _ ((HAY.out.below HB3.out).below hbw4)).mono ?_); rintro e w5 ⟨Rfree5, cfree5, rfl, ha5, hb5⟩; have hbw5 : Below w3.heap.size w3 w5 := hbw4.trans (hb5.mono hbw4.size); have qkx0 := keepCell hbw5 kx0; have qkx1 := keepCell hbw5 kx1; have qky0 := keepCell hbw5 ky0; have qky1 := keepCell hbw5 ky1))
      | (go_at_call 20; refine (SP.out _ _ _ _ _ _ _ (ha4.below hb5) ha5).mono ?_; rintro e w6 ⟨rfl, hb6⟩; have hbw6 : Below w3.heap.size w3 w6 := hbw5.trans (hb6.mono hbw5.size); have rkx0 := keepCell hbw6 kx0; have rkx1 := keepCell hbw6 kx1; have rky0 := keepCell hbw6 ky0; have rky1 := keepCell hbw6 ky1))
  replace kx0 := rkx0
  replace kx1 := rkx1
  replace ky0 := rky0
  replace ky1 := rky1
  have HB6 := Lib.hid (bnext HB3.out hbw6)
  have HZ6 : 0 < w6.heap.size := Nat.lt_of_le_of_lt (Nat.zero_le _) (World.block_lt_of_cell? w6 _ kx0)
  clear pkx0 pkx1 pky0 pky1 qkx0 qkx1 qky0 qky1 ha4 ha5 hb4 hb5 hb6 hbw4 hbw5 hbw6 SP
  go_wp2_with fail
  go_at_call 17
  refine (TX.out 0 _ (HAX.out.below HB6.out)).mono ?_
  rintro e w7 ⟨Rfree7, cfree7, rfl, ha7, hb7⟩
  replace kx0 := keepCell hb7 kx0
  replace kx1 := keepCell hb7 kx1
  replace ky0 := keepCell hb7 ky0
  replace ky1 := keepCell hb7 ky1
  have HB7 := Lib.hid (bnext HB6.out hb7)
  have HA7 := Lib.hid ha7
  have hz7x : w.heap.size < w7.heap.size := World.block_lt_of_cell? w7 _ kx0
  have hz7y : w.heap.size + 1 < w7.heap.size := World.block_lt_of_cell? w7 _ ky0
  clear hb7 ha7
  go_wp2_with fail
  go_at_call 17
  refine (TY.out 0 _ ((HAY.out.below HB7.out).below (below1 _ _))).mono ?_
  rintro e w8 ⟨Rfree8, cfree8, rfl, ha8, hb8⟩
  replace kx0 := keepCell hb8 (keepCell (below1 w7 _) kx0)
  replace kx1 := keepCell hb8 (keepCell (below1 w7 _) kx1)
  replace ky0 := keepCell hb8 (keepCell (below1 w7 _) ky0)
  replace ky1 := keepCell hb8 (keepCell (below1 w7 _) ky1)
  have jx0 := keepCell (a := ⟨w7.heap.size, 0, none⟩) (v := .string x.bytes) hb8 (by go_simp)
  have jx1 := keepCell (a := ⟨w7.heap.size, 1, none⟩) (v := .slice Rfree7 x.free.length cfree7) hb8 (by go_simp)
  have HB8 := Lib.hid (bnext (bnext HB7.out (below1 _ _)) hb8)
  have HA7' := Lib.hid ((HA7.out.below (below1 _ _)).below hb8)
  have HA8 := Lib.hid ha8
  have HZ8 : 0 < w8.heap.size := Nat.lt_of_le_of_lt (Nat.zero_le _) (World.block_lt_of_cell? w8 _ kx0)
  have hz8 : w7.heap.size < w8.heap.size := World.block_lt_of_cell? w8 _ jx0
  clear hb8 ha8 HA7 hz7x hz7y
  go_wp2_with fail
  go_at_call 21
  refine (IM.out _ _ _ _ _ _ (by first | exact HZ6 | simp) (by first | exact HZ6 | simp) _ (HA7'.out.below (below1 _ _)) (HA8.out.below (below1 _ _))).mono ?_
  rintro e w9 ⟨rfl, hb9⟩
  replace kx0 := keepCell hb9 (keepCell (below1 w8 _) kx0)
  replace kx1 := keepCell hb9 (keepCell (below1 w8 _) kx1)
  replace ky0 := keepCell hb9 (keepCell (below1 w8 _) ky0)
  replace ky1 := keepCell hb9 (keepCell (below1 w8 _) ky1)
  replace jx0 := keepCell hb9 (keepCell (below1 w8 _) jx0)
  replace jx1 := keepCell hb9 (keepCell (below1 w8 _) jx1)
  have jy0 := keepCell (a := ⟨w8.heap.size, 0, none⟩) (v := .string y.bytes) hb9 (by go_simp)
  have jy1 := keepCell (a := ⟨w8.heap.size, 1, none⟩) (v := .slice Rfree8 y.free.length cfree8) hb9 (by go_simp)
  have HB9 := Lib.hid (bnext (bnext HB8.out (below1 _ _)) hb9)
  have HA9x := Lib.hid ((HA7'.out.below (below1 _ _)).below hb9)
  have HA9y := Lib.hid ((HA8.out.below (below1 _ _)).below hb9)
  clear hb9 HA7' HA8 IM hz8
  go_wp2_with fail
  go_region_held3 (fun w' => w'.cell? ⟨w.heap.size, 0, none⟩ = some (.string x.bytes) ∧ w'.cell? ⟨w.heap.size, 1, none⟩ = some (.slice Rfreex x.free.length cfreex) ∧ w'.cell? ⟨w.heap.size + 1, 0, none⟩ = some (.string y.bytes) ∧ w'.cell? ⟨w.heap.size + 1, 1, none⟩ = some (.slice Rfreey y.free.length cfreey) ∧ w'.cell? ⟨w7.heap.size, 0, none⟩ = some (.string x.bytes) ∧ w'.cell? ⟨w7.heap.size, 1, none⟩ = some (.slice Rfree7 x.free.length cfree7) ∧ w'.cell? ⟨w8.heap.size, 0, none⟩ = some (.string y.bytes) ∧ w'.cell? ⟨w8.heap.size, 1, none⟩ = some (.slice Rfree8 y.free.length cfree8) ∧ Below w9.heap.size w9 w')
    (first | assumption | (exact (Below.refl _ _).drew) | (exact ⟨kx0, kx1, ky0, ky1, jx0, jx1, jy0, jy1, (Below.refl _ _).drew⟩) | (refine ⟨?_, ?_, ?_, ?_, ?_, ?_, ?_, ?_, ?_⟩ <;> assumption))
    (first
      | (go_at_call 17; refine (TX.out 0 _ (HAX.out.below HB9.out.drew)).mono ?_; rintro e w10 ⟨Rfree10, cfree10, rfl, hat, hbt⟩; have hbw : Below w9.heap.size w9 w10 := (Below.refl w9.heap.size w9).drew.trans hbt; have pkx0 := keepCell hbw kx0; have pkx1 := keepCell hbw kx1; have pky0 := keepCell hbw ky0; have pky1 := keepCell hbw ky1; have pjx0 := keepCell hbw jx0; have pjx1 := keepCell hbw jx1; have pjy0 := keepCell hbw jy0; have pjy1 := keepCell hbw jy1)
      | (go_at_call 19; refine (EX.out _ _ _ _ _ _ _ (HA9x.out.below hbw) hat).mono ?_; rintro e w11 ⟨rfl, hbe⟩; have hbv : Below w9.heap.size w9 w11 := hbw.trans (hbe.mono hbw.size); have rkx0 := keepCell hbv kx0; have rkx1 := keepCell hbv kx1; have rky0 := keepCell hbv ky0; have rky1 := keepCell hbv ky1; have rjx0 := keepCell hbv jx0; have rjx1 := keepCell hbv jx1; have rjy0 := keepCell hbv jy0; have rjy1 := keepCell hbv jy1))
  replace kx0 := rkx0
  replace kx1 := rkx1
  replace ky0 := rky0
  replace ky1 := rky1
  replace jx0 := rjx0
  replace jx1 := rjx1
  replace jy0 := rjy0
  replace jy1 := rjy1
  have HB11 := Lib.hid (bnext HB9.out hbv)
  have HA11y := Lib.hid (HA9y.out.below hbv)
  clear pkx0 pkx1 pky0 pky1 pjx0 pjx1 pjy0 pjy1 hat hbt hbw hbe hbv HA9x HA9y EX TX
  go_wp2_with fail
  go_region_held3 (fun w' => w'.cell? ⟨w.heap.size, 0, none⟩ = some (.string x.bytes) ∧ w'.cell? ⟨w.heap.size, 1, none⟩ = some (.slice Rfreex x.free.length cfreex) ∧ w'.cell? ⟨w.heap.size + 1, 0, none⟩ = some (.string y.bytes) ∧ w'.cell? ⟨w.heap.size + 1, 1, none⟩ = some (.slice Rfreey y.free.length cfreey) ∧ w'.cell? ⟨w7.heap.size, 0, none⟩ = some (.string x.bytes) ∧ w'.cell? ⟨w7.heap.size, 1, none⟩ = some (.slice Rfree7 x.free.length cfree7) ∧ w'.cell? ⟨w8.heap.size, 0, none⟩ = some (.string y.bytes) ∧ w'.cell? ⟨w8.heap.size, 1, none⟩ = some (.slice Rfree8 y.free.length cfree8) ∧ Below w11.heap.size w11 w')
    (first | assumption | (exact (Below.refl _ _).drew) | (exact ⟨kx0, kx1, ky0, ky1, jx0, jx1, jy0, jy1, (Below.refl _ _).drew⟩) | (refine ⟨?_, ?_, ?_, ?_, ?_, ?_, ?_, ?_, ?_⟩ <;> assumption))
    (first
      | (go_at_call 17; refine (TY.out 0 _ (HAY.out.below HB11.out.drew)).mono ?_; rintro e w12 ⟨Rfree12, cfree12, rfl, hat, hbt⟩; have hbw : Below w11.heap.size w11 w12 := (Below.refl w11.heap.size w11).drew.trans hbt; have pkx0 := keepCell hbw kx0; have pkx1 := keepCell hbw kx1; have pky0 := keepCell hbw ky0; have pky1 := keepCell hbw ky1; have pjx0 := keepCell hbw jx0; have pjx1 := keepCell hbw jx1; have pjy0 := keepCell hbw jy0; have pjy1 := keepCell hbw jy1)
      | (go_at_call 19; refine (EY.out _ _ _ _ _ _ _ (HA11y.out.below hbw) hat).mono ?_; rintro e w13 ⟨rfl, hbe⟩; have hbv : Below w11.heap.size w11 w13 := hbw.trans (hbe.mono hbw.size); have rkx0 := keepCell hbv kx0; have rkx1 := keepCell hbv kx1; have rky0 := keepCell hbv ky0; have rky1 := keepCell hbv ky1; have rjx0 := keepCell hbv jx0; have rjx1 := keepCell hbv jx1; have rjy0 := keepCell hbv jy0; have rjy1 := keepCell hbv jy1))
  go_wp2_with fail
  go_ret
  exact ⟨rfl, bnext HB11.out hbv⟩
end Go.Proofs.Ytbdnlloadmleaaa
