/-
  The walk of the law FnExactAlloc: both answer alike, the argument stays, the answer lies in memory of its own.
-/
import Derived.Test.YtndeklmkhfopgaaMeAlS
import Derived.Test.YtndeklmkhfopgaaMeToOwn
import Derived.Test.YtndeklmkhfopgaaMeToCap
namespace Go.Proofs.Ytndeklmkhfopgaa
open Go.ChangeShapes Go.WideShapes Go.ChangeAt Go.RowKit Go.Deep

set_option maxHeartbeats 4000000 in
set_option maxRecDepth 100000 in
theorem fnExactAllocLaw (x : Me) (R : Option Addr) (c : Nat) (a0 : Int) (a1 : Int) (w : World) (hat : Me.At w 0 x R) (hfin : x.Fin) (ha0 : -9223372036854775808 ≤ a0 ∧ a0 ≤ 9223372036854775807) (_ha1 : -9223372036854775808 ≤ a1 ∧ a1 ≤ 9223372036854775807) :
    Calls Try.prog 6 #[.agg #[.string x.bytes, .slice R x.free.length c], .int .i64 a0, .int .i64 a1] w fun e w' => e = .returned (.bool true) ∧ Below w.heap.size w w' := by
  have S := fun W h => szMemory_any x hfin 1048576 (by omega) (by omega) R c 0 W h
  have HA := Lib.hid hat
  have hn0 := x.wt_nonneg
  clear hat
  by_cases hn : 1048576 - x.wt < 0
  · rw [leftOr_neg hn] at S
    have S := Lib.hid S
    clear hn
    go_enter Try.func6, Try.ntmps6
    go_wp2_with fail
    go_at_call 27
    refine (S.out _ (HA.out.below (below1 _ _))).mono ?_
    rintro e w2 ⟨rfl, hb2⟩
    have HB2 := Lib.hid (bnext (below1 _ _) hb2)
    clear hb2
    go_wp2_with fail
    go_ret
    exact ⟨rfl, HB2.out⟩
  have hT : x.wt ≤ 1048576 := by omega
  rw [leftOr_pos (by omega)] at S
  obtain ⟨L, hL⟩ : ∃ L, 1048576 - x.wt = L := ⟨_, rfl⟩
  rw [hL] at S
  have hL0 : 0 ≤ L := by omega
  have S := Lib.hid S
  have hxl := (Me.parts_le hT).2.1
  rw [Bk.wts_zero] at hxl
  have HT := Lib.hid (fun W h => toMemory_any x hT R c 0 W h)
  have HTO := Lib.hid (fun W h => toMemory_own x hT R c 0 W h)
  have HTC := Lib.hid (fun W h => toMemory_cap x hT R c 0 W h)
  have HE := Lib.hid (fun R1 c1 R2 c2 lo lo' W h h' => eqMemory_any x hT R1 c1 R2 c2 lo lo' W h h')
  have HS := (fun (R' : Option Addr) (c' lo : Nat) (hcap : x.free.length ≤ c') W (h : Me.At W lo x R') => specAlloc_any x hT hfin R' c' hcap a0 ha0 a1 lo W h)
  have HI := (fun (R' : Option Addr) (c' lo : Nat) W (h : Me.At W lo x R') => implAlloc_any x hT hfin R' c' a0 ha0 a1 lo W h)
  have hrl := pureAlloc_len x hT hfin a0 a1
  obtain ⟨r, hr⟩ : ∃ r, (memAlloc x a0 a1).1 = r := ⟨_, rfl⟩
  obtain ⟨n1, hn1⟩ : ∃ n, (memAlloc x a0 a1).2.1 = n := ⟨_, rfl⟩
  obtain ⟨n2, hn2⟩ : ∃ n, (memAlloc x a0 a1).2.2 = n := ⟨_, rfl⟩
  rw [hr, hn1, hn2] at HS HI
  rw [hr] at hrl
  have HS := Lib.hid HS
  have HI := Lib.hid HI
  have hrw : r.wt ≤ 1048576 := hrl.1
  have hrf : r.free.length ≤ 262144 := hrl.2
  have ER := Lib.hid (fun R1 c1 R2 c2 lo lo' W h h' => eqMemory_any r hrw R1 c1 R2 c2 lo lo' W h h')
  obtain ⟨Q, hQ⟩ : ∃ Q : Nat, 1 + r.free.length * 2 = Q := ⟨_, rfl⟩
  have MG : Hid (∀ (b : ByteArray) (R1 : Option Addr) (c1 g : Nat) (W : World), Nums W (bkNums r.free) R1 g → Calls Try.prog 32 #[.agg #[.string b, .slice R1 r.free.length c1], .int .i64 1] W fun e w' => e = .returned (.int .i64 (Q : Int)) ∧ Nums w' (seqI 1 (r.free.length * 2)) R1 g ∧ Kb [g] W w') := Lib.hid (fun b R1 c1 g W h => (markMemory_own (bkNums r.free) r.free.length (bkNums_len _) (by omega) 1 (by omega) b R1 c1 g W h).mono fun _ _ j => ⟨by rw [j.1, hQ], j.2⟩)
  have HG : Hid (∀ (b : ByteArray) (R1 : Option Addr) (c1 g : Nat) (W : World), Nums W (seqI 1 (r.free.length * 2)) R1 g → Calls Try.prog 33 #[.agg #[.string b, .slice R1 r.free.length c1], .int .i64 1] W fun e w' => e = .returned (.int .i64 (Q : Int)) ∧ Below W.heap.size W w') := Lib.hid (fun b R1 c1 g W h => (heldMemory_own r.free.length (by omega) 1 (by omega) b R1 c1 g W h).mono fun _ _ j => ⟨by rw [j.1, hQ], j.2⟩)
  have hQ0 : (0 : Int) ≤ (Q : Int) := by omega
  obtain ⟨K, hK⟩ : ∃ K : Nat, 1 + x.free.length * 2 = K := ⟨_, rfl⟩
  have MX : Hid (∀ (R1 : Option Addr) (c1 g : Nat) (W : World), Nums W (bkNums x.free) R1 g → Calls Try.prog 32 #[.agg #[.string x.bytes, .slice R1 x.free.length c1], .int .i64 1] W fun e w' => e = .returned (.int .i64 (K : Int)) ∧ Kb [g] W w') := Lib.hid (fun R1 c1 g W h => (markMemory_own (bkNums x.free) x.free.length (bkNums_len _) (by omega) 1 (by omega) x.bytes R1 c1 g W h).mono fun _ _ j => ⟨by rw [j.1, hK], j.2.2⟩)
  have hK0 : (0 : Int) ≤ (K : Int) := by omega
  clear hn hL hn0 hT hfin hr hn1 hn2 hrl hrw hrf hK hQ hxl
  go_enter Try.func6, Try.ntmps6
  go_wp2_with fail
  go_at_call 27
  refine (S.out _ (HA.out.below (below1 _ _))).mono ?_
  rintro e w2 ⟨rfl, hb2⟩
  have k0 := keepCell (a := ⟨w.heap.size, 0, none⟩) (v := .string x.bytes) hb2 (by go_simp)
  have k1 := keepCell (a := ⟨w.heap.size, 1, none⟩) (v := .slice R x.free.length c) hb2 (by go_simp)
  have HB2 := Lib.hid (bnext (below1 _ _) hb2)
  clear hb2 S
  go_wp2_with fail
  go_at_call 29
  refine (HTC.out _ (HA.out.below HB2.out)).mono ?_
  rintro e w3 ⟨R3, c3, g3, rfl, hcap3, _, _, hn3, hb3⟩
  have ha3 := hn3.bks (lo := 0) (Nat.zero_le _)
  have HCAP := Lib.hid hcap3
  clear hn3 hcap3
  replace k0 := keepCell hb3 k0
  replace k1 := keepCell hb3 k1
  have HB3 := Lib.hid (bnext HB2.out hb3)
  have HA3 := Lib.hid ha3
  clear hb3 ha3
  go_wp2_with fail
  go_at_call 34
  refine (HS.out _ _ _ HCAP.out _ HA3.out).mono ?_
  rintro e w4 ⟨R4, c4, rfl, ho4, hb4, hz4⟩
  replace k0 := keepCell hb4 k0
  replace k1 := keepCell hb4 k1
  have HB4 := Lib.hid (bnext HB3.out hb4)
  obtain ⟨g4, hg4, hl4, hn4⟩ := ho4.nums
  have N4 := Lib.hid hn4
  have L4 := Lib.hid hl4
  clear hb4 hz4 ho4 hg4 hn4 hl4
  have ZW : Hid (w.heap.size < w4.heap.size) := Lib.hid (World.block_lt_of_cell? w4 _ k0)
  have kk0 := fun o => keepCell (below1 w4 o) k0
  have kk1 := fun o => keepCell (below1 w4 o) k1
  go_wp2_with fail
  go_at_call 29
  refine (HTO.out _ (HA.out.below (bnext HB4.out (below1 _ _)))).mono ?_
  rintro e w5 ⟨R5, c5, g5, rfl, hg5, hl5, hn5, hb5⟩
  replace k0 := keepCell hb5 (keepCell (below1 w4 _) k0)
  replace k1 := keepCell hb5 (keepCell (below1 w4 _) k1)
  have a0 := keepCell (a := ⟨w4.heap.size, 0, none⟩) (v := .string r.bytes) hb5 (by go_simp)
  have a1 := keepCell (a := ⟨w4.heap.size, 1, none⟩) (v := .slice R4 r.free.length c4) hb5 (by go_simp)
  have HB5 := Lib.hid (bnext (bnext HB4.out (below1 _ _)) hb5)
  have N5 := Lib.hid ((N4.out.below (below1 _ _)).below hb5)
  have X5 := Lib.hid hn5
  have G5 : Hid (w4.heap.size < g5) := Lib.hid (by simp at hg5; omega)
  have E5 := Lib.hid hl5
  have ZA : Hid (w4.heap.size < w5.heap.size) := Lib.hid (World.block_lt_of_cell? w5 _ a0)
  have HX5 := Lib.hid (hn5.bks (lo := 0) (Nat.zero_le _))
  clear hb5 hg5 hl5 hn5 kk0 kk1
  go_wp2_with fail
  go_at_call 35
  refine (HI.out _ _ _ _ (Bks.below HX5.out (below1 _ _))).mono ?_
  rintro e w6 ⟨R6, c6, rfl, ho6, hb6, hz6⟩
  replace k0 := keepCell hb6 (keepCell (below1 w5 _) k0)
  replace k1 := keepCell hb6 (keepCell (below1 w5 _) k1)
  replace a0 := keepCell hb6 (keepCell (below1 w5 _) a0)
  replace a1 := keepCell hb6 (keepCell (below1 w5 _) a1)
  have j0 := keepCell (a := ⟨w5.heap.size, 0, none⟩) (v := .string x.bytes) hb6 (by go_simp)
  have j1 := keepCell (a := ⟨w5.heap.size, 1, none⟩) (v := .slice R5 x.free.length c5) hb6 (by go_simp)
  have HB6 := Lib.hid (bnext (bnext HB5.out (below1 _ _)) hb6)
  have N6 := Lib.hid ((N5.out.below (below1 _ _)).below hb6)
  have X6 := Lib.hid ((X5.out.below (below1 _ _)).below hb6)
  obtain ⟨g6, hg6, hl6, hn6⟩ := ho6.num2 hz6
  have M6 := Lib.hid hn6
  have G6 : Hid (w5.heap.size < g6) := Lib.hid (by simp at hg6; omega)
  have E6 := Lib.hid hl6
  have ZJ : Hid (w5.heap.size < w6.heap.size) := Lib.hid (World.block_lt_of_cell? w6 _ j0)
  have aa0 := fun o => keepCell (below1 w6 o) a0
  have aa1 := fun o => keepCell (below1 w6 o) a1
  clear hb6 hz6 ho6 hg6 hl6 hn6
  go_wp2_with fail
  go_at_call 31
  refine (ER.out _ _ _ _ 0 0 _ ((M6.out.below (below1 _ _)).bks (Nat.zero_le _)) ((N6.out.below (below1 _ _)).bks (Nat.zero_le _))).mono ?_
  rintro e w7 ⟨rfl, hb7⟩
  replace k0 := keepCell hb7 (keepCell (below1 w6 _) k0)
  replace k1 := keepCell hb7 (keepCell (below1 w6 _) k1)
  replace a0 := keepCell hb7 (keepCell (below1 w6 _) a0)
  replace a1 := keepCell hb7 (keepCell (below1 w6 _) a1)
  replace j0 := keepCell hb7 (keepCell (below1 w6 _) j0)
  replace j1 := keepCell hb7 (keepCell (below1 w6 _) j1)
  have m0 := keepCell (a := ⟨w6.heap.size, 0, none⟩) (v := .string r.bytes) hb7 (by go_simp)
  have m1 := keepCell (a := ⟨w6.heap.size, 1, none⟩) (v := .slice R6 r.free.length c6) hb7 (by go_simp)
  have HB7 := Lib.hid (bnext (bnext HB6.out (below1 _ _)) hb7)
  have N7 := Lib.hid ((N6.out.below (below1 _ _)).below hb7)
  have X7 := Lib.hid ((X6.out.below (below1 _ _)).below hb7)
  have M7 := Lib.hid ((M6.out.below (below1 _ _)).below hb7)
  have HX7 := Lib.hid (X7.out.bks (lo := 0) (Nat.zero_le _))
  clear hb7 aa0 aa1
  go_wp2_with fail
  go_region_held3 (fun w' => w'.cell? ⟨w5.heap.size, 0, none⟩ = some (.string x.bytes) ∧ w'.cell? ⟨w5.heap.size, 1, none⟩ = some (.slice R5 x.free.length c5) ∧ w'.cell? ⟨w.heap.size, 0, none⟩ = some (.string x.bytes) ∧ w'.cell? ⟨w.heap.size, 1, none⟩ = some (.slice R x.free.length c) ∧ w'.cell? ⟨w4.heap.size, 0, none⟩ = some (.string r.bytes) ∧ w'.cell? ⟨w4.heap.size, 1, none⟩ = some (.slice R4 r.free.length c4) ∧ w'.cell? ⟨w6.heap.size, 0, none⟩ = some (.string r.bytes) ∧ w'.cell? ⟨w6.heap.size, 1, none⟩ = some (.slice R6 r.free.length c6) ∧ Below w7.heap.size w7 w')
    (first | assumption | (exact (Below.refl _ _).drew) | (exact ⟨j0, j1, k0, k1, a0, a1, m0, m1, (Below.refl _ _).drew⟩) | (refine ⟨?_, ?_, ?_, ?_, ?_, ?_, ?_, ?_, ?_⟩ <;> assumption))
    (first
      | (go_at_call 29; refine (HT.out _ (HA.out.below HB7.out.drew)).mono ?_; rintro e w8 ⟨R8, c8, rfl, ha8, hb8⟩; have hbw : Below w7.heap.size w7 w8 := (Below.refl w7.heap.size w7).drew.trans hb8; have pj0 := keepCell hbw j0; have pj1 := keepCell hbw j1; have pk0 := keepCell hbw k0; have pk1 := keepCell hbw k1; have pa0 := keepCell hbw a0; have pa1 := keepCell hbw a1; have pm0 := keepCell hbw m0; have pm1 := keepCell hbw m1)
      | (go_at_call 31; refine (HE.out _ _ _ _ _ _ _ (HX7.out.below hbw) ha8).mono ?_; rintro e w9 ⟨rfl, hb9⟩; have hbw9 : Below w7.heap.size w7 w9 := hbw.trans (hb9.mono hbw.size); have rj0 := keepCell hbw9 j0; have rj1 := keepCell hbw9 j1; have rk0 := keepCell hbw9 k0; have rk1 := keepCell hbw9 k1; have ra0 := keepCell hbw9 a0; have ra1 := keepCell hbw9 a1; have rm0 := keepCell hbw9 m0; have rm1 := keepCell hbw9 m1))
  have HB9 := Lib.hid (bnext HB7.out hbw9)
  have N9 := Lib.hid (N7.out.below hbw9)
  have X9 := Lib.hid (X7.out.below hbw9)
  have M9 := Lib.hid (M7.out.below hbw9)
  have Z9 := Lib.hid hbw9.size
  clear hb9 hbw9 hbw hb8 ha8
  go_wp2_with fail
  go_at_call 32
  refine (MX.out _ _ _ _ X9.out).mono ?_
  rintro e w10 ⟨rfl, hk10⟩
  have HB10 : Hid (Below w.heap.size w w10) := Lib.hid (HB9.out.trans (hk10.below (fun b hb => by
    rw [List.mem_singleton] at hb
    have := G5.out
    have := ZW.out
    omega) HB9.out.size))
  replace j0 := hk10.but.cell (a := ⟨w5.heap.size, 0, none⟩) (by rw [List.mem_singleton]; have := G5.out; have := E5.out; have := ZW.out; have := ZJ.out; have := ZA.out; dsimp only; omega) rj0
  replace j1 := hk10.but.cell (a := ⟨w5.heap.size, 1, none⟩) (by rw [List.mem_singleton]; have := G5.out; have := E5.out; have := ZW.out; have := ZJ.out; have := ZA.out; dsimp only; omega) rj1
  replace k0 := hk10.but.cell (a := ⟨w.heap.size, 0, none⟩) (by rw [List.mem_singleton]; have := G5.out; have := E5.out; have := ZW.out; have := ZJ.out; have := ZA.out; dsimp only; omega) rk0
  replace k1 := hk10.but.cell (a := ⟨w.heap.size, 1, none⟩) (by rw [List.mem_singleton]; have := G5.out; have := E5.out; have := ZW.out; have := ZJ.out; have := ZA.out; dsimp only; omega) rk1
  replace a0 := hk10.but.cell (a := ⟨w4.heap.size, 0, none⟩) (by rw [List.mem_singleton]; have := G5.out; have := E5.out; have := ZW.out; have := ZJ.out; have := ZA.out; dsimp only; omega) ra0
  replace a1 := hk10.but.cell (a := ⟨w4.heap.size, 1, none⟩) (by rw [List.mem_singleton]; have := G5.out; have := E5.out; have := ZW.out; have := ZJ.out; have := ZA.out; dsimp only; omega) ra1
  replace m0 := hk10.but.cell (a := ⟨w6.heap.size, 0, none⟩) (by rw [List.mem_singleton]; have := G5.out; have := E5.out; have := ZW.out; have := ZJ.out; have := ZA.out; dsimp only; omega) rm0
  replace m1 := hk10.but.cell (a := ⟨w6.heap.size, 1, none⟩) (by rw [List.mem_singleton]; have := G5.out; have := E5.out; have := ZW.out; have := ZJ.out; have := ZA.out; dsimp only; omega) rm1
  have N10 := Lib.hid (N9.out.kbn hk10 (fun hp hm => by
    rw [List.mem_singleton] at hm
    rw [bkNums_len] at hp
    have := L4.out (by omega)
    have := G5.out
    omega))
  have M10 := Lib.hid (M9.out.kbn hk10 (fun hp hm => by
    rw [List.mem_singleton] at hm
    have := E5.out
    have := G6.out
    omega))
  clear hk10 pj0 pj1 pk0 pk1 pa0 pa1 pm0 pm1 rj0 rj1 rk0 rk1 ra0 ra1 rm0 rm1
  go_wp2_with fail
  go_at_call 31
  refine (ER.out _ _ _ _ 0 0 _ (M10.out.bks (Nat.zero_le _)) (N10.out.bks (Nat.zero_le _))).mono ?_
  rintro e w11 ⟨rfl, hb11⟩
  replace k0 := keepCell hb11 k0
  replace k1 := keepCell hb11 k1
  replace a0 := keepCell hb11 a0
  replace a1 := keepCell hb11 a1
  replace j0 := keepCell hb11 j0
  replace j1 := keepCell hb11 j1
  replace m0 := keepCell hb11 m0
  replace m1 := keepCell hb11 m1
  have HB11 := Lib.hid (bnext HB10.out hb11)
  have N11 := Lib.hid (N10.out.below hb11)
  have M11 := Lib.hid (M10.out.below hb11)
  clear hb11
  go_wp2_with fail
  go_at_call 32
  refine (MG.out _ _ _ _ _ M11.out).mono ?_
  rintro e w12 ⟨rfl, hm12, hk12⟩
  have HB12 : Hid (Below w.heap.size w w12) := Lib.hid (HB11.out.trans (hk12.below (fun b hb => by
    rw [List.mem_singleton] at hb
    have := G6.out
    have := HB4.out.size
    have := ZW.out; have := ZA.out; omega) HB11.out.size))
  replace k0 := hk12.but.cell (a := ⟨w.heap.size, 0, none⟩) (by rw [List.mem_singleton]; have := G6.out; have := E6.out; have := ZW.out; have := ZA.out; have := ZJ.out; dsimp only; omega) k0
  replace k1 := hk12.but.cell (a := ⟨w.heap.size, 1, none⟩) (by rw [List.mem_singleton]; have := G6.out; have := E6.out; have := ZW.out; have := ZA.out; have := ZJ.out; dsimp only; omega) k1
  replace a0 := hk12.but.cell (a := ⟨w4.heap.size, 0, none⟩) (by rw [List.mem_singleton]; have := G6.out; have := E6.out; have := ZW.out; have := ZA.out; have := ZJ.out; dsimp only; omega) a0
  replace a1 := hk12.but.cell (a := ⟨w4.heap.size, 1, none⟩) (by rw [List.mem_singleton]; have := G6.out; have := E6.out; have := ZW.out; have := ZA.out; have := ZJ.out; dsimp only; omega) a1
  replace m0 := hk12.but.cell (a := ⟨w6.heap.size, 0, none⟩) (by rw [List.mem_singleton]; have := G6.out; have := E6.out; have := ZW.out; have := ZA.out; have := ZJ.out; dsimp only; omega) m0
  replace m1 := hk12.but.cell (a := ⟨w6.heap.size, 1, none⟩) (by rw [List.mem_singleton]; have := G6.out; have := E6.out; have := ZW.out; have := ZA.out; have := ZJ.out; dsimp only; omega) m1
  have N12 := Lib.hid (N11.out.kbn hk12 (fun hp hm => by
    rw [List.mem_singleton] at hm
    rw [bkNums_len] at hp
    have := L4.out (by omega)
    have := G6.out
    have := ZA.out; omega))
  have M12 := Lib.hid hm12
  clear hk12 hm12 j0 j1
  go_wp2_with fail
  go_at_call 33
  refine (HG.out _ _ _ _ _ M12.out).mono ?_
  rintro e w13 ⟨rfl, hb13⟩
  replace k0 := keepCell hb13 k0
  replace k1 := keepCell hb13 k1
  replace a0 := keepCell hb13 a0
  replace a1 := keepCell hb13 a1
  replace m0 := keepCell hb13 m0
  replace m1 := keepCell hb13 m1
  have HB13 := Lib.hid (bnext HB12.out hb13)
  have N13 := Lib.hid (N12.out.below hb13)
  have M13 := Lib.hid (M12.out.below hb13)
  clear hb13
  go_wp2_with fail
  go_at_call 29
  refine (HT.out _ (HA.out.below HB13.out)).mono ?_
  rintro e w14 ⟨R14, c14, rfl, ha14, hb14⟩
  replace k0 := keepCell hb14 k0
  replace k1 := keepCell hb14 k1
  replace a0 := keepCell hb14 a0
  replace a1 := keepCell hb14 a1
  replace m0 := keepCell hb14 m0
  replace m1 := keepCell hb14 m1
  have HB14 := Lib.hid (bnext HB13.out hb14)
  have N14 := Lib.hid (N13.out.below hb14)
  have M14 := Lib.hid (M13.out.below hb14)
  have HA14 := Lib.hid ha14
  clear hb14 ha14
  go_wp2_with fail
  go_at_call 35
  refine (HI.out _ _ _ _ HA14.out).mono ?_
  rintro e w15 ⟨R15, c15, rfl, ho15, hb15, hz15⟩
  replace k0 := keepCell hb15 k0
  replace k1 := keepCell hb15 k1
  replace a0 := keepCell hb15 a0
  replace a1 := keepCell hb15 a1
  replace m0 := keepCell hb15 m0
  replace m1 := keepCell hb15 m1
  have HB15 := Lib.hid (bnext HB14.out hb15)
  have N15 := Lib.hid (N14.out.below hb15)
  have M15 := Lib.hid (M14.out.below hb15)
  obtain ⟨g15, _, _, hn15⟩ := ho15.nums
  have L15 := Lib.hid hn15
  have d0 := fun o => keepCell (below1 w15 o) a0
  have d1 := fun o => keepCell (below1 w15 o) a1
  clear hb15 hz15 ho15 hn15
  go_wp2_with fail
  go_at_call 31
  refine (ER.out _ _ _ _ 0 0 _ ((L15.out.below (below1 _ _)).bks (Nat.zero_le _)) ((N15.out.below (below1 _ _)).bks (Nat.zero_le _))).mono ?_
  rintro e w16 ⟨rfl, hb16⟩
  replace m0 := keepCell hb16 (keepCell (below1 w15 _) m0)
  replace m1 := keepCell hb16 (keepCell (below1 w15 _) m1)
  have HB16 := Lib.hid (bnext (bnext HB15.out (below1 _ _)) hb16)
  have M16 := Lib.hid ((M15.out.below (below1 _ _)).below hb16)
  clear hb16 d0 d1
  go_wp2_with fail
  go_at_call 33
  refine (HG.out _ _ _ _ _ M16.out).mono ?_
  rintro e w17 ⟨rfl, hb17⟩
  have HB17 := Lib.hid (bnext HB16.out hb17)
  clear hb17
  go_wp2_with fail
  go_ret
  exact ⟨rfl, HB17.out⟩
end Go.Proofs.Ytndeklmkhfopgaa
