/-
  The walk of the law FnExactNewMemory: both answer alike, the argument stays, the answer lies in memory of its own.
-/
import Derived.Test.YtndeklmkhfopgaaMeNwS
import Derived.Test.YtndeklmkhfopgaaMeToOwn
namespace Go.Proofs.Ytndeklmkhfopgaa
open Go.ChangeShapes Go.WideShapes Go.ChangeAt Go.RowKit Go.Deep

set_option maxHeartbeats 4000000 in
set_option maxRecDepth 100000 in
theorem fnExactNewMemoryLaw (a0 : Int) (w : World) (_ha0 : -9223372036854775808 ≤ a0 ∧ a0 ≤ 9223372036854775807) :
    Calls Try.prog 9 #[.int .i64 a0] w fun e w' => e = .returned (.bool true) ∧ Below w.heap.size w w' := by
  have HS := (fun W => specNewMemory_any a0  W)
  have HI := (fun W => implNewMemory_any a0  W)
  have hrl := pureNewMemory_len a0
  obtain ⟨r, hr⟩ : ∃ r, (memNew a0).1 = r := ⟨_, rfl⟩
  obtain ⟨n1, hn1⟩ : ∃ n, (memNew a0).2 = n := ⟨_, rfl⟩
  rw [hr, hn1] at HS HI
  rw [hr] at hrl
  have HS := Lib.hid HS
  have HI := Lib.hid HI
  have hrw : r.wt ≤ 1048576 := hrl.1
  have hrf : r.free.length ≤ 262144 := hrl.2
  have ER := Lib.hid (fun R1 c1 R2 c2 lo lo' W h h' => eqMemory_any r hrw R1 c1 R2 c2 lo lo' W h h')
  obtain ⟨Q, hQ⟩ : ∃ Q : Nat, 1 + r.free.length * 2 = Q := ⟨_, rfl⟩
  have MG : Hid (∀ (b : ByteArray) (R1 : Option Addr) (c1 g : Nat) (W : World), Nums W (bkNums r.free) R1 g → Calls Try.prog 32 #[.agg #[.string b, .slice R1 r.free.length c1], .int .i64 1] W fun e w' => e = .returned (.int .i64 (Q : Int)) ∧ Nums w' (seqI 1 (r.free.length * 2)) R1 g ∧ Kb [g] W w') := Lib.hid (fun b R1 c1 g W h => (markMemory_own (bkNums r.free) r.free.length (bkNums_len _) (by omega) 1 (by omega) b R1 c1 g W h).mono fun _ _ j => ⟨by rw [j.1, hQ], j.2⟩)
  have HG : Hid (∀ (b : ByteArray) (R1 : Option Addr) (c1 g : Nat) (W : World), Nums W (seqI 1 (r.free.length * 2)) R1 g → Calls Try.prog 33 #[.agg #[.string b, .slice R1 r.free.length c1], .int .i64 1] W fun e w' => e = .returned (.int .i64 (Q : Int)) ∧ Below W.heap.size W w') := Lib.hid (fun b R1 c1 g W h => (heldMemory_own r.free.length (by omega) 1 (by omega) b R1 c1 g W h).mono fun _ _ j => ⟨by rw [j.1, hQ], j.2⟩)
  have hQ0 : (0 : Int) ≤ (Q : Int) := by omega
  clear hr hn1  hrl hrw hrf hQ
  go_enter Try.func9, Try.ntmps9
  go_wp2_with fail
  go_at_call 40
  refine (HS.out _).mono ?_
  rintro e w4 ⟨R4, c4, rfl, ho4, hb4, hz4⟩
  have HB4 := Lib.hid (bnext (Below.refl w.heap.size w) hb4)
  obtain ⟨g4, hg4, hl4, hn4⟩ := ho4.nums
  have N4 := Lib.hid hn4
  have L4 := Lib.hid hl4
  clear hb4 hz4 ho4 hg4 hn4 hl4
  go_wp2_with fail
  go_at_call 41
  refine (HI.out _).mono ?_
  rintro e w6 ⟨R6, c6, rfl, ho6, hb6, hz6⟩
  have a0 := keepCell (a := ⟨w4.heap.size, 0, none⟩) (v := .string r.bytes) hb6 (by go_simp)
  have a1 := keepCell (a := ⟨w4.heap.size, 1, none⟩) (v := .slice R4 r.free.length c4) hb6 (by go_simp)
  have HB6 := Lib.hid (bnext (bnext HB4.out (below1 _ _)) hb6)
  have N6 := Lib.hid ((N4.out.below (below1 _ _)).below hb6)
  obtain ⟨g6, hg6, hl6, hn6⟩ := ho6.num2 hz6
  have M6 := Lib.hid hn6
  have G6 : Hid (w4.heap.size < g6) := Lib.hid (by simp at hg6; omega)
  have E6 := Lib.hid hl6
  have aa0 := fun o => keepCell (below1 w6 o) a0
  have aa1 := fun o => keepCell (below1 w6 o) a1
  clear hb6 hz6 ho6 hg6 hl6 hn6
  go_wp2_with fail
  go_at_call 31
  refine (ER.out _ _ _ _ 0 0 _ ((M6.out.below (below1 _ _)).bks (Nat.zero_le _)) ((N6.out.below (below1 _ _)).bks (Nat.zero_le _))).mono ?_
  rintro e w11 ⟨rfl, hb11⟩
  replace a0 := keepCell hb11 (keepCell (below1 w6 _) a0)
  replace a1 := keepCell hb11 (keepCell (below1 w6 _) a1)
  have m0 := keepCell (a := ⟨w6.heap.size, 0, none⟩) (v := .string r.bytes) hb11 (by go_simp)
  have m1 := keepCell (a := ⟨w6.heap.size, 1, none⟩) (v := .slice R6 r.free.length c6) hb11 (by go_simp)
  have HB11 := Lib.hid (bnext (bnext HB6.out (below1 _ _)) hb11)
  have N11 := Lib.hid ((N6.out.below (below1 _ _)).below hb11)
  have M11 := Lib.hid ((M6.out.below (below1 _ _)).below hb11)
  clear hb11 aa0 aa1
  go_wp2_with fail
  go_at_call 32
  refine (MG.out _ _ _ _ _ M11.out).mono ?_
  rintro e w12 ⟨rfl, hm12, hk12⟩
  have HB12 : Hid (Below w.heap.size w w12) := Lib.hid (HB11.out.trans (hk12.below (fun b hb => by
    rw [List.mem_singleton] at hb
    have := G6.out
    have := HB4.out.size
    omega) HB11.out.size))
  replace a0 := hk12.but.cell (a := ⟨w4.heap.size, 0, none⟩) (by rw [List.mem_singleton]; have := G6.out; have := E6.out; have := HB4.out.size; dsimp only; omega) a0
  replace a1 := hk12.but.cell (a := ⟨w4.heap.size, 1, none⟩) (by rw [List.mem_singleton]; have := G6.out; have := E6.out; have := HB4.out.size; dsimp only; omega) a1
  replace m0 := hk12.but.cell (a := ⟨w6.heap.size, 0, none⟩) (by rw [List.mem_singleton]; have := G6.out; have := E6.out; have := HB4.out.size; dsimp only; omega) m0
  replace m1 := hk12.but.cell (a := ⟨w6.heap.size, 1, none⟩) (by rw [List.mem_singleton]; have := G6.out; have := E6.out; have := HB4.out.size; dsimp only; omega) m1
  have N12 := Lib.hid (N11.out.kbn hk12 (fun hp hm => by
    rw [List.mem_singleton] at hm
    rw [bkNums_len] at hp
    have := L4.out (by omega)
    have := G6.out
    omega))
  have M12 := Lib.hid hm12
  clear hk12 hm12 
  go_wp2_with fail
  go_at_call 33
  refine (HG.out _ _ _ _ _ M12.out).mono ?_
  rintro e w13 ⟨rfl, hb13⟩
  replace a0 := keepCell hb13 a0
  replace a1 := keepCell hb13 a1
  replace m0 := keepCell hb13 m0
  replace m1 := keepCell hb13 m1
  have HB13 := Lib.hid (bnext HB12.out hb13)
  have N13 := Lib.hid (N12.out.below hb13)
  have M13 := Lib.hid (M12.out.below hb13)
  clear hb13
  go_wp2_with fail
  go_at_call 41
  refine (HI.out _).mono ?_
  rintro e w15 ⟨R15, c15, rfl, ho15, hb15, hz15⟩
  replace a0 := keepCell hb15 a0
  replace a1 := keepCell hb15 a1
  replace m0 := keepCell hb15 m0
  replace m1 := keepCell hb15 m1
  have HB15 := Lib.hid (bnext HB13.out hb15)
  have N15 := Lib.hid (N13.out.below hb15)
  have M15 := Lib.hid (M13.out.below hb15)
  obtain ⟨g15, _, _, hn15⟩ := ho15.nums
  have L15 := Lib.hid hn15
  have d0 := fun o => keepCell (below1 w15 o) a0
  have d1 := fun o => keepCell (below1 w15 o) a1
  clear hb15 hz15 ho15 hn15
  go_wp2_with fail
  go_at_call 31
  refine (ER.out _ _ _ _ 0 0 _ ((L15.out.below (below1 _ _)).bks (Nat.zero_le _)) ((N15.out.below (below1 _ _)).bks (Nat.zero_le _))).mono ?_
  rintro e w16 ⟨rfl, hb16⟩
  replace m0 := keepCell hb16 (keepCell (below1 w15 _) m0)
  replace m1 := keepCell hb16 (keepCell (below1 w15 _) m1)
  have HB16 := Lib.hid (bnext (bnext HB15.out (below1 _ _)) hb16)
  have M16 := Lib.hid ((M15.out.below (below1 _ _)).below hb16)
  clear hb16 d0 d1
  go_wp2_with fail
  go_at_call 33
  refine (HG.out _ _ _ _ _ M16.out).mono ?_
  rintro e w17 ⟨rfl, hb17⟩
  have HB17 := Lib.hid (bnext HB16.out hb17)
  clear hb17
  go_wp2_with fail
  go_ret
  exact ⟨rfl, HB17.out⟩
end Go.Proofs.Ytndeklmkhfopgaa
