/-
  The model's size and alignment of one type walk as lay says.
-/
import Derived.Test.YtlmmbheamicdaaaLayC
namespace Go.Proofs.Ytlmmbheamicdaaa
open Go.ChangeShapes Go.WideShapes Go.ChangeAt Go.RowKit Go.Deep

/-- The unit type by itself. -/
theorem unitS (lo : Nat) : LayS lo unitTy := by
  intro A B ca cb w _
  rw [unit_lay]
  change Calls _ _ #[.agg #[.int .i64 1, .string ⟨#[]⟩, .slice A 0 ca, .slice B 0 cb]] _ _
  have CN := Lib.hid (fun W => specNumSize_any 1 W)
  have e : numSz 1 = 0 := by decide
  rw [e] at CN
  go_enter Try.func65, Try.ntmps65
  go_wp2_with fail
  go_at_call 84
  refine (CN.out _).mono ?_
  rintro e w2 ⟨rfl, hb2⟩
  have k0 := keepCell (a := ⟨w.heap.size, 0, none⟩) (v := .int .i64 1) hb2 (by go_simp)
  have HB2 := Lib.hid (bnext (below1 _ _) hb2)
  clear hb2
  go_wp2_with fail
  go_ret2
  exact ⟨rfl, HB2.out⟩

set_option maxHeartbeats 4000000 in
set_option maxRecDepth 100000 in
theorem shapeS_all (T : Ty) (lo : Nat) (ho : T.Ok) (hT : T.wt ≤ 1048576) : LayS lo T := by
  induction T using Ty.kidInd with
  | h T ih =>
    intro A B ca cb w hat
    obtain ⟨_, q2, q3, _, _⟩ := Ty.len_le hT
    have IK : ∀ (i : Nat) (t : Ty), T.kids[i]? = some t → LayS lo t := fun i t ht => ih i t ht (okKid ho ht) (q3 i t ht)
    have OK : ∀ (i : Nat) (t : Ty), T.kids[i]? = some t → LayOk t := fun i t ht => (okKid ho ht).layOk
    have HB := ((Ty.sound_eq T).1 ho.2).1.2
    have hk : 1 ≤ T.kind ∧ T.kind ≤ 23 := by
      unfold BodyOk at HB
      (repeat' split at HB) <;> omega
    have hl13 : T.kind = 13 → T.kids.length = 1 := fun e => by
      unfold BodyOk at HB
      rw [if_pos (Or.inr e)] at HB
      exact HB.1
    have HCS := Lib.hid (fun W (h : Ty.At W lo T A B) => specCases_any T ho A B ca cb lo W h)
    have HR := Lib.hid hat.rowAt
    have HA := Lib.hid hat
    have hlab : T.labels.length ≤ 1048576 := (Ty.len_le hT).1
    clear HB ih q3 hT
    obtain ⟨r, hr⟩ : ∃ r, T.lay = r := ⟨_, rfl⟩
    rw [hr]
    have HL : Hid (r = T.lay) := Lib.hid hr.symm
    rw [Ty.lay_eq] at hr
    have CN := Lib.hid (fun W => specNumSize_any T.kind W)
    by_cases hn : 0 < numSz T.kind
    · rw [if_pos hn] at hr
      subst hr
      clear IK OK hl13 HCS HL
      generalize numSz T.kind = n at *
      go_enter Try.func65, Try.ntmps65
      go_wp2_with fail
      go_at_call 84
      refine (CN.out _).mono ?_
      rintro e w2 ⟨rfl, hb2⟩
      have k0 := keepCell (a := ⟨w.heap.size, 0, none⟩) (v := .int .i64 T.kind) hb2 (by go_simp)
      have k1 := keepCell (a := ⟨w.heap.size, 1, none⟩) (v := .string T.name) hb2 (by go_simp)
      have k2 := keepCell (a := ⟨w.heap.size, 2, none⟩) (v := .slice A T.labels.length ca) hb2 (by go_simp)
      have k3 := keepCell (a := ⟨w.heap.size, 3, none⟩) (v := .slice B T.kids.length cb) hb2 (by go_simp)
      have HB2 := Lib.hid (bnext (below1 _ _) hb2)
      clear hb2
      go_wp2_with fail
      go_ret2
      exact ⟨rfl, HB2.out⟩
    have hn0 : numSz T.kind = 0 := by have := (numSz_le T.kind).1; omega
    rw [if_neg hn] at hr
    rw [hn0] at CN
    clear hn hn0
    by_cases h11 : T.kind = 11 ∨ T.kind = 12
    · rw [if_pos h11] at hr
      subst hr
      clear IK OK hl13 HCS HL
      rcases h11 with h11 | h11
      · skip
        rw [h11] at CN
        go_enter Try.func65, Try.ntmps65
        go_wp2_with fail
        go_at_call 84
        refine (CN.out _).mono ?_
        rintro e w2 ⟨rfl, hb2⟩
        have k0 := keepCell (a := ⟨w.heap.size, 0, none⟩) (v := .int .i64 T.kind) hb2 (by go_simp)
        have k1 := keepCell (a := ⟨w.heap.size, 1, none⟩) (v := .string T.name) hb2 (by go_simp)
        have k2 := keepCell (a := ⟨w.heap.size, 2, none⟩) (v := .slice A T.labels.length ca) hb2 (by go_simp)
        have k3 := keepCell (a := ⟨w.heap.size, 3, none⟩) (v := .slice B T.kids.length cb) hb2 (by go_simp)
        have HB2 := Lib.hid (bnext (below1 _ _) hb2)
        clear hb2
        go_wp2_with fail
        go_ret2
        exact ⟨rfl, HB2.out⟩
      · skip
        rw [h11] at CN
        go_enter Try.func65, Try.ntmps65
        go_wp2_with fail
        go_at_call 84
        refine (CN.out _).mono ?_
        rintro e w2 ⟨rfl, hb2⟩
        have k0 := keepCell (a := ⟨w.heap.size, 0, none⟩) (v := .int .i64 T.kind) hb2 (by go_simp)
        have k1 := keepCell (a := ⟨w.heap.size, 1, none⟩) (v := .string T.name) hb2 (by go_simp)
        have k2 := keepCell (a := ⟨w.heap.size, 2, none⟩) (v := .slice A T.labels.length ca) hb2 (by go_simp)
        have k3 := keepCell (a := ⟨w.heap.size, 3, none⟩) (v := .slice B T.kids.length cb) hb2 (by go_simp)
        have HB2 := Lib.hid (bnext (below1 _ _) hb2)
        clear hb2
        go_wp2_with fail
        go_ret2
        exact ⟨rfl, HB2.out⟩
    rw [if_neg h11] at hr
    have m1 : ¬ T.kind = 11 := fun h => h11 (Or.inl h)
    have m2 : ¬ T.kind = 12 := fun h => h11 (Or.inr h)
    clear h11
    by_cases h18 : T.kind = 18
    · rw [if_pos h18] at hr
      subst hr
      clear IK OK hl13 HCS HL
      rw [h18] at CN
      go_enter Try.func65, Try.ntmps65
      go_wp2_with fail
      go_at_call 84
      refine (CN.out _).mono ?_
      rintro e w2 ⟨rfl, hb2⟩
      have k0 := keepCell (a := ⟨w.heap.size, 0, none⟩) (v := .int .i64 T.kind) hb2 (by go_simp)
      have k1 := keepCell (a := ⟨w.heap.size, 1, none⟩) (v := .string T.name) hb2 (by go_simp)
      have k2 := keepCell (a := ⟨w.heap.size, 2, none⟩) (v := .slice A T.labels.length ca) hb2 (by go_simp)
      have k3 := keepCell (a := ⟨w.heap.size, 3, none⟩) (v := .slice B T.kids.length cb) hb2 (by go_simp)
      have HB2 := Lib.hid (bnext (below1 _ _) hb2)
      clear hb2
      go_wp2_with fail
      go_ret2
      exact ⟨rfl, HB2.out⟩
    rw [if_neg h18] at hr
    by_cases h19 : T.kind = 19
    · rw [if_pos h19] at hr
      clear IK OK hl13 HCS HL
      by_cases h8 : 8 < (T.labels.length : Int)
      · rw [if_pos h8] at hr
        subst hr
        rw [h19] at CN
        go_enter Try.func65, Try.ntmps65
        go_wp2_with fail
        go_at_call 84
        refine (CN.out _).mono ?_
        rintro e w2 ⟨rfl, hb2⟩
        have k0 := keepCell (a := ⟨w.heap.size, 0, none⟩) (v := .int .i64 T.kind) hb2 (by go_simp)
        have k1 := keepCell (a := ⟨w.heap.size, 1, none⟩) (v := .string T.name) hb2 (by go_simp)
        have k2 := keepCell (a := ⟨w.heap.size, 2, none⟩) (v := .slice A T.labels.length ca) hb2 (by go_simp)
        have k3 := keepCell (a := ⟨w.heap.size, 3, none⟩) (v := .slice B T.kids.length cb) hb2 (by go_simp)
        have HB2 := Lib.hid (bnext (below1 _ _) hb2)
        clear hb2
        go_wp2_with fail
        go_ret2
        exact ⟨rfl, HB2.out⟩
      · rw [if_neg h8] at hr
        subst hr
        rw [h19] at CN
        go_enter Try.func65, Try.ntmps65
        go_wp2_with fail
        go_at_call 84
        refine (CN.out _).mono ?_
        rintro e w2 ⟨rfl, hb2⟩
        have k0 := keepCell (a := ⟨w.heap.size, 0, none⟩) (v := .int .i64 T.kind) hb2 (by go_simp)
        have k1 := keepCell (a := ⟨w.heap.size, 1, none⟩) (v := .string T.name) hb2 (by go_simp)
        have k2 := keepCell (a := ⟨w.heap.size, 2, none⟩) (v := .slice A T.labels.length ca) hb2 (by go_simp)
        have k3 := keepCell (a := ⟨w.heap.size, 3, none⟩) (v := .slice B T.kids.length cb) hb2 (by go_simp)
        have HB2 := Lib.hid (bnext (below1 _ _) hb2)
        clear hb2
        go_wp2_with fail
        go_ret2
        exact ⟨rfl, HB2.out⟩
    rw [if_neg h19] at hr
    by_cases h15 : T.kind = 15 ∨ T.kind = 16
    · rw [if_pos h15] at hr
      have CP := Lib.hid (fun W (h : Ty.RowAt W lo T.kids B) => partsS_any T.kids lo IK OK q2 B cb W h)
      subst hr
      clear IK OK hl13 HCS HL
      rcases h15 with h15 | h15
      · skip
        rw [h15] at CN
        go_enter Try.func65, Try.ntmps65
        go_wp2_with fail
        go_at_call 84
        refine (CN.out _).mono ?_
        rintro e w2 ⟨rfl, hb2⟩
        have k0 := keepCell (a := ⟨w.heap.size, 0, none⟩) (v := .int .i64 T.kind) hb2 (by go_simp)
        have k1 := keepCell (a := ⟨w.heap.size, 1, none⟩) (v := .string T.name) hb2 (by go_simp)
        have k2 := keepCell (a := ⟨w.heap.size, 2, none⟩) (v := .slice A T.labels.length ca) hb2 (by go_simp)
        have k3 := keepCell (a := ⟨w.heap.size, 3, none⟩) (v := .slice B T.kids.length cb) hb2 (by go_simp)
        have HB2 := Lib.hid (bnext (below1 _ _) hb2)
        clear hb2
        go_wp2_with fail
        go_at_call 68
        refine (CP.out _ (HR.out.below (HB2.out))).mono ?_
        rintro e w3 ⟨R3, c3, rfl, _, hb3⟩
        have HB3 := Lib.hid (bnext (HB2.out) hb3)
        clear hb3
        go_wp2_with fail
        go_ret2
        exact ⟨rfl, HB3.out⟩
      · skip
        rw [h15] at CN
        go_enter Try.func65, Try.ntmps65
        go_wp2_with fail
        go_at_call 84
        refine (CN.out _).mono ?_
        rintro e w2 ⟨rfl, hb2⟩
        have k0 := keepCell (a := ⟨w.heap.size, 0, none⟩) (v := .int .i64 T.kind) hb2 (by go_simp)
        have k1 := keepCell (a := ⟨w.heap.size, 1, none⟩) (v := .string T.name) hb2 (by go_simp)
        have k2 := keepCell (a := ⟨w.heap.size, 2, none⟩) (v := .slice A T.labels.length ca) hb2 (by go_simp)
        have k3 := keepCell (a := ⟨w.heap.size, 3, none⟩) (v := .slice B T.kids.length cb) hb2 (by go_simp)
        have HB2 := Lib.hid (bnext (below1 _ _) hb2)
        clear hb2
        go_wp2_with fail
        go_at_call 68
        refine (CP.out _ (HR.out.below (HB2.out))).mono ?_
        rintro e w3 ⟨R3, c3, rfl, _, hb3⟩
        have HB3 := Lib.hid (bnext (HB2.out) hb3)
        clear hb3
        go_wp2_with fail
        go_ret2
        exact ⟨rfl, HB3.out⟩
    rw [if_neg h15] at hr
    have m3 : ¬ T.kind = 15 := fun h => h15 (Or.inl h)
    have m4 : ¬ T.kind = 16 := fun h => h15 (Or.inr h)
    clear h15
    by_cases h13 : T.kind = 13 ∨ T.kind = 14 ∨ T.kind = 17
    · rw [if_pos h13] at hr
      have hmi := Ty.layMost_in T.kids (fun i t _ => t.lay_in) 0 1 (by omega) (by omega) (by omega)
      obtain ⟨n0, n1, n2, n3⟩ := hmi
      have hsz : (Ty.sizes T.kids : Int) ≤ 24 := by
        have h1 := ho.1.2
        have h2 := T.size_eq
        omega
      have IC : ∀ (i : Nat) (t : Ty), T.cases[i]? = some t → LayS lo t ∧ LayOk t := fun i t ht => by
        unfold Ty.cases at ht
        by_cases e : T.kind = 13
        · rw [if_pos e] at ht
          cases i with
          | zero =>
            simp at ht
            subst ht
            refine ⟨unitS lo, ?_⟩
            unfold LayOk
            rw [unit_lay]
            dsimp only
            omega
          | succ i => exact ⟨IK i t (by simpa using ht), OK i t (by simpa using ht)⟩
        · rw [if_neg e, if_pos (by omega)] at ht
          exact ⟨IK i t ht, OK i t ht⟩
      have hcl : T.cases.length ≤ 1048576 := by
        unfold Ty.cases
        by_cases e1 : T.kind = 13
        · rw [if_pos e1, List.length_cons, hl13 e1]
          omega
        · rw [if_neg e1]
          by_cases e2 : T.kind = 14 ∨ T.kind = 17
          · rw [if_pos e2]
            exact q2
          · rw [if_neg e2]
            simp
      have CM := Lib.hid (fun R c W (h : Ty.RowAt W lo T.cases R) => mostS_any T.cases lo (fun i t ht => (IC i t ht).1) (fun i t ht => (IC i t ht).2) hcl R c W h)
      have HEC := most_cases h13
      unfold MostPost at CM
      rw [HEC] at CM
      subst hr
      clear IK OK hl13 HL IC HEC
      rcases h13 with h13 | h13 | h13
      · rw [h13] at HCS
        rw [h13] at CN
        go_enter Try.func65, Try.ntmps65
        go_wp2_with fail
        go_at_call 84
        refine (CN.out _).mono ?_
        rintro e w2 ⟨rfl, hb2⟩
        have k0 := keepCell (a := ⟨w.heap.size, 0, none⟩) (v := .int .i64 T.kind) hb2 (by go_simp)
        have k1 := keepCell (a := ⟨w.heap.size, 1, none⟩) (v := .string T.name) hb2 (by go_simp)
        have k2 := keepCell (a := ⟨w.heap.size, 2, none⟩) (v := .slice A T.labels.length ca) hb2 (by go_simp)
        have k3 := keepCell (a := ⟨w.heap.size, 3, none⟩) (v := .slice B T.kids.length cb) hb2 (by go_simp)
        have HB2 := Lib.hid (bnext (below1 _ _) hb2)
        clear hb2
        go_wp2_with fail
        go_at_call 71
        refine (HCS.out _ (HA.out.below (HB2.out))).mono ?_
        rintro e w3 ⟨R3, c3, rfl, hr3, hb3⟩
        have HB3 := Lib.hid (bnext (HB2.out) hb3)
        clear hb3
        go_wp2_with fail
        go_at_call 85
        refine (CM.out _ _ _ hr3).mono ?_
        rintro e w4 ⟨rfl, hb4⟩
        have HB4 := Lib.hid (bnext HB3.out hb4)
        clear hb4
        have u1 := up_le (x := 1) (by omega) n2
        have CU1 := Lib.hid (fun W => l10Up_any 1 (Ty.layMost 0 1 T.kids).2 (by omega) (by omega) n2 (by omega) W)
        have CU2 := Lib.hid (fun W => l10Up_any (up 1 (Ty.layMost 0 1 T.kids).2 + (Ty.layMost 0 1 T.kids).1) (Ty.layMost 0 1 T.kids).2 (by omega) (by omega) n2 (by omega) W)
        go_wp2_with fail
        go_at_call 86
        refine (CU1.out _).mono ?_
        rintro e w5 ⟨rfl, hb5⟩
        have HB5 := Lib.hid (bnext HB4.out hb5)
        clear hb5
        go_wp2_with fail
        go_at_call 86
        refine (CU2.out _).mono ?_
        rintro e w6 ⟨rfl, hb6⟩
        have HB6 := Lib.hid (bnext HB5.out hb6)
        clear hb6
        go_wp2_with fail
        go_ret2
        exact ⟨rfl, HB6.out⟩
      · rw [h13] at HCS
        rw [h13] at CN
        go_enter Try.func65, Try.ntmps65
        go_wp2_with fail
        go_at_call 84
        refine (CN.out _).mono ?_
        rintro e w2 ⟨rfl, hb2⟩
        have k0 := keepCell (a := ⟨w.heap.size, 0, none⟩) (v := .int .i64 T.kind) hb2 (by go_simp)
        have k1 := keepCell (a := ⟨w.heap.size, 1, none⟩) (v := .string T.name) hb2 (by go_simp)
        have k2 := keepCell (a := ⟨w.heap.size, 2, none⟩) (v := .slice A T.labels.length ca) hb2 (by go_simp)
        have k3 := keepCell (a := ⟨w.heap.size, 3, none⟩) (v := .slice B T.kids.length cb) hb2 (by go_simp)
        have HB2 := Lib.hid (bnext (below1 _ _) hb2)
        clear hb2
        go_wp2_with fail
        go_at_call 71
        refine (HCS.out _ (HA.out.below (HB2.out))).mono ?_
        rintro e w3 ⟨R3, c3, rfl, hr3, hb3⟩
        have HB3 := Lib.hid (bnext (HB2.out) hb3)
        clear hb3
        go_wp2_with fail
        go_at_call 85
        refine (CM.out _ _ _ hr3).mono ?_
        rintro e w4 ⟨rfl, hb4⟩
        have HB4 := Lib.hid (bnext HB3.out hb4)
        clear hb4
        have u1 := up_le (x := 1) (by omega) n2
        have CU1 := Lib.hid (fun W => l10Up_any 1 (Ty.layMost 0 1 T.kids).2 (by omega) (by omega) n2 (by omega) W)
        have CU2 := Lib.hid (fun W => l10Up_any (up 1 (Ty.layMost 0 1 T.kids).2 + (Ty.layMost 0 1 T.kids).1) (Ty.layMost 0 1 T.kids).2 (by omega) (by omega) n2 (by omega) W)
        go_wp2_with fail
        go_at_call 86
        refine (CU1.out _).mono ?_
        rintro e w5 ⟨rfl, hb5⟩
        have HB5 := Lib.hid (bnext HB4.out hb5)
        clear hb5
        go_wp2_with fail
        go_at_call 86
        refine (CU2.out _).mono ?_
        rintro e w6 ⟨rfl, hb6⟩
        have HB6 := Lib.hid (bnext HB5.out hb6)
        clear hb6
        go_wp2_with fail
        go_ret2
        exact ⟨rfl, HB6.out⟩
      · rw [h13] at HCS
        rw [h13] at CN
        go_enter Try.func65, Try.ntmps65
        go_wp2_with fail
        go_at_call 84
        refine (CN.out _).mono ?_
        rintro e w2 ⟨rfl, hb2⟩
        have k0 := keepCell (a := ⟨w.heap.size, 0, none⟩) (v := .int .i64 T.kind) hb2 (by go_simp)
        have k1 := keepCell (a := ⟨w.heap.size, 1, none⟩) (v := .string T.name) hb2 (by go_simp)
        have k2 := keepCell (a := ⟨w.heap.size, 2, none⟩) (v := .slice A T.labels.length ca) hb2 (by go_simp)
        have k3 := keepCell (a := ⟨w.heap.size, 3, none⟩) (v := .slice B T.kids.length cb) hb2 (by go_simp)
        have HB2 := Lib.hid (bnext (below1 _ _) hb2)
        clear hb2
        go_wp2_with fail
        go_at_call 71
        refine (HCS.out _ (HA.out.below (HB2.out))).mono ?_
        rintro e w3 ⟨R3, c3, rfl, hr3, hb3⟩
        have HB3 := Lib.hid (bnext (HB2.out) hb3)
        clear hb3
        go_wp2_with fail
        go_at_call 85
        refine (CM.out _ _ _ hr3).mono ?_
        rintro e w4 ⟨rfl, hb4⟩
        have HB4 := Lib.hid (bnext HB3.out hb4)
        clear hb4
        have u1 := up_le (x := 1) (by omega) n2
        have CU1 := Lib.hid (fun W => l10Up_any 1 (Ty.layMost 0 1 T.kids).2 (by omega) (by omega) n2 (by omega) W)
        have CU2 := Lib.hid (fun W => l10Up_any (up 1 (Ty.layMost 0 1 T.kids).2 + (Ty.layMost 0 1 T.kids).1) (Ty.layMost 0 1 T.kids).2 (by omega) (by omega) n2 (by omega) W)
        go_wp2_with fail
        go_at_call 86
        refine (CU1.out _).mono ?_
        rintro e w5 ⟨rfl, hb5⟩
        have HB5 := Lib.hid (bnext HB4.out hb5)
        clear hb5
        go_wp2_with fail
        go_at_call 86
        refine (CU2.out _).mono ?_
        rintro e w6 ⟨rfl, hb6⟩
        have HB6 := Lib.hid (bnext HB5.out hb6)
        clear hb6
        go_wp2_with fail
        go_ret2
        exact ⟨rfl, HB6.out⟩
    rw [if_neg h13] at hr
    have m5 : ¬ T.kind = 13 := fun h => h13 (Or.inl h)
    have m6 : ¬ T.kind = 14 := fun h => h13 (Or.inr (Or.inl h))
    have m7 : ¬ T.kind = 17 := fun h => h13 (Or.inr (Or.inr h))
    clear h13
    subst hr
    clear IK OK hl13 HCS
    go_enter Try.func65, Try.ntmps65
    go_wp2_with fail
    go_at_call 84
    refine (CN.out _).mono ?_
    rintro e w2 ⟨rfl, hb2⟩
    have k0 := keepCell (a := ⟨w.heap.size, 0, none⟩) (v := .int .i64 T.kind) hb2 (by go_simp)
    have k1 := keepCell (a := ⟨w.heap.size, 1, none⟩) (v := .string T.name) hb2 (by go_simp)
    have k2 := keepCell (a := ⟨w.heap.size, 2, none⟩) (v := .slice A T.labels.length ca) hb2 (by go_simp)
    have k3 := keepCell (a := ⟨w.heap.size, 3, none⟩) (v := .slice B T.kids.length cb) hb2 (by go_simp)
    have HB2 := Lib.hid (bnext (below1 _ _) hb2)
    clear hb2
    go_wp2_with fail
    go_ret2
    exact ⟨rfl, HB2.out⟩
end Go.Proofs.Ytlmmbheamicdaaa
