/-
  The walks of the model's l08Why at streams and futures.
-/
import Derived.Test.YtifchfecfkdjlaaGreatDoorWhSW
import Derived.Test.YtifchfecfkdjlaaGreatDoorMO
namespace Go.Proofs.YtifchfecfkdjlaaGreatDoor
open Go.ChangeShapes Go.WideShapes Go.ChangeAt Go.RowKit Go.Deep

set_option maxHeartbeats 8000000 in
set_option maxRecDepth 100000 in
theorem why_stream22 (n : Nat) (hn : n ≤ 3) (a b : Ty) (ga : Gd (n + 1) a) (gb : Gd (n + 1) b) (hna : numK a.kind = false) (hk : a.kind = b.kind) (hka : a.kind = 22) (A B A' B' : Option Addr) (ca cb ca' cb' : Nat) (lo lo' : Nat) (pt : ByteArray) (w : World) (hat : Ty.At w lo a A B) (hbt : Ty.At w lo' b A' B') :
    Calls Tryz.prog 31 #[.agg #[.int .i64 a.kind, .string a.name, .slice A a.labels.length ca, .slice B a.kids.length cb], .agg #[.int .i64 b.kind, .string b.name, .slice A' b.labels.length ca', .slice B' b.kids.length cb'], .string pt] w (RsnS (if Ty.eqsB a.kids b.kids = true then none else some (3, sE)) pt w) := by
  have la := ga.shape.one (by omega)
  have lb := gb.shape.one (by omega)
  obtain ⟨x, hx⟩ : ∃ x, a.kids = [x] := List.length_eq_one_iff.mp la
  obtain ⟨y, hy⟩ : ∃ y, b.kids = [y] := List.length_eq_one_iff.mp lb
  have qa_ : 0 < a.kids.length := by omega
  have qb_ : 0 < b.kids.length := by omega
  obtain ⟨b1, o1, x', A1, B1, c1, d1, rfl, _, hx', hc⟩ := hat.rowAt.at_ (k := 0) qa_
  obtain ⟨b2, o2, y', A2, B2, c2, d2, rfl, _, hy', hd⟩ := hbt.rowAt.at_ (k := 0) qb_
  rw [hx] at hx'
  rw [hy] at hy'
  obtain rfl : x = x' := by simpa using hx'
  obtain rfl : y = y' := by simpa using hy'
  have gx := ga.kid (i := 0) (t := x) (by rw [hx]; rfl)
  have gy := gb.kid (i := 0) (t := y) (by rw [hy]; rfl)
  obtain ⟨v, hv⟩ := dec_valW (SameOk x y 1)
  have CS := Lib.hid (fun W h1 h2 => (specSameType_any x y gx.1 gy.1 A1 B1 A2 B2 c1 d1 c2 d2 lo lo' W h1 h2).mono fun _ _ j => says_valW j hv)
  have HV : (if Ty.eqsB a.kids b.kids = true then none else some (3, sE)) = (if v = true then none else some ((3 : Int), sE)) := by
    have h1 : Ty.eqsB a.kids b.kids = true ↔ v = true := by
      rw [Ty.eqsB_iff, hx, hy, hv]
      unfold SameOk
      constructor
      · intro h
        injection h with h
        exact ⟨h, by have := gx.2.2.1; omega⟩
      · rintro ⟨h, _⟩
        rw [h]
    by_cases h : v = true
    · rw [if_pos h, if_pos (h1.mpr h)]
    · rw [if_neg h, if_neg (fun h2 => h (h1.mp h2))]
  rw [HV]
  obtain ⟨R, hR⟩ : ∃ R, (if v = true then none else some ((3 : Int), sE)) = R := ⟨_, rfl⟩
  rw [hR]
  have HR := Lib.hid hR
  have HX := Lib.hid hc.tree
  have HY := Lib.hid hd.tree
  have l1 : b1 < w.heap.size := World.block_lt_of_cell? w _ hc.kind
  have l2 : b2 < w.heap.size := World.block_lt_of_cell? w _ hd.kind
  obtain ⟨c0, c1h, c2h, c3, _⟩ := hc
  obtain ⟨e0, e1, e2, e3, _⟩ := hd
  simp only [Nat.zero_mul, Nat.add_zero] at c0 c1h c2h c3 e0 e1 e2 e3
  have HE : Hid (pt ++ sE = pt) := Lib.hid ByteArray.append_empty
  have CN := (fun W => number_any a.kind W)
  rw [hna] at CN
  have CN := Lib.hid CN
  have x1 : (a.kind == b.kind) = true := by rw [beq_iff_eq]; exact hk
  have x2 : (a.kind != b.kind) = false := by rw [bne_eq_false_iff_eq]; exact hk
  have e12 : (a.kind == 12) = false := by rw [beq_eq_false_iff_ne]; omega
  have e13 : (a.kind == 13) = false := by rw [beq_eq_false_iff_ne]; omega
  have e14 : (a.kind == 14) = false := by rw [beq_eq_false_iff_ne]; omega
  have e15 : (a.kind == 15) = false := by rw [beq_eq_false_iff_ne]; omega
  have e16 : (a.kind == 16) = false := by rw [beq_eq_false_iff_ne]; omega
  have e17 : (a.kind == 17) = false := by rw [beq_eq_false_iff_ne]; omega
  have e18 : (a.kind == 18) = false := by rw [beq_eq_false_iff_ne]; omega
  have e19 : (a.kind == 19) = false := by rw [beq_eq_false_iff_ne]; omega
  have e20 : (a.kind == 20) = false := by rw [beq_eq_false_iff_ne]; omega
  have e21 : (a.kind == 21) = false := by rw [beq_eq_false_iff_ne]; omega
  have e22 : (a.kind == 22) = true := by rw [beq_iff_eq]; omega
  clear ga gb gx gy hx hy hx' hy' hat hbt hv hn hka HV hR la lb hna hk
  go_enter Tryz.func31, Tryz.ntmps31
  go_wp2_with (first | (go_at_call 42; (with_reducible refine (CN.out _).mono ?_); rintro e w2 ⟨rfl, rfl⟩))
  obtain ⟨W, hW, hb, a0_, a1_, a2_, a3_, b0_, b1_, b2_, b3_, r0, r1, rf0, rf1⟩ : ∃ W, (((w.alloc (.cells #[.int .i64 a.kind, .string a.name, .slice A a.labels.length ca, .slice (some ⟨b1, o1, none⟩) a.kids.length cb] 30)).alloc (.cells #[.int .i64 b.kind, .string b.name, .slice A' b.labels.length ca', .slice (some ⟨b2, o2, none⟩) b.kids.length cb'] 30)).alloc (.cells #[.int .i64 0, .string ⟨#[]⟩] 34)) = W ∧ Below w.heap.size w W ∧ W.cell? ⟨w.heap.size, 0, none⟩ = some (.int .i64 a.kind) ∧ W.cell? ⟨w.heap.size, 1, none⟩ = some (.string a.name) ∧ W.cell? ⟨w.heap.size, 2, none⟩ = some (.slice A a.labels.length ca) ∧ W.cell? ⟨w.heap.size, 3, none⟩ = some (.slice (some ⟨b1, o1, none⟩) a.kids.length cb) ∧ W.cell? ⟨w.heap.size + 1, 0, none⟩ = some (.int .i64 b.kind) ∧ W.cell? ⟨w.heap.size + 1, 1, none⟩ = some (.string b.name) ∧ W.cell? ⟨w.heap.size + 1, 2, none⟩ = some (.slice A' b.labels.length ca') ∧ W.cell? ⟨w.heap.size + 1, 3, none⟩ = some (.slice (some ⟨b2, o2, none⟩) b.kids.length cb') ∧ W.cell? ⟨w.heap.size + 1 + 1, 0, none⟩ = some (.int .i64 0) ∧ W.cell? ⟨w.heap.size + 1 + 1, 1, none⟩ = some (.string ⟨#[]⟩) ∧ W.frozen? ⟨w.heap.size + 1 + 1, 0, none⟩ = false ∧ W.frozen? ⟨w.heap.size + 1 + 1, 1, none⟩ = false := ⟨_, rfl, below3 _ _ _ _, by go_simp, by go_simp, by go_simp, by go_simp, by go_simp, by go_simp, by go_simp, by go_simp, by go_simp, by go_simp, by go_simp, by go_simp⟩
  rw [hW]
  have hz : w.heap.size + 1 + 1 < W.heap.size := World.block_lt_of_cell? W _ r0
  replace c0 := keepCell hb c0; replace c1h := keepCell hb c1h; replace c2h := keepCell hb c2h; replace c3 := keepCell hb c3; replace e0 := keepCell hb e0; replace e1 := keepCell hb e1; replace e2 := keepCell hb e2; replace e3 := keepCell hb e3
  replace HX := Lib.hid (HX.out.below hb)
  replace HY := Lib.hid (HY.out.below hb)
  have HB := Lib.hid hb
  clear hW hb
  go_region_held3 (fun w' => w'.cell? ⟨w.heap.size, 3, none⟩ = some (.slice (some ⟨b1, o1, none⟩) a.kids.length cb) ∧ w'.cell? ⟨w.heap.size + 1, 3, none⟩ = some (.slice (some ⟨b2, o2, none⟩) b.kids.length cb') ∧ w'.cell? ⟨b1, o1, none⟩ = some (.int .i64 x.kind) ∧ w'.cell? ⟨b1, o1 + 1, none⟩ = some (.string x.name) ∧ w'.cell? ⟨b1, o1 + 2, none⟩ = some (.slice A1 x.labels.length c1) ∧ w'.cell? ⟨b1, o1 + 3, none⟩ = some (.slice B1 x.kids.length d1) ∧ w'.cell? ⟨b2, o2, none⟩ = some (.int .i64 y.kind) ∧ w'.cell? ⟨b2, o2 + 1, none⟩ = some (.string y.name) ∧ w'.cell? ⟨b2, o2 + 2, none⟩ = some (.slice A2 y.labels.length c2) ∧ w'.cell? ⟨b2, o2 + 3, none⟩ = some (.slice B2 y.kids.length d2))
    (first | assumption | (with_reducible exact ⟨a3_, b3_, c0, c1h, c2h, c3, e0, e1, e2, e3⟩) | (refine ⟨?_, ?_, ?_, ?_, ?_, ?_, ?_, ?_, ?_, ?_⟩ <;> assumption))
    (first | (go_at_call 49; refine (CS.out _ (HX.out.below (Below.refl _ _).drew) (HY.out.below (Below.refl _ _).drew)).mono ?_; rintro e w4 ⟨rfl, hb4⟩; have hbw : Below W.heap.size W w4 := (Below.refl W.heap.size W).drew.trans hb4; have ua3_ := keepCell hbw a3_; have ub3_ := keepCell hbw b3_; have uc0 := keepCell hbw c0; have uc1h := keepCell hbw c1h; have uc2h := keepCell hbw c2h; have uc3 := keepCell hbw c3; have ue0 := keepCell hbw e0; have ue1 := keepCell hbw e1; have ue2 := keepCell hbw e2; have ue3 := keepCell hbw e3; have ua0_ := keepCell hbw a0_; have ua1_ := keepCell hbw a1_; have ua2_ := keepCell hbw a2_; have ub0_ := keepCell hbw b0_; have ub1_ := keepCell hbw b1_; have ub2_ := keepCell hbw b2_; have ur0 := keepCell hbw r0; have ur1 := keepCell hbw r1; have urf0 : w4.frozen? ⟨w.heap.size + 1 + 1, 0, none⟩ = false := ((bcell hbw).2 _ _ hz).trans rf0; have urf1 : w4.frozen? ⟨w.heap.size + 1 + 1, 1, none⟩ = false := ((bcell hbw).2 _ _ hz).trans rf1))
  have hz4 : w.heap.size + 1 + 1 < w4.heap.size := World.block_lt_of_cell? w4 _ ur0
  have HB4 := Lib.hid (bnext HB.out hbw)
  clear hbw hb4 CS
  cases v with
  | true =>
    go_wp2_with fail
    exact bodyPost_ret (v := .tuple #[.agg #[.int .i64 0, .string ⟨#[]⟩], .bool false]) (by simp [results, Tryz.results31, go_sem, ur0, ur1]) rfl ⟨by rw [← HR.out]; rfl, by (first | (with_reducible exact HB4.out) | ((with_reducible refine Below.setCell (HB4.out) ?_ _) <;> (first | exact Nat.le_refl _ | exact Nat.le_add_right _ _ | (dsimp only; omega) | (simp; omega))) | ((with_reducible refine Below.setCell (Below.setCell (HB4.out) ?_ _) ?_ _) <;> (first | exact Nat.le_refl _ | exact Nat.le_add_right _ _ | (dsimp only; omega) | (simp; omega))) | ((with_reducible refine Below.setCell (Below.setCell (Below.setCell (HB4.out) ?_ _) ?_ _) ?_ _) <;> (first | exact Nat.le_refl _ | exact Nat.le_add_right _ _ | (dsimp only; omega) | (simp; omega))))⟩
  | false =>
    go_wp2_with fail
    go_at_call 44
    refine (no_any _ _ _).mono ?_
    rintro e w5 ⟨rfl, hb5⟩
    have vr0 := keepCell hb5 ur0
    have vr1 := keepCell hb5 ur1
    have vf0 : w5.frozen? ⟨w.heap.size + 1 + 1, 0, none⟩ = false := ((bcell hb5).2 _ _ hz4).trans urf0
    have vf1 : w5.frozen? ⟨w.heap.size + 1 + 1, 1, none⟩ = false := ((bcell hb5).2 _ _ hz4).trans urf1
    have HB5 := Lib.hid (bnext HB4.out hb5)
    clear hb5
    go_wp2_with fail
    exact bodyPost_ret (v := .tuple #[.agg #[.int .i64 3, .string pt], .bool true]) (by simp [results, Tryz.results31, go_sem, vr0, vr1]) rfl ⟨by rw [← HR.out]; show _ = Ending.returned (.tuple #[.agg #[.int .i64 3, .string (pt ++ sE)], .bool true]); rw [HE.out], by (first | (with_reducible exact HB5.out) | ((with_reducible refine Below.setCell (HB5.out) ?_ _) <;> (first | exact Nat.le_refl _ | exact Nat.le_add_right _ _ | (dsimp only; omega) | (simp; omega))) | ((with_reducible refine Below.setCell (Below.setCell (HB5.out) ?_ _) ?_ _) <;> (first | exact Nat.le_refl _ | exact Nat.le_add_right _ _ | (dsimp only; omega) | (simp; omega))) | ((with_reducible refine Below.setCell (Below.setCell (Below.setCell (HB5.out) ?_ _) ?_ _) ?_ _) <;> (first | exact Nat.le_refl _ | exact Nat.le_add_right _ _ | (dsimp only; omega) | (simp; omega))))⟩

set_option maxHeartbeats 8000000 in
set_option maxRecDepth 100000 in
theorem why_stream23 (n : Nat) (hn : n ≤ 3) (a b : Ty) (ga : Gd (n + 1) a) (gb : Gd (n + 1) b) (hna : numK a.kind = false) (hk : a.kind = b.kind) (hka : a.kind = 23) (A B A' B' : Option Addr) (ca cb ca' cb' : Nat) (lo lo' : Nat) (pt : ByteArray) (w : World) (hat : Ty.At w lo a A B) (hbt : Ty.At w lo' b A' B') :
    Calls Tryz.prog 31 #[.agg #[.int .i64 a.kind, .string a.name, .slice A a.labels.length ca, .slice B a.kids.length cb], .agg #[.int .i64 b.kind, .string b.name, .slice A' b.labels.length ca', .slice B' b.kids.length cb'], .string pt] w (RsnS (if Ty.eqsB a.kids b.kids = true then none else some (3, sE)) pt w) := by
  have la := ga.shape.one (by omega)
  have lb := gb.shape.one (by omega)
  obtain ⟨x, hx⟩ : ∃ x, a.kids = [x] := List.length_eq_one_iff.mp la
  obtain ⟨y, hy⟩ : ∃ y, b.kids = [y] := List.length_eq_one_iff.mp lb
  have qa_ : 0 < a.kids.length := by omega
  have qb_ : 0 < b.kids.length := by omega
  obtain ⟨b1, o1, x', A1, B1, c1, d1, rfl, _, hx', hc⟩ := hat.rowAt.at_ (k := 0) qa_
  obtain ⟨b2, o2, y', A2, B2, c2, d2, rfl, _, hy', hd⟩ := hbt.rowAt.at_ (k := 0) qb_
  rw [hx] at hx'
  rw [hy] at hy'
  obtain rfl : x = x' := by simpa using hx'
  obtain rfl : y = y' := by simpa using hy'
  have gx := ga.kid (i := 0) (t := x) (by rw [hx]; rfl)
  have gy := gb.kid (i := 0) (t := y) (by rw [hy]; rfl)
  obtain ⟨v, hv⟩ := dec_valW (SameOk x y 1)
  have CS := Lib.hid (fun W h1 h2 => (specSameType_any x y gx.1 gy.1 A1 B1 A2 B2 c1 d1 c2 d2 lo lo' W h1 h2).mono fun _ _ j => says_valW j hv)
  have HV : (if Ty.eqsB a.kids b.kids = true then none else some (3, sE)) = (if v = true then none else some ((3 : Int), sE)) := by
    have h1 : Ty.eqsB a.kids b.kids = true ↔ v = true := by
      rw [Ty.eqsB_iff, hx, hy, hv]
      unfold SameOk
      constructor
      · intro h
        injection h with h
        exact ⟨h, by have := gx.2.2.1; omega⟩
      · rintro ⟨h, _⟩
        rw [h]
    by_cases h : v = true
    · rw [if_pos h, if_pos (h1.mpr h)]
    · rw [if_neg h, if_neg (fun h2 => h (h1.mp h2))]
  rw [HV]
  obtain ⟨R, hR⟩ : ∃ R, (if v = true then none else some ((3 : Int), sE)) = R := ⟨_, rfl⟩
  rw [hR]
  have HR := Lib.hid hR
  have HX := Lib.hid hc.tree
  have HY := Lib.hid hd.tree
  have l1 : b1 < w.heap.size := World.block_lt_of_cell? w _ hc.kind
  have l2 : b2 < w.heap.size := World.block_lt_of_cell? w _ hd.kind
  obtain ⟨c0, c1h, c2h, c3, _⟩ := hc
  obtain ⟨e0, e1, e2, e3, _⟩ := hd
  simp only [Nat.zero_mul, Nat.add_zero] at c0 c1h c2h c3 e0 e1 e2 e3
  have HE : Hid (pt ++ sE = pt) := Lib.hid ByteArray.append_empty
  have CN := (fun W => number_any a.kind W)
  rw [hna] at CN
  have CN := Lib.hid CN
  have x1 : (a.kind == b.kind) = true := by rw [beq_iff_eq]; exact hk
  have x2 : (a.kind != b.kind) = false := by rw [bne_eq_false_iff_eq]; exact hk
  have e12 : (a.kind == 12) = false := by rw [beq_eq_false_iff_ne]; omega
  have e13 : (a.kind == 13) = false := by rw [beq_eq_false_iff_ne]; omega
  have e14 : (a.kind == 14) = false := by rw [beq_eq_false_iff_ne]; omega
  have e15 : (a.kind == 15) = false := by rw [beq_eq_false_iff_ne]; omega
  have e16 : (a.kind == 16) = false := by rw [beq_eq_false_iff_ne]; omega
  have e17 : (a.kind == 17) = false := by rw [beq_eq_false_iff_ne]; omega
  have e18 : (a.kind == 18) = false := by rw [beq_eq_false_iff_ne]; omega
  have e19 : (a.kind == 19) = false := by rw [beq_eq_false_iff_ne]; omega
  have e20 : (a.kind == 20) = false := by rw [beq_eq_false_iff_ne]; omega
  have e21 : (a.kind == 21) = false := by rw [beq_eq_false_iff_ne]; omega
  have e22 : (a.kind == 22) = false := by rw [beq_eq_false_iff_ne]; omega
  have e23 : (a.kind == 23) = true := by rw [beq_iff_eq]; omega
  clear ga gb gx gy hx hy hx' hy' hat hbt hv hn hka HV hR la lb hna hk
  go_enter Tryz.func31, Tryz.ntmps31
  go_wp2_with (first | (go_at_call 42; (with_reducible refine (CN.out _).mono ?_); rintro e w2 ⟨rfl, rfl⟩))
  obtain ⟨W, hW, hb, a0_, a1_, a2_, a3_, b0_, b1_, b2_, b3_, r0, r1, rf0, rf1⟩ : ∃ W, (((w.alloc (.cells #[.int .i64 a.kind, .string a.name, .slice A a.labels.length ca, .slice (some ⟨b1, o1, none⟩) a.kids.length cb] 30)).alloc (.cells #[.int .i64 b.kind, .string b.name, .slice A' b.labels.length ca', .slice (some ⟨b2, o2, none⟩) b.kids.length cb'] 30)).alloc (.cells #[.int .i64 0, .string ⟨#[]⟩] 34)) = W ∧ Below w.heap.size w W ∧ W.cell? ⟨w.heap.size, 0, none⟩ = some (.int .i64 a.kind) ∧ W.cell? ⟨w.heap.size, 1, none⟩ = some (.string a.name) ∧ W.cell? ⟨w.heap.size, 2, none⟩ = some (.slice A a.labels.length ca) ∧ W.cell? ⟨w.heap.size, 3, none⟩ = some (.slice (some ⟨b1, o1, none⟩) a.kids.length cb) ∧ W.cell? ⟨w.heap.size + 1, 0, none⟩ = some (.int .i64 b.kind) ∧ W.cell? ⟨w.heap.size + 1, 1, none⟩ = some (.string b.name) ∧ W.cell? ⟨w.heap.size + 1, 2, none⟩ = some (.slice A' b.labels.length ca') ∧ W.cell? ⟨w.heap.size + 1, 3, none⟩ = some (.slice (some ⟨b2, o2, none⟩) b.kids.length cb') ∧ W.cell? ⟨w.heap.size + 1 + 1, 0, none⟩ = some (.int .i64 0) ∧ W.cell? ⟨w.heap.size + 1 + 1, 1, none⟩ = some (.string ⟨#[]⟩) ∧ W.frozen? ⟨w.heap.size + 1 + 1, 0, none⟩ = false ∧ W.frozen? ⟨w.heap.size + 1 + 1, 1, none⟩ = false := ⟨_, rfl, below3 _ _ _ _, by go_simp, by go_simp, by go_simp, by go_simp, by go_simp, by go_simp, by go_simp, by go_simp, by go_simp, by go_simp, by go_simp, by go_simp⟩
  rw [hW]
  have hz : w.heap.size + 1 + 1 < W.heap.size := World.block_lt_of_cell? W _ r0
  replace c0 := keepCell hb c0; replace c1h := keepCell hb c1h; replace c2h := keepCell hb c2h; replace c3 := keepCell hb c3; replace e0 := keepCell hb e0; replace e1 := keepCell hb e1; replace e2 := keepCell hb e2; replace e3 := keepCell hb e3
  replace HX := Lib.hid (HX.out.below hb)
  replace HY := Lib.hid (HY.out.below hb)
  have HB := Lib.hid hb
  clear hW hb
  go_region_held3 (fun w' => w'.cell? ⟨w.heap.size, 3, none⟩ = some (.slice (some ⟨b1, o1, none⟩) a.kids.length cb) ∧ w'.cell? ⟨w.heap.size + 1, 3, none⟩ = some (.slice (some ⟨b2, o2, none⟩) b.kids.length cb') ∧ w'.cell? ⟨b1, o1, none⟩ = some (.int .i64 x.kind) ∧ w'.cell? ⟨b1, o1 + 1, none⟩ = some (.string x.name) ∧ w'.cell? ⟨b1, o1 + 2, none⟩ = some (.slice A1 x.labels.length c1) ∧ w'.cell? ⟨b1, o1 + 3, none⟩ = some (.slice B1 x.kids.length d1) ∧ w'.cell? ⟨b2, o2, none⟩ = some (.int .i64 y.kind) ∧ w'.cell? ⟨b2, o2 + 1, none⟩ = some (.string y.name) ∧ w'.cell? ⟨b2, o2 + 2, none⟩ = some (.slice A2 y.labels.length c2) ∧ w'.cell? ⟨b2, o2 + 3, none⟩ = some (.slice B2 y.kids.length d2))
    (first | assumption | (with_reducible exact ⟨a3_, b3_, c0, c1h, c2h, c3, e0, e1, e2, e3⟩) | (refine ⟨?_, ?_, ?_, ?_, ?_, ?_, ?_, ?_, ?_, ?_⟩ <;> assumption))
    (first | (go_at_call 49; refine (CS.out _ (HX.out.below (Below.refl _ _).drew) (HY.out.below (Below.refl _ _).drew)).mono ?_; rintro e w4 ⟨rfl, hb4⟩; have hbw : Below W.heap.size W w4 := (Below.refl W.heap.size W).drew.trans hb4; have ua3_ := keepCell hbw a3_; have ub3_ := keepCell hbw b3_; have uc0 := keepCell hbw c0; have uc1h := keepCell hbw c1h; have uc2h := keepCell hbw c2h; have uc3 := keepCell hbw c3; have ue0 := keepCell hbw e0; have ue1 := keepCell hbw e1; have ue2 := keepCell hbw e2; have ue3 := keepCell hbw e3; have ua0_ := keepCell hbw a0_; have ua1_ := keepCell hbw a1_; have ua2_ := keepCell hbw a2_; have ub0_ := keepCell hbw b0_; have ub1_ := keepCell hbw b1_; have ub2_ := keepCell hbw b2_; have ur0 := keepCell hbw r0; have ur1 := keepCell hbw r1; have urf0 : w4.frozen? ⟨w.heap.size + 1 + 1, 0, none⟩ = false := ((bcell hbw).2 _ _ hz).trans rf0; have urf1 : w4.frozen? ⟨w.heap.size + 1 + 1, 1, none⟩ = false := ((bcell hbw).2 _ _ hz).trans rf1))
  have hz4 : w.heap.size + 1 + 1 < w4.heap.size := World.block_lt_of_cell? w4 _ ur0
  have HB4 := Lib.hid (bnext HB.out hbw)
  clear hbw hb4 CS
  cases v with
  | true =>
    go_wp2_with fail
    exact bodyPost_ret (v := .tuple #[.agg #[.int .i64 0, .string ⟨#[]⟩], .bool false]) (by simp [results, Tryz.results31, go_sem, ur0, ur1]) rfl ⟨by rw [← HR.out]; rfl, by (first | (with_reducible exact HB4.out) | ((with_reducible refine Below.setCell (HB4.out) ?_ _) <;> (first | exact Nat.le_refl _ | exact Nat.le_add_right _ _ | (dsimp only; omega) | (simp; omega))) | ((with_reducible refine Below.setCell (Below.setCell (HB4.out) ?_ _) ?_ _) <;> (first | exact Nat.le_refl _ | exact Nat.le_add_right _ _ | (dsimp only; omega) | (simp; omega))) | ((with_reducible refine Below.setCell (Below.setCell (Below.setCell (HB4.out) ?_ _) ?_ _) ?_ _) <;> (first | exact Nat.le_refl _ | exact Nat.le_add_right _ _ | (dsimp only; omega) | (simp; omega))))⟩
  | false =>
    go_wp2_with fail
    go_at_call 44
    refine (no_any _ _ _).mono ?_
    rintro e w5 ⟨rfl, hb5⟩
    have vr0 := keepCell hb5 ur0
    have vr1 := keepCell hb5 ur1
    have vf0 : w5.frozen? ⟨w.heap.size + 1 + 1, 0, none⟩ = false := ((bcell hb5).2 _ _ hz4).trans urf0
    have vf1 : w5.frozen? ⟨w.heap.size + 1 + 1, 1, none⟩ = false := ((bcell hb5).2 _ _ hz4).trans urf1
    have HB5 := Lib.hid (bnext HB4.out hb5)
    clear hb5
    go_wp2_with fail
    exact bodyPost_ret (v := .tuple #[.agg #[.int .i64 3, .string pt], .bool true]) (by simp [results, Tryz.results31, go_sem, vr0, vr1]) rfl ⟨by rw [← HR.out]; show _ = Ending.returned (.tuple #[.agg #[.int .i64 3, .string (pt ++ sE)], .bool true]); rw [HE.out], by (first | (with_reducible exact HB5.out) | ((with_reducible refine Below.setCell (HB5.out) ?_ _) <;> (first | exact Nat.le_refl _ | exact Nat.le_add_right _ _ | (dsimp only; omega) | (simp; omega))) | ((with_reducible refine Below.setCell (Below.setCell (HB5.out) ?_ _) ?_ _) <;> (first | exact Nat.le_refl _ | exact Nat.le_add_right _ _ | (dsimp only; omega) | (simp; omega))) | ((with_reducible refine Below.setCell (Below.setCell (Below.setCell (HB5.out) ?_ _) ?_ _) ?_ _) <;> (first | exact Nat.le_refl _ | exact Nat.le_add_right _ _ | (dsimp only; omega) | (simp; omega))))⟩

end Go.Proofs.YtifchfecfkdjlaaGreatDoor
