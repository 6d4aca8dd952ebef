/-
  WhyA, WhSZ, WhSA, WhN1, WhN3, RTab4: in one text.
-/
import Derived.Test.YtifchfecfkdjlaaGreatDoorMWyA
import Derived.Test.YtifchfecfkdjlaaGreatDoorMWyB
import Derived.Test.YtifchfecfkdjlaaGreatDoorWhSW
import Derived.Test.YtifchfecfkdjlaaGreatDoorWhSU
import Derived.Test.YtifchfecfkdjlaaGreatDoorWhSY
import Derived.Test.YtifchfecfkdjlaaGreatDoorWhSE
import Derived.Test.YtifchfecfkdjlaaGreatDoorWhSR
import Derived.Test.YtifchfecfkdjlaaGreatDoorWhSV
import Derived.Test.YtifchfecfkdjlaaGreatDoorWhST
import Derived.Test.YtifchfecfkdjlaaGreatDoorMTyB
import Derived.Test.YtifchfecfkdjlaaGreatDoorNumR
namespace Go.Proofs.YtifchfecfkdjlaaGreatDoor
open Go.ChangeShapes Go.WideShapes Go.ChangeAt Go.RowKit Go.Deep

theorem numIn_iff {a b : Int} : numIn a b = true ↔ (nrV b).1 ≤ (nrV a).1 ∧ (nrV a).2.1 ≤ (nrV b).2.1 := by
  unfold numIn
  simp
theorem typeReason_step (n : Nat) (hn : n ≤ 3) (IH : TyR n) : TyR (n + 1) := by
  intro a b ga gb A B A' B' ca cb ca' cb' w hat hbt ht
  rw [Ty.why]
  by_cases hab : numK a.kind = true ∧ numK b.kind = true
  · rw [if_pos hab]
    by_cases h1 : (nrV b.kind).1 ≤ (nrV a.kind).1
    · by_cases h2 : (nrV a.kind).2.1 ≤ (nrV b.kind).2.1
      · rw [if_pos (numIn_iff.mpr ⟨h1, h2⟩)]
        exact tr_num_yes a b hab.1 hab.2 h1 h2 A B A' B' ca cb ca' cb' w ht
      · rw [if_neg (fun h => h2 (numIn_iff.mp h).2)]
        exact tr_num_hi a b hab.1 hab.2 h1 h2 A B A' B' ca cb ca' cb' w ht
    · rw [if_neg (fun h => h1 (numIn_iff.mp h).1)]
      exact tr_num_lo a b hab.1 hab.2 h1 A B A' B' ca cb ca' cb' w ht
  rw [if_neg hab]
  by_cases hk : a.kind = b.kind
  · rw [if_pos hk]
    have hna : numK a.kind = false := by
      cases h : numK a.kind
      · rfl
      · exact absurd ⟨h, hk ▸ h⟩ hab
    have kp : ∀ W, Below w.heap.size w W → Ty.Pl W 0 a A B ∧ Ty.Pl W 0 b A' B' ∧ RTable W := fun W hW => ⟨hat.keep (Kp.below hW).1, hbt.keep (Kp.below hW).1, ht.keep hW⟩
    unfold whyB
    by_cases h12 : b.kind = 12
    · rw [if_pos h12]
      exact tr_elements a b _ hna hk A B A' B' ca cb ca' cb' w ht (fun W => check_12 a b h12 A B A' B' ca cb ca' cb' W) (fun W hW => elements_any n hn IH a b ga gb (hk.trans h12) h12 A B A' B' ca cb ca' cb' W (kp W hW).1 (kp W hW).2.1 (kp W hW).2.2)
    rw [if_neg h12]
    by_cases h13 : b.kind = 13
    · rw [if_pos h13]
      exact tr_options a b _ hna hk A B A' B' ca cb ca' cb' w ht (fun W => check_13 a b h13 A B A' B' ca cb ca' cb' W) (fun W hW => options_any n hn IH a b ga gb (hk.trans h13) h13 A B A' B' ca cb ca' cb' W (kp W hW).1 (kp W hW).2.1 (kp W hW).2.2)
    rw [if_neg h13]
    by_cases h14 : b.kind = 14
    · rw [if_pos h14]
      exact tr_results a b _ hna hk A B A' B' ca cb ca' cb' w ht (fun W => check_14 a b h14 A B A' B' ca cb ca' cb' W) (fun W hW => results_any n hn IH a b ga gb (hk.trans h14) h14 A B A' B' ca cb ca' cb' W (kp W hW).1 (kp W hW).2.1 (kp W hW).2.2)
    rw [if_neg h14]
    by_cases h15 : b.kind = 15
    · rw [if_pos h15]
      by_cases hl : a.kids.length = b.kids.length
      · rw [if_pos hl]
        exact tr_tuples a b _ hna hk A B A' B' ca cb ca' cb' w ht (fun W => check_15 a b h15 A B A' B' ca cb ca' cb' W) (fun W hW => tuples_any n hn IH a b ga gb h15 hl A B A' B' ca cb ca' cb' W (kp W hW).1 (kp W hW).2.1 (kp W hW).2.2)
      · rw [if_neg hl]
        exact tr_tuples a b _ hna hk A B A' B' ca cb ca' cb' w ht (fun W => check_15 a b h15 A B A' B' ca cb ca' cb' W) (fun W hW => tuples_other a b hl A B A' B' ca cb ca' cb' W)
    rw [if_neg h15]
    by_cases h16 : b.kind = 16
    · rw [if_pos h16]
      exact tr_fields a b _ hna hk A B A' B' ca cb ca' cb' w ht (fun W => check_16 a b h16 A B A' B' ca cb ca' cb' W) (fun W hW => fields_any n hn IH a b ga gb (hk.trans h16) h16 A B A' B' ca cb ca' cb' W (kp W hW).1 (kp W hW).2.1 (kp W hW).2.2)
    rw [if_neg h16]
    by_cases h17 : b.kind = 17
    · rw [if_pos h17]
      exact tr_cases a b _ hna hk A B A' B' ca cb ca' cb' w ht (fun W => check_17 a b h17 A B A' B' ca cb ca' cb' W) (fun W hW => cases_var n hn IH a b ga gb (hk.trans h17) h17 A B A' B' ca cb ca' cb' W (kp W hW).1 (kp W hW).2.1 (kp W hW).2.2)
    rw [if_neg h17]
    by_cases h18 : b.kind = 18 ∨ b.kind = 19
    · rw [if_pos h18]
      refine tr_cases a b _ hna hk A B A' B' ca cb ca' cb' w ht (fun W => ?_) (fun W hW => cases_en n a b ga gb h18 A B A' B' ca cb ca' cb' W (kp W hW).1 (kp W hW).2.1 (kp W hW).2.2)
      rcases h18 with h | h
      · exact check_18 a b h A B A' B' ca cb ca' cb' W
      · exact check_19 a b h A B A' B' ca cb ca' cb' W
    rw [if_neg h18]
    by_cases h20 : b.kind = 20 ∨ b.kind = 21
    · rw [if_pos h20]
      have hc : ∀ W : World, Calls Tryz.prog 51 #[.agg #[.int .i64 a.kind, .string a.name, .slice A a.labels.length ca, .slice B a.kids.length cb, .int .i64 b.kind, .string b.name, .slice A' b.labels.length ca', .slice B' b.kids.length cb']] W fun e w' => e = .returned (.func (.func 75) #[.agg #[.int .i64 a.kind, .string a.name, .slice A a.labels.length ca, .slice B a.kids.length cb, .int .i64 b.kind, .string b.name, .slice A' b.labels.length ca', .slice B' b.kids.length cb']] #[]) ∧ Below W.heap.size W w' := fun W => by
        rcases h20 with h | h
        · exact check_20 a b h A B A' B' ca cb ca' cb' W
        · exact check_21 a b h A B A' B' ca cb ca' cb' W
      by_cases hm : a.name = b.name
      · rw [if_pos (eqS_iff.mpr hm)]
        exact tr_resources a b _ hna hk A B A' B' ca cb ca' cb' w ht hc (fun W _ => resources_same a b hm A B A' B' ca cb ca' cb' W)
      · rw [if_neg (fun h => hm (eqS_iff.mp h))]
        exact tr_resources a b _ hna hk A B A' B' ca cb ca' cb' w ht hc (fun W _ => resources_other a b hm A B A' B' ca cb ca' cb' W)
    rw [if_neg h20]
    by_cases h22 : b.kind = 22 ∨ b.kind = 23
    · rw [if_pos h22]
      refine tr_transfers a b _ hna hk A B A' B' ca cb ca' cb' w ht (fun W => ?_) (fun W hW => transfers_any n hn a b ga gb (hk ▸ h22) h22 A B A' B' ca cb ca' cb' W (kp W hW).1 (kp W hW).2.1)
      rcases h22 with h | h
      · exact check_22 a b h A B A' B' ca cb ca' cb' W
      · exact check_23 a b h A B A' B' ca cb ca' cb' W
    rw [if_neg h22]
    exact tr_nothing a b _ hna hk A B A' B' ca cb ca' cb' w ht (fun W => check_no a b (by omega) A B A' B' ca cb ca' cb' W) (fun W _ => nothing_any a b A B A' B' ca cb ca' cb' W)
  · rw [if_neg hk]
    cases ha : numK a.kind
    · cases hb : numK b.kind
      · exact tr_kind_ff a b ha hb hk A B A' B' ca cb ca' cb' w ht
      · exact tr_kind_ft a b ha hb hk A B A' B' ca cb ca' cb' w ht
    · cases hb : numK b.kind
      · exact tr_kind_tf a b ha hb hk A B A' B' ca cb ca' cb' w ht
      · exact absurd ⟨ha, hb⟩ hab
theorem typeReason_any : ∀ n : Nat, n ≤ 4 → TyR n
  | 0, _ => fun a b ga => by
    have h1 := ga.2.2.1
    have h2 := a.depth_pos
    omega
  | n + 1, hn => typeReason_step n (by omega) (typeReason_any n (by omega))
end Go.Proofs.YtifchfecfkdjlaaGreatDoor

namespace Go.Proofs.YtifchfecfkdjlaaGreatDoor
open Go.ChangeShapes Go.WideShapes Go.ChangeAt Go.RowKit Go.Deep

set_option maxHeartbeats 8000000 in
set_option maxRecDepth 100000 in
theorem why_stream22 (n : Nat) (hn : n ≤ 3) (a b : Ty) (ga : Gd (n + 1) a) (gb : Gd (n + 1) b) (hna : numK a.kind = false) (hk : a.kind = b.kind) (hka : a.kind = 22) (A B A' B' : Option Addr) (ca cb ca' cb' : Nat) (lo lo' : Nat) (pt : ByteArray) (w : World) (hat : Ty.At w lo a A B) (hbt : Ty.At w lo' b A' B') :
    Calls Tryz.prog 31 #[.agg #[.int .i64 a.kind, .string a.name, .slice A a.labels.length ca, .slice B a.kids.length cb], .agg #[.int .i64 b.kind, .string b.name, .slice A' b.labels.length ca', .slice B' b.kids.length cb'], .string pt] w (RsnS (if Ty.eqsB a.kids b.kids = true then none else some (3, sE)) pt w) := by
  have la := ga.shape.one (by omega)
  have lb := gb.shape.one (by omega)
  obtain ⟨x, hx⟩ : ∃ x, a.kids = [x] := List.length_eq_one_iff.mp la
  obtain ⟨y, hy⟩ : ∃ y, b.kids = [y] := List.length_eq_one_iff.mp lb
  have qa_ : 0 < a.kids.length := by omega
  have qb_ : 0 < b.kids.length := by omega
  obtain ⟨b1, o1, x', A1, B1, c1, d1, rfl, _, hx', hc⟩ := hat.rowAt.at_ (k := 0) qa_
  obtain ⟨b2, o2, y', A2, B2, c2, d2, rfl, _, hy', hd⟩ := hbt.rowAt.at_ (k := 0) qb_
  rw [hx] at hx'
  rw [hy] at hy'
  obtain rfl : x = x' := by simpa using hx'
  obtain rfl : y = y' := by simpa using hy'
  have gx := ga.kid (i := 0) (t := x) (by rw [hx]; rfl)
  have gy := gb.kid (i := 0) (t := y) (by rw [hy]; rfl)
  obtain ⟨v, hv⟩ := dec_valW (SameOk x y 1)
  have CS := Lib.hid (fun W h1 h2 => (specSameType_any x y gx.1 gy.1 A1 B1 A2 B2 c1 d1 c2 d2 lo lo' W h1 h2).mono fun _ _ j => says_valW j hv)
  have HV : (if Ty.eqsB a.kids b.kids = true then none else some (3, sE)) = (if v = true then none else some ((3 : Int), sE)) := by
    have h1 : Ty.eqsB a.kids b.kids = true ↔ v = true := by
      rw [Ty.eqsB_iff, hx, hy, hv]
      unfold SameOk
      constructor
      · intro h
        injection h with h
        exact ⟨h, by have := gx.2.2.1; omega⟩
      · rintro ⟨h, _⟩
        rw [h]
    by_cases h : v = true
    · rw [if_pos h, if_pos (h1.mpr h)]
    · rw [if_neg h, if_neg (fun h2 => h (h1.mp h2))]
  rw [HV]
  obtain ⟨R, hR⟩ : ∃ R, (if v = true then none else some ((3 : Int), sE)) = R := ⟨_, rfl⟩
  rw [hR]
  have HR := Lib.hid hR
  have HX := Lib.hid hc.tree
  have HY := Lib.hid hd.tree
  have l1 : b1 < w.heap.size := World.block_lt_of_cell? w _ hc.kind
  have l2 : b2 < w.heap.size := World.block_lt_of_cell? w _ hd.kind
  obtain ⟨c0, c1h, c2h, c3, _⟩ := hc
  obtain ⟨e0, e1, e2, e3, _⟩ := hd
  simp only [Nat.zero_mul, Nat.add_zero] at c0 c1h c2h c3 e0 e1 e2 e3
  have HE : Hid (pt ++ sE = pt) := Lib.hid ByteArray.append_empty
  have CN := (fun W => number_any a.kind W)
  rw [hna] at CN
  have CN := Lib.hid CN
  have x1 : (a.kind == b.kind) = true := by rw [beq_iff_eq]; exact hk
  have x2 : (a.kind != b.kind) = false := by rw [bne_eq_false_iff_eq]; exact hk
  have e12 : (a.kind == 12) = false := by rw [beq_eq_false_iff_ne]; omega
  have e13 : (a.kind == 13) = false := by rw [beq_eq_false_iff_ne]; omega
  have e14 : (a.kind == 14) = false := by rw [beq_eq_false_iff_ne]; omega
  have e15 : (a.kind == 15) = false := by rw [beq_eq_false_iff_ne]; omega
  have e16 : (a.kind == 16) = false := by rw [beq_eq_false_iff_ne]; omega
  have e17 : (a.kind == 17) = false := by rw [beq_eq_false_iff_ne]; omega
  have e18 : (a.kind == 18) = false := by rw [beq_eq_false_iff_ne]; omega
  have e19 : (a.kind == 19) = false := by rw [beq_eq_false_iff_ne]; omega
  have e20 : (a.kind == 20) = false := by rw [beq_eq_false_iff_ne]; omega
  have e21 : (a.kind == 21) = false := by rw [beq_eq_false_iff_ne]; omega
  have e22 : (a.kind == 22) = true := by rw [beq_iff_eq]; omega
  clear ga gb gx gy hx hy hx' hy' hat hbt hv hn hka HV hR la lb hna hk
  go_enter Tryz.func31, Tryz.ntmps31
  go_wp2_with (first | (go_at_call 42; (with_reducible refine (CN.out _).mono ?_); rintro e w2 ⟨rfl, rfl⟩))
  obtain ⟨W, hW, hb, a0_, a1_, a2_, a3_, b0_, b1_, b2_, b3_, r0, r1, rf0, rf1⟩ : ∃ W, (((w.alloc (.cells #[.int .i64 a.kind, .string a.name, .slice A a.labels.length ca, .slice (some ⟨b1, o1, none⟩) a.kids.length cb] 30)).alloc (.cells #[.int .i64 b.kind, .string b.name, .slice A' b.labels.length ca', .slice (some ⟨b2, o2, none⟩) b.kids.length cb'] 30)).alloc (.cells #[.int .i64 0, .string ⟨#[]⟩] 34)) = W ∧ Below w.heap.size w W ∧ W.cell? ⟨w.heap.size, 0, none⟩ = some (.int .i64 a.kind) ∧ W.cell? ⟨w.heap.size, 1, none⟩ = some (.string a.name) ∧ W.cell? ⟨w.heap.size, 2, none⟩ = some (.slice A a.labels.length ca) ∧ W.cell? ⟨w.heap.size, 3, none⟩ = some (.slice (some ⟨b1, o1, none⟩) a.kids.length cb) ∧ W.cell? ⟨w.heap.size + 1, 0, none⟩ = some (.int .i64 b.kind) ∧ W.cell? ⟨w.heap.size + 1, 1, none⟩ = some (.string b.name) ∧ W.cell? ⟨w.heap.size + 1, 2, none⟩ = some (.slice A' b.labels.length ca') ∧ W.cell? ⟨w.heap.size + 1, 3, none⟩ = some (.slice (some ⟨b2, o2, none⟩) b.kids.length cb') ∧ W.cell? ⟨w.heap.size + 1 + 1, 0, none⟩ = some (.int .i64 0) ∧ W.cell? ⟨w.heap.size + 1 + 1, 1, none⟩ = some (.string ⟨#[]⟩) ∧ W.frozen? ⟨w.heap.size + 1 + 1, 0, none⟩ = false ∧ W.frozen? ⟨w.heap.size + 1 + 1, 1, none⟩ = false := ⟨_, rfl, below3 _ _ _ _, by go_simp, by go_simp, by go_simp, by go_simp, by go_simp, by go_simp, by go_simp, by go_simp, by go_simp, by go_simp, by go_simp, by go_simp⟩
  rw [hW]
  have hz : w.heap.size + 1 + 1 < W.heap.size := World.block_lt_of_cell? W _ r0
  replace c0 := keepCell hb c0; replace c1h := keepCell hb c1h; replace c2h := keepCell hb c2h; replace c3 := keepCell hb c3; replace e0 := keepCell hb e0; replace e1 := keepCell hb e1; replace e2 := keepCell hb e2; replace e3 := keepCell hb e3
  replace HX := Lib.hid (HX.out.below hb)
  replace HY := Lib.hid (HY.out.below hb)
  have HB := Lib.hid hb
  clear hW hb
  go_region_held3 (fun w' => w'.cell? ⟨w.heap.size, 3, none⟩ = some (.slice (some ⟨b1, o1, none⟩) a.kids.length cb) ∧ w'.cell? ⟨w.heap.size + 1, 3, none⟩ = some (.slice (some ⟨b2, o2, none⟩) b.kids.length cb') ∧ w'.cell? ⟨b1, o1, none⟩ = some (.int .i64 x.kind) ∧ w'.cell? ⟨b1, o1 + 1, none⟩ = some (.string x.name) ∧ w'.cell? ⟨b1, o1 + 2, none⟩ = some (.slice A1 x.labels.length c1) ∧ w'.cell? ⟨b1, o1 + 3, none⟩ = some (.slice B1 x.kids.length d1) ∧ w'.cell? ⟨b2, o2, none⟩ = some (.int .i64 y.kind) ∧ w'.cell? ⟨b2, o2 + 1, none⟩ = some (.string y.name) ∧ w'.cell? ⟨b2, o2 + 2, none⟩ = some (.slice A2 y.labels.length c2) ∧ w'.cell? ⟨b2, o2 + 3, none⟩ = some (.slice B2 y.kids.length d2))
    (first | assumption | (with_reducible exact ⟨a3_, b3_, c0, c1h, c2h, c3, e0, e1, e2, e3⟩) | (refine ⟨?_, ?_, ?_, ?_, ?_, ?_, ?_, ?_, ?_, ?_⟩ <;> assumption))
    (first | (go_at_call 49; refine (CS.out _ (HX.out.below (Below.refl _ _).drew) (HY.out.below (Below.refl _ _).drew)).mono ?_; rintro e w4 ⟨rfl, hb4⟩; have hbw : Below W.heap.size W w4 := (Below.refl W.heap.size W).drew.trans hb4; have ua3_ := keepCell hbw a3_; have ub3_ := keepCell hbw b3_; have uc0 := keepCell hbw c0; have uc1h := keepCell hbw c1h; have uc2h := keepCell hbw c2h; have uc3 := keepCell hbw c3; have ue0 := keepCell hbw e0; have ue1 := keepCell hbw e1; have ue2 := keepCell hbw e2; have ue3 := keepCell hbw e3; have ua0_ := keepCell hbw a0_; have ua1_ := keepCell hbw a1_; have ua2_ := keepCell hbw a2_; have ub0_ := keepCell hbw b0_; have ub1_ := keepCell hbw b1_; have ub2_ := keepCell hbw b2_; have ur0 := keepCell hbw r0; have ur1 := keepCell hbw r1; have urf0 : w4.frozen? ⟨w.heap.size + 1 + 1, 0, none⟩ = false := ((bcell hbw).2 _ _ hz).trans rf0; have urf1 : w4.frozen? ⟨w.heap.size + 1 + 1, 1, none⟩ = false := ((bcell hbw).2 _ _ hz).trans rf1))
  have hz4 : w.heap.size + 1 + 1 < w4.heap.size := World.block_lt_of_cell? w4 _ ur0
  have HB4 := Lib.hid (bnext HB.out hbw)
  clear hbw hb4 CS
  cases v with
  | true =>
    go_wp2_with fail
    exact bodyPost_ret (v := .tuple #[.agg #[.int .i64 0, .string ⟨#[]⟩], .bool false]) (by simp [results, Tryz.results31, go_sem, ur0, ur1]) rfl ⟨by rw [← HR.out]; rfl, by (first | (with_reducible exact HB4.out) | ((with_reducible refine Below.setCell (HB4.out) ?_ _) <;> (first | exact Nat.le_refl _ | exact Nat.le_add_right _ _ | (dsimp only; omega) | (simp; omega))) | ((with_reducible refine Below.setCell (Below.setCell (HB4.out) ?_ _) ?_ _) <;> (first | exact Nat.le_refl _ | exact Nat.le_add_right _ _ | (dsimp only; omega) | (simp; omega))) | ((with_reducible refine Below.setCell (Below.setCell (Below.setCell (HB4.out) ?_ _) ?_ _) ?_ _) <;> (first | exact Nat.le_refl _ | exact Nat.le_add_right _ _ | (dsimp only; omega) | (simp; omega))))⟩
  | false =>
    go_wp2_with fail
    go_at_call 44
    refine (no_any _ _ _).mono ?_
    rintro e w5 ⟨rfl, hb5⟩
    have vr0 := keepCell hb5 ur0
    have vr1 := keepCell hb5 ur1
    have vf0 : w5.frozen? ⟨w.heap.size + 1 + 1, 0, none⟩ = false := ((bcell hb5).2 _ _ hz4).trans urf0
    have vf1 : w5.frozen? ⟨w.heap.size + 1 + 1, 1, none⟩ = false := ((bcell hb5).2 _ _ hz4).trans urf1
    have HB5 := Lib.hid (bnext HB4.out hb5)
    clear hb5
    go_wp2_with fail
    exact bodyPost_ret (v := .tuple #[.agg #[.int .i64 3, .string pt], .bool true]) (by simp [results, Tryz.results31, go_sem, vr0, vr1]) rfl ⟨by rw [← HR.out]; show _ = Ending.returned (.tuple #[.agg #[.int .i64 3, .string (pt ++ sE)], .bool true]); rw [HE.out], by (first | (with_reducible exact HB5.out) | ((with_reducible refine Below.setCell (HB5.out) ?_ _) <;> (first | exact Nat.le_refl _ | exact Nat.le_add_right _ _ | (dsimp only; omega) | (simp; omega))) | ((with_reducible refine Below.setCell (Below.setCell (HB5.out) ?_ _) ?_ _) <;> (first | exact Nat.le_refl _ | exact Nat.le_add_right _ _ | (dsimp only; omega) | (simp; omega))) | ((with_reducible refine Below.setCell (Below.setCell (Below.setCell (HB5.out) ?_ _) ?_ _) ?_ _) <;> (first | exact Nat.le_refl _ | exact Nat.le_add_right _ _ | (dsimp only; omega) | (simp; omega))))⟩

set_option maxHeartbeats 8000000 in
set_option maxRecDepth 100000 in
theorem why_stream23 (n : Nat) (hn : n ≤ 3) (a b : Ty) (ga : Gd (n + 1) a) (gb : Gd (n + 1) b) (hna : numK a.kind = false) (hk : a.kind = b.kind) (hka : a.kind = 23) (A B A' B' : Option Addr) (ca cb ca' cb' : Nat) (lo lo' : Nat) (pt : ByteArray) (w : World) (hat : Ty.At w lo a A B) (hbt : Ty.At w lo' b A' B') :
    Calls Tryz.prog 31 #[.agg #[.int .i64 a.kind, .string a.name, .slice A a.labels.length ca, .slice B a.kids.length cb], .agg #[.int .i64 b.kind, .string b.name, .slice A' b.labels.length ca', .slice B' b.kids.length cb'], .string pt] w (RsnS (if Ty.eqsB a.kids b.kids = true then none else some (3, sE)) pt w) := by
  have la := ga.shape.one (by omega)
  have lb := gb.shape.one (by omega)
  obtain ⟨x, hx⟩ : ∃ x, a.kids = [x] := List.length_eq_one_iff.mp la
  obtain ⟨y, hy⟩ : ∃ y, b.kids = [y] := List.length_eq_one_iff.mp lb
  have qa_ : 0 < a.kids.length := by omega
  have qb_ : 0 < b.kids.length := by omega
  obtain ⟨b1, o1, x', A1, B1, c1, d1, rfl, _, hx', hc⟩ := hat.rowAt.at_ (k := 0) qa_
  obtain ⟨b2, o2, y', A2, B2, c2, d2, rfl, _, hy', hd⟩ := hbt.rowAt.at_ (k := 0) qb_
  rw [hx] at hx'
  rw [hy] at hy'
  obtain rfl : x = x' := by simpa using hx'
  obtain rfl : y = y' := by simpa using hy'
  have gx := ga.kid (i := 0) (t := x) (by rw [hx]; rfl)
  have gy := gb.kid (i := 0) (t := y) (by rw [hy]; rfl)
  obtain ⟨v, hv⟩ := dec_valW (SameOk x y 1)
  have CS := Lib.hid (fun W h1 h2 => (specSameType_any x y gx.1 gy.1 A1 B1 A2 B2 c1 d1 c2 d2 lo lo' W h1 h2).mono fun _ _ j => says_valW j hv)
  have HV : (if Ty.eqsB a.kids b.kids = true then none else some (3, sE)) = (if v = true then none else some ((3 : Int), sE)) := by
    have h1 : Ty.eqsB a.kids b.kids = true ↔ v = true := by
      rw [Ty.eqsB_iff, hx, hy, hv]
      unfold SameOk
      constructor
      · intro h
        injection h with h
        exact ⟨h, by have := gx.2.2.1; omega⟩
      · rintro ⟨h, _⟩
        rw [h]
    by_cases h : v = true
    · rw [if_pos h, if_pos (h1.mpr h)]
    · rw [if_neg h, if_neg (fun h2 => h (h1.mp h2))]
  rw [HV]
  obtain ⟨R, hR⟩ : ∃ R, (if v = true then none else some ((3 : Int), sE)) = R := ⟨_, rfl⟩
  rw [hR]
  have HR := Lib.hid hR
  have HX := Lib.hid hc.tree
  have HY := Lib.hid hd.tree
  have l1 : b1 < w.heap.size := World.block_lt_of_cell? w _ hc.kind
  have l2 : b2 < w.heap.size := World.block_lt_of_cell? w _ hd.kind
  obtain ⟨c0, c1h, c2h, c3, _⟩ := hc
  obtain ⟨e0, e1, e2, e3, _⟩ := hd
  simp only [Nat.zero_mul, Nat.add_zero] at c0 c1h c2h c3 e0 e1 e2 e3
  have HE : Hid (pt ++ sE = pt) := Lib.hid ByteArray.append_empty
  have CN := (fun W => number_any a.kind W)
  rw [hna] at CN
  have CN := Lib.hid CN
  have x1 : (a.kind == b.kind) = true := by rw [beq_iff_eq]; exact hk
  have x2 : (a.kind != b.kind) = false := by rw [bne_eq_false_iff_eq]; exact hk
  have e12 : (a.kind == 12) = false := by rw [beq_eq_false_iff_ne]; omega
  have e13 : (a.kind == 13) = false := by rw [beq_eq_false_iff_ne]; omega
  have e14 : (a.kind == 14) = false := by rw [beq_eq_false_iff_ne]; omega
  have e15 : (a.kind == 15) = false := by rw [beq_eq_false_iff_ne]; omega
  have e16 : (a.kind == 16) = false := by rw [beq_eq_false_iff_ne]; omega
  have e17 : (a.kind == 17) = false := by rw [beq_eq_false_iff_ne]; omega
  have e18 : (a.kind == 18) = false := by rw [beq_eq_false_iff_ne]; omega
  have e19 : (a.kind == 19) = false := by rw [beq_eq_false_iff_ne]; omega
  have e20 : (a.kind == 20) = false := by rw [beq_eq_false_iff_ne]; omega
  have e21 : (a.kind == 21) = false := by rw [beq_eq_false_iff_ne]; omega
  have e22 : (a.kind == 22) = false := by rw [beq_eq_false_iff_ne]; omega
  have e23 : (a.kind == 23) = true := by rw [beq_iff_eq]; omega
  clear ga gb gx gy hx hy hx' hy' hat hbt hv hn hka HV hR la lb hna hk
  go_enter Tryz.func31, Tryz.ntmps31
  go_wp2_with (first | (go_at_call 42; (with_reducible refine (CN.out _).mono ?_); rintro e w2 ⟨rfl, rfl⟩))
  obtain ⟨W, hW, hb, a0_, a1_, a2_, a3_, b0_, b1_, b2_, b3_, r0, r1, rf0, rf1⟩ : ∃ W, (((w.alloc (.cells #[.int .i64 a.kind, .string a.name, .slice A a.labels.length ca, .slice (some ⟨b1, o1, none⟩) a.kids.length cb] 30)).alloc (.cells #[.int .i64 b.kind, .string b.name, .slice A' b.labels.length ca', .slice (some ⟨b2, o2, none⟩) b.kids.length cb'] 30)).alloc (.cells #[.int .i64 0, .string ⟨#[]⟩] 34)) = W ∧ Below w.heap.size w W ∧ W.cell? ⟨w.heap.size, 0, none⟩ = some (.int .i64 a.kind) ∧ W.cell? ⟨w.heap.size, 1, none⟩ = some (.string a.name) ∧ W.cell? ⟨w.heap.size, 2, none⟩ = some (.slice A a.labels.length ca) ∧ W.cell? ⟨w.heap.size, 3, none⟩ = some (.slice (some ⟨b1, o1, none⟩) a.kids.length cb) ∧ W.cell? ⟨w.heap.size + 1, 0, none⟩ = some (.int .i64 b.kind) ∧ W.cell? ⟨w.heap.size + 1, 1, none⟩ = some (.string b.name) ∧ W.cell? ⟨w.heap.size + 1, 2, none⟩ = some (.slice A' b.labels.length ca') ∧ W.cell? ⟨w.heap.size + 1, 3, none⟩ = some (.slice (some ⟨b2, o2, none⟩) b.kids.length cb') ∧ W.cell? ⟨w.heap.size + 1 + 1, 0, none⟩ = some (.int .i64 0) ∧ W.cell? ⟨w.heap.size + 1 + 1, 1, none⟩ = some (.string ⟨#[]⟩) ∧ W.frozen? ⟨w.heap.size + 1 + 1, 0, none⟩ = false ∧ W.frozen? ⟨w.heap.size + 1 + 1, 1, none⟩ = false := ⟨_, rfl, below3 _ _ _ _, by go_simp, by go_simp, by go_simp, by go_simp, by go_simp, by go_simp, by go_simp, by go_simp, by go_simp, by go_simp, by go_simp, by go_simp⟩
  rw [hW]
  have hz : w.heap.size + 1 + 1 < W.heap.size := World.block_lt_of_cell? W _ r0
  replace c0 := keepCell hb c0; replace c1h := keepCell hb c1h; replace c2h := keepCell hb c2h; replace c3 := keepCell hb c3; replace e0 := keepCell hb e0; replace e1 := keepCell hb e1; replace e2 := keepCell hb e2; replace e3 := keepCell hb e3
  replace HX := Lib.hid (HX.out.below hb)
  replace HY := Lib.hid (HY.out.below hb)
  have HB := Lib.hid hb
  clear hW hb
  go_region_held3 (fun w' => w'.cell? ⟨w.heap.size, 3, none⟩ = some (.slice (some ⟨b1, o1, none⟩) a.kids.length cb) ∧ w'.cell? ⟨w.heap.size + 1, 3, none⟩ = some (.slice (some ⟨b2, o2, none⟩) b.kids.length cb') ∧ w'.cell? ⟨b1, o1, none⟩ = some (.int .i64 x.kind) ∧ w'.cell? ⟨b1, o1 + 1, none⟩ = some (.string x.name) ∧ w'.cell? ⟨b1, o1 + 2, none⟩ = some (.slice A1 x.labels.length c1) ∧ w'.cell? ⟨b1, o1 + 3, none⟩ = some (.slice B1 x.kids.length d1) ∧ w'.cell? ⟨b2, o2, none⟩ = some (.int .i64 y.kind) ∧ w'.cell? ⟨b2, o2 + 1, none⟩ = some (.string y.name) ∧ w'.cell? ⟨b2, o2 + 2, none⟩ = some (.slice A2 y.labels.length c2) ∧ w'.cell? ⟨b2, o2 + 3, none⟩ = some (.slice B2 y.kids.length d2))
    (first | assumption | (with_reducible exact ⟨a3_, b3_, c0, c1h, c2h, c3, e0, e1, e2, e3⟩) | (refine ⟨?_, ?_, ?_, ?_, ?_, ?_, ?_, ?_, ?_, ?_⟩ <;> assumption))
    (first | (go_at_call 49; refine (CS.out _ (HX.out.below (Below.refl _ _).drew) (HY.out.below (Below.refl _ _).drew)).mono ?_; rintro e w4 ⟨rfl, hb4⟩; have hbw : Below W.heap.size W w4 := (Below.refl W.heap.size W).drew.trans hb4; have ua3_ := keepCell hbw a3_; have ub3_ := keepCell hbw b3_; have uc0 := keepCell hbw c0; have uc1h := keepCell hbw c1h; have uc2h := keepCell hbw c2h; have uc3 := keepCell hbw c3; have ue0 := keepCell hbw e0; have ue1 := keepCell hbw e1; have ue2 := keepCell hbw e2; have ue3 := keepCell hbw e3; have ua0_ := keepCell hbw a0_; have ua1_ := keepCell hbw a1_; have ua2_ := keepCell hbw a2_; have ub0_ := keepCell hbw b0_; have ub1_ := keepCell hbw b1_; have ub2_ := keepCell hbw b2_; have ur0 := keepCell hbw r0; have ur1 := keepCell hbw r1; have urf0 : w4.frozen? ⟨w.heap.size + 1 + 1, 0, none⟩ = false := ((bcell hbw).2 _ _ hz).trans rf0; have urf1 : w4.frozen? ⟨w.heap.size + 1 + 1, 1, none⟩ = false := ((bcell hbw).2 _ _ hz).trans rf1))
  have hz4 : w.heap.size + 1 + 1 < w4.heap.size := World.block_lt_of_cell? w4 _ ur0
  have HB4 := Lib.hid (bnext HB.out hbw)
  clear hbw hb4 CS
  cases v with
  | true =>
    go_wp2_with fail
    exact bodyPost_ret (v := .tuple #[.agg #[.int .i64 0, .string ⟨#[]⟩], .bool false]) (by simp [results, Tryz.results31, go_sem, ur0, ur1]) rfl ⟨by rw [← HR.out]; rfl, by (first | (with_reducible exact HB4.out) | ((with_reducible refine Below.setCell (HB4.out) ?_ _) <;> (first | exact Nat.le_refl _ | exact Nat.le_add_right _ _ | (dsimp only; omega) | (simp; omega))) | ((with_reducible refine Below.setCell (Below.setCell (HB4.out) ?_ _) ?_ _) <;> (first | exact Nat.le_refl _ | exact Nat.le_add_right _ _ | (dsimp only; omega) | (simp; omega))) | ((with_reducible refine Below.setCell (Below.setCell (Below.setCell (HB4.out) ?_ _) ?_ _) ?_ _) <;> (first | exact Nat.le_refl _ | exact Nat.le_add_right _ _ | (dsimp only; omega) | (simp; omega))))⟩
  | false =>
    go_wp2_with fail
    go_at_call 44
    refine (no_any _ _ _).mono ?_
    rintro e w5 ⟨rfl, hb5⟩
    have vr0 := keepCell hb5 ur0
    have vr1 := keepCell hb5 ur1
    have vf0 : w5.frozen? ⟨w.heap.size + 1 + 1, 0, none⟩ = false := ((bcell hb5).2 _ _ hz4).trans urf0
    have vf1 : w5.frozen? ⟨w.heap.size + 1 + 1, 1, none⟩ = false := ((bcell hb5).2 _ _ hz4).trans urf1
    have HB5 := Lib.hid (bnext HB4.out hb5)
    clear hb5
    go_wp2_with fail
    exact bodyPost_ret (v := .tuple #[.agg #[.int .i64 3, .string pt], .bool true]) (by simp [results, Tryz.results31, go_sem, vr0, vr1]) rfl ⟨by rw [← HR.out]; show _ = Ending.returned (.tuple #[.agg #[.int .i64 3, .string (pt ++ sE)], .bool true]); rw [HE.out], by (first | (with_reducible exact HB5.out) | ((with_reducible refine Below.setCell (HB5.out) ?_ _) <;> (first | exact Nat.le_refl _ | exact Nat.le_add_right _ _ | (dsimp only; omega) | (simp; omega))) | ((with_reducible refine Below.setCell (Below.setCell (HB5.out) ?_ _) ?_ _) <;> (first | exact Nat.le_refl _ | exact Nat.le_add_right _ _ | (dsimp only; omega) | (simp; omega))) | ((with_reducible refine Below.setCell (Below.setCell (Below.setCell (HB5.out) ?_ _) ?_ _) ?_ _) <;> (first | exact Nat.le_refl _ | exact Nat.le_add_right _ _ | (dsimp only; omega) | (simp; omega))))⟩

end Go.Proofs.YtifchfecfkdjlaaGreatDoor

namespace Go.Proofs.YtifchfecfkdjlaaGreatDoor
open Go.ChangeShapes Go.WideShapes Go.ChangeAt Go.RowKit Go.Deep

theorem why_step (n : Nat) (hn : n ≤ 3) (SP : SpTy n) : SpTy (n + 1) := by
  intro a b ga gb A B A' B' ca cb ca' cb' lo lo' pt hpt w hat hbt
  rw [Ty.why]
  by_cases hab : numK a.kind = true ∧ numK b.kind = true
  · rw [if_pos hab]
    exact why_num a b hab.1 hab.2 A B A' B' ca cb ca' cb' pt w
  rw [if_neg hab]
  by_cases hk : a.kind = b.kind
  · rw [if_pos hk]
    have hna : numK a.kind = false := by
      cases h : numK a.kind
      · rfl
      · exact absurd ⟨h, hk ▸ h⟩ hab
    have kp : ∀ W, Below w.heap.size w W → Ty.At W lo a A B ∧ Ty.At W lo' b A' B' := fun W hW => ⟨hat.below hW, hbt.below hW⟩
    unfold whyB
    by_cases h12 : b.kind = 12
    · rw [if_pos h12]
      exact why_list n hn SP a b ga gb hna hk (hk.trans h12) A B A' B' ca cb ca' cb' lo lo' pt hpt w hat hbt
    rw [if_neg h12]
    by_cases h13 : b.kind = 13
    · rw [if_pos h13]
      exact why_option n hn SP a b ga gb hna hk (hk.trans h13) A B A' B' ca cb ca' cb' lo lo' pt hpt w hat hbt
    rw [if_neg h13]
    by_cases h14 : b.kind = 14
    · rw [if_pos h14]
      exact why_result n hn SP a b ga gb hna hk (hk.trans h14) A B A' B' ca cb ca' cb' lo lo' pt hpt w hat hbt
    rw [if_neg h14]
    by_cases h15 : b.kind = 15
    · rw [if_pos h15]
      by_cases hl : a.kids.length = b.kids.length
      · rw [if_pos hl]
        exact why_tuple a b hna hk (hk.trans h15) _ A B A' B' ca cb ca' cb' pt w (fun W hW => tup_any n hn SP a b ga gb h15 hl A B A' B' ca cb ca' cb' lo lo' pt hpt W (kp W hW).1 (kp W hW).2)
      · rw [if_neg hl]
        exact why_tuple a b hna hk (hk.trans h15) _ A B A' B' ca cb ca' cb' pt w (fun W _ => tup_other a b hl A B A' B' ca cb ca' cb' pt W)
    rw [if_neg h15]
    by_cases h16 : b.kind = 16
    · rw [if_pos h16]
      exact why_record a b hna hk (hk.trans h16) _ A B A' B' ca cb ca' cb' pt w (fun W hW => rec_any n hn SP a b ga gb (hk.trans h16) h16 A B A' B' ca cb ca' cb' lo lo' pt hpt W (kp W hW).1 (kp W hW).2)
    rw [if_neg h16]
    by_cases h17 : b.kind = 17
    · rw [if_pos h17]
      exact why_variant a b hna hk (hk.trans h17) _ A B A' B' ca cb ca' cb' pt w (fun W hW => var_any n hn SP a b ga gb (hk.trans h17) h17 A B A' B' ca cb ca' cb' lo lo' pt hpt W (kp W hW).1 (kp W hW).2)
    rw [if_neg h17]
    by_cases h18 : b.kind = 18 ∨ b.kind = 19
    · rw [if_pos h18]
      rcases h18 with h | h
      · exact why_en18 n a b ga gb hna hk (hk.trans h) A B A' B' ca cb ca' cb' lo lo' pt (by omega) w hat hbt
      · exact why_en19 n a b ga gb hna hk (hk.trans h) A B A' B' ca cb ca' cb' lo lo' pt (by omega) w hat hbt
    rw [if_neg h18]
    by_cases h20 : b.kind = 20 ∨ b.kind = 21
    · rw [if_pos h20]
      by_cases hm : a.name = b.name
      · rw [if_pos (eqS_iff.mpr hm)]
        rcases h20 with h | h
        · exact why_res20_same a b hna hk (hk.trans h) hm A B A' B' ca cb ca' cb' pt w
        · exact why_res21_same a b hna hk (hk.trans h) hm A B A' B' ca cb ca' cb' pt w
      · rw [if_neg (fun h => hm (eqS_iff.mp h))]
        rcases h20 with h | h
        · exact why_res20_other a b hna hk (hk.trans h) hm A B A' B' ca cb ca' cb' pt w
        · exact why_res21_other a b hna hk (hk.trans h) hm A B A' B' ca cb ca' cb' pt w
    rw [if_neg h20]
    by_cases h22 : b.kind = 22 ∨ b.kind = 23
    · rw [if_pos h22]
      rcases h22 with h | h
      · exact why_stream22 n hn a b ga gb hna hk (hk.trans h) A B A' B' ca cb ca' cb' lo lo' pt w hat hbt
      · exact why_stream23 n hn a b ga gb hna hk (hk.trans h) A B A' B' ca cb ca' cb' lo lo' pt w hat hbt
    rw [if_neg h22]
    exact why_none a b hna hk (by omega) A B A' B' ca cb ca' cb' pt w
  · rw [if_neg hk]
    cases ha : numK a.kind
    · cases hb : numK b.kind
      · exact why_kind_ff a b ha hb hk A B A' B' ca cb ca' cb' pt w
      · exact why_kind_ft a b ha hb hk A B A' B' ca cb ca' cb' pt w
    · cases hb : numK b.kind
      · exact why_kind_tf a b ha hb hk A B A' B' ca cb ca' cb' pt w
      · exact absurd ⟨ha, hb⟩ hab
theorem why_any : ∀ n : Nat, n ≤ 4 → SpTy n
  | 0, _ => fun a b ga => by
    have h1 := ga.2.2.1
    have h2 := a.depth_pos
    omega
  | n + 1, hn => why_step n (by omega) (why_any n (by omega))
end Go.Proofs.YtifchfecfkdjlaaGreatDoor

namespace Go.Proofs.YtifchfecfkdjlaaGreatDoor
open Go.ChangeShapes Go.WideShapes Go.ChangeAt Go.RowKit Go.Deep

/-- What both WhyNot answer. -/
def WnPost (r : Option (Int × ByteArray)) (w : World) (e : Ending) (w' : World) : Prop := e = .returned (.tuple #[.agg #[.int .i64 (rk r), .string (ra r)], .bool r.isSome]) ∧ Below w.heap.size w w'
theorem rp_nil (r : Option (Int × ByteArray)) : rp ⟨#[]⟩ r = ra r := by
  cases r with
  | none => rfl
  | some x =>
    obtain ⟨k, p⟩ := x
    show (⟨#[]⟩ : ByteArray) ++ p = p
    exact ByteArray.empty_append
theorem Gd.of {T : Ty} (hT : T.wt ≤ 1048576) (h : T.Ok) : Gd 4 T := by
  obtain ⟨h1, h2⟩ := h
  unfold Ty.fits at h1
  exact ⟨hT, h2, by omega, h1.2⟩

set_option maxHeartbeats 8000000 in
set_option maxRecDepth 100000 in
theorem specWhyNot_na (a b : Ty) (hT : a.wt ≤ 1048576) (hoa : ¬ a.Ok) (A B A' B' : Option Addr) (ca cb ca' cb' : Nat) (lo : Nat) (w : World) (hat : Ty.At w lo a A B) :
    Calls Tryz.prog 12 #[.agg #[.int .i64 a.kind, .string a.name, .slice A a.labels.length ca, .slice B a.kids.length cb], .agg #[.int .i64 b.kind, .string b.name, .slice A' b.labels.length ca', .slice B' b.kids.length cb']] w (WnPost none w) := by
  have OA := (fun W h => specTypeOk_any a hT A B ca cb lo W h)
  have OA := Lib.hid (fun W h => (OA W h).mono fun _ _ j => j.no hoa)
  have HA := Lib.hid hat
  clear hat hoa hT
  go_enter Tryz.func12, Tryz.ntmps12
  go_wp2_with fail
  go_at_call 24
  refine (OA.out _ (HA.out.below (below3 _ _ _ _))).mono ?_
  rintro e w2 ⟨rfl, hbw2⟩
  have a0_ := keepCell (a := ⟨w.heap.size, 0, none⟩) (v := .int .i64 a.kind) hbw2 (by go_simp)
  have a1_ := keepCell (a := ⟨w.heap.size, 1, none⟩) (v := .string a.name) hbw2 (by go_simp)
  have a2_ := keepCell (a := ⟨w.heap.size, 2, none⟩) (v := .slice A a.labels.length ca) hbw2 (by go_simp)
  have a3_ := keepCell (a := ⟨w.heap.size, 3, none⟩) (v := .slice B a.kids.length cb) hbw2 (by go_simp)
  have b0_ := keepCell (a := ⟨w.heap.size + 1, 0, none⟩) (v := .int .i64 b.kind) hbw2 (by go_simp)
  have b1_ := keepCell (a := ⟨w.heap.size + 1, 1, none⟩) (v := .string b.name) hbw2 (by go_simp)
  have b2_ := keepCell (a := ⟨w.heap.size + 1, 2, none⟩) (v := .slice A' b.labels.length ca') hbw2 (by go_simp)
  have b3_ := keepCell (a := ⟨w.heap.size + 1, 3, none⟩) (v := .slice B' b.kids.length cb') hbw2 (by go_simp)
  have r0 := keepCell (a := ⟨w.heap.size + 1 + 1, 0, none⟩) (v := .int .i64 0) hbw2 (by go_simp)
  have r1 := keepCell (a := ⟨w.heap.size + 1 + 1, 1, none⟩) (v := .string ⟨#[]⟩) hbw2 (by go_simp)
  have rf0 : w2.frozen? ⟨w.heap.size + 1 + 1, 0, none⟩ = false := ((bcell hbw2).2 _ _ (by first | (simp; done) | (simp; omega))).trans (by go_simp)
  have rf1 : w2.frozen? ⟨w.heap.size + 1 + 1, 1, none⟩ = false := ((bcell hbw2).2 _ _ (by first | (simp; done) | (simp; omega))).trans (by go_simp)
  have hzw2 : w.heap.size + 1 + 1 < w2.heap.size := World.block_lt_of_cell? w2 _ r0
  have HBw2 := Lib.hid (bnext (below3 _ _ _ _) hbw2)
  clear hbw2
  go_wp2_with fail
  exact bodyPost_ret (v := .tuple #[.agg #[.int .i64 0, .string ⟨#[]⟩], .bool false]) (by simp [results, Tryz.results12, go_sem, r0, r1]) rfl ⟨rfl, by (first | (with_reducible exact HBw2.out) | ((with_reducible refine Below.setCell (HBw2.out) ?_ _) <;> (first | exact Nat.le_refl _ | exact Nat.le_add_right _ _ | (dsimp only; omega) | (simp; omega))) | ((with_reducible refine Below.setCell (Below.setCell (HBw2.out) ?_ _) ?_ _) <;> (first | exact Nat.le_refl _ | exact Nat.le_add_right _ _ | (dsimp only; omega) | (simp; omega))) | ((with_reducible refine Below.setCell (Below.setCell (Below.setCell (HBw2.out) ?_ _) ?_ _) ?_ _) <;> (first | exact Nat.le_refl _ | exact Nat.le_add_right _ _ | (dsimp only; omega) | (simp; omega))))⟩

set_option maxHeartbeats 8000000 in
set_option maxRecDepth 100000 in
theorem specWhyNot_nb (a b : Ty) (hT : a.wt ≤ 1048576) (hU : b.wt ≤ 1048576) (hoa : a.Ok) (hob : ¬ b.Ok) (A B A' B' : Option Addr) (ca cb ca' cb' : Nat) (lo lo' : Nat) (w : World) (hat : Ty.At w lo a A B) (hbt : Ty.At w lo' b A' B') :
    Calls Tryz.prog 12 #[.agg #[.int .i64 a.kind, .string a.name, .slice A a.labels.length ca, .slice B a.kids.length cb], .agg #[.int .i64 b.kind, .string b.name, .slice A' b.labels.length ca', .slice B' b.kids.length cb']] w (WnPost none w) := by
  have OA := (fun W h => specTypeOk_any a hT A B ca cb lo W h)
  have OB := (fun W h => specTypeOk_any b hU A' B' ca' cb' lo' W h)
  have OA := Lib.hid (fun W h => (OA W h).mono fun _ _ j => j.yes hoa)
  have OB := Lib.hid (fun W h => (OB W h).mono fun _ _ j => j.no hob)
  have HA := Lib.hid hat
  have HBt := Lib.hid hbt
  clear hat hbt hoa hob hT hU
  go_enter Tryz.func12, Tryz.ntmps12
  go_wp2_with fail
  go_at_call 24
  refine (OA.out _ (HA.out.below (below3 _ _ _ _))).mono ?_
  rintro e w2 ⟨rfl, hbw2⟩
  have a0_ := keepCell (a := ⟨w.heap.size, 0, none⟩) (v := .int .i64 a.kind) hbw2 (by go_simp)
  have a1_ := keepCell (a := ⟨w.heap.size, 1, none⟩) (v := .string a.name) hbw2 (by go_simp)
  have a2_ := keepCell (a := ⟨w.heap.size, 2, none⟩) (v := .slice A a.labels.length ca) hbw2 (by go_simp)
  have a3_ := keepCell (a := ⟨w.heap.size, 3, none⟩) (v := .slice B a.kids.length cb) hbw2 (by go_simp)
  have b0_ := keepCell (a := ⟨w.heap.size + 1, 0, none⟩) (v := .int .i64 b.kind) hbw2 (by go_simp)
  have b1_ := keepCell (a := ⟨w.heap.size + 1, 1, none⟩) (v := .string b.name) hbw2 (by go_simp)
  have b2_ := keepCell (a := ⟨w.heap.size + 1, 2, none⟩) (v := .slice A' b.labels.length ca') hbw2 (by go_simp)
  have b3_ := keepCell (a := ⟨w.heap.size + 1, 3, none⟩) (v := .slice B' b.kids.length cb') hbw2 (by go_simp)
  have r0 := keepCell (a := ⟨w.heap.size + 1 + 1, 0, none⟩) (v := .int .i64 0) hbw2 (by go_simp)
  have r1 := keepCell (a := ⟨w.heap.size + 1 + 1, 1, none⟩) (v := .string ⟨#[]⟩) hbw2 (by go_simp)
  have rf0 : w2.frozen? ⟨w.heap.size + 1 + 1, 0, none⟩ = false := ((bcell hbw2).2 _ _ (by first | (simp; done) | (simp; omega))).trans (by go_simp)
  have rf1 : w2.frozen? ⟨w.heap.size + 1 + 1, 1, none⟩ = false := ((bcell hbw2).2 _ _ (by first | (simp; done) | (simp; omega))).trans (by go_simp)
  have hzw2 : w.heap.size + 1 + 1 < w2.heap.size := World.block_lt_of_cell? w2 _ r0
  have HBw2 := Lib.hid (bnext (below3 _ _ _ _) hbw2)
  clear hbw2
  go_wp2_with fail
  go_at_call 24
  refine (OB.out _ (HBt.out.below (HBw2.out))).mono ?_
  rintro e w3 ⟨rfl, hbw3⟩
  replace a0_ := keepCell hbw3 a0_
  replace a1_ := keepCell hbw3 a1_
  replace a2_ := keepCell hbw3 a2_
  replace a3_ := keepCell hbw3 a3_
  replace b0_ := keepCell hbw3 b0_
  replace b1_ := keepCell hbw3 b1_
  replace b2_ := keepCell hbw3 b2_
  replace b3_ := keepCell hbw3 b3_
  replace r0 := keepCell hbw3 r0
  replace r1 := keepCell hbw3 r1
  replace rf0 : w3.frozen? ⟨w.heap.size + 1 + 1, 0, none⟩ = false := ((bcell hbw3).2 _ _ hzw2).trans rf0
  replace rf1 : w3.frozen? ⟨w.heap.size + 1 + 1, 1, none⟩ = false := ((bcell hbw3).2 _ _ hzw2).trans rf1
  have hzw3 : w.heap.size + 1 + 1 < w3.heap.size := World.block_lt_of_cell? w3 _ r0
  have HBw3 := Lib.hid (bnext HBw2.out hbw3)
  clear hbw3
  go_wp2_with fail
  exact bodyPost_ret (v := .tuple #[.agg #[.int .i64 0, .string ⟨#[]⟩], .bool false]) (by simp [results, Tryz.results12, go_sem, r0, r1]) rfl ⟨rfl, by (first | (with_reducible exact HBw3.out) | ((with_reducible refine Below.setCell (HBw3.out) ?_ _) <;> (first | exact Nat.le_refl _ | exact Nat.le_add_right _ _ | (dsimp only; omega) | (simp; omega))) | ((with_reducible refine Below.setCell (Below.setCell (HBw3.out) ?_ _) ?_ _) <;> (first | exact Nat.le_refl _ | exact Nat.le_add_right _ _ | (dsimp only; omega) | (simp; omega))) | ((with_reducible refine Below.setCell (Below.setCell (Below.setCell (HBw3.out) ?_ _) ?_ _) ?_ _) <;> (first | exact Nat.le_refl _ | exact Nat.le_add_right _ _ | (dsimp only; omega) | (simp; omega))))⟩

set_option maxHeartbeats 8000000 in
set_option maxRecDepth 100000 in
theorem specWhyNot_ok (a b : Ty) (hoa : a.Ok) (hob : b.Ok) (ga : Gd 4 a) (gb : Gd 4 b) (A B A' B' : Option Addr) (ca cb ca' cb' : Nat) (lo lo' : Nat) (w : World) (hat : Ty.At w lo a A B) (hbt : Ty.At w lo' b A' B') :
    Calls Tryz.prog 12 #[.agg #[.int .i64 a.kind, .string a.name, .slice A a.labels.length ca, .slice B a.kids.length cb], .agg #[.int .i64 b.kind, .string b.name, .slice A' b.labels.length ca', .slice B' b.kids.length cb']] w (WnPost (Ty.why 4 a b) w) := by
  have hT := ga.1
  have hU := gb.1
  have OA := (fun W h => specTypeOk_any a hT A B ca cb lo W h)
  have OB := (fun W h => specTypeOk_any b hU A' B' ca' cb' lo' W h)
  have OA := Lib.hid (fun W h => (OA W h).mono fun _ _ j => j.yes hoa)
  have OB := Lib.hid (fun W h => (OB W h).mono fun _ _ j => j.yes hob)
  have HA := Lib.hid hat
  have HBt := Lib.hid hbt
  have CW := Lib.hid (fun W h1 h2 => why_any 4 (by omega) a b ga gb A B A' B' ca cb ca' cb' lo lo' ⟨#[]⟩ (by decide) W h1 h2)
  have HE := Lib.hid (rp_nil (Ty.why 4 a b))
  generalize Ty.why 4 a b = R at *
  clear hat hbt hoa hob hT hU ga gb
  go_enter Tryz.func12, Tryz.ntmps12
  go_wp2_with fail
  go_at_call 24
  refine (OA.out _ (HA.out.below (below3 _ _ _ _))).mono ?_
  rintro e w2 ⟨rfl, hbw2⟩
  have a0_ := keepCell (a := ⟨w.heap.size, 0, none⟩) (v := .int .i64 a.kind) hbw2 (by go_simp)
  have a1_ := keepCell (a := ⟨w.heap.size, 1, none⟩) (v := .string a.name) hbw2 (by go_simp)
  have a2_ := keepCell (a := ⟨w.heap.size, 2, none⟩) (v := .slice A a.labels.length ca) hbw2 (by go_simp)
  have a3_ := keepCell (a := ⟨w.heap.size, 3, none⟩) (v := .slice B a.kids.length cb) hbw2 (by go_simp)
  have b0_ := keepCell (a := ⟨w.heap.size + 1, 0, none⟩) (v := .int .i64 b.kind) hbw2 (by go_simp)
  have b1_ := keepCell (a := ⟨w.heap.size + 1, 1, none⟩) (v := .string b.name) hbw2 (by go_simp)
  have b2_ := keepCell (a := ⟨w.heap.size + 1, 2, none⟩) (v := .slice A' b.labels.length ca') hbw2 (by go_simp)
  have b3_ := keepCell (a := ⟨w.heap.size + 1, 3, none⟩) (v := .slice B' b.kids.length cb') hbw2 (by go_simp)
  have r0 := keepCell (a := ⟨w.heap.size + 1 + 1, 0, none⟩) (v := .int .i64 0) hbw2 (by go_simp)
  have r1 := keepCell (a := ⟨w.heap.size + 1 + 1, 1, none⟩) (v := .string ⟨#[]⟩) hbw2 (by go_simp)
  have rf0 : w2.frozen? ⟨w.heap.size + 1 + 1, 0, none⟩ = false := ((bcell hbw2).2 _ _ (by first | (simp; done) | (simp; omega))).trans (by go_simp)
  have rf1 : w2.frozen? ⟨w.heap.size + 1 + 1, 1, none⟩ = false := ((bcell hbw2).2 _ _ (by first | (simp; done) | (simp; omega))).trans (by go_simp)
  have hzw2 : w.heap.size + 1 + 1 < w2.heap.size := World.block_lt_of_cell? w2 _ r0
  have HBw2 := Lib.hid (bnext (below3 _ _ _ _) hbw2)
  clear hbw2
  go_wp2_with fail
  go_at_call 24
  refine (OB.out _ (HBt.out.below (HBw2.out))).mono ?_
  rintro e w3 ⟨rfl, hbw3⟩
  replace a0_ := keepCell hbw3 a0_
  replace a1_ := keepCell hbw3 a1_
  replace a2_ := keepCell hbw3 a2_
  replace a3_ := keepCell hbw3 a3_
  replace b0_ := keepCell hbw3 b0_
  replace b1_ := keepCell hbw3 b1_
  replace b2_ := keepCell hbw3 b2_
  replace b3_ := keepCell hbw3 b3_
  replace r0 := keepCell hbw3 r0
  replace r1 := keepCell hbw3 r1
  replace rf0 : w3.frozen? ⟨w.heap.size + 1 + 1, 0, none⟩ = false := ((bcell hbw3).2 _ _ hzw2).trans rf0
  replace rf1 : w3.frozen? ⟨w.heap.size + 1 + 1, 1, none⟩ = false := ((bcell hbw3).2 _ _ hzw2).trans rf1
  have hzw3 : w.heap.size + 1 + 1 < w3.heap.size := World.block_lt_of_cell? w3 _ r0
  have HBw3 := Lib.hid (bnext HBw2.out hbw3)
  clear hbw3
  go_wp2_with fail
  go_at_call 31
  refine (CW.out _ (HA.out.below (HBw3.out)) (HBt.out.below (HBw3.out))).mono ?_
  rintro e w4 ⟨rfl, hbw4⟩
  replace a0_ := keepCell hbw4 a0_
  replace a1_ := keepCell hbw4 a1_
  replace a2_ := keepCell hbw4 a2_
  replace a3_ := keepCell hbw4 a3_
  replace b0_ := keepCell hbw4 b0_
  replace b1_ := keepCell hbw4 b1_
  replace b2_ := keepCell hbw4 b2_
  replace b3_ := keepCell hbw4 b3_
  replace r0 := keepCell hbw4 r0
  replace r1 := keepCell hbw4 r1
  replace rf0 : w4.frozen? ⟨w.heap.size + 1 + 1, 0, none⟩ = false := ((bcell hbw4).2 _ _ hzw3).trans rf0
  replace rf1 : w4.frozen? ⟨w.heap.size + 1 + 1, 1, none⟩ = false := ((bcell hbw4).2 _ _ hzw3).trans rf1
  have hzw4 : w.heap.size + 1 + 1 < w4.heap.size := World.block_lt_of_cell? w4 _ r0
  have HBw4 := Lib.hid (bnext HBw3.out hbw4)
  clear hbw4
  go_wp2_with fail
  exact bodyPost_ret (v := .tuple #[.agg #[.int .i64 (rk R), .string (rp ⟨#[]⟩ R)], .bool R.isSome]) (by simp [results, Tryz.results12, go_sem, r0, r1]) rfl ⟨by rw [HE.out], by (first | (with_reducible exact HBw4.out) | ((with_reducible refine Below.setCell (HBw4.out) ?_ _) <;> (first | exact Nat.le_refl _ | exact Nat.le_add_right _ _ | (dsimp only; omega) | (simp; omega))) | ((with_reducible refine Below.setCell (Below.setCell (HBw4.out) ?_ _) ?_ _) <;> (first | exact Nat.le_refl _ | exact Nat.le_add_right _ _ | (dsimp only; omega) | (simp; omega))) | ((with_reducible refine Below.setCell (Below.setCell (Below.setCell (HBw4.out) ?_ _) ?_ _) ?_ _) <;> (first | exact Nat.le_refl _ | exact Nat.le_add_right _ _ | (dsimp only; omega) | (simp; omega))))⟩

set_option maxHeartbeats 8000000 in
set_option maxRecDepth 100000 in
theorem implWhyNot_na (a b : Ty) (hT : a.wt ≤ 1048576) (hoa : ¬ a.Ok) (A B A' B' : Option Addr) (ca cb ca' cb' : Nat) (w : World) (hat : Ty.Pl w 0 a A B) (hm : MaxC w) :
    Calls Tryz.prog 13 #[.agg #[.int .i64 a.kind, .string a.name, .slice A a.labels.length ca, .slice B a.kids.length cb], .agg #[.int .i64 b.kind, .string b.name, .slice A' b.labels.length ca', .slice B' b.kids.length cb']] w (WnPost none w) := by
  have OA := (fun W h h2 => implTypeOk_any a 0 hT A B ca cb W (Ty.Pl.at_ h) h2)
  have OA := Lib.hid (fun W h h2 => (OA W h h2).mono fun _ _ j => j.no hoa)
  have HA := Lib.hid hat
  have HM := Lib.hid hm
  clear hat hoa hT hm
  go_enter Tryz.func13, Tryz.ntmps13
  go_wp2_with fail
  go_at_call 28
  refine (OA.out _ (HA.out.on (below3 _ _ _ _)) (HM.out.keep (below3 _ _ _ _))).mono ?_
  rintro e w2 ⟨rfl, hbw2⟩
  have a0_ := keepCell (a := ⟨w.heap.size, 0, none⟩) (v := .int .i64 a.kind) hbw2 (by go_simp)
  have a1_ := keepCell (a := ⟨w.heap.size, 1, none⟩) (v := .string a.name) hbw2 (by go_simp)
  have a2_ := keepCell (a := ⟨w.heap.size, 2, none⟩) (v := .slice A a.labels.length ca) hbw2 (by go_simp)
  have a3_ := keepCell (a := ⟨w.heap.size, 3, none⟩) (v := .slice B a.kids.length cb) hbw2 (by go_simp)
  have b0_ := keepCell (a := ⟨w.heap.size + 1, 0, none⟩) (v := .int .i64 b.kind) hbw2 (by go_simp)
  have b1_ := keepCell (a := ⟨w.heap.size + 1, 1, none⟩) (v := .string b.name) hbw2 (by go_simp)
  have b2_ := keepCell (a := ⟨w.heap.size + 1, 2, none⟩) (v := .slice A' b.labels.length ca') hbw2 (by go_simp)
  have b3_ := keepCell (a := ⟨w.heap.size + 1, 3, none⟩) (v := .slice B' b.kids.length cb') hbw2 (by go_simp)
  have r0 := keepCell (a := ⟨w.heap.size + 1 + 1, 0, none⟩) (v := .int .i64 0) hbw2 (by go_simp)
  have r1 := keepCell (a := ⟨w.heap.size + 1 + 1, 1, none⟩) (v := .string ⟨#[]⟩) hbw2 (by go_simp)
  have rf0 : w2.frozen? ⟨w.heap.size + 1 + 1, 0, none⟩ = false := ((bcell hbw2).2 _ _ (by first | (simp; done) | (simp; omega))).trans (by go_simp)
  have rf1 : w2.frozen? ⟨w.heap.size + 1 + 1, 1, none⟩ = false := ((bcell hbw2).2 _ _ (by first | (simp; done) | (simp; omega))).trans (by go_simp)
  have hzw2 : w.heap.size + 1 + 1 < w2.heap.size := World.block_lt_of_cell? w2 _ r0
  have HBw2 := Lib.hid (bnext (below3 _ _ _ _) hbw2)
  clear hbw2
  go_wp2_with fail
  exact bodyPost_ret (v := .tuple #[.agg #[.int .i64 0, .string ⟨#[]⟩], .bool false]) (by simp [results, Tryz.results13, go_sem, r0, r1]) rfl ⟨rfl, by (first | (with_reducible exact HBw2.out) | ((with_reducible refine Below.setCell (HBw2.out) ?_ _) <;> (first | exact Nat.le_refl _ | exact Nat.le_add_right _ _ | (dsimp only; omega) | (simp; omega))) | ((with_reducible refine Below.setCell (Below.setCell (HBw2.out) ?_ _) ?_ _) <;> (first | exact Nat.le_refl _ | exact Nat.le_add_right _ _ | (dsimp only; omega) | (simp; omega))) | ((with_reducible refine Below.setCell (Below.setCell (Below.setCell (HBw2.out) ?_ _) ?_ _) ?_ _) <;> (first | exact Nat.le_refl _ | exact Nat.le_add_right _ _ | (dsimp only; omega) | (simp; omega))))⟩

set_option maxHeartbeats 8000000 in
set_option maxRecDepth 100000 in
theorem implWhyNot_nb (a b : Ty) (hT : a.wt ≤ 1048576) (hU : b.wt ≤ 1048576) (hoa : a.Ok) (hob : ¬ b.Ok) (A B A' B' : Option Addr) (ca cb ca' cb' : Nat) (w : World) (hat : Ty.Pl w 0 a A B) (hbt : Ty.Pl w 0 b A' B') (hm : MaxC w) :
    Calls Tryz.prog 13 #[.agg #[.int .i64 a.kind, .string a.name, .slice A a.labels.length ca, .slice B a.kids.length cb], .agg #[.int .i64 b.kind, .string b.name, .slice A' b.labels.length ca', .slice B' b.kids.length cb']] w (WnPost none w) := by
  have OA := (fun W h h2 => implTypeOk_any a 0 hT A B ca cb W (Ty.Pl.at_ h) h2)
  have OB := (fun W h h2 => implTypeOk_any b 0 hU A' B' ca' cb' W (Ty.Pl.at_ h) h2)
  have OA := Lib.hid (fun W h h2 => (OA W h h2).mono fun _ _ j => j.yes hoa)
  have OB := Lib.hid (fun W h h2 => (OB W h h2).mono fun _ _ j => j.no hob)
  have HA := Lib.hid hat
  have HBt := Lib.hid hbt
  have HM := Lib.hid hm
  clear hat hbt hoa hob hT hU hm
  go_enter Tryz.func13, Tryz.ntmps13
  go_wp2_with fail
  go_at_call 28
  refine (OA.out _ (HA.out.on (below3 _ _ _ _)) (HM.out.keep (below3 _ _ _ _))).mono ?_
  rintro e w2 ⟨rfl, hbw2⟩
  have a0_ := keepCell (a := ⟨w.heap.size, 0, none⟩) (v := .int .i64 a.kind) hbw2 (by go_simp)
  have a1_ := keepCell (a := ⟨w.heap.size, 1, none⟩) (v := .string a.name) hbw2 (by go_simp)
  have a2_ := keepCell (a := ⟨w.heap.size, 2, none⟩) (v := .slice A a.labels.length ca) hbw2 (by go_simp)
  have a3_ := keepCell (a := ⟨w.heap.size, 3, none⟩) (v := .slice B a.kids.length cb) hbw2 (by go_simp)
  have b0_ := keepCell (a := ⟨w.heap.size + 1, 0, none⟩) (v := .int .i64 b.kind) hbw2 (by go_simp)
  have b1_ := keepCell (a := ⟨w.heap.size + 1, 1, none⟩) (v := .string b.name) hbw2 (by go_simp)
  have b2_ := keepCell (a := ⟨w.heap.size + 1, 2, none⟩) (v := .slice A' b.labels.length ca') hbw2 (by go_simp)
  have b3_ := keepCell (a := ⟨w.heap.size + 1, 3, none⟩) (v := .slice B' b.kids.length cb') hbw2 (by go_simp)
  have r0 := keepCell (a := ⟨w.heap.size + 1 + 1, 0, none⟩) (v := .int .i64 0) hbw2 (by go_simp)
  have r1 := keepCell (a := ⟨w.heap.size + 1 + 1, 1, none⟩) (v := .string ⟨#[]⟩) hbw2 (by go_simp)
  have rf0 : w2.frozen? ⟨w.heap.size + 1 + 1, 0, none⟩ = false := ((bcell hbw2).2 _ _ (by first | (simp; done) | (simp; omega))).trans (by go_simp)
  have rf1 : w2.frozen? ⟨w.heap.size + 1 + 1, 1, none⟩ = false := ((bcell hbw2).2 _ _ (by first | (simp; done) | (simp; omega))).trans (by go_simp)
  have hzw2 : w.heap.size + 1 + 1 < w2.heap.size := World.block_lt_of_cell? w2 _ r0
  have HBw2 := Lib.hid (bnext (below3 _ _ _ _) hbw2)
  clear hbw2
  go_wp2_with fail
  go_at_call 28
  refine (OB.out _ (HBt.out.on (HBw2.out)) (HM.out.keep (HBw2.out))).mono ?_
  rintro e w3 ⟨rfl, hbw3⟩
  replace a0_ := keepCell hbw3 a0_
  replace a1_ := keepCell hbw3 a1_
  replace a2_ := keepCell hbw3 a2_
  replace a3_ := keepCell hbw3 a3_
  replace b0_ := keepCell hbw3 b0_
  replace b1_ := keepCell hbw3 b1_
  replace b2_ := keepCell hbw3 b2_
  replace b3_ := keepCell hbw3 b3_
  replace r0 := keepCell hbw3 r0
  replace r1 := keepCell hbw3 r1
  replace rf0 : w3.frozen? ⟨w.heap.size + 1 + 1, 0, none⟩ = false := ((bcell hbw3).2 _ _ hzw2).trans rf0
  replace rf1 : w3.frozen? ⟨w.heap.size + 1 + 1, 1, none⟩ = false := ((bcell hbw3).2 _ _ hzw2).trans rf1
  have hzw3 : w.heap.size + 1 + 1 < w3.heap.size := World.block_lt_of_cell? w3 _ r0
  have HBw3 := Lib.hid (bnext HBw2.out hbw3)
  clear hbw3
  go_wp2_with fail
  exact bodyPost_ret (v := .tuple #[.agg #[.int .i64 0, .string ⟨#[]⟩], .bool false]) (by simp [results, Tryz.results13, go_sem, r0, r1]) rfl ⟨rfl, by (first | (with_reducible exact HBw3.out) | ((with_reducible refine Below.setCell (HBw3.out) ?_ _) <;> (first | exact Nat.le_refl _ | exact Nat.le_add_right _ _ | (dsimp only; omega) | (simp; omega))) | ((with_reducible refine Below.setCell (Below.setCell (HBw3.out) ?_ _) ?_ _) <;> (first | exact Nat.le_refl _ | exact Nat.le_add_right _ _ | (dsimp only; omega) | (simp; omega))) | ((with_reducible refine Below.setCell (Below.setCell (Below.setCell (HBw3.out) ?_ _) ?_ _) ?_ _) <;> (first | exact Nat.le_refl _ | exact Nat.le_add_right _ _ | (dsimp only; omega) | (simp; omega))))⟩

set_option maxHeartbeats 8000000 in
set_option maxRecDepth 100000 in
theorem implWhyNot_none (a b : Ty) (hoa : a.Ok) (hob : b.Ok) (ga : Gd 4 a) (gb : Gd 4 b) (hr : Ty.why 4 a b = none) (A B A' B' : Option Addr) (ca cb ca' cb' : Nat) (w : World) (hat : Ty.Pl w 0 a A B) (hbt : Ty.Pl w 0 b A' B') (ht : RTable w) (hm : MaxC w) :
    Calls Tryz.prog 13 #[.agg #[.int .i64 a.kind, .string a.name, .slice A a.labels.length ca, .slice B a.kids.length cb], .agg #[.int .i64 b.kind, .string b.name, .slice A' b.labels.length ca', .slice B' b.kids.length cb']] w (WnPost none w) := by
  have hT := ga.1
  have hU := gb.1
  have OA := (fun W h h2 => implTypeOk_any a 0 hT A B ca cb W (Ty.Pl.at_ h) h2)
  have OB := (fun W h h2 => implTypeOk_any b 0 hU A' B' ca' cb' W (Ty.Pl.at_ h) h2)
  have OA := Lib.hid (fun W h h2 => (OA W h h2).mono fun _ _ j => j.yes hoa)
  have OB := Lib.hid (fun W h h2 => (OB W h h2).mono fun _ _ j => j.yes hob)
  have HA := Lib.hid hat
  have HBt := Lib.hid hbt
  have HT := Lib.hid ht
  have HM := Lib.hid hm
  have CW0 := (fun W h1 h2 h3 => typeReason_any 4 (by omega) a b ga gb A B A' B' ca cb ca' cb' W h1 h2 h3)
  rw [hr] at CW0
  have CW := Lib.hid (fun W h1 h2 h3 => (CW0 W h1 h2 h3).mono fun _ _ j => j.none_)
  clear CW0 hat hbt hoa hob hT hU ga gb ht hm hr
  go_enter Tryz.func13, Tryz.ntmps13
  go_wp2_with fail
  go_at_call 28
  refine (OA.out _ (HA.out.on (below3 _ _ _ _)) (HM.out.keep (below3 _ _ _ _))).mono ?_
  rintro e w2 ⟨rfl, hbw2⟩
  have a0_ := keepCell (a := ⟨w.heap.size, 0, none⟩) (v := .int .i64 a.kind) hbw2 (by go_simp)
  have a1_ := keepCell (a := ⟨w.heap.size, 1, none⟩) (v := .string a.name) hbw2 (by go_simp)
  have a2_ := keepCell (a := ⟨w.heap.size, 2, none⟩) (v := .slice A a.labels.length ca) hbw2 (by go_simp)
  have a3_ := keepCell (a := ⟨w.heap.size, 3, none⟩) (v := .slice B a.kids.length cb) hbw2 (by go_simp)
  have b0_ := keepCell (a := ⟨w.heap.size + 1, 0, none⟩) (v := .int .i64 b.kind) hbw2 (by go_simp)
  have b1_ := keepCell (a := ⟨w.heap.size + 1, 1, none⟩) (v := .string b.name) hbw2 (by go_simp)
  have b2_ := keepCell (a := ⟨w.heap.size + 1, 2, none⟩) (v := .slice A' b.labels.length ca') hbw2 (by go_simp)
  have b3_ := keepCell (a := ⟨w.heap.size + 1, 3, none⟩) (v := .slice B' b.kids.length cb') hbw2 (by go_simp)
  have r0 := keepCell (a := ⟨w.heap.size + 1 + 1, 0, none⟩) (v := .int .i64 0) hbw2 (by go_simp)
  have r1 := keepCell (a := ⟨w.heap.size + 1 + 1, 1, none⟩) (v := .string ⟨#[]⟩) hbw2 (by go_simp)
  have rf0 : w2.frozen? ⟨w.heap.size + 1 + 1, 0, none⟩ = false := ((bcell hbw2).2 _ _ (by first | (simp; done) | (simp; omega))).trans (by go_simp)
  have rf1 : w2.frozen? ⟨w.heap.size + 1 + 1, 1, none⟩ = false := ((bcell hbw2).2 _ _ (by first | (simp; done) | (simp; omega))).trans (by go_simp)
  have hzw2 : w.heap.size + 1 + 1 < w2.heap.size := World.block_lt_of_cell? w2 _ r0
  have HBw2 := Lib.hid (bnext (below3 _ _ _ _) hbw2)
  clear hbw2
  go_wp2_with fail
  go_at_call 28
  refine (OB.out _ (HBt.out.on (HBw2.out)) (HM.out.keep (HBw2.out))).mono ?_
  rintro e w3 ⟨rfl, hbw3⟩
  replace a0_ := keepCell hbw3 a0_
  replace a1_ := keepCell hbw3 a1_
  replace a2_ := keepCell hbw3 a2_
  replace a3_ := keepCell hbw3 a3_
  replace b0_ := keepCell hbw3 b0_
  replace b1_ := keepCell hbw3 b1_
  replace b2_ := keepCell hbw3 b2_
  replace b3_ := keepCell hbw3 b3_
  replace r0 := keepCell hbw3 r0
  replace r1 := keepCell hbw3 r1
  replace rf0 : w3.frozen? ⟨w.heap.size + 1 + 1, 0, none⟩ = false := ((bcell hbw3).2 _ _ hzw2).trans rf0
  replace rf1 : w3.frozen? ⟨w.heap.size + 1 + 1, 1, none⟩ = false := ((bcell hbw3).2 _ _ hzw2).trans rf1
  have hzw3 : w.heap.size + 1 + 1 < w3.heap.size := World.block_lt_of_cell? w3 _ r0
  have HBw3 := Lib.hid (bnext HBw2.out hbw3)
  clear hbw3
  go_wp2_with fail
  go_at_call 32
  refine (CW.out _ (HA.out.on (HBw3.out)) (HBt.out.on (HBw3.out)) (HT.out.keep HBw3.out)).mono ?_
  rintro e w4 ⟨rfl, hbw4⟩
  replace a0_ := keepCell hbw4 a0_
  replace a1_ := keepCell hbw4 a1_
  replace a2_ := keepCell hbw4 a2_
  replace a3_ := keepCell hbw4 a3_
  replace b0_ := keepCell hbw4 b0_
  replace b1_ := keepCell hbw4 b1_
  replace b2_ := keepCell hbw4 b2_
  replace b3_ := keepCell hbw4 b3_
  replace r0 := keepCell hbw4 r0
  replace r1 := keepCell hbw4 r1
  replace rf0 : w4.frozen? ⟨w.heap.size + 1 + 1, 0, none⟩ = false := ((bcell hbw4).2 _ _ hzw3).trans rf0
  replace rf1 : w4.frozen? ⟨w.heap.size + 1 + 1, 1, none⟩ = false := ((bcell hbw4).2 _ _ hzw3).trans rf1
  have hzw4 : w.heap.size + 1 + 1 < w4.heap.size := World.block_lt_of_cell? w4 _ r0
  have HBw4 := Lib.hid (bnext HBw3.out hbw4)
  clear hbw4
  go_wp2_with fail
  obtain ⟨W, hW, hb, g0, g1, q0, q1, qf0, qf1⟩ : ∃ W, w4.alloc (.cells #[.int .i64 0, .string ⟨#[]⟩] 34) = W ∧ Below w4.heap.size w4 W ∧ W.cell? ⟨w4.heap.size, 0, none⟩ = some (.int .i64 0) ∧ W.cell? ⟨w4.heap.size, 1, none⟩ = some (.string ⟨#[]⟩) ∧ W.cell? ⟨w.heap.size + 1 + 1, 0, none⟩ = some (.int .i64 0) ∧ W.cell? ⟨w.heap.size + 1 + 1, 1, none⟩ = some (.string ⟨#[]⟩) ∧ W.frozen? ⟨w.heap.size + 1 + 1, 0, none⟩ = false ∧ W.frozen? ⟨w.heap.size + 1 + 1, 1, none⟩ = false := ⟨_, rfl, below1 _ _, by go_simp, by go_simp, keepCell (below1 _ _) r0, keepCell (below1 _ _) r1, by go_simp, by go_simp⟩
  rw [hW]
  have HBX := Lib.hid (bnext HBw4.out hb)
  have hne : w4.heap.size ≠ w.heap.size + 1 + 1 := by omega
  clear hW hb r0 r1 rf0 rf1 a0_ a1_ a2_ a3_ b0_ b1_ b2_ b3_
  go_region_held3 (fun w' => w'.cell? ⟨w4.heap.size, 0, none⟩ = some (.int .i64 0) ∧ w'.cell? ⟨w4.heap.size, 1, none⟩ = some (.string ⟨#[]⟩))
    (first | assumption | (with_reducible exact ⟨g0, g1⟩) | (refine ⟨?_, ?_⟩ <;> first | assumption | (exact (cells_far2 hne).trans (by assumption))))
    (fail)
  all_goals
    go_wp2_with fail
    exact bodyPost_ret (v := .tuple #[.agg #[.int .i64 0, .string ⟨#[]⟩], .bool false]) (by simp [results, Tryz.results13, go_sem, q0, q1]) rfl ⟨rfl, by first | exact ((HBX.out.setCell (by first | exact Nat.le_refl _ | exact Nat.le_add_right _ _ | (dsimp only; omega) | (simp; omega)) _).setCell (by first | exact Nat.le_refl _ | exact Nat.le_add_right _ _ | (dsimp only; omega) | (simp; omega)) _).drew | exact (((HBX.out.drew).setCell (by first | exact Nat.le_refl _ | exact Nat.le_add_right _ _ | (dsimp only; omega) | (simp; omega)) _).setCell (by first | exact Nat.le_refl _ | exact Nat.le_add_right _ _ | (dsimp only; omega) | (simp; omega)) _)⟩

set_option maxHeartbeats 8000000 in
set_option maxRecDepth 100000 in
theorem implWhyNot_some (a b : Ty) (hoa : a.Ok) (hob : b.Ok) (ga : Gd 4 a) (gb : Gd 4 b) (z : Int) (p : ByteArray) (hr : Ty.why 4 a b = some (z, p)) (A B A' B' : Option Addr) (ca cb ca' cb' : Nat) (w : World) (hat : Ty.Pl w 0 a A B) (hbt : Ty.Pl w 0 b A' B') (ht : RTable w) (hm : MaxC w) :
    Calls Tryz.prog 13 #[.agg #[.int .i64 a.kind, .string a.name, .slice A a.labels.length ca, .slice B a.kids.length cb], .agg #[.int .i64 b.kind, .string b.name, .slice A' b.labels.length ca', .slice B' b.kids.length cb']] w (WnPost (some (z, p)) w) := by
  have hT := ga.1
  have hU := gb.1
  have OA := (fun W h h2 => implTypeOk_any a 0 hT A B ca cb W (Ty.Pl.at_ h) h2)
  have OB := (fun W h h2 => implTypeOk_any b 0 hU A' B' ca' cb' W (Ty.Pl.at_ h) h2)
  have OA := Lib.hid (fun W h h2 => (OA W h h2).mono fun _ _ j => j.yes hoa)
  have OB := Lib.hid (fun W h h2 => (OB W h h2).mono fun _ _ j => j.yes hob)
  have HA := Lib.hid hat
  have HBt := Lib.hid hbt
  have HT := Lib.hid ht
  have HM := Lib.hid hm
  obtain ⟨⟨z1, z2⟩, _⟩ := Ty.why_small (by omega) ga gb z p hr
  have ez : (z == 0) = false := by rw [beq_eq_false_iff_ne]; omega
  have ez' : (z != 0) = true := by rw [bne_iff_ne]; omega
  have CW0 := (fun W h1 h2 h3 => typeReason_any 4 (by omega) a b ga gb A B A' B' ca cb ca' cb' W h1 h2 h3)
  rw [hr] at CW0
  have CW := Lib.hid (fun W h1 h2 h3 => (CW0 W h1 h2 h3).mono fun _ _ j => j.some_)
  clear CW0 hat hbt hoa hob hT hU ga gb ht hm hr
  go_enter Tryz.func13, Tryz.ntmps13
  go_wp2_with fail
  go_at_call 28
  refine (OA.out _ (HA.out.on (below3 _ _ _ _)) (HM.out.keep (below3 _ _ _ _))).mono ?_
  rintro e w2 ⟨rfl, hbw2⟩
  have a0_ := keepCell (a := ⟨w.heap.size, 0, none⟩) (v := .int .i64 a.kind) hbw2 (by go_simp)
  have a1_ := keepCell (a := ⟨w.heap.size, 1, none⟩) (v := .string a.name) hbw2 (by go_simp)
  have a2_ := keepCell (a := ⟨w.heap.size, 2, none⟩) (v := .slice A a.labels.length ca) hbw2 (by go_simp)
  have a3_ := keepCell (a := ⟨w.heap.size, 3, none⟩) (v := .slice B a.kids.length cb) hbw2 (by go_simp)
  have b0_ := keepCell (a := ⟨w.heap.size + 1, 0, none⟩) (v := .int .i64 b.kind) hbw2 (by go_simp)
  have b1_ := keepCell (a := ⟨w.heap.size + 1, 1, none⟩) (v := .string b.name) hbw2 (by go_simp)
  have b2_ := keepCell (a := ⟨w.heap.size + 1, 2, none⟩) (v := .slice A' b.labels.length ca') hbw2 (by go_simp)
  have b3_ := keepCell (a := ⟨w.heap.size + 1, 3, none⟩) (v := .slice B' b.kids.length cb') hbw2 (by go_simp)
  have r0 := keepCell (a := ⟨w.heap.size + 1 + 1, 0, none⟩) (v := .int .i64 0) hbw2 (by go_simp)
  have r1 := keepCell (a := ⟨w.heap.size + 1 + 1, 1, none⟩) (v := .string ⟨#[]⟩) hbw2 (by go_simp)
  have rf0 : w2.frozen? ⟨w.heap.size + 1 + 1, 0, none⟩ = false := ((bcell hbw2).2 _ _ (by first | (simp; done) | (simp; omega))).trans (by go_simp)
  have rf1 : w2.frozen? ⟨w.heap.size + 1 + 1, 1, none⟩ = false := ((bcell hbw2).2 _ _ (by first | (simp; done) | (simp; omega))).trans (by go_simp)
  have hzw2 : w.heap.size + 1 + 1 < w2.heap.size := World.block_lt_of_cell? w2 _ r0
  have HBw2 := Lib.hid (bnext (below3 _ _ _ _) hbw2)
  clear hbw2
  go_wp2_with fail
  go_at_call 28
  refine (OB.out _ (HBt.out.on (HBw2.out)) (HM.out.keep (HBw2.out))).mono ?_
  rintro e w3 ⟨rfl, hbw3⟩
  replace a0_ := keepCell hbw3 a0_
  replace a1_ := keepCell hbw3 a1_
  replace a2_ := keepCell hbw3 a2_
  replace a3_ := keepCell hbw3 a3_
  replace b0_ := keepCell hbw3 b0_
  replace b1_ := keepCell hbw3 b1_
  replace b2_ := keepCell hbw3 b2_
  replace b3_ := keepCell hbw3 b3_
  replace r0 := keepCell hbw3 r0
  replace r1 := keepCell hbw3 r1
  replace rf0 : w3.frozen? ⟨w.heap.size + 1 + 1, 0, none⟩ = false := ((bcell hbw3).2 _ _ hzw2).trans rf0
  replace rf1 : w3.frozen? ⟨w.heap.size + 1 + 1, 1, none⟩ = false := ((bcell hbw3).2 _ _ hzw2).trans rf1
  have hzw3 : w.heap.size + 1 + 1 < w3.heap.size := World.block_lt_of_cell? w3 _ r0
  have HBw3 := Lib.hid (bnext HBw2.out hbw3)
  clear hbw3
  go_wp2_with fail
  go_at_call 32
  refine (CW.out _ (HA.out.on (HBw3.out)) (HBt.out.on (HBw3.out)) (HT.out.keep HBw3.out)).mono ?_
  rintro e w4 ⟨rfl, hbw4⟩
  replace a0_ := keepCell hbw4 a0_
  replace a1_ := keepCell hbw4 a1_
  replace a2_ := keepCell hbw4 a2_
  replace a3_ := keepCell hbw4 a3_
  replace b0_ := keepCell hbw4 b0_
  replace b1_ := keepCell hbw4 b1_
  replace b2_ := keepCell hbw4 b2_
  replace b3_ := keepCell hbw4 b3_
  replace r0 := keepCell hbw4 r0
  replace r1 := keepCell hbw4 r1
  replace rf0 : w4.frozen? ⟨w.heap.size + 1 + 1, 0, none⟩ = false := ((bcell hbw4).2 _ _ hzw3).trans rf0
  replace rf1 : w4.frozen? ⟨w.heap.size + 1 + 1, 1, none⟩ = false := ((bcell hbw4).2 _ _ hzw3).trans rf1
  have hzw4 : w.heap.size + 1 + 1 < w4.heap.size := World.block_lt_of_cell? w4 _ r0
  have HBw4 := Lib.hid (bnext HBw3.out hbw4)
  clear hbw4
  go_wp2_with fail
  obtain ⟨W, hW, hb, g0, g1, q0, q1, qf0, qf1⟩ : ∃ W, w4.alloc (.cells #[.int .i64 z, .string p] 34) = W ∧ Below w4.heap.size w4 W ∧ W.cell? ⟨w4.heap.size, 0, none⟩ = some (.int .i64 z) ∧ W.cell? ⟨w4.heap.size, 1, none⟩ = some (.string p) ∧ W.cell? ⟨w.heap.size + 1 + 1, 0, none⟩ = some (.int .i64 0) ∧ W.cell? ⟨w.heap.size + 1 + 1, 1, none⟩ = some (.string ⟨#[]⟩) ∧ W.frozen? ⟨w.heap.size + 1 + 1, 0, none⟩ = false ∧ W.frozen? ⟨w.heap.size + 1 + 1, 1, none⟩ = false := ⟨_, rfl, below1 _ _, by go_simp, by go_simp, keepCell (below1 _ _) r0, keepCell (below1 _ _) r1, by go_simp, by go_simp⟩
  rw [hW]
  have HBX := Lib.hid (bnext HBw4.out hb)
  have hne : w4.heap.size ≠ w.heap.size + 1 + 1 := by omega
  clear hW hb r0 r1 rf0 rf1 a0_ a1_ a2_ a3_ b0_ b1_ b2_ b3_
  go_region_held3 (fun w' => w'.cell? ⟨w4.heap.size, 0, none⟩ = some (.int .i64 z) ∧ w'.cell? ⟨w4.heap.size, 1, none⟩ = some (.string p))
    (first | assumption | (with_reducible exact ⟨g0, g1⟩) | (refine ⟨?_, ?_⟩ <;> first | assumption | (exact (cells_far2 hne).trans (by assumption))))
    (fail)
  all_goals
    go_wp2_with fail
    exact bodyPost_ret (v := .tuple #[.agg #[.int .i64 z, .string p], .bool true]) (by simp [results, Tryz.results13, go_sem, q0, q1]) rfl ⟨rfl, by first | exact ((HBX.out.setCell (by first | exact Nat.le_refl _ | exact Nat.le_add_right _ _ | (dsimp only; omega) | (simp; omega)) _).setCell (by first | exact Nat.le_refl _ | exact Nat.le_add_right _ _ | (dsimp only; omega) | (simp; omega)) _).drew | exact (((HBX.out.drew).setCell (by first | exact Nat.le_refl _ | exact Nat.le_add_right _ _ | (dsimp only; omega) | (simp; omega)) _).setCell (by first | exact Nat.le_refl _ | exact Nat.le_add_right _ _ | (dsimp only; omega) | (simp; omega)) _)⟩

end Go.Proofs.YtifchfecfkdjlaaGreatDoor

namespace Go.Proofs.YtifchfecfkdjlaaGreatDoor
open Go.ChangeShapes Go.WideShapes Go.ChangeAt Go.RowKit Go.Deep

theorem whynot_both (a b : Ty) (hT : a.wt ≤ 1048576) (hU : b.wt ≤ 1048576) : ∃ R : Option (Int × ByteArray), (∀ (A B A' B' : Option Addr) (ca cb ca' cb' : Nat) (lo lo' : Nat) (w : World), Ty.At w lo a A B → Ty.At w lo' b A' B' → Calls Tryz.prog 12 #[.agg #[.int .i64 a.kind, .string a.name, .slice A a.labels.length ca, .slice B a.kids.length cb], .agg #[.int .i64 b.kind, .string b.name, .slice A' b.labels.length ca', .slice B' b.kids.length cb']] w (WnPost R w)) ∧
    (∀ (A B A' B' : Option Addr) (ca cb ca' cb' : Nat) (w : World), Ty.Pl w 0 a A B → Ty.Pl w 0 b A' B' → RTable w → MaxC w → Calls Tryz.prog 13 #[.agg #[.int .i64 a.kind, .string a.name, .slice A a.labels.length ca, .slice B a.kids.length cb], .agg #[.int .i64 b.kind, .string b.name, .slice A' b.labels.length ca', .slice B' b.kids.length cb']] w (WnPost R w)) := by
  by_cases hoa : a.Ok
  · by_cases hob : b.Ok
    · have ga := Gd.of hT hoa
      have gb := Gd.of hU hob
      refine ⟨Ty.why 4 a b, fun A B A' B' ca cb ca' cb' lo lo' w h1 h2 => specWhyNot_ok a b hoa hob ga gb A B A' B' ca cb ca' cb' lo lo' w h1 h2, fun A B A' B' ca cb ca' cb' w h1 h2 h3 h4 => ?_⟩
      cases hr : Ty.why 4 a b with
      | none => exact implWhyNot_none a b hoa hob ga gb hr A B A' B' ca cb ca' cb' w h1 h2 h3 h4
      | some v =>
        obtain ⟨z, p⟩ := v
        exact implWhyNot_some a b hoa hob ga gb z p hr A B A' B' ca cb ca' cb' w h1 h2 h3 h4
    · exact ⟨none, fun A B A' B' ca cb ca' cb' lo lo' w h1 h2 => specWhyNot_nb a b hT hU hoa hob A B A' B' ca cb ca' cb' lo lo' w h1 h2, fun A B A' B' ca cb ca' cb' w h1 h2 h3 h4 => implWhyNot_nb a b hT hU hoa hob A B A' B' ca cb ca' cb' w h1 h2 h4⟩
  · exact ⟨none, fun A B A' B' ca cb ca' cb' lo lo' w h1 h2 => specWhyNot_na a b hT hoa A B A' B' ca cb ca' cb' lo w h1, fun A B A' B' ca cb ca' cb' w h1 h2 h3 h4 => implWhyNot_na a b hT hoa A B A' B' ca cb ca' cb' w h1 h4⟩
end Go.Proofs.YtifchfecfkdjlaaGreatDoor

namespace Go.Proofs.YtifchfecfkdjlaaGreatDoor
open Go.ChangeShapes Go.WideShapes Go.ChangeAt Go.RowKit


set_option maxRecDepth 100000 in
theorem rtable4 {W : World} (h0 : laidMet Tryz.prog [("math/bits.deBruijn32tab", Rows.laid_math_bits_deBruijn32tab), ("math/bits.deBruijn64tab", Rows.laid_math_bits_deBruijn64tab), ("internal/strconv.uint64pow10", Rows.laid_internal_strconv_uint64pow10), ("loop.example/g00901/impl.numRanges", Rows.laid_loop_example_g00901_impl_numRanges)] W) : RTable W := by
  obtain ⟨ps, ⟨_, _, _, _, _, _, _, _, _, _, ⟨_, _, _, _, _, _, _, _, _, _, ⟨_, _, _, _, _, _, _, _, _, _, ⟨g', t', cs, fuel, p, q, hg', ht', hvar, hd, _, _⟩, _⟩, _⟩, _⟩, _⟩ := h0
  obtain rfl := Option.some.inj (gNR.symm.trans hg')
  obtain rfl := Option.some.inj (gNRType.symm.trans ht')
  obtain ⟨xs, m, rfl, hx, hlen, hxl, hi⟩ := DataW.trod_array Tryz.underlying98 hd
  have h6 : xs.map (·.1) = ranges.map fun x => DataW.agg [.lit (.int .i64 x.1), .lit (.int .i64 x.2)] := by
    have h7 := congrArg Prod.fst hx
    simp only at h7
    rw [nrData] at h7
    injection h7 with h8
    exact h8.symm
  intro i a b hab
  have hi10 : i < 10 := (List.getElem?_eq_some_iff.mp hab).1
  have hxi : i < xs.length := by omega
  have h1 := hi i hi10
  rw [cellsNR, List.getElem?_eq_getElem hxi] at h1
  obtain ⟨y0, y1, n, hy, hl2, k0, k1⟩ := trod_struct2 Tryz.underlying97 h1
  have h5 : (xs.map (·.1))[i]? = some (.agg [y0.1, y1.1]) := by
    rw [List.getElem?_map, List.getElem?_eq_getElem hxi, hy]
    rfl
  rw [h6, List.getElem?_map, hab] at h5
  injection h5 with h5
  injection h5 with h5
  simp only [List.cons.injEq, and_true] at h5
  obtain ⟨d0, e0, f0, _⟩ := DataW.trod_int Tryz.underlying2 k0
  obtain ⟨d1, e1, f1, _⟩ := DataW.trod_int Tryz.underlying2 k1
  rw [f0, f1] at h5
  obtain ⟨h50, h51⟩ := h5
  injection h50 with h50
  injection h50 with _ h50
  injection h51 with h51
  injection h51 with _ h51
  subst h50 h51
  have c0 : cs[2 * i]? = some (.int .i64 a) := by
    have h3 := congrArg (fun l => l[0]?) e0
    simpa [cellsI64, Nat.mul_comm] using h3
  have c1 : cs[2 * i + 1]? = some (.int .i64 b) := by
    have h3 := congrArg (fun l => l[0]?) e1
    simpa [cellsI64, Nat.mul_comm] using h3
  rw [World.var?_cell gNR hvar (2 * i), World.var?_cell gNR hvar (2 * i + 1)]
  exact ⟨c0, c1⟩

end Go.Proofs.YtifchfecfkdjlaaGreatDoor

