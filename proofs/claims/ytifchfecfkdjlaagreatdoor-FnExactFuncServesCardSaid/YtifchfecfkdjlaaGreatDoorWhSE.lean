/-
  The walks of the model's l08Why at enums and flags.
-/
import Derived.Test.YtifchfecfkdjlaaGreatDoorWhSW
namespace Go.Proofs.YtifchfecfkdjlaaGreatDoor
open Go.ChangeShapes Go.WideShapes Go.ChangeAt Go.RowKit Go.Deep

set_option maxHeartbeats 8000000 in
set_option maxRecDepth 100000 in
theorem why_en18 (n : Nat) (a b : Ty) (ga : Gd (n + 1) a) (gb : Gd (n + 1) b) (hna : numK a.kind = false) (hk : a.kind = b.kind) (hka : a.kind = 18) (A B A' B' : Option Addr) (ca cb ca' cb' : Nat) (lo lo' : Nat) (pt : ByteArray) (hps : pt.size ≤ 100000000) (w : World) (hat : Ty.At w lo a A B) (hbt : Ty.At w lo' b A' B') :
    Calls Tryz.prog 31 #[.agg #[.int .i64 a.kind, .string a.name, .slice A a.labels.length ca, .slice B a.kids.length cb], .agg #[.int .i64 b.kind, .string b.name, .slice A' b.labels.length ca', .slice B' b.kids.length cb'], .string pt] w (RsnS (scanR (enF a b) a.labels.length) pt w) := by
  obtain ⟨qa1, qa2, qa3, _, qa5⟩ := Ty.len_le ga.1
  obtain ⟨qb1, qb2, qb3, _, qb5⟩ := Ty.len_le gb.1
  have CL := Lib.hid (fun l W h1 => label_any b.labels l qb1 A' ca' lo' W h1)
  have HLR := Lib.hid qa5
  have HSO := Lib.hid hbt.strs
  have HSR := Lib.hid hat.strs
  have hlr := qa1
  have CN := (fun W => number_any a.kind W)
  rw [hna] at CN
  have CN := Lib.hid CN
  have x1 : (a.kind == b.kind) = true := by rw [beq_iff_eq]; exact hk
  have x2 : (a.kind != b.kind) = false := by rw [bne_eq_false_iff_eq]; exact hk
  have e12 : (a.kind == 12) = false := by rw [beq_eq_false_iff_ne]; omega
  have e13 : (a.kind == 13) = false := by rw [beq_eq_false_iff_ne]; omega
  have e14 : (a.kind == 14) = false := by rw [beq_eq_false_iff_ne]; omega
  have e15 : (a.kind == 15) = false := by rw [beq_eq_false_iff_ne]; omega
  have e16 : (a.kind == 16) = false := by rw [beq_eq_false_iff_ne]; omega
  have e17 : (a.kind == 17) = false := by rw [beq_eq_false_iff_ne]; omega
  have e18 : (a.kind == 18) = true := by rw [beq_iff_eq]; omega
  clear ga gb hat hbt hka qa1 qa2 qa3 qa5 qb1 qb2 qb3 qb5 hna hk
  go_enter Tryz.func31, Tryz.ntmps31
  go_wp2_with (first | (go_at_call 42; (with_reducible refine (CN.out _).mono ?_); rintro e w2 ⟨rfl, rfl⟩))
  go_loopw [10] (fun i wr => ∃ k : Nat, k ≤ a.labels.length ∧ i = .int .i64 k ∧ Hid (scanR (enF a b) k = none) ∧ Hid (Below w.heap.size w wr) ∧ wr.cell? ⟨w.heap.size, 0, none⟩ = some (.int .i64 a.kind) ∧ wr.cell? ⟨w.heap.size, 1, none⟩ = some (.string a.name) ∧ wr.cell? ⟨w.heap.size, 2, none⟩ = some (.slice A a.labels.length ca) ∧ wr.cell? ⟨w.heap.size, 3, none⟩ = some (.slice B a.kids.length cb) ∧ wr.cell? ⟨w.heap.size + 1, 0, none⟩ = some (.int .i64 b.kind) ∧ wr.cell? ⟨w.heap.size + 1, 1, none⟩ = some (.string b.name) ∧ wr.cell? ⟨w.heap.size + 1, 2, none⟩ = some (.slice A' b.labels.length ca') ∧ wr.cell? ⟨w.heap.size + 1, 3, none⟩ = some (.slice B' b.kids.length cb') ∧ wr.cell? ⟨w.heap.size + 1 + 1, 0, none⟩ = some (.int .i64 0) ∧ wr.cell? ⟨w.heap.size + 1 + 1, 1, none⟩ = some (.string ⟨#[]⟩) ∧ wr.frozen? ⟨w.heap.size + 1 + 1, 0, none⟩ = false ∧ wr.frozen? ⟨w.heap.size + 1 + 1, 1, none⟩ = false) (fun i _ => a.labels.length - (intOf i).toNat)
  case atStart => exact ⟨0, Nat.zero_le _, rfl, rfl, below3 _ _ _ _, by go_simp, by go_simp, by go_simp, by go_simp, by go_simp, by go_simp, by go_simp, by go_simp, by go_simp, by go_simp, by go_simp, by go_simp⟩
  case round =>
    obtain ⟨k, hk, rfl, hno, hbel, a0_, a1_, a2_, a3_, b0_, b1_, b2_, b3_, r0, r1, rf0, rf1⟩ := hrel
    have hz : w.heap.size + 1 + 1 < wr.heap.size := World.block_lt_of_cell? wr _ r0
    by_cases hlt : k < a.labels.length
    · obtain ⟨b0, o0, l, rfl, _, hlk, hcl⟩ := (HSR.out.below hbel.out).at_ hlt
      have hls := HLR.out l (List.mem_of_getElem? hlk)
      have hli : (k : Int) < (a.labels.length : Int) := by omega
      have HLK := Lib.hid hlk
      have HLT := Lib.hid hlt
      have C1 := CL.out l
      cases hp : place l b.labels with
      | none =>
        have HRS : Hid (scanR (enF a b) a.labels.length = some (5, ⟨#[46]⟩ ++ l)) := Lib.hid (scanR_of hno.out (by rw [enF_eq HLK.out, enL_no hp]; rfl) HLT.out)
        rw [hp] at C1
        have C1 := Lib.hid (fun W h1 => (C1 W h1).mono fun e w' h => (show e = .returned (.int .i64 (-1)) ∧ W = w' from h))
        clear hp hlk hlt CL
        go_wp2_with fail
        go_region_held3 (fun w' => w'.cell? ⟨w.heap.size + 1, 2, none⟩ = some (.slice A' b.labels.length ca') ∧ w'.cell? ⟨w.heap.size, 2, none⟩ = some (.slice (some ⟨b0, o0, none⟩) a.labels.length ca) ∧ w'.cell? ⟨b0, o0 + k, none⟩ = some (.string l))
          (first | assumption | (with_reducible exact ⟨b2_, a2_, hcl⟩) | (with_reducible exact ⟨keepCell (Below.refl _ _).drew b2_, keepCell (Below.refl _ _).drew a2_, keepCell (Below.refl _ _).drew hcl⟩))
          (first | (go_at_call 48; refine (C1.out _ (HSO.out.below hbel.out.drew)).mono ?_; rintro e w' ⟨rfl, rfl⟩))
        obtain ⟨wq, hwq, hbq⟩ : ∃ wq, wr.drew = wq ∧ Below wr.heap.size wr wq := ⟨_, rfl, (Below.refl _ _).drew⟩
        rw [hwq]
        have hzq : w.heap.size + 1 + 1 < wq.heap.size := Nat.lt_of_lt_of_le hz hbq.size
        replace a0_ := keepCell hbq a0_; replace a1_ := keepCell hbq a1_; replace a2_ := keepCell hbq a2_; replace a3_ := keepCell hbq a3_; replace b0_ := keepCell hbq b0_; replace b1_ := keepCell hbq b1_; replace b2_ := keepCell hbq b2_; replace b3_ := keepCell hbq b3_; replace r0 := keepCell hbq r0; replace r1 := keepCell hbq r1
        replace hcl := keepCell hbq hcl
        replace rf0 : wq.frozen? ⟨w.heap.size + 1 + 1, 0, none⟩ = false := ((bcell hbq).2 _ _ hz).trans rf0
        replace rf1 : wq.frozen? ⟨w.heap.size + 1 + 1, 1, none⟩ = false := ((bcell hbq).2 _ _ hz).trans rf1
        have HBQ := Lib.hid (bnext hbel.out hbq)
        clear hwq hbq C1
        go_wp2_with fail
        go_at_call 44
        refine (no_any _ _ _).mono ?_
        rintro e w3 ⟨rfl, hb3⟩
        replace r0 := keepCell hb3 r0; replace r1 := keepCell hb3 r1
        replace rf0 : w3.frozen? ⟨w.heap.size + 1 + 1, 0, none⟩ = false := ((bcell hb3).2 _ _ hzq).trans rf0
        replace rf1 : w3.frozen? ⟨w.heap.size + 1 + 1, 1, none⟩ = false := ((bcell hb3).2 _ _ hzq).trans rf1
        have HB3 := Lib.hid (bnext HBQ.out hb3)
        clear hb3
        go_wp2_with fail
        exact bodyPost_ret (v := .tuple #[.agg #[.int .i64 5, .string (pt ++ ⟨#[46]⟩ ++ l)], .bool true]) (by simp [results, Tryz.results31, go_sem, r0, r1]) rfl ⟨by rw [HRS.out, ByteArray.append_assoc]; rfl, by (first | (with_reducible exact HB3.out) | ((with_reducible refine Below.setCell (HB3.out) ?_ _) <;> (first | exact Nat.le_refl _ | exact Nat.le_add_right _ _ | (dsimp only; omega) | (simp; omega))) | ((with_reducible refine Below.setCell (Below.setCell (HB3.out) ?_ _) ?_ _) <;> (first | exact Nat.le_refl _ | exact Nat.le_add_right _ _ | (dsimp only; omega) | (simp; omega))) | ((with_reducible refine Below.setCell (Below.setCell (Below.setCell (HB3.out) ?_ _) ?_ _) ?_ _) <;> (first | exact Nat.le_refl _ | exact Nat.le_add_right _ _ | (dsimp only; omega) | (simp; omega))))⟩
      | some q =>
        have HSC : Hid (scanR (enF a b) (k + 1) = none) := Lib.hid (by rw [scanR_step hno.out, enF_eq HLK.out, enL_at hp])
        rw [hp] at C1
        have C1 := Lib.hid (fun W h1 => (C1 W h1).mono fun e w' h => (show e = .returned (.int .i64 (q : Int)) ∧ W = w' from h))
        clear hp hlk hlt CL
        go_wp2_with fail
        go_region_held3 (fun w' => w'.cell? ⟨w.heap.size + 1, 2, none⟩ = some (.slice A' b.labels.length ca') ∧ w'.cell? ⟨w.heap.size, 2, none⟩ = some (.slice (some ⟨b0, o0, none⟩) a.labels.length ca) ∧ w'.cell? ⟨b0, o0 + k, none⟩ = some (.string l))
          (first | assumption | (with_reducible exact ⟨b2_, a2_, hcl⟩) | (with_reducible exact ⟨keepCell (Below.refl _ _).drew b2_, keepCell (Below.refl _ _).drew a2_, keepCell (Below.refl _ _).drew hcl⟩))
          (first | (go_at_call 48; refine (C1.out _ (HSO.out.below hbel.out.drew)).mono ?_; rintro e w' ⟨rfl, rfl⟩))
        obtain ⟨wq, hwq, hbq⟩ : ∃ wq, wr.drew = wq ∧ Below wr.heap.size wr wq := ⟨_, rfl, (Below.refl _ _).drew⟩
        rw [hwq]
        have hzq : w.heap.size + 1 + 1 < wq.heap.size := Nat.lt_of_lt_of_le hz hbq.size
        replace a0_ := keepCell hbq a0_; replace a1_ := keepCell hbq a1_; replace a2_ := keepCell hbq a2_; replace a3_ := keepCell hbq a3_; replace b0_ := keepCell hbq b0_; replace b1_ := keepCell hbq b1_; replace b2_ := keepCell hbq b2_; replace b3_ := keepCell hbq b3_; replace r0 := keepCell hbq r0; replace r1 := keepCell hbq r1
        replace hcl := keepCell hbq hcl
        replace rf0 : wq.frozen? ⟨w.heap.size + 1 + 1, 0, none⟩ = false := ((bcell hbq).2 _ _ hz).trans rf0
        replace rf1 : wq.frozen? ⟨w.heap.size + 1 + 1, 1, none⟩ = false := ((bcell hbq).2 _ _ hz).trans rf1
        have HBQ := Lib.hid (bnext hbel.out hbq)
        clear hwq hbq C1
        go_wp2_with fail
        go_roundw
        case rel => exact ⟨k + 1, by omega, by go_num, HSC.out, HBQ.out, a0_, a1_, a2_, a3_, b0_, b1_, b2_, b3_, r0, r1, rf0, rf1⟩
        case measure => simp [intOf]; omega
    · have hk' : k = a.labels.length := by omega
      have h9 := hno.out
      rw [hk'] at h9
      have HRS := Lib.hid h9
      clear h9 hk' CL
      go_wp2_with fail
      exact bodyPost_ret (v := .tuple #[.agg #[.int .i64 0, .string ⟨#[]⟩], .bool false]) (by simp [results, Tryz.results31, go_sem, r0, r1]) rfl ⟨by rw [HRS.out]; rfl, by (first | (with_reducible exact hbel.out) | ((with_reducible refine Below.setCell (hbel.out) ?_ _) <;> (first | exact Nat.le_refl _ | exact Nat.le_add_right _ _ | (dsimp only; omega) | (simp; omega))) | ((with_reducible refine Below.setCell (Below.setCell (hbel.out) ?_ _) ?_ _) <;> (first | exact Nat.le_refl _ | exact Nat.le_add_right _ _ | (dsimp only; omega) | (simp; omega))) | ((with_reducible refine Below.setCell (Below.setCell (Below.setCell (hbel.out) ?_ _) ?_ _) ?_ _) <;> (first | exact Nat.le_refl _ | exact Nat.le_add_right _ _ | (dsimp only; omega) | (simp; omega))))⟩

set_option maxHeartbeats 8000000 in
set_option maxRecDepth 100000 in
theorem why_en19 (n : Nat) (a b : Ty) (ga : Gd (n + 1) a) (gb : Gd (n + 1) b) (hna : numK a.kind = false) (hk : a.kind = b.kind) (hka : a.kind = 19) (A B A' B' : Option Addr) (ca cb ca' cb' : Nat) (lo lo' : Nat) (pt : ByteArray) (hps : pt.size ≤ 100000000) (w : World) (hat : Ty.At w lo a A B) (hbt : Ty.At w lo' b A' B') :
    Calls Tryz.prog 31 #[.agg #[.int .i64 a.kind, .string a.name, .slice A a.labels.length ca, .slice B a.kids.length cb], .agg #[.int .i64 b.kind, .string b.name, .slice A' b.labels.length ca', .slice B' b.kids.length cb'], .string pt] w (RsnS (scanR (enF a b) a.labels.length) pt w) := by
  obtain ⟨qa1, qa2, qa3, _, qa5⟩ := Ty.len_le ga.1
  obtain ⟨qb1, qb2, qb3, _, qb5⟩ := Ty.len_le gb.1
  have CL := Lib.hid (fun l W h1 => label_any b.labels l qb1 A' ca' lo' W h1)
  have HLR := Lib.hid qa5
  have HSO := Lib.hid hbt.strs
  have HSR := Lib.hid hat.strs
  have hlr := qa1
  have CN := (fun W => number_any a.kind W)
  rw [hna] at CN
  have CN := Lib.hid CN
  have x1 : (a.kind == b.kind) = true := by rw [beq_iff_eq]; exact hk
  have x2 : (a.kind != b.kind) = false := by rw [bne_eq_false_iff_eq]; exact hk
  have e12 : (a.kind == 12) = false := by rw [beq_eq_false_iff_ne]; omega
  have e13 : (a.kind == 13) = false := by rw [beq_eq_false_iff_ne]; omega
  have e14 : (a.kind == 14) = false := by rw [beq_eq_false_iff_ne]; omega
  have e15 : (a.kind == 15) = false := by rw [beq_eq_false_iff_ne]; omega
  have e16 : (a.kind == 16) = false := by rw [beq_eq_false_iff_ne]; omega
  have e17 : (a.kind == 17) = false := by rw [beq_eq_false_iff_ne]; omega
  have e18 : (a.kind == 18) = false := by rw [beq_eq_false_iff_ne]; omega
  have e19 : (a.kind == 19) = true := by rw [beq_iff_eq]; omega
  clear ga gb hat hbt hka qa1 qa2 qa3 qa5 qb1 qb2 qb3 qb5 hna hk
  go_enter Tryz.func31, Tryz.ntmps31
  go_wp2_with (first | (go_at_call 42; (with_reducible refine (CN.out _).mono ?_); rintro e w2 ⟨rfl, rfl⟩))
  go_loopw [10] (fun i wr => ∃ k : Nat, k ≤ a.labels.length ∧ i = .int .i64 k ∧ Hid (scanR (enF a b) k = none) ∧ Hid (Below w.heap.size w wr) ∧ wr.cell? ⟨w.heap.size, 0, none⟩ = some (.int .i64 a.kind) ∧ wr.cell? ⟨w.heap.size, 1, none⟩ = some (.string a.name) ∧ wr.cell? ⟨w.heap.size, 2, none⟩ = some (.slice A a.labels.length ca) ∧ wr.cell? ⟨w.heap.size, 3, none⟩ = some (.slice B a.kids.length cb) ∧ wr.cell? ⟨w.heap.size + 1, 0, none⟩ = some (.int .i64 b.kind) ∧ wr.cell? ⟨w.heap.size + 1, 1, none⟩ = some (.string b.name) ∧ wr.cell? ⟨w.heap.size + 1, 2, none⟩ = some (.slice A' b.labels.length ca') ∧ wr.cell? ⟨w.heap.size + 1, 3, none⟩ = some (.slice B' b.kids.length cb') ∧ wr.cell? ⟨w.heap.size + 1 + 1, 0, none⟩ = some (.int .i64 0) ∧ wr.cell? ⟨w.heap.size + 1 + 1, 1, none⟩ = some (.string ⟨#[]⟩) ∧ wr.frozen? ⟨w.heap.size + 1 + 1, 0, none⟩ = false ∧ wr.frozen? ⟨w.heap.size + 1 + 1, 1, none⟩ = false) (fun i _ => a.labels.length - (intOf i).toNat)
  case atStart => exact ⟨0, Nat.zero_le _, rfl, rfl, below3 _ _ _ _, by go_simp, by go_simp, by go_simp, by go_simp, by go_simp, by go_simp, by go_simp, by go_simp, by go_simp, by go_simp, by go_simp, by go_simp⟩
  case round =>
    obtain ⟨k, hk, rfl, hno, hbel, a0_, a1_, a2_, a3_, b0_, b1_, b2_, b3_, r0, r1, rf0, rf1⟩ := hrel
    have hz : w.heap.size + 1 + 1 < wr.heap.size := World.block_lt_of_cell? wr _ r0
    by_cases hlt : k < a.labels.length
    · obtain ⟨b0, o0, l, rfl, _, hlk, hcl⟩ := (HSR.out.below hbel.out).at_ hlt
      have hls := HLR.out l (List.mem_of_getElem? hlk)
      have hli : (k : Int) < (a.labels.length : Int) := by omega
      have HLK := Lib.hid hlk
      have HLT := Lib.hid hlt
      have C1 := CL.out l
      cases hp : place l b.labels with
      | none =>
        have HRS : Hid (scanR (enF a b) a.labels.length = some (5, ⟨#[46]⟩ ++ l)) := Lib.hid (scanR_of hno.out (by rw [enF_eq HLK.out, enL_no hp]; rfl) HLT.out)
        rw [hp] at C1
        have C1 := Lib.hid (fun W h1 => (C1 W h1).mono fun e w' h => (show e = .returned (.int .i64 (-1)) ∧ W = w' from h))
        clear hp hlk hlt CL
        go_wp2_with fail
        go_region_held3 (fun w' => w'.cell? ⟨w.heap.size + 1, 2, none⟩ = some (.slice A' b.labels.length ca') ∧ w'.cell? ⟨w.heap.size, 2, none⟩ = some (.slice (some ⟨b0, o0, none⟩) a.labels.length ca) ∧ w'.cell? ⟨b0, o0 + k, none⟩ = some (.string l))
          (first | assumption | (with_reducible exact ⟨b2_, a2_, hcl⟩) | (with_reducible exact ⟨keepCell (Below.refl _ _).drew b2_, keepCell (Below.refl _ _).drew a2_, keepCell (Below.refl _ _).drew hcl⟩))
          (first | (go_at_call 48; refine (C1.out _ (HSO.out.below hbel.out.drew)).mono ?_; rintro e w' ⟨rfl, rfl⟩))
        obtain ⟨wq, hwq, hbq⟩ : ∃ wq, wr.drew = wq ∧ Below wr.heap.size wr wq := ⟨_, rfl, (Below.refl _ _).drew⟩
        rw [hwq]
        have hzq : w.heap.size + 1 + 1 < wq.heap.size := Nat.lt_of_lt_of_le hz hbq.size
        replace a0_ := keepCell hbq a0_; replace a1_ := keepCell hbq a1_; replace a2_ := keepCell hbq a2_; replace a3_ := keepCell hbq a3_; replace b0_ := keepCell hbq b0_; replace b1_ := keepCell hbq b1_; replace b2_ := keepCell hbq b2_; replace b3_ := keepCell hbq b3_; replace r0 := keepCell hbq r0; replace r1 := keepCell hbq r1
        replace hcl := keepCell hbq hcl
        replace rf0 : wq.frozen? ⟨w.heap.size + 1 + 1, 0, none⟩ = false := ((bcell hbq).2 _ _ hz).trans rf0
        replace rf1 : wq.frozen? ⟨w.heap.size + 1 + 1, 1, none⟩ = false := ((bcell hbq).2 _ _ hz).trans rf1
        have HBQ := Lib.hid (bnext hbel.out hbq)
        clear hwq hbq C1
        go_wp2_with fail
        go_at_call 44
        refine (no_any _ _ _).mono ?_
        rintro e w3 ⟨rfl, hb3⟩
        replace r0 := keepCell hb3 r0; replace r1 := keepCell hb3 r1
        replace rf0 : w3.frozen? ⟨w.heap.size + 1 + 1, 0, none⟩ = false := ((bcell hb3).2 _ _ hzq).trans rf0
        replace rf1 : w3.frozen? ⟨w.heap.size + 1 + 1, 1, none⟩ = false := ((bcell hb3).2 _ _ hzq).trans rf1
        have HB3 := Lib.hid (bnext HBQ.out hb3)
        clear hb3
        go_wp2_with fail
        exact bodyPost_ret (v := .tuple #[.agg #[.int .i64 5, .string (pt ++ ⟨#[46]⟩ ++ l)], .bool true]) (by simp [results, Tryz.results31, go_sem, r0, r1]) rfl ⟨by rw [HRS.out, ByteArray.append_assoc]; rfl, by (first | (with_reducible exact HB3.out) | ((with_reducible refine Below.setCell (HB3.out) ?_ _) <;> (first | exact Nat.le_refl _ | exact Nat.le_add_right _ _ | (dsimp only; omega) | (simp; omega))) | ((with_reducible refine Below.setCell (Below.setCell (HB3.out) ?_ _) ?_ _) <;> (first | exact Nat.le_refl _ | exact Nat.le_add_right _ _ | (dsimp only; omega) | (simp; omega))) | ((with_reducible refine Below.setCell (Below.setCell (Below.setCell (HB3.out) ?_ _) ?_ _) ?_ _) <;> (first | exact Nat.le_refl _ | exact Nat.le_add_right _ _ | (dsimp only; omega) | (simp; omega))))⟩
      | some q =>
        have HSC : Hid (scanR (enF a b) (k + 1) = none) := Lib.hid (by rw [scanR_step hno.out, enF_eq HLK.out, enL_at hp])
        rw [hp] at C1
        have C1 := Lib.hid (fun W h1 => (C1 W h1).mono fun e w' h => (show e = .returned (.int .i64 (q : Int)) ∧ W = w' from h))
        clear hp hlk hlt CL
        go_wp2_with fail
        go_region_held3 (fun w' => w'.cell? ⟨w.heap.size + 1, 2, none⟩ = some (.slice A' b.labels.length ca') ∧ w'.cell? ⟨w.heap.size, 2, none⟩ = some (.slice (some ⟨b0, o0, none⟩) a.labels.length ca) ∧ w'.cell? ⟨b0, o0 + k, none⟩ = some (.string l))
          (first | assumption | (with_reducible exact ⟨b2_, a2_, hcl⟩) | (with_reducible exact ⟨keepCell (Below.refl _ _).drew b2_, keepCell (Below.refl _ _).drew a2_, keepCell (Below.refl _ _).drew hcl⟩))
          (first | (go_at_call 48; refine (C1.out _ (HSO.out.below hbel.out.drew)).mono ?_; rintro e w' ⟨rfl, rfl⟩))
        obtain ⟨wq, hwq, hbq⟩ : ∃ wq, wr.drew = wq ∧ Below wr.heap.size wr wq := ⟨_, rfl, (Below.refl _ _).drew⟩
        rw [hwq]
        have hzq : w.heap.size + 1 + 1 < wq.heap.size := Nat.lt_of_lt_of_le hz hbq.size
        replace a0_ := keepCell hbq a0_; replace a1_ := keepCell hbq a1_; replace a2_ := keepCell hbq a2_; replace a3_ := keepCell hbq a3_; replace b0_ := keepCell hbq b0_; replace b1_ := keepCell hbq b1_; replace b2_ := keepCell hbq b2_; replace b3_ := keepCell hbq b3_; replace r0 := keepCell hbq r0; replace r1 := keepCell hbq r1
        replace hcl := keepCell hbq hcl
        replace rf0 : wq.frozen? ⟨w.heap.size + 1 + 1, 0, none⟩ = false := ((bcell hbq).2 _ _ hz).trans rf0
        replace rf1 : wq.frozen? ⟨w.heap.size + 1 + 1, 1, none⟩ = false := ((bcell hbq).2 _ _ hz).trans rf1
        have HBQ := Lib.hid (bnext hbel.out hbq)
        clear hwq hbq C1
        go_wp2_with fail
        go_roundw
        case rel => exact ⟨k + 1, by omega, by go_num, HSC.out, HBQ.out, a0_, a1_, a2_, a3_, b0_, b1_, b2_, b3_, r0, r1, rf0, rf1⟩
        case measure => simp [intOf]; omega
    · have hk' : k = a.labels.length := by omega
      have h9 := hno.out
      rw [hk'] at h9
      have HRS := Lib.hid h9
      clear h9 hk' CL
      go_wp2_with fail
      exact bodyPost_ret (v := .tuple #[.agg #[.int .i64 0, .string ⟨#[]⟩], .bool false]) (by simp [results, Tryz.results31, go_sem, r0, r1]) rfl ⟨by rw [HRS.out]; rfl, by (first | (with_reducible exact hbel.out) | ((with_reducible refine Below.setCell (hbel.out) ?_ _) <;> (first | exact Nat.le_refl _ | exact Nat.le_add_right _ _ | (dsimp only; omega) | (simp; omega))) | ((with_reducible refine Below.setCell (Below.setCell (hbel.out) ?_ _) ?_ _) <;> (first | exact Nat.le_refl _ | exact Nat.le_add_right _ _ | (dsimp only; omega) | (simp; omega))) | ((with_reducible refine Below.setCell (Below.setCell (Below.setCell (hbel.out) ?_ _) ?_ _) ?_ _) <;> (first | exact Nat.le_refl _ | exact Nat.le_add_right _ _ | (dsimp only; omega) | (simp; omega))))⟩

end Go.Proofs.YtifchfecfkdjlaaGreatDoor
