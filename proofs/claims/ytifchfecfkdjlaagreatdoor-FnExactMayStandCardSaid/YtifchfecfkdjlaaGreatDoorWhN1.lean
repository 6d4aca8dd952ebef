/-
  The walks of both WhyNot.
-/
import Derived.Test.YtifchfecfkdjlaaGreatDoorWhyA
import Derived.Test.YtifchfecfkdjlaaGreatDoorWhSA
import Derived.Test.YtifchfecfkdjlaaGreatDoorTyIn
import Derived.Test.YtifchfecfkdjlaaGreatDoorMK
namespace Go.Proofs.YtifchfecfkdjlaaGreatDoor
open Go.ChangeShapes Go.WideShapes Go.ChangeAt Go.RowKit Go.Deep

/-- What both WhyNot answer. -/
def WnPost (r : Option (Int × ByteArray)) (w : World) (e : Ending) (w' : World) : Prop := e = .returned (.tuple #[.agg #[.int .i64 (rk r), .string (ra r)], .bool r.isSome]) ∧ Below w.heap.size w w'
theorem rp_nil (r : Option (Int × ByteArray)) : rp ⟨#[]⟩ r = ra r := by
  cases r with
  | none => rfl
  | some x =>
    obtain ⟨k, p⟩ := x
    show (⟨#[]⟩ : ByteArray) ++ p = p
    exact ByteArray.empty_append
theorem Gd.of {T : Ty} (hT : T.wt ≤ 1048576) (h : T.Ok) : Gd 4 T := by
  obtain ⟨h1, h2⟩ := h
  unfold Ty.fits at h1
  exact ⟨hT, h2, by omega, h1.2⟩

set_option maxHeartbeats 8000000 in
set_option maxRecDepth 100000 in
theorem specWhyNot_na (a b : Ty) (hT : a.wt ≤ 1048576) (hoa : ¬ a.Ok) (A B A' B' : Option Addr) (ca cb ca' cb' : Nat) (lo : Nat) (w : World) (hat : Ty.At w lo a A B) :
    Calls Tryz.prog 12 #[.agg #[.int .i64 a.kind, .string a.name, .slice A a.labels.length ca, .slice B a.kids.length cb], .agg #[.int .i64 b.kind, .string b.name, .slice A' b.labels.length ca', .slice B' b.kids.length cb']] w (WnPost none w) := by
  have OA := (fun W h => specTypeOk_any a hT A B ca cb lo W h)
  have OA := Lib.hid (fun W h => (OA W h).mono fun _ _ j => j.no hoa)
  have HA := Lib.hid hat
  clear hat hoa hT
  go_enter Tryz.func12, Tryz.ntmps12
  go_wp2_with fail
  go_at_call 24
  refine (OA.out _ (HA.out.below (below3 _ _ _ _))).mono ?_
  rintro e w2 ⟨rfl, hbw2⟩
  have a0_ := keepCell (a := ⟨w.heap.size, 0, none⟩) (v := .int .i64 a.kind) hbw2 (by go_simp)
  have a1_ := keepCell (a := ⟨w.heap.size, 1, none⟩) (v := .string a.name) hbw2 (by go_simp)
  have a2_ := keepCell (a := ⟨w.heap.size, 2, none⟩) (v := .slice A a.labels.length ca) hbw2 (by go_simp)
  have a3_ := keepCell (a := ⟨w.heap.size, 3, none⟩) (v := .slice B a.kids.length cb) hbw2 (by go_simp)
  have b0_ := keepCell (a := ⟨w.heap.size + 1, 0, none⟩) (v := .int .i64 b.kind) hbw2 (by go_simp)
  have b1_ := keepCell (a := ⟨w.heap.size + 1, 1, none⟩) (v := .string b.name) hbw2 (by go_simp)
  have b2_ := keepCell (a := ⟨w.heap.size + 1, 2, none⟩) (v := .slice A' b.labels.length ca') hbw2 (by go_simp)
  have b3_ := keepCell (a := ⟨w.heap.size + 1, 3, none⟩) (v := .slice B' b.kids.length cb') hbw2 (by go_simp)
  have r0 := keepCell (a := ⟨w.heap.size + 1 + 1, 0, none⟩) (v := .int .i64 0) hbw2 (by go_simp)
  have r1 := keepCell (a := ⟨w.heap.size + 1 + 1, 1, none⟩) (v := .string ⟨#[]⟩) hbw2 (by go_simp)
  have rf0 : w2.frozen? ⟨w.heap.size + 1 + 1, 0, none⟩ = false := ((bcell hbw2).2 _ _ (by first | (simp; done) | (simp; omega))).trans (by go_simp)
  have rf1 : w2.frozen? ⟨w.heap.size + 1 + 1, 1, none⟩ = false := ((bcell hbw2).2 _ _ (by first | (simp; done) | (simp; omega))).trans (by go_simp)
  have hzw2 : w.heap.size + 1 + 1 < w2.heap.size := World.block_lt_of_cell? w2 _ r0
  have HBw2 := Lib.hid (bnext (below3 _ _ _ _) hbw2)
  clear hbw2
  go_wp2_with fail
  exact bodyPost_ret (v := .tuple #[.agg #[.int .i64 0, .string ⟨#[]⟩], .bool false]) (by simp [results, Tryz.results12, go_sem, r0, r1]) rfl ⟨rfl, by (first | (with_reducible exact HBw2.out) | ((with_reducible refine Below.setCell (HBw2.out) ?_ _) <;> (first | exact Nat.le_refl _ | exact Nat.le_add_right _ _ | (dsimp only; omega) | (simp; omega))) | ((with_reducible refine Below.setCell (Below.setCell (HBw2.out) ?_ _) ?_ _) <;> (first | exact Nat.le_refl _ | exact Nat.le_add_right _ _ | (dsimp only; omega) | (simp; omega))) | ((with_reducible refine Below.setCell (Below.setCell (Below.setCell (HBw2.out) ?_ _) ?_ _) ?_ _) <;> (first | exact Nat.le_refl _ | exact Nat.le_add_right _ _ | (dsimp only; omega) | (simp; omega))))⟩

set_option maxHeartbeats 8000000 in
set_option maxRecDepth 100000 in
theorem specWhyNot_nb (a b : Ty) (hT : a.wt ≤ 1048576) (hU : b.wt ≤ 1048576) (hoa : a.Ok) (hob : ¬ b.Ok) (A B A' B' : Option Addr) (ca cb ca' cb' : Nat) (lo lo' : Nat) (w : World) (hat : Ty.At w lo a A B) (hbt : Ty.At w lo' b A' B') :
    Calls Tryz.prog 12 #[.agg #[.int .i64 a.kind, .string a.name, .slice A a.labels.length ca, .slice B a.kids.length cb], .agg #[.int .i64 b.kind, .string b.name, .slice A' b.labels.length ca', .slice B' b.kids.length cb']] w (WnPost none w) := by
  have OA := (fun W h => specTypeOk_any a hT A B ca cb lo W h)
  have OB := (fun W h => specTypeOk_any b hU A' B' ca' cb' lo' W h)
  have OA := Lib.hid (fun W h => (OA W h).mono fun _ _ j => j.yes hoa)
  have OB := Lib.hid (fun W h => (OB W h).mono fun _ _ j => j.no hob)
  have HA := Lib.hid hat
  have HBt := Lib.hid hbt
  clear hat hbt hoa hob hT hU
  go_enter Tryz.func12, Tryz.ntmps12
  go_wp2_with fail
  go_at_call 24
  refine (OA.out _ (HA.out.below (below3 _ _ _ _))).mono ?_
  rintro e w2 ⟨rfl, hbw2⟩
  have a0_ := keepCell (a := ⟨w.heap.size, 0, none⟩) (v := .int .i64 a.kind) hbw2 (by go_simp)
  have a1_ := keepCell (a := ⟨w.heap.size, 1, none⟩) (v := .string a.name) hbw2 (by go_simp)
  have a2_ := keepCell (a := ⟨w.heap.size, 2, none⟩) (v := .slice A a.labels.length ca) hbw2 (by go_simp)
  have a3_ := keepCell (a := ⟨w.heap.size, 3, none⟩) (v := .slice B a.kids.length cb) hbw2 (by go_simp)
  have b0_ := keepCell (a := ⟨w.heap.size + 1, 0, none⟩) (v := .int .i64 b.kind) hbw2 (by go_simp)
  have b1_ := keepCell (a := ⟨w.heap.size + 1, 1, none⟩) (v := .string b.name) hbw2 (by go_simp)
  have b2_ := keepCell (a := ⟨w.heap.size + 1, 2, none⟩) (v := .slice A' b.labels.length ca') hbw2 (by go_simp)
  have b3_ := keepCell (a := ⟨w.heap.size + 1, 3, none⟩) (v := .slice B' b.kids.length cb') hbw2 (by go_simp)
  have r0 := keepCell (a := ⟨w.heap.size + 1 + 1, 0, none⟩) (v := .int .i64 0) hbw2 (by go_simp)
  have r1 := keepCell (a := ⟨w.heap.size + 1 + 1, 1, none⟩) (v := .string ⟨#[]⟩) hbw2 (by go_simp)
  have rf0 : w2.frozen? ⟨w.heap.size + 1 + 1, 0, none⟩ = false := ((bcell hbw2).2 _ _ (by first | (simp; done) | (simp; omega))).trans (by go_simp)
  have rf1 : w2.frozen? ⟨w.heap.size + 1 + 1, 1, none⟩ = false := ((bcell hbw2).2 _ _ (by first | (simp; done) | (simp; omega))).trans (by go_simp)
  have hzw2 : w.heap.size + 1 + 1 < w2.heap.size := World.block_lt_of_cell? w2 _ r0
  have HBw2 := Lib.hid (bnext (below3 _ _ _ _) hbw2)
  clear hbw2
  go_wp2_with fail
  go_at_call 24
  refine (OB.out _ (HBt.out.below (HBw2.out))).mono ?_
  rintro e w3 ⟨rfl, hbw3⟩
  replace a0_ := keepCell hbw3 a0_
  replace a1_ := keepCell hbw3 a1_
  replace a2_ := keepCell hbw3 a2_
  replace a3_ := keepCell hbw3 a3_
  replace b0_ := keepCell hbw3 b0_
  replace b1_ := keepCell hbw3 b1_
  replace b2_ := keepCell hbw3 b2_
  replace b3_ := keepCell hbw3 b3_
  replace r0 := keepCell hbw3 r0
  replace r1 := keepCell hbw3 r1
  replace rf0 : w3.frozen? ⟨w.heap.size + 1 + 1, 0, none⟩ = false := ((bcell hbw3).2 _ _ hzw2).trans rf0
  replace rf1 : w3.frozen? ⟨w.heap.size + 1 + 1, 1, none⟩ = false := ((bcell hbw3).2 _ _ hzw2).trans rf1
  have hzw3 : w.heap.size + 1 + 1 < w3.heap.size := World.block_lt_of_cell? w3 _ r0
  have HBw3 := Lib.hid (bnext HBw2.out hbw3)
  clear hbw3
  go_wp2_with fail
  exact bodyPost_ret (v := .tuple #[.agg #[.int .i64 0, .string ⟨#[]⟩], .bool false]) (by simp [results, Tryz.results12, go_sem, r0, r1]) rfl ⟨rfl, by (first | (with_reducible exact HBw3.out) | ((with_reducible refine Below.setCell (HBw3.out) ?_ _) <;> (first | exact Nat.le_refl _ | exact Nat.le_add_right _ _ | (dsimp only; omega) | (simp; omega))) | ((with_reducible refine Below.setCell (Below.setCell (HBw3.out) ?_ _) ?_ _) <;> (first | exact Nat.le_refl _ | exact Nat.le_add_right _ _ | (dsimp only; omega) | (simp; omega))) | ((with_reducible refine Below.setCell (Below.setCell (Below.setCell (HBw3.out) ?_ _) ?_ _) ?_ _) <;> (first | exact Nat.le_refl _ | exact Nat.le_add_right _ _ | (dsimp only; omega) | (simp; omega))))⟩

set_option maxHeartbeats 8000000 in
set_option maxRecDepth 100000 in
theorem specWhyNot_ok (a b : Ty) (hoa : a.Ok) (hob : b.Ok) (ga : Gd 4 a) (gb : Gd 4 b) (A B A' B' : Option Addr) (ca cb ca' cb' : Nat) (lo lo' : Nat) (w : World) (hat : Ty.At w lo a A B) (hbt : Ty.At w lo' b A' B') :
    Calls Tryz.prog 12 #[.agg #[.int .i64 a.kind, .string a.name, .slice A a.labels.length ca, .slice B a.kids.length cb], .agg #[.int .i64 b.kind, .string b.name, .slice A' b.labels.length ca', .slice B' b.kids.length cb']] w (WnPost (Ty.why 4 a b) w) := by
  have hT := ga.1
  have hU := gb.1
  have OA := (fun W h => specTypeOk_any a hT A B ca cb lo W h)
  have OB := (fun W h => specTypeOk_any b hU A' B' ca' cb' lo' W h)
  have OA := Lib.hid (fun W h => (OA W h).mono fun _ _ j => j.yes hoa)
  have OB := Lib.hid (fun W h => (OB W h).mono fun _ _ j => j.yes hob)
  have HA := Lib.hid hat
  have HBt := Lib.hid hbt
  have CW := Lib.hid (fun W h1 h2 => why_any 4 (by omega) a b ga gb A B A' B' ca cb ca' cb' lo lo' ⟨#[]⟩ (by decide) W h1 h2)
  have HE := Lib.hid (rp_nil (Ty.why 4 a b))
  generalize Ty.why 4 a b = R at *
  clear hat hbt hoa hob hT hU ga gb
  go_enter Tryz.func12, Tryz.ntmps12
  go_wp2_with fail
  go_at_call 24
  refine (OA.out _ (HA.out.below (below3 _ _ _ _))).mono ?_
  rintro e w2 ⟨rfl, hbw2⟩
  have a0_ := keepCell (a := ⟨w.heap.size, 0, none⟩) (v := .int .i64 a.kind) hbw2 (by go_simp)
  have a1_ := keepCell (a := ⟨w.heap.size, 1, none⟩) (v := .string a.name) hbw2 (by go_simp)
  have a2_ := keepCell (a := ⟨w.heap.size, 2, none⟩) (v := .slice A a.labels.length ca) hbw2 (by go_simp)
  have a3_ := keepCell (a := ⟨w.heap.size, 3, none⟩) (v := .slice B a.kids.length cb) hbw2 (by go_simp)
  have b0_ := keepCell (a := ⟨w.heap.size + 1, 0, none⟩) (v := .int .i64 b.kind) hbw2 (by go_simp)
  have b1_ := keepCell (a := ⟨w.heap.size + 1, 1, none⟩) (v := .string b.name) hbw2 (by go_simp)
  have b2_ := keepCell (a := ⟨w.heap.size + 1, 2, none⟩) (v := .slice A' b.labels.length ca') hbw2 (by go_simp)
  have b3_ := keepCell (a := ⟨w.heap.size + 1, 3, none⟩) (v := .slice B' b.kids.length cb') hbw2 (by go_simp)
  have r0 := keepCell (a := ⟨w.heap.size + 1 + 1, 0, none⟩) (v := .int .i64 0) hbw2 (by go_simp)
  have r1 := keepCell (a := ⟨w.heap.size + 1 + 1, 1, none⟩) (v := .string ⟨#[]⟩) hbw2 (by go_simp)
  have rf0 : w2.frozen? ⟨w.heap.size + 1 + 1, 0, none⟩ = false := ((bcell hbw2).2 _ _ (by first | (simp; done) | (simp; omega))).trans (by go_simp)
  have rf1 : w2.frozen? ⟨w.heap.size + 1 + 1, 1, none⟩ = false := ((bcell hbw2).2 _ _ (by first | (simp; done) | (simp; omega))).trans (by go_simp)
  have hzw2 : w.heap.size + 1 + 1 < w2.heap.size := World.block_lt_of_cell? w2 _ r0
  have HBw2 := Lib.hid (bnext (below3 _ _ _ _) hbw2)
  clear hbw2
  go_wp2_with fail
  go_at_call 24
  refine (OB.out _ (HBt.out.below (HBw2.out))).mono ?_
  rintro e w3 ⟨rfl, hbw3⟩
  replace a0_ := keepCell hbw3 a0_
  replace a1_ := keepCell hbw3 a1_
  replace a2_ := keepCell hbw3 a2_
  replace a3_ := keepCell hbw3 a3_
  replace b0_ := keepCell hbw3 b0_
  replace b1_ := keepCell hbw3 b1_
  replace b2_ := keepCell hbw3 b2_
  replace b3_ := keepCell hbw3 b3_
  replace r0 := keepCell hbw3 r0
  replace r1 := keepCell hbw3 r1
  replace rf0 : w3.frozen? ⟨w.heap.size + 1 + 1, 0, none⟩ = false := ((bcell hbw3).2 _ _ hzw2).trans rf0
  replace rf1 : w3.frozen? ⟨w.heap.size + 1 + 1, 1, none⟩ = false := ((bcell hbw3).2 _ _ hzw2).trans rf1
  have hzw3 : w.heap.size + 1 + 1 < w3.heap.size := World.block_lt_of_cell? w3 _ r0
  have HBw3 := Lib.hid (bnext HBw2.out hbw3)
  clear hbw3
  go_wp2_with fail
  go_at_call 31
  refine (CW.out _ (HA.out.below (HBw3.out)) (HBt.out.below (HBw3.out))).mono ?_
  rintro e w4 ⟨rfl, hbw4⟩
  replace a0_ := keepCell hbw4 a0_
  replace a1_ := keepCell hbw4 a1_
  replace a2_ := keepCell hbw4 a2_
  replace a3_ := keepCell hbw4 a3_
  replace b0_ := keepCell hbw4 b0_
  replace b1_ := keepCell hbw4 b1_
  replace b2_ := keepCell hbw4 b2_
  replace b3_ := keepCell hbw4 b3_
  replace r0 := keepCell hbw4 r0
  replace r1 := keepCell hbw4 r1
  replace rf0 : w4.frozen? ⟨w.heap.size + 1 + 1, 0, none⟩ = false := ((bcell hbw4).2 _ _ hzw3).trans rf0
  replace rf1 : w4.frozen? ⟨w.heap.size + 1 + 1, 1, none⟩ = false := ((bcell hbw4).2 _ _ hzw3).trans rf1
  have hzw4 : w.heap.size + 1 + 1 < w4.heap.size := World.block_lt_of_cell? w4 _ r0
  have HBw4 := Lib.hid (bnext HBw3.out hbw4)
  clear hbw4
  go_wp2_with fail
  exact bodyPost_ret (v := .tuple #[.agg #[.int .i64 (rk R), .string (rp ⟨#[]⟩ R)], .bool R.isSome]) (by simp [results, Tryz.results12, go_sem, r0, r1]) rfl ⟨by rw [HE.out], by (first | (with_reducible exact HBw4.out) | ((with_reducible refine Below.setCell (HBw4.out) ?_ _) <;> (first | exact Nat.le_refl _ | exact Nat.le_add_right _ _ | (dsimp only; omega) | (simp; omega))) | ((with_reducible refine Below.setCell (Below.setCell (HBw4.out) ?_ _) ?_ _) <;> (first | exact Nat.le_refl _ | exact Nat.le_add_right _ _ | (dsimp only; omega) | (simp; omega))) | ((with_reducible refine Below.setCell (Below.setCell (Below.setCell (HBw4.out) ?_ _) ?_ _) ?_ _) <;> (first | exact Nat.le_refl _ | exact Nat.le_add_right _ _ | (dsimp only; omega) | (simp; omega))))⟩

set_option maxHeartbeats 8000000 in
set_option maxRecDepth 100000 in
theorem implWhyNot_na (a b : Ty) (hT : a.wt ≤ 1048576) (hoa : ¬ a.Ok) (A B A' B' : Option Addr) (ca cb ca' cb' : Nat) (w : World) (hat : Ty.Pl w 0 a A B) (hm : MaxC w) :
    Calls Tryz.prog 13 #[.agg #[.int .i64 a.kind, .string a.name, .slice A a.labels.length ca, .slice B a.kids.length cb], .agg #[.int .i64 b.kind, .string b.name, .slice A' b.labels.length ca', .slice B' b.kids.length cb']] w (WnPost none w) := by
  have OA := (fun W h h2 => implTypeOk_any a 0 hT A B ca cb W (Ty.Pl.at_ h) h2)
  have OA := Lib.hid (fun W h h2 => (OA W h h2).mono fun _ _ j => j.no hoa)
  have HA := Lib.hid hat
  have HM := Lib.hid hm
  clear hat hoa hT hm
  go_enter Tryz.func13, Tryz.ntmps13
  go_wp2_with fail
  go_at_call 28
  refine (OA.out _ (HA.out.on (below3 _ _ _ _)) (HM.out.keep (below3 _ _ _ _))).mono ?_
  rintro e w2 ⟨rfl, hbw2⟩
  have a0_ := keepCell (a := ⟨w.heap.size, 0, none⟩) (v := .int .i64 a.kind) hbw2 (by go_simp)
  have a1_ := keepCell (a := ⟨w.heap.size, 1, none⟩) (v := .string a.name) hbw2 (by go_simp)
  have a2_ := keepCell (a := ⟨w.heap.size, 2, none⟩) (v := .slice A a.labels.length ca) hbw2 (by go_simp)
  have a3_ := keepCell (a := ⟨w.heap.size, 3, none⟩) (v := .slice B a.kids.length cb) hbw2 (by go_simp)
  have b0_ := keepCell (a := ⟨w.heap.size + 1, 0, none⟩) (v := .int .i64 b.kind) hbw2 (by go_simp)
  have b1_ := keepCell (a := ⟨w.heap.size + 1, 1, none⟩) (v := .string b.name) hbw2 (by go_simp)
  have b2_ := keepCell (a := ⟨w.heap.size + 1, 2, none⟩) (v := .slice A' b.labels.length ca') hbw2 (by go_simp)
  have b3_ := keepCell (a := ⟨w.heap.size + 1, 3, none⟩) (v := .slice B' b.kids.length cb') hbw2 (by go_simp)
  have r0 := keepCell (a := ⟨w.heap.size + 1 + 1, 0, none⟩) (v := .int .i64 0) hbw2 (by go_simp)
  have r1 := keepCell (a := ⟨w.heap.size + 1 + 1, 1, none⟩) (v := .string ⟨#[]⟩) hbw2 (by go_simp)
  have rf0 : w2.frozen? ⟨w.heap.size + 1 + 1, 0, none⟩ = false := ((bcell hbw2).2 _ _ (by first | (simp; done) | (simp; omega))).trans (by go_simp)
  have rf1 : w2.frozen? ⟨w.heap.size + 1 + 1, 1, none⟩ = false := ((bcell hbw2).2 _ _ (by first | (simp; done) | (simp; omega))).trans (by go_simp)
  have hzw2 : w.heap.size + 1 + 1 < w2.heap.size := World.block_lt_of_cell? w2 _ r0
  have HBw2 := Lib.hid (bnext (below3 _ _ _ _) hbw2)
  clear hbw2
  go_wp2_with fail
  exact bodyPost_ret (v := .tuple #[.agg #[.int .i64 0, .string ⟨#[]⟩], .bool false]) (by simp [results, Tryz.results13, go_sem, r0, r1]) rfl ⟨rfl, by (first | (with_reducible exact HBw2.out) | ((with_reducible refine Below.setCell (HBw2.out) ?_ _) <;> (first | exact Nat.le_refl _ | exact Nat.le_add_right _ _ | (dsimp only; omega) | (simp; omega))) | ((with_reducible refine Below.setCell (Below.setCell (HBw2.out) ?_ _) ?_ _) <;> (first | exact Nat.le_refl _ | exact Nat.le_add_right _ _ | (dsimp only; omega) | (simp; omega))) | ((with_reducible refine Below.setCell (Below.setCell (Below.setCell (HBw2.out) ?_ _) ?_ _) ?_ _) <;> (first | exact Nat.le_refl _ | exact Nat.le_add_right _ _ | (dsimp only; omega) | (simp; omega))))⟩

set_option maxHeartbeats 8000000 in
set_option maxRecDepth 100000 in
theorem implWhyNot_nb (a b : Ty) (hT : a.wt ≤ 1048576) (hU : b.wt ≤ 1048576) (hoa : a.Ok) (hob : ¬ b.Ok) (A B A' B' : Option Addr) (ca cb ca' cb' : Nat) (w : World) (hat : Ty.Pl w 0 a A B) (hbt : Ty.Pl w 0 b A' B') (hm : MaxC w) :
    Calls Tryz.prog 13 #[.agg #[.int .i64 a.kind, .string a.name, .slice A a.labels.length ca, .slice B a.kids.length cb], .agg #[.int .i64 b.kind, .string b.name, .slice A' b.labels.length ca', .slice B' b.kids.length cb']] w (WnPost none w) := by
  have OA := (fun W h h2 => implTypeOk_any a 0 hT A B ca cb W (Ty.Pl.at_ h) h2)
  have OB := (fun W h h2 => implTypeOk_any b 0 hU A' B' ca' cb' W (Ty.Pl.at_ h) h2)
  have OA := Lib.hid (fun W h h2 => (OA W h h2).mono fun _ _ j => j.yes hoa)
  have OB := Lib.hid (fun W h h2 => (OB W h h2).mono fun _ _ j => j.no hob)
  have HA := Lib.hid hat
  have HBt := Lib.hid hbt
  have HM := Lib.hid hm
  clear hat hbt hoa hob hT hU hm
  go_enter Tryz.func13, Tryz.ntmps13
  go_wp2_with fail
  go_at_call 28
  refine (OA.out _ (HA.out.on (below3 _ _ _ _)) (HM.out.keep (below3 _ _ _ _))).mono ?_
  rintro e w2 ⟨rfl, hbw2⟩
  have a0_ := keepCell (a := ⟨w.heap.size, 0, none⟩) (v := .int .i64 a.kind) hbw2 (by go_simp)
  have a1_ := keepCell (a := ⟨w.heap.size, 1, none⟩) (v := .string a.name) hbw2 (by go_simp)
  have a2_ := keepCell (a := ⟨w.heap.size, 2, none⟩) (v := .slice A a.labels.length ca) hbw2 (by go_simp)
  have a3_ := keepCell (a := ⟨w.heap.size, 3, none⟩) (v := .slice B a.kids.length cb) hbw2 (by go_simp)
  have b0_ := keepCell (a := ⟨w.heap.size + 1, 0, none⟩) (v := .int .i64 b.kind) hbw2 (by go_simp)
  have b1_ := keepCell (a := ⟨w.heap.size + 1, 1, none⟩) (v := .string b.name) hbw2 (by go_simp)
  have b2_ := keepCell (a := ⟨w.heap.size + 1, 2, none⟩) (v := .slice A' b.labels.length ca') hbw2 (by go_simp)
  have b3_ := keepCell (a := ⟨w.heap.size + 1, 3, none⟩) (v := .slice B' b.kids.length cb') hbw2 (by go_simp)
  have r0 := keepCell (a := ⟨w.heap.size + 1 + 1, 0, none⟩) (v := .int .i64 0) hbw2 (by go_simp)
  have r1 := keepCell (a := ⟨w.heap.size + 1 + 1, 1, none⟩) (v := .string ⟨#[]⟩) hbw2 (by go_simp)
  have rf0 : w2.frozen? ⟨w.heap.size + 1 + 1, 0, none⟩ = false := ((bcell hbw2).2 _ _ (by first | (simp; done) | (simp; omega))).trans (by go_simp)
  have rf1 : w2.frozen? ⟨w.heap.size + 1 + 1, 1, none⟩ = false := ((bcell hbw2).2 _ _ (by first | (simp; done) | (simp; omega))).trans (by go_simp)
  have hzw2 : w.heap.size + 1 + 1 < w2.heap.size := World.block_lt_of_cell? w2 _ r0
  have HBw2 := Lib.hid (bnext (below3 _ _ _ _) hbw2)
  clear hbw2
  go_wp2_with fail
  go_at_call 28
  refine (OB.out _ (HBt.out.on (HBw2.out)) (HM.out.keep (HBw2.out))).mono ?_
  rintro e w3 ⟨rfl, hbw3⟩
  replace a0_ := keepCell hbw3 a0_
  replace a1_ := keepCell hbw3 a1_
  replace a2_ := keepCell hbw3 a2_
  replace a3_ := keepCell hbw3 a3_
  replace b0_ := keepCell hbw3 b0_
  replace b1_ := keepCell hbw3 b1_
  replace b2_ := keepCell hbw3 b2_
  replace b3_ := keepCell hbw3 b3_
  replace r0 := keepCell hbw3 r0
  replace r1 := keepCell hbw3 r1
  replace rf0 : w3.frozen? ⟨w.heap.size + 1 + 1, 0, none⟩ = false := ((bcell hbw3).2 _ _ hzw2).trans rf0
  replace rf1 : w3.frozen? ⟨w.heap.size + 1 + 1, 1, none⟩ = false := ((bcell hbw3).2 _ _ hzw2).trans rf1
  have hzw3 : w.heap.size + 1 + 1 < w3.heap.size := World.block_lt_of_cell? w3 _ r0
  have HBw3 := Lib.hid (bnext HBw2.out hbw3)
  clear hbw3
  go_wp2_with fail
  exact bodyPost_ret (v := .tuple #[.agg #[.int .i64 0, .string ⟨#[]⟩], .bool false]) (by simp [results, Tryz.results13, go_sem, r0, r1]) rfl ⟨rfl, by (first | (with_reducible exact HBw3.out) | ((with_reducible refine Below.setCell (HBw3.out) ?_ _) <;> (first | exact Nat.le_refl _ | exact Nat.le_add_right _ _ | (dsimp only; omega) | (simp; omega))) | ((with_reducible refine Below.setCell (Below.setCell (HBw3.out) ?_ _) ?_ _) <;> (first | exact Nat.le_refl _ | exact Nat.le_add_right _ _ | (dsimp only; omega) | (simp; omega))) | ((with_reducible refine Below.setCell (Below.setCell (Below.setCell (HBw3.out) ?_ _) ?_ _) ?_ _) <;> (first | exact Nat.le_refl _ | exact Nat.le_add_right _ _ | (dsimp only; omega) | (simp; omega))))⟩

set_option maxHeartbeats 8000000 in
set_option maxRecDepth 100000 in
theorem implWhyNot_none (a b : Ty) (hoa : a.Ok) (hob : b.Ok) (ga : Gd 4 a) (gb : Gd 4 b) (hr : Ty.why 4 a b = none) (A B A' B' : Option Addr) (ca cb ca' cb' : Nat) (w : World) (hat : Ty.Pl w 0 a A B) (hbt : Ty.Pl w 0 b A' B') (ht : RTable w) (hm : MaxC w) :
    Calls Tryz.prog 13 #[.agg #[.int .i64 a.kind, .string a.name, .slice A a.labels.length ca, .slice B a.kids.length cb], .agg #[.int .i64 b.kind, .string b.name, .slice A' b.labels.length ca', .slice B' b.kids.length cb']] w (WnPost none w) := by
  have hT := ga.1
  have hU := gb.1
  have OA := (fun W h h2 => implTypeOk_any a 0 hT A B ca cb W (Ty.Pl.at_ h) h2)
  have OB := (fun W h h2 => implTypeOk_any b 0 hU A' B' ca' cb' W (Ty.Pl.at_ h) h2)
  have OA := Lib.hid (fun W h h2 => (OA W h h2).mono fun _ _ j => j.yes hoa)
  have OB := Lib.hid (fun W h h2 => (OB W h h2).mono fun _ _ j => j.yes hob)
  have HA := Lib.hid hat
  have HBt := Lib.hid hbt
  have HT := Lib.hid ht
  have HM := Lib.hid hm
  have CW0 := (fun W h1 h2 h3 => typeReason_any 4 (by omega) a b ga gb A B A' B' ca cb ca' cb' W h1 h2 h3)
  rw [hr] at CW0
  have CW := Lib.hid (fun W h1 h2 h3 => (CW0 W h1 h2 h3).mono fun _ _ j => j.none_)
  clear CW0 hat hbt hoa hob hT hU ga gb ht hm hr
  go_enter Tryz.func13, Tryz.ntmps13
  go_wp2_with fail
  go_at_call 28
  refine (OA.out _ (HA.out.on (below3 _ _ _ _)) (HM.out.keep (below3 _ _ _ _))).mono ?_
  rintro e w2 ⟨rfl, hbw2⟩
  have a0_ := keepCell (a := ⟨w.heap.size, 0, none⟩) (v := .int .i64 a.kind) hbw2 (by go_simp)
  have a1_ := keepCell (a := ⟨w.heap.size, 1, none⟩) (v := .string a.name) hbw2 (by go_simp)
  have a2_ := keepCell (a := ⟨w.heap.size, 2, none⟩) (v := .slice A a.labels.length ca) hbw2 (by go_simp)
  have a3_ := keepCell (a := ⟨w.heap.size, 3, none⟩) (v := .slice B a.kids.length cb) hbw2 (by go_simp)
  have b0_ := keepCell (a := ⟨w.heap.size + 1, 0, none⟩) (v := .int .i64 b.kind) hbw2 (by go_simp)
  have b1_ := keepCell (a := ⟨w.heap.size + 1, 1, none⟩) (v := .string b.name) hbw2 (by go_simp)
  have b2_ := keepCell (a := ⟨w.heap.size + 1, 2, none⟩) (v := .slice A' b.labels.length ca') hbw2 (by go_simp)
  have b3_ := keepCell (a := ⟨w.heap.size + 1, 3, none⟩) (v := .slice B' b.kids.length cb') hbw2 (by go_simp)
  have r0 := keepCell (a := ⟨w.heap.size + 1 + 1, 0, none⟩) (v := .int .i64 0) hbw2 (by go_simp)
  have r1 := keepCell (a := ⟨w.heap.size + 1 + 1, 1, none⟩) (v := .string ⟨#[]⟩) hbw2 (by go_simp)
  have rf0 : w2.frozen? ⟨w.heap.size + 1 + 1, 0, none⟩ = false := ((bcell hbw2).2 _ _ (by first | (simp; done) | (simp; omega))).trans (by go_simp)
  have rf1 : w2.frozen? ⟨w.heap.size + 1 + 1, 1, none⟩ = false := ((bcell hbw2).2 _ _ (by first | (simp; done) | (simp; omega))).trans (by go_simp)
  have hzw2 : w.heap.size + 1 + 1 < w2.heap.size := World.block_lt_of_cell? w2 _ r0
  have HBw2 := Lib.hid (bnext (below3 _ _ _ _) hbw2)
  clear hbw2
  go_wp2_with fail
  go_at_call 28
  refine (OB.out _ (HBt.out.on (HBw2.out)) (HM.out.keep (HBw2.out))).mono ?_
  rintro e w3 ⟨rfl, hbw3⟩
  replace a0_ := keepCell hbw3 a0_
  replace a1_ := keepCell hbw3 a1_
  replace a2_ := keepCell hbw3 a2_
  replace a3_ := keepCell hbw3 a3_
  replace b0_ := keepCell hbw3 b0_
  replace b1_ := keepCell hbw3 b1_
  replace b2_ := keepCell hbw3 b2_
  replace b3_ := keepCell hbw3 b3_
  replace r0 := keepCell hbw3 r0
  replace r1 := keepCell hbw3 r1
  replace rf0 : w3.frozen? ⟨w.heap.size + 1 + 1, 0, none⟩ = false := ((bcell hbw3).2 _ _ hzw2).trans rf0
  replace rf1 : w3.frozen? ⟨w.heap.size + 1 + 1, 1, none⟩ = false := ((bcell hbw3).2 _ _ hzw2).trans rf1
  have hzw3 : w.heap.size + 1 + 1 < w3.heap.size := World.block_lt_of_cell? w3 _ r0
  have HBw3 := Lib.hid (bnext HBw2.out hbw3)
  clear hbw3
  go_wp2_with fail
  go_at_call 32
  refine (CW.out _ (HA.out.on (HBw3.out)) (HBt.out.on (HBw3.out)) (HT.out.keep HBw3.out)).mono ?_
  rintro e w4 ⟨rfl, hbw4⟩
  replace a0_ := keepCell hbw4 a0_
  replace a1_ := keepCell hbw4 a1_
  replace a2_ := keepCell hbw4 a2_
  replace a3_ := keepCell hbw4 a3_
  replace b0_ := keepCell hbw4 b0_
  replace b1_ := keepCell hbw4 b1_
  replace b2_ := keepCell hbw4 b2_
  replace b3_ := keepCell hbw4 b3_
  replace r0 := keepCell hbw4 r0
  replace r1 := keepCell hbw4 r1
  replace rf0 : w4.frozen? ⟨w.heap.size + 1 + 1, 0, none⟩ = false := ((bcell hbw4).2 _ _ hzw3).trans rf0
  replace rf1 : w4.frozen? ⟨w.heap.size + 1 + 1, 1, none⟩ = false := ((bcell hbw4).2 _ _ hzw3).trans rf1
  have hzw4 : w.heap.size + 1 + 1 < w4.heap.size := World.block_lt_of_cell? w4 _ r0
  have HBw4 := Lib.hid (bnext HBw3.out hbw4)
  clear hbw4
  go_wp2_with fail
  obtain ⟨W, hW, hb, g0, g1, q0, q1, qf0, qf1⟩ : ∃ W, w4.alloc (.cells #[.int .i64 0, .string ⟨#[]⟩] 34) = W ∧ Below w4.heap.size w4 W ∧ W.cell? ⟨w4.heap.size, 0, none⟩ = some (.int .i64 0) ∧ W.cell? ⟨w4.heap.size, 1, none⟩ = some (.string ⟨#[]⟩) ∧ W.cell? ⟨w.heap.size + 1 + 1, 0, none⟩ = some (.int .i64 0) ∧ W.cell? ⟨w.heap.size + 1 + 1, 1, none⟩ = some (.string ⟨#[]⟩) ∧ W.frozen? ⟨w.heap.size + 1 + 1, 0, none⟩ = false ∧ W.frozen? ⟨w.heap.size + 1 + 1, 1, none⟩ = false := ⟨_, rfl, below1 _ _, by go_simp, by go_simp, keepCell (below1 _ _) r0, keepCell (below1 _ _) r1, by go_simp, by go_simp⟩
  rw [hW]
  have HBX := Lib.hid (bnext HBw4.out hb)
  have hne : w4.heap.size ≠ w.heap.size + 1 + 1 := by omega
  clear hW hb r0 r1 rf0 rf1 a0_ a1_ a2_ a3_ b0_ b1_ b2_ b3_
  go_region_held3 (fun w' => w'.cell? ⟨w4.heap.size, 0, none⟩ = some (.int .i64 0) ∧ w'.cell? ⟨w4.heap.size, 1, none⟩ = some (.string ⟨#[]⟩))
    (first | assumption | (with_reducible exact ⟨g0, g1⟩) | (refine ⟨?_, ?_⟩ <;> first | assumption | (exact (cells_far2 hne).trans (by assumption))))
    (fail)
  all_goals
    go_wp2_with fail
    exact bodyPost_ret (v := .tuple #[.agg #[.int .i64 0, .string ⟨#[]⟩], .bool false]) (by simp [results, Tryz.results13, go_sem, q0, q1]) rfl ⟨rfl, by first | exact ((HBX.out.setCell (by first | exact Nat.le_refl _ | exact Nat.le_add_right _ _ | (dsimp only; omega) | (simp; omega)) _).setCell (by first | exact Nat.le_refl _ | exact Nat.le_add_right _ _ | (dsimp only; omega) | (simp; omega)) _).drew | exact (((HBX.out.drew).setCell (by first | exact Nat.le_refl _ | exact Nat.le_add_right _ _ | (dsimp only; omega) | (simp; omega)) _).setCell (by first | exact Nat.le_refl _ | exact Nat.le_add_right _ _ | (dsimp only; omega) | (simp; omega)) _)⟩

set_option maxHeartbeats 8000000 in
set_option maxRecDepth 100000 in
theorem implWhyNot_some (a b : Ty) (hoa : a.Ok) (hob : b.Ok) (ga : Gd 4 a) (gb : Gd 4 b) (z : Int) (p : ByteArray) (hr : Ty.why 4 a b = some (z, p)) (A B A' B' : Option Addr) (ca cb ca' cb' : Nat) (w : World) (hat : Ty.Pl w 0 a A B) (hbt : Ty.Pl w 0 b A' B') (ht : RTable w) (hm : MaxC w) :
    Calls Tryz.prog 13 #[.agg #[.int .i64 a.kind, .string a.name, .slice A a.labels.length ca, .slice B a.kids.length cb], .agg #[.int .i64 b.kind, .string b.name, .slice A' b.labels.length ca', .slice B' b.kids.length cb']] w (WnPost (some (z, p)) w) := by
  have hT := ga.1
  have hU := gb.1
  have OA := (fun W h h2 => implTypeOk_any a 0 hT A B ca cb W (Ty.Pl.at_ h) h2)
  have OB := (fun W h h2 => implTypeOk_any b 0 hU A' B' ca' cb' W (Ty.Pl.at_ h) h2)
  have OA := Lib.hid (fun W h h2 => (OA W h h2).mono fun _ _ j => j.yes hoa)
  have OB := Lib.hid (fun W h h2 => (OB W h h2).mono fun _ _ j => j.yes hob)
  have HA := Lib.hid hat
  have HBt := Lib.hid hbt
  have HT := Lib.hid ht
  have HM := Lib.hid hm
  obtain ⟨⟨z1, z2⟩, _⟩ := Ty.why_small (by omega) ga gb z p hr
  have ez : (z == 0) = false := by rw [beq_eq_false_iff_ne]; omega
  have ez' : (z != 0) = true := by rw [bne_iff_ne]; omega
  have CW0 := (fun W h1 h2 h3 => typeReason_any 4 (by omega) a b ga gb A B A' B' ca cb ca' cb' W h1 h2 h3)
  rw [hr] at CW0
  have CW := Lib.hid (fun W h1 h2 h3 => (CW0 W h1 h2 h3).mono fun _ _ j => j.some_)
  clear CW0 hat hbt hoa hob hT hU ga gb ht hm hr
  go_enter Tryz.func13, Tryz.ntmps13
  go_wp2_with fail
  go_at_call 28
  refine (OA.out _ (HA.out.on (below3 _ _ _ _)) (HM.out.keep (below3 _ _ _ _))).mono ?_
  rintro e w2 ⟨rfl, hbw2⟩
  have a0_ := keepCell (a := ⟨w.heap.size, 0, none⟩) (v := .int .i64 a.kind) hbw2 (by go_simp)
  have a1_ := keepCell (a := ⟨w.heap.size, 1, none⟩) (v := .string a.name) hbw2 (by go_simp)
  have a2_ := keepCell (a := ⟨w.heap.size, 2, none⟩) (v := .slice A a.labels.length ca) hbw2 (by go_simp)
  have a3_ := keepCell (a := ⟨w.heap.size, 3, none⟩) (v := .slice B a.kids.length cb) hbw2 (by go_simp)
  have b0_ := keepCell (a := ⟨w.heap.size + 1, 0, none⟩) (v := .int .i64 b.kind) hbw2 (by go_simp)
  have b1_ := keepCell (a := ⟨w.heap.size + 1, 1, none⟩) (v := .string b.name) hbw2 (by go_simp)
  have b2_ := keepCell (a := ⟨w.heap.size + 1, 2, none⟩) (v := .slice A' b.labels.length ca') hbw2 (by go_simp)
  have b3_ := keepCell (a := ⟨w.heap.size + 1, 3, none⟩) (v := .slice B' b.kids.length cb') hbw2 (by go_simp)
  have r0 := keepCell (a := ⟨w.heap.size + 1 + 1, 0, none⟩) (v := .int .i64 0) hbw2 (by go_simp)
  have r1 := keepCell (a := ⟨w.heap.size + 1 + 1, 1, none⟩) (v := .string ⟨#[]⟩) hbw2 (by go_simp)
  have rf0 : w2.frozen? ⟨w.heap.size + 1 + 1, 0, none⟩ = false := ((bcell hbw2).2 _ _ (by first | (simp; done) | (simp; omega))).trans (by go_simp)
  have rf1 : w2.frozen? ⟨w.heap.size + 1 + 1, 1, none⟩ = false := ((bcell hbw2).2 _ _ (by first | (simp; done) | (simp; omega))).trans (by go_simp)
  have hzw2 : w.heap.size + 1 + 1 < w2.heap.size := World.block_lt_of_cell? w2 _ r0
  have HBw2 := Lib.hid (bnext (below3 _ _ _ _) hbw2)
  clear hbw2
  go_wp2_with fail
  go_at_call 28
  refine (OB.out _ (HBt.out.on (HBw2.out)) (HM.out.keep (HBw2.out))).mono ?_
  rintro e w3 ⟨rfl, hbw3⟩
  replace a0_ := keepCell hbw3 a0_
  replace a1_ := keepCell hbw3 a1_
  replace a2_ := keepCell hbw3 a2_
  replace a3_ := keepCell hbw3 a3_
  replace b0_ := keepCell hbw3 b0_
  replace b1_ := keepCell hbw3 b1_
  replace b2_ := keepCell hbw3 b2_
  replace b3_ := keepCell hbw3 b3_
  replace r0 := keepCell hbw3 r0
  replace r1 := keepCell hbw3 r1
  replace rf0 : w3.frozen? ⟨w.heap.size + 1 + 1, 0, none⟩ = false := ((bcell hbw3).2 _ _ hzw2).trans rf0
  replace rf1 : w3.frozen? ⟨w.heap.size + 1 + 1, 1, none⟩ = false := ((bcell hbw3).2 _ _ hzw2).trans rf1
  have hzw3 : w.heap.size + 1 + 1 < w3.heap.size := World.block_lt_of_cell? w3 _ r0
  have HBw3 := Lib.hid (bnext HBw2.out hbw3)
  clear hbw3
  go_wp2_with fail
  go_at_call 32
  refine (CW.out _ (HA.out.on (HBw3.out)) (HBt.out.on (HBw3.out)) (HT.out.keep HBw3.out)).mono ?_
  rintro e w4 ⟨rfl, hbw4⟩
  replace a0_ := keepCell hbw4 a0_
  replace a1_ := keepCell hbw4 a1_
  replace a2_ := keepCell hbw4 a2_
  replace a3_ := keepCell hbw4 a3_
  replace b0_ := keepCell hbw4 b0_
  replace b1_ := keepCell hbw4 b1_
  replace b2_ := keepCell hbw4 b2_
  replace b3_ := keepCell hbw4 b3_
  replace r0 := keepCell hbw4 r0
  replace r1 := keepCell hbw4 r1
  replace rf0 : w4.frozen? ⟨w.heap.size + 1 + 1, 0, none⟩ = false := ((bcell hbw4).2 _ _ hzw3).trans rf0
  replace rf1 : w4.frozen? ⟨w.heap.size + 1 + 1, 1, none⟩ = false := ((bcell hbw4).2 _ _ hzw3).trans rf1
  have hzw4 : w.heap.size + 1 + 1 < w4.heap.size := World.block_lt_of_cell? w4 _ r0
  have HBw4 := Lib.hid (bnext HBw3.out hbw4)
  clear hbw4
  go_wp2_with fail
  obtain ⟨W, hW, hb, g0, g1, q0, q1, qf0, qf1⟩ : ∃ W, w4.alloc (.cells #[.int .i64 z, .string p] 34) = W ∧ Below w4.heap.size w4 W ∧ W.cell? ⟨w4.heap.size, 0, none⟩ = some (.int .i64 z) ∧ W.cell? ⟨w4.heap.size, 1, none⟩ = some (.string p) ∧ W.cell? ⟨w.heap.size + 1 + 1, 0, none⟩ = some (.int .i64 0) ∧ W.cell? ⟨w.heap.size + 1 + 1, 1, none⟩ = some (.string ⟨#[]⟩) ∧ W.frozen? ⟨w.heap.size + 1 + 1, 0, none⟩ = false ∧ W.frozen? ⟨w.heap.size + 1 + 1, 1, none⟩ = false := ⟨_, rfl, below1 _ _, by go_simp, by go_simp, keepCell (below1 _ _) r0, keepCell (below1 _ _) r1, by go_simp, by go_simp⟩
  rw [hW]
  have HBX := Lib.hid (bnext HBw4.out hb)
  have hne : w4.heap.size ≠ w.heap.size + 1 + 1 := by omega
  clear hW hb r0 r1 rf0 rf1 a0_ a1_ a2_ a3_ b0_ b1_ b2_ b3_
  go_region_held3 (fun w' => w'.cell? ⟨w4.heap.size, 0, none⟩ = some (.int .i64 z) ∧ w'.cell? ⟨w4.heap.size, 1, none⟩ = some (.string p))
    (first | assumption | (with_reducible exact ⟨g0, g1⟩) | (refine ⟨?_, ?_⟩ <;> first | assumption | (exact (cells_far2 hne).trans (by assumption))))
    (fail)
  all_goals
    go_wp2_with fail
    exact bodyPost_ret (v := .tuple #[.agg #[.int .i64 z, .string p], .bool true]) (by simp [results, Tryz.results13, go_sem, q0, q1]) rfl ⟨rfl, by first | exact ((HBX.out.setCell (by first | exact Nat.le_refl _ | exact Nat.le_add_right _ _ | (dsimp only; omega) | (simp; omega)) _).setCell (by first | exact Nat.le_refl _ | exact Nat.le_add_right _ _ | (dsimp only; omega) | (simp; omega)) _).drew | exact (((HBX.out.drew).setCell (by first | exact Nat.le_refl _ | exact Nat.le_add_right _ _ | (dsimp only; omega) | (simp; omega)) _).setCell (by first | exact Nat.le_refl _ | exact Nat.le_add_right _ _ | (dsimp only; omega) | (simp; omega)) _)⟩

end Go.Proofs.YtifchfecfkdjlaaGreatDoor
