/-
  The walk of the program's typeReason, the contracts of check and of the methods given.
-/
import Derived.Test.YtifchfecfkdjlaaGreatDoorMG
namespace Go.Proofs.YtifchfecfkdjlaaGreatDoor
open Go.ChangeShapes Go.WideShapes Go.ChangeAt Go.RowKit Go.Deep

set_option maxHeartbeats 2000000 in
set_option maxRecDepth 100000 in
theorem tr_num_yes (a b : Ty) (hna : numK a.kind = true) (hnb : numK b.kind = true) (h1 : (nrV b.kind).1 ≤ (nrV a.kind).1) (h2 : (nrV a.kind).2.1 ≤ (nrV b.kind).2.1) (A B A' B' : Option Addr) (ca cb ca' cb' : Nat) (w : World) (ht : RTable w) :
    Calls Tryz.prog 32 #[.agg #[.int .i64 a.kind, .string a.name, .slice A a.labels.length ca, .slice B a.kids.length cb], .agg #[.int .i64 b.kind, .string b.name, .slice A' b.labels.length ca', .slice B' b.kids.length cb']] w (RsnPost none w) := by
  have CA := Lib.hid (fun W h => nr_impl a.kind W h)
  have CB := Lib.hid (fun W h => nr_impl b.kind W h)
  rw [hna] at CA
  rw [hnb] at CB
  have HT := Lib.hid ht
  obtain ⟨y1, y2, y3, y4⟩ := nrV_bd a.kind
  obtain ⟨y5, y6, y7, y8⟩ := nrV_bd b.kind
  generalize (nrV a.kind).1 = la at *
  generalize (nrV a.kind).2.1 = ha at *
  generalize (nrV b.kind).1 = lb at *
  generalize (nrV b.kind).2.1 = hb at *
  have h1x : decide (lb ≤ la) = true := by simpa using h1
  have h2x : decide (ha ≤ hb) = true := by simpa using h2
  clear ht hna hnb
  go_enter Tryz.func32, Tryz.ntmps32
  go_wp2_with fail
  go_at_call 50
  refine (CA.out _ (HT.out.keep (below3 _ _ _ _))).mono ?_
  rintro e w1 ⟨rfl, hb1⟩
  have j0 := keepCell (a := ⟨w.heap.size, 0, none⟩) (v := .int .i64 a.kind) hb1 (by go_simp)
  have j1 := keepCell (a := ⟨w.heap.size, 1, none⟩) (v := .string a.name) hb1 (by go_simp)
  have j2 := keepCell (a := ⟨w.heap.size, 2, none⟩) (v := .slice A a.labels.length ca) hb1 (by go_simp)
  have j3 := keepCell (a := ⟨w.heap.size, 3, none⟩) (v := .slice B a.kids.length cb) hb1 (by go_simp)
  have k0 := keepCell (a := ⟨w.heap.size + 1, 0, none⟩) (v := .int .i64 b.kind) hb1 (by go_simp)
  have k1 := keepCell (a := ⟨w.heap.size + 1, 1, none⟩) (v := .string b.name) hb1 (by go_simp)
  have k2 := keepCell (a := ⟨w.heap.size + 1, 2, none⟩) (v := .slice A' b.labels.length ca') hb1 (by go_simp)
  have k3 := keepCell (a := ⟨w.heap.size + 1, 3, none⟩) (v := .slice B' b.kids.length cb') hb1 (by go_simp)
  have r0 := keepCell (a := ⟨w.heap.size + 1 + 1, 0, none⟩) (v := .int .i64 0) hb1 (by go_simp)
  have r1 := keepCell (a := ⟨w.heap.size + 1 + 1, 1, none⟩) (v := .string ⟨#[]⟩) hb1 (by go_simp)
  have f0 : w1.frozen? ⟨w.heap.size + 1 + 1, 0, none⟩ = false := ((bcell hb1).2 _ _ (by first | (simp; done) | (simp; omega))).trans (by go_simp)
  have f1 : w1.frozen? ⟨w.heap.size + 1 + 1, 1, none⟩ = false := ((bcell hb1).2 _ _ (by first | (simp; done) | (simp; omega))).trans (by go_simp)
  have z1 : w.heap.size + 1 + 1 < w1.heap.size := World.block_lt_of_cell? w1 _ r0
  have HB1 := Lib.hid (bnext (below3 _ _ _ _) hb1)
  clear hb1
  go_wp2_with fail
  go_at_call 50
  refine (CB.out _ (HT.out.keep HB1.out)).mono ?_
  rintro e w2 ⟨rfl, hb2⟩
  replace j0 := keepCell hb2 j0
  replace j1 := keepCell hb2 j1
  replace j2 := keepCell hb2 j2
  replace j3 := keepCell hb2 j3
  replace k0 := keepCell hb2 k0
  replace k1 := keepCell hb2 k1
  replace k2 := keepCell hb2 k2
  replace k3 := keepCell hb2 k3
  replace r0 := keepCell hb2 r0
  replace r1 := keepCell hb2 r1
  replace f0 := ((bcell hb2).2 _ _ z1).trans f0
  replace f1 := ((bcell hb2).2 _ _ z1).trans f1
  have z2 : w.heap.size + 1 + 1 < w2.heap.size := World.block_lt_of_cell? w2 _ r0
  have HB2 := Lib.hid (bnext HB1.out hb2)
  clear hb2 z1 CA CB
  go_wp2_with fail
  refine bodyPost_ret (v := .agg #[.int .i64 0, .string ⟨#[]⟩]) (by simp [results, Tryz.results32, go_sem, r0, r1]) rfl ⟨rfl, by (first | (with_reducible exact HB2.out) | ((with_reducible refine Below.setCell (HB2.out) ?_ _) <;> (first | exact Nat.le_refl _ | exact Nat.le_add_right _ _ | (dsimp only; omega) | (simp; omega))) | ((with_reducible refine Below.setCell (Below.setCell (HB2.out) ?_ _) ?_ _) <;> (first | exact Nat.le_refl _ | exact Nat.le_add_right _ _ | (dsimp only; omega) | (simp; omega))) | ((with_reducible refine Below.setCell (Below.setCell (Below.setCell (HB2.out) ?_ _) ?_ _) ?_ _) <;> (first | exact Nat.le_refl _ | exact Nat.le_add_right _ _ | (dsimp only; omega) | (simp; omega))))⟩
set_option maxHeartbeats 2000000 in
set_option maxRecDepth 100000 in
theorem tr_num_lo (a b : Ty) (hna : numK a.kind = true) (hnb : numK b.kind = true) (h1 : ¬ (nrV b.kind).1 ≤ (nrV a.kind).1)  (A B A' B' : Option Addr) (ca cb ca' cb' : Nat) (w : World) (ht : RTable w) :
    Calls Tryz.prog 32 #[.agg #[.int .i64 a.kind, .string a.name, .slice A a.labels.length ca, .slice B a.kids.length cb], .agg #[.int .i64 b.kind, .string b.name, .slice A' b.labels.length ca', .slice B' b.kids.length cb']] w (RsnPost (some (2, sE)) w) := by
  have CA := Lib.hid (fun W h => nr_impl a.kind W h)
  have CB := Lib.hid (fun W h => nr_impl b.kind W h)
  rw [hna] at CA
  rw [hnb] at CB
  have HT := Lib.hid ht
  obtain ⟨y1, y2, y3, y4⟩ := nrV_bd a.kind
  obtain ⟨y5, y6, y7, y8⟩ := nrV_bd b.kind
  generalize (nrV a.kind).1 = la at *
  generalize (nrV a.kind).2.1 = ha at *
  generalize (nrV b.kind).1 = lb at *
  generalize (nrV b.kind).2.1 = hb at *
  have h1x : decide (lb ≤ la) = false := by simpa using h1
  clear ht hna hnb
  go_enter Tryz.func32, Tryz.ntmps32
  go_wp2_with fail
  go_at_call 50
  refine (CA.out _ (HT.out.keep (below3 _ _ _ _))).mono ?_
  rintro e w1 ⟨rfl, hb1⟩
  have j0 := keepCell (a := ⟨w.heap.size, 0, none⟩) (v := .int .i64 a.kind) hb1 (by go_simp)
  have j1 := keepCell (a := ⟨w.heap.size, 1, none⟩) (v := .string a.name) hb1 (by go_simp)
  have j2 := keepCell (a := ⟨w.heap.size, 2, none⟩) (v := .slice A a.labels.length ca) hb1 (by go_simp)
  have j3 := keepCell (a := ⟨w.heap.size, 3, none⟩) (v := .slice B a.kids.length cb) hb1 (by go_simp)
  have k0 := keepCell (a := ⟨w.heap.size + 1, 0, none⟩) (v := .int .i64 b.kind) hb1 (by go_simp)
  have k1 := keepCell (a := ⟨w.heap.size + 1, 1, none⟩) (v := .string b.name) hb1 (by go_simp)
  have k2 := keepCell (a := ⟨w.heap.size + 1, 2, none⟩) (v := .slice A' b.labels.length ca') hb1 (by go_simp)
  have k3 := keepCell (a := ⟨w.heap.size + 1, 3, none⟩) (v := .slice B' b.kids.length cb') hb1 (by go_simp)
  have r0 := keepCell (a := ⟨w.heap.size + 1 + 1, 0, none⟩) (v := .int .i64 0) hb1 (by go_simp)
  have r1 := keepCell (a := ⟨w.heap.size + 1 + 1, 1, none⟩) (v := .string ⟨#[]⟩) hb1 (by go_simp)
  have f0 : w1.frozen? ⟨w.heap.size + 1 + 1, 0, none⟩ = false := ((bcell hb1).2 _ _ (by first | (simp; done) | (simp; omega))).trans (by go_simp)
  have f1 : w1.frozen? ⟨w.heap.size + 1 + 1, 1, none⟩ = false := ((bcell hb1).2 _ _ (by first | (simp; done) | (simp; omega))).trans (by go_simp)
  have z1 : w.heap.size + 1 + 1 < w1.heap.size := World.block_lt_of_cell? w1 _ r0
  have HB1 := Lib.hid (bnext (below3 _ _ _ _) hb1)
  clear hb1
  go_wp2_with fail
  go_at_call 50
  refine (CB.out _ (HT.out.keep HB1.out)).mono ?_
  rintro e w2 ⟨rfl, hb2⟩
  replace j0 := keepCell hb2 j0
  replace j1 := keepCell hb2 j1
  replace j2 := keepCell hb2 j2
  replace j3 := keepCell hb2 j3
  replace k0 := keepCell hb2 k0
  replace k1 := keepCell hb2 k1
  replace k2 := keepCell hb2 k2
  replace k3 := keepCell hb2 k3
  replace r0 := keepCell hb2 r0
  replace r1 := keepCell hb2 r1
  replace f0 := ((bcell hb2).2 _ _ z1).trans f0
  replace f1 := ((bcell hb2).2 _ _ z1).trans f1
  have z2 : w.heap.size + 1 + 1 < w2.heap.size := World.block_lt_of_cell? w2 _ r0
  have HB2 := Lib.hid (bnext HB1.out hb2)
  clear hb2 z1 CA CB
  go_wp2_with fail
  refine bodyPost_ret (v := .agg #[.int .i64 2, .string ⟨#[]⟩]) (by simp [results, Tryz.results32, go_sem, r0, r1]) rfl ⟨rfl, by (first | (with_reducible exact HB2.out) | ((with_reducible refine Below.setCell (HB2.out) ?_ _) <;> (first | exact Nat.le_refl _ | exact Nat.le_add_right _ _ | (dsimp only; omega) | (simp; omega))) | ((with_reducible refine Below.setCell (Below.setCell (HB2.out) ?_ _) ?_ _) <;> (first | exact Nat.le_refl _ | exact Nat.le_add_right _ _ | (dsimp only; omega) | (simp; omega))) | ((with_reducible refine Below.setCell (Below.setCell (Below.setCell (HB2.out) ?_ _) ?_ _) ?_ _) <;> (first | exact Nat.le_refl _ | exact Nat.le_add_right _ _ | (dsimp only; omega) | (simp; omega))))⟩
set_option maxHeartbeats 2000000 in
set_option maxRecDepth 100000 in
theorem tr_num_hi (a b : Ty) (hna : numK a.kind = true) (hnb : numK b.kind = true) (h1 : (nrV b.kind).1 ≤ (nrV a.kind).1) (h2 : ¬ (nrV a.kind).2.1 ≤ (nrV b.kind).2.1) (A B A' B' : Option Addr) (ca cb ca' cb' : Nat) (w : World) (ht : RTable w) :
    Calls Tryz.prog 32 #[.agg #[.int .i64 a.kind, .string a.name, .slice A a.labels.length ca, .slice B a.kids.length cb], .agg #[.int .i64 b.kind, .string b.name, .slice A' b.labels.length ca', .slice B' b.kids.length cb']] w (RsnPost (some (2, sE)) w) := by
  have CA := Lib.hid (fun W h => nr_impl a.kind W h)
  have CB := Lib.hid (fun W h => nr_impl b.kind W h)
  rw [hna] at CA
  rw [hnb] at CB
  have HT := Lib.hid ht
  obtain ⟨y1, y2, y3, y4⟩ := nrV_bd a.kind
  obtain ⟨y5, y6, y7, y8⟩ := nrV_bd b.kind
  generalize (nrV a.kind).1 = la at *
  generalize (nrV a.kind).2.1 = ha at *
  generalize (nrV b.kind).1 = lb at *
  generalize (nrV b.kind).2.1 = hb at *
  have h1x : decide (lb ≤ la) = true := by simpa using h1
  have h2x : decide (ha ≤ hb) = false := by simpa using h2
  clear ht hna hnb
  go_enter Tryz.func32, Tryz.ntmps32
  go_wp2_with fail
  go_at_call 50
  refine (CA.out _ (HT.out.keep (below3 _ _ _ _))).mono ?_
  rintro e w1 ⟨rfl, hb1⟩
  have j0 := keepCell (a := ⟨w.heap.size, 0, none⟩) (v := .int .i64 a.kind) hb1 (by go_simp)
  have j1 := keepCell (a := ⟨w.heap.size, 1, none⟩) (v := .string a.name) hb1 (by go_simp)
  have j2 := keepCell (a := ⟨w.heap.size, 2, none⟩) (v := .slice A a.labels.length ca) hb1 (by go_simp)
  have j3 := keepCell (a := ⟨w.heap.size, 3, none⟩) (v := .slice B a.kids.length cb) hb1 (by go_simp)
  have k0 := keepCell (a := ⟨w.heap.size + 1, 0, none⟩) (v := .int .i64 b.kind) hb1 (by go_simp)
  have k1 := keepCell (a := ⟨w.heap.size + 1, 1, none⟩) (v := .string b.name) hb1 (by go_simp)
  have k2 := keepCell (a := ⟨w.heap.size + 1, 2, none⟩) (v := .slice A' b.labels.length ca') hb1 (by go_simp)
  have k3 := keepCell (a := ⟨w.heap.size + 1, 3, none⟩) (v := .slice B' b.kids.length cb') hb1 (by go_simp)
  have r0 := keepCell (a := ⟨w.heap.size + 1 + 1, 0, none⟩) (v := .int .i64 0) hb1 (by go_simp)
  have r1 := keepCell (a := ⟨w.heap.size + 1 + 1, 1, none⟩) (v := .string ⟨#[]⟩) hb1 (by go_simp)
  have f0 : w1.frozen? ⟨w.heap.size + 1 + 1, 0, none⟩ = false := ((bcell hb1).2 _ _ (by first | (simp; done) | (simp; omega))).trans (by go_simp)
  have f1 : w1.frozen? ⟨w.heap.size + 1 + 1, 1, none⟩ = false := ((bcell hb1).2 _ _ (by first | (simp; done) | (simp; omega))).trans (by go_simp)
  have z1 : w.heap.size + 1 + 1 < w1.heap.size := World.block_lt_of_cell? w1 _ r0
  have HB1 := Lib.hid (bnext (below3 _ _ _ _) hb1)
  clear hb1
  go_wp2_with fail
  go_at_call 50
  refine (CB.out _ (HT.out.keep HB1.out)).mono ?_
  rintro e w2 ⟨rfl, hb2⟩
  replace j0 := keepCell hb2 j0
  replace j1 := keepCell hb2 j1
  replace j2 := keepCell hb2 j2
  replace j3 := keepCell hb2 j3
  replace k0 := keepCell hb2 k0
  replace k1 := keepCell hb2 k1
  replace k2 := keepCell hb2 k2
  replace k3 := keepCell hb2 k3
  replace r0 := keepCell hb2 r0
  replace r1 := keepCell hb2 r1
  replace f0 := ((bcell hb2).2 _ _ z1).trans f0
  replace f1 := ((bcell hb2).2 _ _ z1).trans f1
  have z2 : w.heap.size + 1 + 1 < w2.heap.size := World.block_lt_of_cell? w2 _ r0
  have HB2 := Lib.hid (bnext HB1.out hb2)
  clear hb2 z1 CA CB
  go_wp2_with fail
  refine bodyPost_ret (v := .agg #[.int .i64 2, .string ⟨#[]⟩]) (by simp [results, Tryz.results32, go_sem, r0, r1]) rfl ⟨rfl, by (first | (with_reducible exact HB2.out) | ((with_reducible refine Below.setCell (HB2.out) ?_ _) <;> (first | exact Nat.le_refl _ | exact Nat.le_add_right _ _ | (dsimp only; omega) | (simp; omega))) | ((with_reducible refine Below.setCell (Below.setCell (HB2.out) ?_ _) ?_ _) <;> (first | exact Nat.le_refl _ | exact Nat.le_add_right _ _ | (dsimp only; omega) | (simp; omega))) | ((with_reducible refine Below.setCell (Below.setCell (Below.setCell (HB2.out) ?_ _) ?_ _) ?_ _) <;> (first | exact Nat.le_refl _ | exact Nat.le_add_right _ _ | (dsimp only; omega) | (simp; omega))))⟩
set_option maxHeartbeats 2000000 in
set_option maxRecDepth 100000 in
theorem tr_kind_ff (a b : Ty) (hna : numK a.kind = false) (hnb : numK b.kind = false) (hk : ¬ a.kind = b.kind) (A B A' B' : Option Addr) (ca cb ca' cb' : Nat) (w : World) (ht : RTable w) :
    Calls Tryz.prog 32 #[.agg #[.int .i64 a.kind, .string a.name, .slice A a.labels.length ca, .slice B a.kids.length cb], .agg #[.int .i64 b.kind, .string b.name, .slice A' b.labels.length ca', .slice B' b.kids.length cb']] w (RsnPost (some (1, sE)) w) := by
  have CA := Lib.hid (fun W h => nr_impl a.kind W h)
  have CB := Lib.hid (fun W h => nr_impl b.kind W h)
  rw [hna] at CA
  rw [hnb] at CB
  have HT := Lib.hid ht
  have x1 : (a.kind == b.kind) = false := by rw [beq_eq_false_iff_ne]; exact hk
  have x2 : (a.kind != b.kind) = true := by rw [bne_iff_ne]; exact hk
  generalize (nrV a.kind).1 = la at *
  generalize (nrV a.kind).2.1 = ha at *
  generalize (nrV b.kind).1 = lb at *
  generalize (nrV b.kind).2.1 = hb at *
  clear ht hna hnb hk
  go_enter Tryz.func32, Tryz.ntmps32
  go_wp2_with fail
  go_at_call 50
  refine (CA.out _ (HT.out.keep (below3 _ _ _ _))).mono ?_
  rintro e w1 ⟨rfl, hb1⟩
  have j0 := keepCell (a := ⟨w.heap.size, 0, none⟩) (v := .int .i64 a.kind) hb1 (by go_simp)
  have j1 := keepCell (a := ⟨w.heap.size, 1, none⟩) (v := .string a.name) hb1 (by go_simp)
  have j2 := keepCell (a := ⟨w.heap.size, 2, none⟩) (v := .slice A a.labels.length ca) hb1 (by go_simp)
  have j3 := keepCell (a := ⟨w.heap.size, 3, none⟩) (v := .slice B a.kids.length cb) hb1 (by go_simp)
  have k0 := keepCell (a := ⟨w.heap.size + 1, 0, none⟩) (v := .int .i64 b.kind) hb1 (by go_simp)
  have k1 := keepCell (a := ⟨w.heap.size + 1, 1, none⟩) (v := .string b.name) hb1 (by go_simp)
  have k2 := keepCell (a := ⟨w.heap.size + 1, 2, none⟩) (v := .slice A' b.labels.length ca') hb1 (by go_simp)
  have k3 := keepCell (a := ⟨w.heap.size + 1, 3, none⟩) (v := .slice B' b.kids.length cb') hb1 (by go_simp)
  have r0 := keepCell (a := ⟨w.heap.size + 1 + 1, 0, none⟩) (v := .int .i64 0) hb1 (by go_simp)
  have r1 := keepCell (a := ⟨w.heap.size + 1 + 1, 1, none⟩) (v := .string ⟨#[]⟩) hb1 (by go_simp)
  have f0 : w1.frozen? ⟨w.heap.size + 1 + 1, 0, none⟩ = false := ((bcell hb1).2 _ _ (by first | (simp; done) | (simp; omega))).trans (by go_simp)
  have f1 : w1.frozen? ⟨w.heap.size + 1 + 1, 1, none⟩ = false := ((bcell hb1).2 _ _ (by first | (simp; done) | (simp; omega))).trans (by go_simp)
  have z1 : w.heap.size + 1 + 1 < w1.heap.size := World.block_lt_of_cell? w1 _ r0
  have HB1 := Lib.hid (bnext (below3 _ _ _ _) hb1)
  clear hb1
  go_wp2_with fail
  go_at_call 50
  refine (CB.out _ (HT.out.keep HB1.out)).mono ?_
  rintro e w2 ⟨rfl, hb2⟩
  replace j0 := keepCell hb2 j0
  replace j1 := keepCell hb2 j1
  replace j2 := keepCell hb2 j2
  replace j3 := keepCell hb2 j3
  replace k0 := keepCell hb2 k0
  replace k1 := keepCell hb2 k1
  replace k2 := keepCell hb2 k2
  replace k3 := keepCell hb2 k3
  replace r0 := keepCell hb2 r0
  replace r1 := keepCell hb2 r1
  replace f0 := ((bcell hb2).2 _ _ z1).trans f0
  replace f1 := ((bcell hb2).2 _ _ z1).trans f1
  have z2 : w.heap.size + 1 + 1 < w2.heap.size := World.block_lt_of_cell? w2 _ r0
  have HB2 := Lib.hid (bnext HB1.out hb2)
  clear hb2 z1 CA CB
  go_wp2_with fail
  refine bodyPost_ret (v := .agg #[.int .i64 1, .string ⟨#[]⟩]) (by simp [results, Tryz.results32, go_sem, r0, r1]) rfl ⟨rfl, by (first | (with_reducible exact HB2.out) | ((with_reducible refine Below.setCell (HB2.out) ?_ _) <;> (first | exact Nat.le_refl _ | exact Nat.le_add_right _ _ | (dsimp only; omega) | (simp; omega))) | ((with_reducible refine Below.setCell (Below.setCell (HB2.out) ?_ _) ?_ _) <;> (first | exact Nat.le_refl _ | exact Nat.le_add_right _ _ | (dsimp only; omega) | (simp; omega))) | ((with_reducible refine Below.setCell (Below.setCell (Below.setCell (HB2.out) ?_ _) ?_ _) ?_ _) <;> (first | exact Nat.le_refl _ | exact Nat.le_add_right _ _ | (dsimp only; omega) | (simp; omega))))⟩
set_option maxHeartbeats 2000000 in
set_option maxRecDepth 100000 in
theorem tr_kind_tf (a b : Ty) (hna : numK a.kind = true) (hnb : numK b.kind = false) (hk : ¬ a.kind = b.kind) (A B A' B' : Option Addr) (ca cb ca' cb' : Nat) (w : World) (ht : RTable w) :
    Calls Tryz.prog 32 #[.agg #[.int .i64 a.kind, .string a.name, .slice A a.labels.length ca, .slice B a.kids.length cb], .agg #[.int .i64 b.kind, .string b.name, .slice A' b.labels.length ca', .slice B' b.kids.length cb']] w (RsnPost (some (1, sE)) w) := by
  have CA := Lib.hid (fun W h => nr_impl a.kind W h)
  have CB := Lib.hid (fun W h => nr_impl b.kind W h)
  rw [hna] at CA
  rw [hnb] at CB
  have HT := Lib.hid ht
  have x1 : (a.kind == b.kind) = false := by rw [beq_eq_false_iff_ne]; exact hk
  have x2 : (a.kind != b.kind) = true := by rw [bne_iff_ne]; exact hk
  generalize (nrV a.kind).1 = la at *
  generalize (nrV a.kind).2.1 = ha at *
  generalize (nrV b.kind).1 = lb at *
  generalize (nrV b.kind).2.1 = hb at *
  clear ht hna hnb hk
  go_enter Tryz.func32, Tryz.ntmps32
  go_wp2_with fail
  go_at_call 50
  refine (CA.out _ (HT.out.keep (below3 _ _ _ _))).mono ?_
  rintro e w1 ⟨rfl, hb1⟩
  have j0 := keepCell (a := ⟨w.heap.size, 0, none⟩) (v := .int .i64 a.kind) hb1 (by go_simp)
  have j1 := keepCell (a := ⟨w.heap.size, 1, none⟩) (v := .string a.name) hb1 (by go_simp)
  have j2 := keepCell (a := ⟨w.heap.size, 2, none⟩) (v := .slice A a.labels.length ca) hb1 (by go_simp)
  have j3 := keepCell (a := ⟨w.heap.size, 3, none⟩) (v := .slice B a.kids.length cb) hb1 (by go_simp)
  have k0 := keepCell (a := ⟨w.heap.size + 1, 0, none⟩) (v := .int .i64 b.kind) hb1 (by go_simp)
  have k1 := keepCell (a := ⟨w.heap.size + 1, 1, none⟩) (v := .string b.name) hb1 (by go_simp)
  have k2 := keepCell (a := ⟨w.heap.size + 1, 2, none⟩) (v := .slice A' b.labels.length ca') hb1 (by go_simp)
  have k3 := keepCell (a := ⟨w.heap.size + 1, 3, none⟩) (v := .slice B' b.kids.length cb') hb1 (by go_simp)
  have r0 := keepCell (a := ⟨w.heap.size + 1 + 1, 0, none⟩) (v := .int .i64 0) hb1 (by go_simp)
  have r1 := keepCell (a := ⟨w.heap.size + 1 + 1, 1, none⟩) (v := .string ⟨#[]⟩) hb1 (by go_simp)
  have f0 : w1.frozen? ⟨w.heap.size + 1 + 1, 0, none⟩ = false := ((bcell hb1).2 _ _ (by first | (simp; done) | (simp; omega))).trans (by go_simp)
  have f1 : w1.frozen? ⟨w.heap.size + 1 + 1, 1, none⟩ = false := ((bcell hb1).2 _ _ (by first | (simp; done) | (simp; omega))).trans (by go_simp)
  have z1 : w.heap.size + 1 + 1 < w1.heap.size := World.block_lt_of_cell? w1 _ r0
  have HB1 := Lib.hid (bnext (below3 _ _ _ _) hb1)
  clear hb1
  go_wp2_with fail
  go_at_call 50
  refine (CB.out _ (HT.out.keep HB1.out)).mono ?_
  rintro e w2 ⟨rfl, hb2⟩
  replace j0 := keepCell hb2 j0
  replace j1 := keepCell hb2 j1
  replace j2 := keepCell hb2 j2
  replace j3 := keepCell hb2 j3
  replace k0 := keepCell hb2 k0
  replace k1 := keepCell hb2 k1
  replace k2 := keepCell hb2 k2
  replace k3 := keepCell hb2 k3
  replace r0 := keepCell hb2 r0
  replace r1 := keepCell hb2 r1
  replace f0 := ((bcell hb2).2 _ _ z1).trans f0
  replace f1 := ((bcell hb2).2 _ _ z1).trans f1
  have z2 : w.heap.size + 1 + 1 < w2.heap.size := World.block_lt_of_cell? w2 _ r0
  have HB2 := Lib.hid (bnext HB1.out hb2)
  clear hb2 z1 CA CB
  go_wp2_with fail
  refine bodyPost_ret (v := .agg #[.int .i64 1, .string ⟨#[]⟩]) (by simp [results, Tryz.results32, go_sem, r0, r1]) rfl ⟨rfl, by (first | (with_reducible exact HB2.out) | ((with_reducible refine Below.setCell (HB2.out) ?_ _) <;> (first | exact Nat.le_refl _ | exact Nat.le_add_right _ _ | (dsimp only; omega) | (simp; omega))) | ((with_reducible refine Below.setCell (Below.setCell (HB2.out) ?_ _) ?_ _) <;> (first | exact Nat.le_refl _ | exact Nat.le_add_right _ _ | (dsimp only; omega) | (simp; omega))) | ((with_reducible refine Below.setCell (Below.setCell (Below.setCell (HB2.out) ?_ _) ?_ _) ?_ _) <;> (first | exact Nat.le_refl _ | exact Nat.le_add_right _ _ | (dsimp only; omega) | (simp; omega))))⟩
set_option maxHeartbeats 2000000 in
set_option maxRecDepth 100000 in
theorem tr_kind_ft (a b : Ty) (hna : numK a.kind = false) (hnb : numK b.kind = true) (hk : ¬ a.kind = b.kind) (A B A' B' : Option Addr) (ca cb ca' cb' : Nat) (w : World) (ht : RTable w) :
    Calls Tryz.prog 32 #[.agg #[.int .i64 a.kind, .string a.name, .slice A a.labels.length ca, .slice B a.kids.length cb], .agg #[.int .i64 b.kind, .string b.name, .slice A' b.labels.length ca', .slice B' b.kids.length cb']] w (RsnPost (some (1, sE)) w) := by
  have CA := Lib.hid (fun W h => nr_impl a.kind W h)
  have CB := Lib.hid (fun W h => nr_impl b.kind W h)
  rw [hna] at CA
  rw [hnb] at CB
  have HT := Lib.hid ht
  have x1 : (a.kind == b.kind) = false := by rw [beq_eq_false_iff_ne]; exact hk
  have x2 : (a.kind != b.kind) = true := by rw [bne_iff_ne]; exact hk
  generalize (nrV a.kind).1 = la at *
  generalize (nrV a.kind).2.1 = ha at *
  generalize (nrV b.kind).1 = lb at *
  generalize (nrV b.kind).2.1 = hb at *
  clear ht hna hnb hk
  go_enter Tryz.func32, Tryz.ntmps32
  go_wp2_with fail
  go_at_call 50
  refine (CA.out _ (HT.out.keep (below3 _ _ _ _))).mono ?_
  rintro e w1 ⟨rfl, hb1⟩
  have j0 := keepCell (a := ⟨w.heap.size, 0, none⟩) (v := .int .i64 a.kind) hb1 (by go_simp)
  have j1 := keepCell (a := ⟨w.heap.size, 1, none⟩) (v := .string a.name) hb1 (by go_simp)
  have j2 := keepCell (a := ⟨w.heap.size, 2, none⟩) (v := .slice A a.labels.length ca) hb1 (by go_simp)
  have j3 := keepCell (a := ⟨w.heap.size, 3, none⟩) (v := .slice B a.kids.length cb) hb1 (by go_simp)
  have k0 := keepCell (a := ⟨w.heap.size + 1, 0, none⟩) (v := .int .i64 b.kind) hb1 (by go_simp)
  have k1 := keepCell (a := ⟨w.heap.size + 1, 1, none⟩) (v := .string b.name) hb1 (by go_simp)
  have k2 := keepCell (a := ⟨w.heap.size + 1, 2, none⟩) (v := .slice A' b.labels.length ca') hb1 (by go_simp)
  have k3 := keepCell (a := ⟨w.heap.size + 1, 3, none⟩) (v := .slice B' b.kids.length cb') hb1 (by go_simp)
  have r0 := keepCell (a := ⟨w.heap.size + 1 + 1, 0, none⟩) (v := .int .i64 0) hb1 (by go_simp)
  have r1 := keepCell (a := ⟨w.heap.size + 1 + 1, 1, none⟩) (v := .string ⟨#[]⟩) hb1 (by go_simp)
  have f0 : w1.frozen? ⟨w.heap.size + 1 + 1, 0, none⟩ = false := ((bcell hb1).2 _ _ (by first | (simp; done) | (simp; omega))).trans (by go_simp)
  have f1 : w1.frozen? ⟨w.heap.size + 1 + 1, 1, none⟩ = false := ((bcell hb1).2 _ _ (by first | (simp; done) | (simp; omega))).trans (by go_simp)
  have z1 : w.heap.size + 1 + 1 < w1.heap.size := World.block_lt_of_cell? w1 _ r0
  have HB1 := Lib.hid (bnext (below3 _ _ _ _) hb1)
  clear hb1
  go_wp2_with fail
  go_at_call 50
  refine (CB.out _ (HT.out.keep HB1.out)).mono ?_
  rintro e w2 ⟨rfl, hb2⟩
  replace j0 := keepCell hb2 j0
  replace j1 := keepCell hb2 j1
  replace j2 := keepCell hb2 j2
  replace j3 := keepCell hb2 j3
  replace k0 := keepCell hb2 k0
  replace k1 := keepCell hb2 k1
  replace k2 := keepCell hb2 k2
  replace k3 := keepCell hb2 k3
  replace r0 := keepCell hb2 r0
  replace r1 := keepCell hb2 r1
  replace f0 := ((bcell hb2).2 _ _ z1).trans f0
  replace f1 := ((bcell hb2).2 _ _ z1).trans f1
  have z2 : w.heap.size + 1 + 1 < w2.heap.size := World.block_lt_of_cell? w2 _ r0
  have HB2 := Lib.hid (bnext HB1.out hb2)
  clear hb2 z1 CA CB
  go_wp2_with fail
  refine bodyPost_ret (v := .agg #[.int .i64 1, .string ⟨#[]⟩]) (by simp [results, Tryz.results32, go_sem, r0, r1]) rfl ⟨rfl, by (first | (with_reducible exact HB2.out) | ((with_reducible refine Below.setCell (HB2.out) ?_ _) <;> (first | exact Nat.le_refl _ | exact Nat.le_add_right _ _ | (dsimp only; omega) | (simp; omega))) | ((with_reducible refine Below.setCell (Below.setCell (HB2.out) ?_ _) ?_ _) <;> (first | exact Nat.le_refl _ | exact Nat.le_add_right _ _ | (dsimp only; omega) | (simp; omega))) | ((with_reducible refine Below.setCell (Below.setCell (Below.setCell (HB2.out) ?_ _) ?_ _) ?_ _) <;> (first | exact Nat.le_refl _ | exact Nat.le_add_right _ _ | (dsimp only; omega) | (simp; omega))))⟩
end Go.Proofs.YtifchfecfkdjlaaGreatDoor
