/-
  The walk of the program's typeReason at types of one kind, the contracts of check and of the method given.
-/
import Derived.Test.YtifchfecfkdjlaaGreatDoorMG
namespace Go.Proofs.YtifchfecfkdjlaaGreatDoor
open Go.ChangeShapes Go.WideShapes Go.ChangeAt Go.RowKit Go.Deep

set_option maxHeartbeats 2000000 in
set_option maxRecDepth 100000 in
theorem tr_elements (a b : Ty) (R : Option (Int × ByteArray)) (hna : numK a.kind = false) (hk : a.kind = b.kind) (A B A' B' : Option Addr) (ca cb ca' cb' : Nat) (w : World) (ht : RTable w)
    (hc : ∀ W : World, Calls Tryz.prog 51 #[.agg #[.int .i64 a.kind, .string a.name, .slice A a.labels.length ca, .slice B a.kids.length cb, .int .i64 b.kind, .string b.name, .slice A' b.labels.length ca', .slice B' b.kids.length cb']] W fun e w' => e = .returned (.func (.func 69) #[.agg #[.int .i64 a.kind, .string a.name, .slice A a.labels.length ca, .slice B a.kids.length cb, .int .i64 b.kind, .string b.name, .slice A' b.labels.length ca', .slice B' b.kids.length cb']] #[]) ∧ Below W.heap.size W w')
    (hg : ∀ W : World, Below w.heap.size w W → Calls Tryz.prog 69 #[.agg #[.int .i64 a.kind, .string a.name, .slice A a.labels.length ca, .slice B a.kids.length cb, .int .i64 b.kind, .string b.name, .slice A' b.labels.length ca', .slice B' b.kids.length cb']] W (RsnPost R W)) :
    Calls Tryz.prog 32 #[.agg #[.int .i64 a.kind, .string a.name, .slice A a.labels.length ca, .slice B a.kids.length cb], .agg #[.int .i64 b.kind, .string b.name, .slice A' b.labels.length ca', .slice B' b.kids.length cb']] w (RsnPost R w) := by
  have CA := Lib.hid (fun W h => nr_impl a.kind W h)
  have CB := Lib.hid (fun W h => nr_impl b.kind W h)
  have hnb : numK b.kind = false := hk ▸ hna
  rw [hna] at CA
  rw [hnb] at CB
  have HT := Lib.hid ht
  have HC := Lib.hid hc
  have HG := Lib.hid hg
  have x1 : (a.kind == b.kind) = true := by rw [beq_iff_eq]; exact hk
  have x2 : (a.kind != b.kind) = false := by rw [bne_eq_false_iff_eq]; exact hk
  generalize (nrV a.kind).1 = la at *
  generalize (nrV a.kind).2.1 = ha at *
  generalize (nrV b.kind).1 = lb at *
  generalize (nrV b.kind).2.1 = hb at *
  clear ht hna hnb hk hc hg
  go_enter Tryz.func32, Tryz.ntmps32
  go_wp2_with fail
  go_at_call 50
  refine (CA.out _ (HT.out.keep (below3 _ _ _ _))).mono ?_
  rintro e w1 ⟨rfl, hb1⟩
  have j0 := keepCell (a := ⟨w.heap.size, 0, none⟩) (v := .int .i64 a.kind) hb1 (by go_simp)
  have j1 := keepCell (a := ⟨w.heap.size, 1, none⟩) (v := .string a.name) hb1 (by go_simp)
  have j2 := keepCell (a := ⟨w.heap.size, 2, none⟩) (v := .slice A a.labels.length ca) hb1 (by go_simp)
  have j3 := keepCell (a := ⟨w.heap.size, 3, none⟩) (v := .slice B a.kids.length cb) hb1 (by go_simp)
  have k0 := keepCell (a := ⟨w.heap.size + 1, 0, none⟩) (v := .int .i64 b.kind) hb1 (by go_simp)
  have k1 := keepCell (a := ⟨w.heap.size + 1, 1, none⟩) (v := .string b.name) hb1 (by go_simp)
  have k2 := keepCell (a := ⟨w.heap.size + 1, 2, none⟩) (v := .slice A' b.labels.length ca') hb1 (by go_simp)
  have k3 := keepCell (a := ⟨w.heap.size + 1, 3, none⟩) (v := .slice B' b.kids.length cb') hb1 (by go_simp)
  have r0 := keepCell (a := ⟨w.heap.size + 1 + 1, 0, none⟩) (v := .int .i64 0) hb1 (by go_simp)
  have r1 := keepCell (a := ⟨w.heap.size + 1 + 1, 1, none⟩) (v := .string ⟨#[]⟩) hb1 (by go_simp)
  have f0 : w1.frozen? ⟨w.heap.size + 1 + 1, 0, none⟩ = false := ((bcell hb1).2 _ _ (by first | (simp; done) | (simp; omega))).trans (by go_simp)
  have f1 : w1.frozen? ⟨w.heap.size + 1 + 1, 1, none⟩ = false := ((bcell hb1).2 _ _ (by first | (simp; done) | (simp; omega))).trans (by go_simp)
  have z1 : w.heap.size + 1 + 1 < w1.heap.size := World.block_lt_of_cell? w1 _ r0
  have HB1 := Lib.hid (bnext (below3 _ _ _ _) hb1)
  clear hb1
  go_wp2_with fail
  go_at_call 50
  refine (CB.out _ (HT.out.keep HB1.out)).mono ?_
  rintro e w2 ⟨rfl, hb2⟩
  replace j0 := keepCell hb2 j0
  replace j1 := keepCell hb2 j1
  replace j2 := keepCell hb2 j2
  replace j3 := keepCell hb2 j3
  replace k0 := keepCell hb2 k0
  replace k1 := keepCell hb2 k1
  replace k2 := keepCell hb2 k2
  replace k3 := keepCell hb2 k3
  replace r0 := keepCell hb2 r0
  replace r1 := keepCell hb2 r1
  replace f0 := ((bcell hb2).2 _ _ z1).trans f0
  replace f1 := ((bcell hb2).2 _ _ z1).trans f1
  have z2 : w.heap.size + 1 + 1 < w2.heap.size := World.block_lt_of_cell? w2 _ r0
  have HB2 := Lib.hid (bnext HB1.out hb2)
  clear hb2 z1 CA CB
  go_wp2_with fail
  go_at_call 51
  refine (HC.out _).mono ?_
  rintro e w3 ⟨rfl, hb3⟩
  replace r0 := keepCell hb3 r0
  replace r1 := keepCell hb3 r1
  replace f0 := ((bcell hb3).2 _ _ z2).trans f0
  replace f1 := ((bcell hb3).2 _ _ z2).trans f1
  have z3 : w.heap.size + 1 + 1 < w3.heap.size := World.block_lt_of_cell? w3 _ r0
  have HB3 := Lib.hid (bnext HB2.out hb3)
  clear hb3 HC j0 j1 j2 j3 k0 k1 k2 k3
  go_wp2_with fail
  go_at_call 69
  refine (HG.out _ HB3.out).mono ?_
  rintro e w4 ⟨rfl, hb4⟩
  replace r0 := keepCell hb4 r0
  replace r1 := keepCell hb4 r1
  replace f0 := ((bcell hb4).2 _ _ z3).trans f0
  replace f1 := ((bcell hb4).2 _ _ z3).trans f1
  have z4 : w.heap.size + 1 + 1 < w4.heap.size := World.block_lt_of_cell? w4 _ r0
  have HB4 := Lib.hid (bnext HB3.out hb4)
  clear hb4 HG
  go_wp2_with fail
  refine bodyPost_ret (v := .agg #[.int .i64 (rk R), .string (ra R)]) (by simp [results, Tryz.results32, go_sem, r0, r1]) rfl ⟨rfl, by (first | (with_reducible exact HB4.out) | ((with_reducible refine Below.setCell (HB4.out) ?_ _) <;> (first | exact Nat.le_refl _ | exact Nat.le_add_right _ _ | (dsimp only; omega) | (simp; omega))) | ((with_reducible refine Below.setCell (Below.setCell (HB4.out) ?_ _) ?_ _) <;> (first | exact Nat.le_refl _ | exact Nat.le_add_right _ _ | (dsimp only; omega) | (simp; omega))) | ((with_reducible refine Below.setCell (Below.setCell (Below.setCell (HB4.out) ?_ _) ?_ _) ?_ _) <;> (first | exact Nat.le_refl _ | exact Nat.le_add_right _ _ | (dsimp only; omega) | (simp; omega))))⟩
set_option maxHeartbeats 2000000 in
set_option maxRecDepth 100000 in
theorem tr_options (a b : Ty) (R : Option (Int × ByteArray)) (hna : numK a.kind = false) (hk : a.kind = b.kind) (A B A' B' : Option Addr) (ca cb ca' cb' : Nat) (w : World) (ht : RTable w)
    (hc : ∀ W : World, Calls Tryz.prog 51 #[.agg #[.int .i64 a.kind, .string a.name, .slice A a.labels.length ca, .slice B a.kids.length cb, .int .i64 b.kind, .string b.name, .slice A' b.labels.length ca', .slice B' b.kids.length cb']] W fun e w' => e = .returned (.func (.func 70) #[.agg #[.int .i64 a.kind, .string a.name, .slice A a.labels.length ca, .slice B a.kids.length cb, .int .i64 b.kind, .string b.name, .slice A' b.labels.length ca', .slice B' b.kids.length cb']] #[]) ∧ Below W.heap.size W w')
    (hg : ∀ W : World, Below w.heap.size w W → Calls Tryz.prog 70 #[.agg #[.int .i64 a.kind, .string a.name, .slice A a.labels.length ca, .slice B a.kids.length cb, .int .i64 b.kind, .string b.name, .slice A' b.labels.length ca', .slice B' b.kids.length cb']] W (RsnPost R W)) :
    Calls Tryz.prog 32 #[.agg #[.int .i64 a.kind, .string a.name, .slice A a.labels.length ca, .slice B a.kids.length cb], .agg #[.int .i64 b.kind, .string b.name, .slice A' b.labels.length ca', .slice B' b.kids.length cb']] w (RsnPost R w) := by
  have CA := Lib.hid (fun W h => nr_impl a.kind W h)
  have CB := Lib.hid (fun W h => nr_impl b.kind W h)
  have hnb : numK b.kind = false := hk ▸ hna
  rw [hna] at CA
  rw [hnb] at CB
  have HT := Lib.hid ht
  have HC := Lib.hid hc
  have HG := Lib.hid hg
  have x1 : (a.kind == b.kind) = true := by rw [beq_iff_eq]; exact hk
  have x2 : (a.kind != b.kind) = false := by rw [bne_eq_false_iff_eq]; exact hk
  generalize (nrV a.kind).1 = la at *
  generalize (nrV a.kind).2.1 = ha at *
  generalize (nrV b.kind).1 = lb at *
  generalize (nrV b.kind).2.1 = hb at *
  clear ht hna hnb hk hc hg
  go_enter Tryz.func32, Tryz.ntmps32
  go_wp2_with fail
  go_at_call 50
  refine (CA.out _ (HT.out.keep (below3 _ _ _ _))).mono ?_
  rintro e w1 ⟨rfl, hb1⟩
  have j0 := keepCell (a := ⟨w.heap.size, 0, none⟩) (v := .int .i64 a.kind) hb1 (by go_simp)
  have j1 := keepCell (a := ⟨w.heap.size, 1, none⟩) (v := .string a.name) hb1 (by go_simp)
  have j2 := keepCell (a := ⟨w.heap.size, 2, none⟩) (v := .slice A a.labels.length ca) hb1 (by go_simp)
  have j3 := keepCell (a := ⟨w.heap.size, 3, none⟩) (v := .slice B a.kids.length cb) hb1 (by go_simp)
  have k0 := keepCell (a := ⟨w.heap.size + 1, 0, none⟩) (v := .int .i64 b.kind) hb1 (by go_simp)
  have k1 := keepCell (a := ⟨w.heap.size + 1, 1, none⟩) (v := .string b.name) hb1 (by go_simp)
  have k2 := keepCell (a := ⟨w.heap.size + 1, 2, none⟩) (v := .slice A' b.labels.length ca') hb1 (by go_simp)
  have k3 := keepCell (a := ⟨w.heap.size + 1, 3, none⟩) (v := .slice B' b.kids.length cb') hb1 (by go_simp)
  have r0 := keepCell (a := ⟨w.heap.size + 1 + 1, 0, none⟩) (v := .int .i64 0) hb1 (by go_simp)
  have r1 := keepCell (a := ⟨w.heap.size + 1 + 1, 1, none⟩) (v := .string ⟨#[]⟩) hb1 (by go_simp)
  have f0 : w1.frozen? ⟨w.heap.size + 1 + 1, 0, none⟩ = false := ((bcell hb1).2 _ _ (by first | (simp; done) | (simp; omega))).trans (by go_simp)
  have f1 : w1.frozen? ⟨w.heap.size + 1 + 1, 1, none⟩ = false := ((bcell hb1).2 _ _ (by first | (simp; done) | (simp; omega))).trans (by go_simp)
  have z1 : w.heap.size + 1 + 1 < w1.heap.size := World.block_lt_of_cell? w1 _ r0
  have HB1 := Lib.hid (bnext (below3 _ _ _ _) hb1)
  clear hb1
  go_wp2_with fail
  go_at_call 50
  refine (CB.out _ (HT.out.keep HB1.out)).mono ?_
  rintro e w2 ⟨rfl, hb2⟩
  replace j0 := keepCell hb2 j0
  replace j1 := keepCell hb2 j1
  replace j2 := keepCell hb2 j2
  replace j3 := keepCell hb2 j3
  replace k0 := keepCell hb2 k0
  replace k1 := keepCell hb2 k1
  replace k2 := keepCell hb2 k2
  replace k3 := keepCell hb2 k3
  replace r0 := keepCell hb2 r0
  replace r1 := keepCell hb2 r1
  replace f0 := ((bcell hb2).2 _ _ z1).trans f0
  replace f1 := ((bcell hb2).2 _ _ z1).trans f1
  have z2 : w.heap.size + 1 + 1 < w2.heap.size := World.block_lt_of_cell? w2 _ r0
  have HB2 := Lib.hid (bnext HB1.out hb2)
  clear hb2 z1 CA CB
  go_wp2_with fail
  go_at_call 51
  refine (HC.out _).mono ?_
  rintro e w3 ⟨rfl, hb3⟩
  replace r0 := keepCell hb3 r0
  replace r1 := keepCell hb3 r1
  replace f0 := ((bcell hb3).2 _ _ z2).trans f0
  replace f1 := ((bcell hb3).2 _ _ z2).trans f1
  have z3 : w.heap.size + 1 + 1 < w3.heap.size := World.block_lt_of_cell? w3 _ r0
  have HB3 := Lib.hid (bnext HB2.out hb3)
  clear hb3 HC j0 j1 j2 j3 k0 k1 k2 k3
  go_wp2_with fail
  go_at_call 70
  refine (HG.out _ HB3.out).mono ?_
  rintro e w4 ⟨rfl, hb4⟩
  replace r0 := keepCell hb4 r0
  replace r1 := keepCell hb4 r1
  replace f0 := ((bcell hb4).2 _ _ z3).trans f0
  replace f1 := ((bcell hb4).2 _ _ z3).trans f1
  have z4 : w.heap.size + 1 + 1 < w4.heap.size := World.block_lt_of_cell? w4 _ r0
  have HB4 := Lib.hid (bnext HB3.out hb4)
  clear hb4 HG
  go_wp2_with fail
  refine bodyPost_ret (v := .agg #[.int .i64 (rk R), .string (ra R)]) (by simp [results, Tryz.results32, go_sem, r0, r1]) rfl ⟨rfl, by (first | (with_reducible exact HB4.out) | ((with_reducible refine Below.setCell (HB4.out) ?_ _) <;> (first | exact Nat.le_refl _ | exact Nat.le_add_right _ _ | (dsimp only; omega) | (simp; omega))) | ((with_reducible refine Below.setCell (Below.setCell (HB4.out) ?_ _) ?_ _) <;> (first | exact Nat.le_refl _ | exact Nat.le_add_right _ _ | (dsimp only; omega) | (simp; omega))) | ((with_reducible refine Below.setCell (Below.setCell (Below.setCell (HB4.out) ?_ _) ?_ _) ?_ _) <;> (first | exact Nat.le_refl _ | exact Nat.le_add_right _ _ | (dsimp only; omega) | (simp; omega))))⟩
set_option maxHeartbeats 2000000 in
set_option maxRecDepth 100000 in
theorem tr_results (a b : Ty) (R : Option (Int × ByteArray)) (hna : numK a.kind = false) (hk : a.kind = b.kind) (A B A' B' : Option Addr) (ca cb ca' cb' : Nat) (w : World) (ht : RTable w)
    (hc : ∀ W : World, Calls Tryz.prog 51 #[.agg #[.int .i64 a.kind, .string a.name, .slice A a.labels.length ca, .slice B a.kids.length cb, .int .i64 b.kind, .string b.name, .slice A' b.labels.length ca', .slice B' b.kids.length cb']] W fun e w' => e = .returned (.func (.func 71) #[.agg #[.int .i64 a.kind, .string a.name, .slice A a.labels.length ca, .slice B a.kids.length cb, .int .i64 b.kind, .string b.name, .slice A' b.labels.length ca', .slice B' b.kids.length cb']] #[]) ∧ Below W.heap.size W w')
    (hg : ∀ W : World, Below w.heap.size w W → Calls Tryz.prog 71 #[.agg #[.int .i64 a.kind, .string a.name, .slice A a.labels.length ca, .slice B a.kids.length cb, .int .i64 b.kind, .string b.name, .slice A' b.labels.length ca', .slice B' b.kids.length cb']] W (RsnPost R W)) :
    Calls Tryz.prog 32 #[.agg #[.int .i64 a.kind, .string a.name, .slice A a.labels.length ca, .slice B a.kids.length cb], .agg #[.int .i64 b.kind, .string b.name, .slice A' b.labels.length ca', .slice B' b.kids.length cb']] w (RsnPost R w) := by
  have CA := Lib.hid (fun W h => nr_impl a.kind W h)
  have CB := Lib.hid (fun W h => nr_impl b.kind W h)
  have hnb : numK b.kind = false := hk ▸ hna
  rw [hna] at CA
  rw [hnb] at CB
  have HT := Lib.hid ht
  have HC := Lib.hid hc
  have HG := Lib.hid hg
  have x1 : (a.kind == b.kind) = true := by rw [beq_iff_eq]; exact hk
  have x2 : (a.kind != b.kind) = false := by rw [bne_eq_false_iff_eq]; exact hk
  generalize (nrV a.kind).1 = la at *
  generalize (nrV a.kind).2.1 = ha at *
  generalize (nrV b.kind).1 = lb at *
  generalize (nrV b.kind).2.1 = hb at *
  clear ht hna hnb hk hc hg
  go_enter Tryz.func32, Tryz.ntmps32
  go_wp2_with fail
  go_at_call 50
  refine (CA.out _ (HT.out.keep (below3 _ _ _ _))).mono ?_
  rintro e w1 ⟨rfl, hb1⟩
  have j0 := keepCell (a := ⟨w.heap.size, 0, none⟩) (v := .int .i64 a.kind) hb1 (by go_simp)
  have j1 := keepCell (a := ⟨w.heap.size, 1, none⟩) (v := .string a.name) hb1 (by go_simp)
  have j2 := keepCell (a := ⟨w.heap.size, 2, none⟩) (v := .slice A a.labels.length ca) hb1 (by go_simp)
  have j3 := keepCell (a := ⟨w.heap.size, 3, none⟩) (v := .slice B a.kids.length cb) hb1 (by go_simp)
  have k0 := keepCell (a := ⟨w.heap.size + 1, 0, none⟩) (v := .int .i64 b.kind) hb1 (by go_simp)
  have k1 := keepCell (a := ⟨w.heap.size + 1, 1, none⟩) (v := .string b.name) hb1 (by go_simp)
  have k2 := keepCell (a := ⟨w.heap.size + 1, 2, none⟩) (v := .slice A' b.labels.length ca') hb1 (by go_simp)
  have k3 := keepCell (a := ⟨w.heap.size + 1, 3, none⟩) (v := .slice B' b.kids.length cb') hb1 (by go_simp)
  have r0 := keepCell (a := ⟨w.heap.size + 1 + 1, 0, none⟩) (v := .int .i64 0) hb1 (by go_simp)
  have r1 := keepCell (a := ⟨w.heap.size + 1 + 1, 1, none⟩) (v := .string ⟨#[]⟩) hb1 (by go_simp)
  have f0 : w1.frozen? ⟨w.heap.size + 1 + 1, 0, none⟩ = false := ((bcell hb1).2 _ _ (by first | (simp; done) | (simp; omega))).trans (by go_simp)
  have f1 : w1.frozen? ⟨w.heap.size + 1 + 1, 1, none⟩ = false := ((bcell hb1).2 _ _ (by first | (simp; done) | (simp; omega))).trans (by go_simp)
  have z1 : w.heap.size + 1 + 1 < w1.heap.size := World.block_lt_of_cell? w1 _ r0
  have HB1 := Lib.hid (bnext (below3 _ _ _ _) hb1)
  clear hb1
  go_wp2_with fail
  go_at_call 50
  refine (CB.out _ (HT.out.keep HB1.out)).mono ?_
  rintro e w2 ⟨rfl, hb2⟩
  replace j0 := keepCell hb2 j0
  replace j1 := keepCell hb2 j1
  replace j2 := keepCell hb2 j2
  replace j3 := keepCell hb2 j3
  replace k0 := keepCell hb2 k0
  replace k1 := keepCell hb2 k1
  replace k2 := keepCell hb2 k2
  replace k3 := keepCell hb2 k3
  replace r0 := keepCell hb2 r0
  replace r1 := keepCell hb2 r1
  replace f0 := ((bcell hb2).2 _ _ z1).trans f0
  replace f1 := ((bcell hb2).2 _ _ z1).trans f1
  have z2 : w.heap.size + 1 + 1 < w2.heap.size := World.block_lt_of_cell? w2 _ r0
  have HB2 := Lib.hid (bnext HB1.out hb2)
  clear hb2 z1 CA CB
  go_wp2_with fail
  go_at_call 51
  refine (HC.out _).mono ?_
  rintro e w3 ⟨rfl, hb3⟩
  replace r0 := keepCell hb3 r0
  replace r1 := keepCell hb3 r1
  replace f0 := ((bcell hb3).2 _ _ z2).trans f0
  replace f1 := ((bcell hb3).2 _ _ z2).trans f1
  have z3 : w.heap.size + 1 + 1 < w3.heap.size := World.block_lt_of_cell? w3 _ r0
  have HB3 := Lib.hid (bnext HB2.out hb3)
  clear hb3 HC j0 j1 j2 j3 k0 k1 k2 k3
  go_wp2_with fail
  go_at_call 71
  refine (HG.out _ HB3.out).mono ?_
  rintro e w4 ⟨rfl, hb4⟩
  replace r0 := keepCell hb4 r0
  replace r1 := keepCell hb4 r1
  replace f0 := ((bcell hb4).2 _ _ z3).trans f0
  replace f1 := ((bcell hb4).2 _ _ z3).trans f1
  have z4 : w.heap.size + 1 + 1 < w4.heap.size := World.block_lt_of_cell? w4 _ r0
  have HB4 := Lib.hid (bnext HB3.out hb4)
  clear hb4 HG
  go_wp2_with fail
  refine bodyPost_ret (v := .agg #[.int .i64 (rk R), .string (ra R)]) (by simp [results, Tryz.results32, go_sem, r0, r1]) rfl ⟨rfl, by (first | (with_reducible exact HB4.out) | ((with_reducible refine Below.setCell (HB4.out) ?_ _) <;> (first | exact Nat.le_refl _ | exact Nat.le_add_right _ _ | (dsimp only; omega) | (simp; omega))) | ((with_reducible refine Below.setCell (Below.setCell (HB4.out) ?_ _) ?_ _) <;> (first | exact Nat.le_refl _ | exact Nat.le_add_right _ _ | (dsimp only; omega) | (simp; omega))) | ((with_reducible refine Below.setCell (Below.setCell (Below.setCell (HB4.out) ?_ _) ?_ _) ?_ _) <;> (first | exact Nat.le_refl _ | exact Nat.le_add_right _ _ | (dsimp only; omega) | (simp; omega))))⟩
set_option maxHeartbeats 2000000 in
set_option maxRecDepth 100000 in
theorem tr_tuples (a b : Ty) (R : Option (Int × ByteArray)) (hna : numK a.kind = false) (hk : a.kind = b.kind) (A B A' B' : Option Addr) (ca cb ca' cb' : Nat) (w : World) (ht : RTable w)
    (hc : ∀ W : World, Calls Tryz.prog 51 #[.agg #[.int .i64 a.kind, .string a.name, .slice A a.labels.length ca, .slice B a.kids.length cb, .int .i64 b.kind, .string b.name, .slice A' b.labels.length ca', .slice B' b.kids.length cb']] W fun e w' => e = .returned (.func (.func 72) #[.agg #[.int .i64 a.kind, .string a.name, .slice A a.labels.length ca, .slice B a.kids.length cb, .int .i64 b.kind, .string b.name, .slice A' b.labels.length ca', .slice B' b.kids.length cb']] #[]) ∧ Below W.heap.size W w')
    (hg : ∀ W : World, Below w.heap.size w W → Calls Tryz.prog 72 #[.agg #[.int .i64 a.kind, .string a.name, .slice A a.labels.length ca, .slice B a.kids.length cb, .int .i64 b.kind, .string b.name, .slice A' b.labels.length ca', .slice B' b.kids.length cb']] W (RsnPost R W)) :
    Calls Tryz.prog 32 #[.agg #[.int .i64 a.kind, .string a.name, .slice A a.labels.length ca, .slice B a.kids.length cb], .agg #[.int .i64 b.kind, .string b.name, .slice A' b.labels.length ca', .slice B' b.kids.length cb']] w (RsnPost R w) := by
  have CA := Lib.hid (fun W h => nr_impl a.kind W h)
  have CB := Lib.hid (fun W h => nr_impl b.kind W h)
  have hnb : numK b.kind = false := hk ▸ hna
  rw [hna] at CA
  rw [hnb] at CB
  have HT := Lib.hid ht
  have HC := Lib.hid hc
  have HG := Lib.hid hg
  have x1 : (a.kind == b.kind) = true := by rw [beq_iff_eq]; exact hk
  have x2 : (a.kind != b.kind) = false := by rw [bne_eq_false_iff_eq]; exact hk
  generalize (nrV a.kind).1 = la at *
  generalize (nrV a.kind).2.1 = ha at *
  generalize (nrV b.kind).1 = lb at *
  generalize (nrV b.kind).2.1 = hb at *
  clear ht hna hnb hk hc hg
  go_enter Tryz.func32, Tryz.ntmps32
  go_wp2_with fail
  go_at_call 50
  refine (CA.out _ (HT.out.keep (below3 _ _ _ _))).mono ?_
  rintro e w1 ⟨rfl, hb1⟩
  have j0 := keepCell (a := ⟨w.heap.size, 0, none⟩) (v := .int .i64 a.kind) hb1 (by go_simp)
  have j1 := keepCell (a := ⟨w.heap.size, 1, none⟩) (v := .string a.name) hb1 (by go_simp)
  have j2 := keepCell (a := ⟨w.heap.size, 2, none⟩) (v := .slice A a.labels.length ca) hb1 (by go_simp)
  have j3 := keepCell (a := ⟨w.heap.size, 3, none⟩) (v := .slice B a.kids.length cb) hb1 (by go_simp)
  have k0 := keepCell (a := ⟨w.heap.size + 1, 0, none⟩) (v := .int .i64 b.kind) hb1 (by go_simp)
  have k1 := keepCell (a := ⟨w.heap.size + 1, 1, none⟩) (v := .string b.name) hb1 (by go_simp)
  have k2 := keepCell (a := ⟨w.heap.size + 1, 2, none⟩) (v := .slice A' b.labels.length ca') hb1 (by go_simp)
  have k3 := keepCell (a := ⟨w.heap.size + 1, 3, none⟩) (v := .slice B' b.kids.length cb') hb1 (by go_simp)
  have r0 := keepCell (a := ⟨w.heap.size + 1 + 1, 0, none⟩) (v := .int .i64 0) hb1 (by go_simp)
  have r1 := keepCell (a := ⟨w.heap.size + 1 + 1, 1, none⟩) (v := .string ⟨#[]⟩) hb1 (by go_simp)
  have f0 : w1.frozen? ⟨w.heap.size + 1 + 1, 0, none⟩ = false := ((bcell hb1).2 _ _ (by first | (simp; done) | (simp; omega))).trans (by go_simp)
  have f1 : w1.frozen? ⟨w.heap.size + 1 + 1, 1, none⟩ = false := ((bcell hb1).2 _ _ (by first | (simp; done) | (simp; omega))).trans (by go_simp)
  have z1 : w.heap.size + 1 + 1 < w1.heap.size := World.block_lt_of_cell? w1 _ r0
  have HB1 := Lib.hid (bnext (below3 _ _ _ _) hb1)
  clear hb1
  go_wp2_with fail
  go_at_call 50
  refine (CB.out _ (HT.out.keep HB1.out)).mono ?_
  rintro e w2 ⟨rfl, hb2⟩
  replace j0 := keepCell hb2 j0
  replace j1 := keepCell hb2 j1
  replace j2 := keepCell hb2 j2
  replace j3 := keepCell hb2 j3
  replace k0 := keepCell hb2 k0
  replace k1 := keepCell hb2 k1
  replace k2 := keepCell hb2 k2
  replace k3 := keepCell hb2 k3
  replace r0 := keepCell hb2 r0
  replace r1 := keepCell hb2 r1
  replace f0 := ((bcell hb2).2 _ _ z1).trans f0
  replace f1 := ((bcell hb2).2 _ _ z1).trans f1
  have z2 : w.heap.size + 1 + 1 < w2.heap.size := World.block_lt_of_cell? w2 _ r0
  have HB2 := Lib.hid (bnext HB1.out hb2)
  clear hb2 z1 CA CB
  go_wp2_with fail
  go_at_call 51
  refine (HC.out _).mono ?_
  rintro e w3 ⟨rfl, hb3⟩
  replace r0 := keepCell hb3 r0
  replace r1 := keepCell hb3 r1
  replace f0 := ((bcell hb3).2 _ _ z2).trans f0
  replace f1 := ((bcell hb3).2 _ _ z2).trans f1
  have z3 : w.heap.size + 1 + 1 < w3.heap.size := World.block_lt_of_cell? w3 _ r0
  have HB3 := Lib.hid (bnext HB2.out hb3)
  clear hb3 HC j0 j1 j2 j3 k0 k1 k2 k3
  go_wp2_with fail
  go_at_call 72
  refine (HG.out _ HB3.out).mono ?_
  rintro e w4 ⟨rfl, hb4⟩
  replace r0 := keepCell hb4 r0
  replace r1 := keepCell hb4 r1
  replace f0 := ((bcell hb4).2 _ _ z3).trans f0
  replace f1 := ((bcell hb4).2 _ _ z3).trans f1
  have z4 : w.heap.size + 1 + 1 < w4.heap.size := World.block_lt_of_cell? w4 _ r0
  have HB4 := Lib.hid (bnext HB3.out hb4)
  clear hb4 HG
  go_wp2_with fail
  refine bodyPost_ret (v := .agg #[.int .i64 (rk R), .string (ra R)]) (by simp [results, Tryz.results32, go_sem, r0, r1]) rfl ⟨rfl, by (first | (with_reducible exact HB4.out) | ((with_reducible refine Below.setCell (HB4.out) ?_ _) <;> (first | exact Nat.le_refl _ | exact Nat.le_add_right _ _ | (dsimp only; omega) | (simp; omega))) | ((with_reducible refine Below.setCell (Below.setCell (HB4.out) ?_ _) ?_ _) <;> (first | exact Nat.le_refl _ | exact Nat.le_add_right _ _ | (dsimp only; omega) | (simp; omega))) | ((with_reducible refine Below.setCell (Below.setCell (Below.setCell (HB4.out) ?_ _) ?_ _) ?_ _) <;> (first | exact Nat.le_refl _ | exact Nat.le_add_right _ _ | (dsimp only; omega) | (simp; omega))))⟩
set_option maxHeartbeats 2000000 in
set_option maxRecDepth 100000 in
theorem tr_fields (a b : Ty) (R : Option (Int × ByteArray)) (hna : numK a.kind = false) (hk : a.kind = b.kind) (A B A' B' : Option Addr) (ca cb ca' cb' : Nat) (w : World) (ht : RTable w)
    (hc : ∀ W : World, Calls Tryz.prog 51 #[.agg #[.int .i64 a.kind, .string a.name, .slice A a.labels.length ca, .slice B a.kids.length cb, .int .i64 b.kind, .string b.name, .slice A' b.labels.length ca', .slice B' b.kids.length cb']] W fun e w' => e = .returned (.func (.func 73) #[.agg #[.int .i64 a.kind, .string a.name, .slice A a.labels.length ca, .slice B a.kids.length cb, .int .i64 b.kind, .string b.name, .slice A' b.labels.length ca', .slice B' b.kids.length cb']] #[]) ∧ Below W.heap.size W w')
    (hg : ∀ W : World, Below w.heap.size w W → Calls Tryz.prog 73 #[.agg #[.int .i64 a.kind, .string a.name, .slice A a.labels.length ca, .slice B a.kids.length cb, .int .i64 b.kind, .string b.name, .slice A' b.labels.length ca', .slice B' b.kids.length cb']] W (RsnPost R W)) :
    Calls Tryz.prog 32 #[.agg #[.int .i64 a.kind, .string a.name, .slice A a.labels.length ca, .slice B a.kids.length cb], .agg #[.int .i64 b.kind, .string b.name, .slice A' b.labels.length ca', .slice B' b.kids.length cb']] w (RsnPost R w) := by
  have CA := Lib.hid (fun W h => nr_impl a.kind W h)
  have CB := Lib.hid (fun W h => nr_impl b.kind W h)
  have hnb : numK b.kind = false := hk ▸ hna
  rw [hna] at CA
  rw [hnb] at CB
  have HT := Lib.hid ht
  have HC := Lib.hid hc
  have HG := Lib.hid hg
  have x1 : (a.kind == b.kind) = true := by rw [beq_iff_eq]; exact hk
  have x2 : (a.kind != b.kind) = false := by rw [bne_eq_false_iff_eq]; exact hk
  generalize (nrV a.kind).1 = la at *
  generalize (nrV a.kind).2.1 = ha at *
  generalize (nrV b.kind).1 = lb at *
  generalize (nrV b.kind).2.1 = hb at *
  clear ht hna hnb hk hc hg
  go_enter Tryz.func32, Tryz.ntmps32
  go_wp2_with fail
  go_at_call 50
  refine (CA.out _ (HT.out.keep (below3 _ _ _ _))).mono ?_
  rintro e w1 ⟨rfl, hb1⟩
  have j0 := keepCell (a := ⟨w.heap.size, 0, none⟩) (v := .int .i64 a.kind) hb1 (by go_simp)
  have j1 := keepCell (a := ⟨w.heap.size, 1, none⟩) (v := .string a.name) hb1 (by go_simp)
  have j2 := keepCell (a := ⟨w.heap.size, 2, none⟩) (v := .slice A a.labels.length ca) hb1 (by go_simp)
  have j3 := keepCell (a := ⟨w.heap.size, 3, none⟩) (v := .slice B a.kids.length cb) hb1 (by go_simp)
  have k0 := keepCell (a := ⟨w.heap.size + 1, 0, none⟩) (v := .int .i64 b.kind) hb1 (by go_simp)
  have k1 := keepCell (a := ⟨w.heap.size + 1, 1, none⟩) (v := .string b.name) hb1 (by go_simp)
  have k2 := keepCell (a := ⟨w.heap.size + 1, 2, none⟩) (v := .slice A' b.labels.length ca') hb1 (by go_simp)
  have k3 := keepCell (a := ⟨w.heap.size + 1, 3, none⟩) (v := .slice B' b.kids.length cb') hb1 (by go_simp)
  have r0 := keepCell (a := ⟨w.heap.size + 1 + 1, 0, none⟩) (v := .int .i64 0) hb1 (by go_simp)
  have r1 := keepCell (a := ⟨w.heap.size + 1 + 1, 1, none⟩) (v := .string ⟨#[]⟩) hb1 (by go_simp)
  have f0 : w1.frozen? ⟨w.heap.size + 1 + 1, 0, none⟩ = false := ((bcell hb1).2 _ _ (by first | (simp; done) | (simp; omega))).trans (by go_simp)
  have f1 : w1.frozen? ⟨w.heap.size + 1 + 1, 1, none⟩ = false := ((bcell hb1).2 _ _ (by first | (simp; done) | (simp; omega))).trans (by go_simp)
  have z1 : w.heap.size + 1 + 1 < w1.heap.size := World.block_lt_of_cell? w1 _ r0
  have HB1 := Lib.hid (bnext (below3 _ _ _ _) hb1)
  clear hb1
  go_wp2_with fail
  go_at_call 50
  refine (CB.out _ (HT.out.keep HB1.out)).mono ?_
  rintro e w2 ⟨rfl, hb2⟩
  replace j0 := keepCell hb2 j0
  replace j1 := keepCell hb2 j1
  replace j2 := keepCell hb2 j2
  replace j3 := keepCell hb2 j3
  replace k0 := keepCell hb2 k0
  replace k1 := keepCell hb2 k1
  replace k2 := keepCell hb2 k2
  replace k3 := keepCell hb2 k3
  replace r0 := keepCell hb2 r0
  replace r1 := keepCell hb2 r1
  replace f0 := ((bcell hb2).2 _ _ z1).trans f0
  replace f1 := ((bcell hb2).2 _ _ z1).trans f1
  have z2 : w.heap.size + 1 + 1 < w2.heap.size := World.block_lt_of_cell? w2 _ r0
  have HB2 := Lib.hid (bnext HB1.out hb2)
  clear hb2 z1 CA CB
  go_wp2_with fail
  go_at_call 51
  refine (HC.out _).mono ?_
  rintro e w3 ⟨rfl, hb3⟩
  replace r0 := keepCell hb3 r0
  replace r1 := keepCell hb3 r1
  replace f0 := ((bcell hb3).2 _ _ z2).trans f0
  replace f1 := ((bcell hb3).2 _ _ z2).trans f1
  have z3 : w.heap.size + 1 + 1 < w3.heap.size := World.block_lt_of_cell? w3 _ r0
  have HB3 := Lib.hid (bnext HB2.out hb3)
  clear hb3 HC j0 j1 j2 j3 k0 k1 k2 k3
  go_wp2_with fail
  go_at_call 73
  refine (HG.out _ HB3.out).mono ?_
  rintro e w4 ⟨rfl, hb4⟩
  replace r0 := keepCell hb4 r0
  replace r1 := keepCell hb4 r1
  replace f0 := ((bcell hb4).2 _ _ z3).trans f0
  replace f1 := ((bcell hb4).2 _ _ z3).trans f1
  have z4 : w.heap.size + 1 + 1 < w4.heap.size := World.block_lt_of_cell? w4 _ r0
  have HB4 := Lib.hid (bnext HB3.out hb4)
  clear hb4 HG
  go_wp2_with fail
  refine bodyPost_ret (v := .agg #[.int .i64 (rk R), .string (ra R)]) (by simp [results, Tryz.results32, go_sem, r0, r1]) rfl ⟨rfl, by (first | (with_reducible exact HB4.out) | ((with_reducible refine Below.setCell (HB4.out) ?_ _) <;> (first | exact Nat.le_refl _ | exact Nat.le_add_right _ _ | (dsimp only; omega) | (simp; omega))) | ((with_reducible refine Below.setCell (Below.setCell (HB4.out) ?_ _) ?_ _) <;> (first | exact Nat.le_refl _ | exact Nat.le_add_right _ _ | (dsimp only; omega) | (simp; omega))) | ((with_reducible refine Below.setCell (Below.setCell (Below.setCell (HB4.out) ?_ _) ?_ _) ?_ _) <;> (first | exact Nat.le_refl _ | exact Nat.le_add_right _ _ | (dsimp only; omega) | (simp; omega))))⟩
set_option maxHeartbeats 2000000 in
set_option maxRecDepth 100000 in
theorem tr_cases (a b : Ty) (R : Option (Int × ByteArray)) (hna : numK a.kind = false) (hk : a.kind = b.kind) (A B A' B' : Option Addr) (ca cb ca' cb' : Nat) (w : World) (ht : RTable w)
    (hc : ∀ W : World, Calls Tryz.prog 51 #[.agg #[.int .i64 a.kind, .string a.name, .slice A a.labels.length ca, .slice B a.kids.length cb, .int .i64 b.kind, .string b.name, .slice A' b.labels.length ca', .slice B' b.kids.length cb']] W fun e w' => e = .returned (.func (.func 74) #[.agg #[.int .i64 a.kind, .string a.name, .slice A a.labels.length ca, .slice B a.kids.length cb, .int .i64 b.kind, .string b.name, .slice A' b.labels.length ca', .slice B' b.kids.length cb']] #[]) ∧ Below W.heap.size W w')
    (hg : ∀ W : World, Below w.heap.size w W → Calls Tryz.prog 74 #[.agg #[.int .i64 a.kind, .string a.name, .slice A a.labels.length ca, .slice B a.kids.length cb, .int .i64 b.kind, .string b.name, .slice A' b.labels.length ca', .slice B' b.kids.length cb']] W (RsnPost R W)) :
    Calls Tryz.prog 32 #[.agg #[.int .i64 a.kind, .string a.name, .slice A a.labels.length ca, .slice B a.kids.length cb], .agg #[.int .i64 b.kind, .string b.name, .slice A' b.labels.length ca', .slice B' b.kids.length cb']] w (RsnPost R w) := by
  have CA := Lib.hid (fun W h => nr_impl a.kind W h)
  have CB := Lib.hid (fun W h => nr_impl b.kind W h)
  have hnb : numK b.kind = false := hk ▸ hna
  rw [hna] at CA
  rw [hnb] at CB
  have HT := Lib.hid ht
  have HC := Lib.hid hc
  have HG := Lib.hid hg
  have x1 : (a.kind == b.kind) = true := by rw [beq_iff_eq]; exact hk
  have x2 : (a.kind != b.kind) = false := by rw [bne_eq_false_iff_eq]; exact hk
  generalize (nrV a.kind).1 = la at *
  generalize (nrV a.kind).2.1 = ha at *
  generalize (nrV b.kind).1 = lb at *
  generalize (nrV b.kind).2.1 = hb at *
  clear ht hna hnb hk hc hg
  go_enter Tryz.func32, Tryz.ntmps32
  go_wp2_with fail
  go_at_call 50
  refine (CA.out _ (HT.out.keep (below3 _ _ _ _))).mono ?_
  rintro e w1 ⟨rfl, hb1⟩
  have j0 := keepCell (a := ⟨w.heap.size, 0, none⟩) (v := .int .i64 a.kind) hb1 (by go_simp)
  have j1 := keepCell (a := ⟨w.heap.size, 1, none⟩) (v := .string a.name) hb1 (by go_simp)
  have j2 := keepCell (a := ⟨w.heap.size, 2, none⟩) (v := .slice A a.labels.length ca) hb1 (by go_simp)
  have j3 := keepCell (a := ⟨w.heap.size, 3, none⟩) (v := .slice B a.kids.length cb) hb1 (by go_simp)
  have k0 := keepCell (a := ⟨w.heap.size + 1, 0, none⟩) (v := .int .i64 b.kind) hb1 (by go_simp)
  have k1 := keepCell (a := ⟨w.heap.size + 1, 1, none⟩) (v := .string b.name) hb1 (by go_simp)
  have k2 := keepCell (a := ⟨w.heap.size + 1, 2, none⟩) (v := .slice A' b.labels.length ca') hb1 (by go_simp)
  have k3 := keepCell (a := ⟨w.heap.size + 1, 3, none⟩) (v := .slice B' b.kids.length cb') hb1 (by go_simp)
  have r0 := keepCell (a := ⟨w.heap.size + 1 + 1, 0, none⟩) (v := .int .i64 0) hb1 (by go_simp)
  have r1 := keepCell (a := ⟨w.heap.size + 1 + 1, 1, none⟩) (v := .string ⟨#[]⟩) hb1 (by go_simp)
  have f0 : w1.frozen? ⟨w.heap.size + 1 + 1, 0, none⟩ = false := ((bcell hb1).2 _ _ (by first | (simp; done) | (simp; omega))).trans (by go_simp)
  have f1 : w1.frozen? ⟨w.heap.size + 1 + 1, 1, none⟩ = false := ((bcell hb1).2 _ _ (by first | (simp; done) | (simp; omega))).trans (by go_simp)
  have z1 : w.heap.size + 1 + 1 < w1.heap.size := World.block_lt_of_cell? w1 _ r0
  have HB1 := Lib.hid (bnext (below3 _ _ _ _) hb1)
  clear hb1
  go_wp2_with fail
  go_at_call 50
  refine (CB.out _ (HT.out.keep HB1.out)).mono ?_
  rintro e w2 ⟨rfl, hb2⟩
  replace j0 := keepCell hb2 j0
  replace j1 := keepCell hb2 j1
  replace j2 := keepCell hb2 j2
  replace j3 := keepCell hb2 j3
  replace k0 := keepCell hb2 k0
  replace k1 := keepCell hb2 k1
  replace k2 := keepCell hb2 k2
  replace k3 := keepCell hb2 k3
  replace r0 := keepCell hb2 r0
  replace r1 := keepCell hb2 r1
  replace f0 := ((bcell hb2).2 _ _ z1).trans f0
  replace f1 := ((bcell hb2).2 _ _ z1).trans f1
  have z2 : w.heap.size + 1 + 1 < w2.heap.size := World.block_lt_of_cell? w2 _ r0
  have HB2 := Lib.hid (bnext HB1.out hb2)
  clear hb2 z1 CA CB
  go_wp2_with fail
  go_at_call 51
  refine (HC.out _).mono ?_
  rintro e w3 ⟨rfl, hb3⟩
  replace r0 := keepCell hb3 r0
  replace r1 := keepCell hb3 r1
  replace f0 := ((bcell hb3).2 _ _ z2).trans f0
  replace f1 := ((bcell hb3).2 _ _ z2).trans f1
  have z3 : w.heap.size + 1 + 1 < w3.heap.size := World.block_lt_of_cell? w3 _ r0
  have HB3 := Lib.hid (bnext HB2.out hb3)
  clear hb3 HC j0 j1 j2 j3 k0 k1 k2 k3
  go_wp2_with fail
  go_at_call 74
  refine (HG.out _ HB3.out).mono ?_
  rintro e w4 ⟨rfl, hb4⟩
  replace r0 := keepCell hb4 r0
  replace r1 := keepCell hb4 r1
  replace f0 := ((bcell hb4).2 _ _ z3).trans f0
  replace f1 := ((bcell hb4).2 _ _ z3).trans f1
  have z4 : w.heap.size + 1 + 1 < w4.heap.size := World.block_lt_of_cell? w4 _ r0
  have HB4 := Lib.hid (bnext HB3.out hb4)
  clear hb4 HG
  go_wp2_with fail
  refine bodyPost_ret (v := .agg #[.int .i64 (rk R), .string (ra R)]) (by simp [results, Tryz.results32, go_sem, r0, r1]) rfl ⟨rfl, by (first | (with_reducible exact HB4.out) | ((with_reducible refine Below.setCell (HB4.out) ?_ _) <;> (first | exact Nat.le_refl _ | exact Nat.le_add_right _ _ | (dsimp only; omega) | (simp; omega))) | ((with_reducible refine Below.setCell (Below.setCell (HB4.out) ?_ _) ?_ _) <;> (first | exact Nat.le_refl _ | exact Nat.le_add_right _ _ | (dsimp only; omega) | (simp; omega))) | ((with_reducible refine Below.setCell (Below.setCell (Below.setCell (HB4.out) ?_ _) ?_ _) ?_ _) <;> (first | exact Nat.le_refl _ | exact Nat.le_add_right _ _ | (dsimp only; omega) | (simp; omega))))⟩
set_option maxHeartbeats 2000000 in
set_option maxRecDepth 100000 in
theorem tr_resources (a b : Ty) (R : Option (Int × ByteArray)) (hna : numK a.kind = false) (hk : a.kind = b.kind) (A B A' B' : Option Addr) (ca cb ca' cb' : Nat) (w : World) (ht : RTable w)
    (hc : ∀ W : World, Calls Tryz.prog 51 #[.agg #[.int .i64 a.kind, .string a.name, .slice A a.labels.length ca, .slice B a.kids.length cb, .int .i64 b.kind, .string b.name, .slice A' b.labels.length ca', .slice B' b.kids.length cb']] W fun e w' => e = .returned (.func (.func 75) #[.agg #[.int .i64 a.kind, .string a.name, .slice A a.labels.length ca, .slice B a.kids.length cb, .int .i64 b.kind, .string b.name, .slice A' b.labels.length ca', .slice B' b.kids.length cb']] #[]) ∧ Below W.heap.size W w')
    (hg : ∀ W : World, Below w.heap.size w W → Calls Tryz.prog 75 #[.agg #[.int .i64 a.kind, .string a.name, .slice A a.labels.length ca, .slice B a.kids.length cb, .int .i64 b.kind, .string b.name, .slice A' b.labels.length ca', .slice B' b.kids.length cb']] W (RsnPost R W)) :
    Calls Tryz.prog 32 #[.agg #[.int .i64 a.kind, .string a.name, .slice A a.labels.length ca, .slice B a.kids.length cb], .agg #[.int .i64 b.kind, .string b.name, .slice A' b.labels.length ca', .slice B' b.kids.length cb']] w (RsnPost R w) := by
  have CA := Lib.hid (fun W h => nr_impl a.kind W h)
  have CB := Lib.hid (fun W h => nr_impl b.kind W h)
  have hnb : numK b.kind = false := hk ▸ hna
  rw [hna] at CA
  rw [hnb] at CB
  have HT := Lib.hid ht
  have HC := Lib.hid hc
  have HG := Lib.hid hg
  have x1 : (a.kind == b.kind) = true := by rw [beq_iff_eq]; exact hk
  have x2 : (a.kind != b.kind) = false := by rw [bne_eq_false_iff_eq]; exact hk
  generalize (nrV a.kind).1 = la at *
  generalize (nrV a.kind).2.1 = ha at *
  generalize (nrV b.kind).1 = lb at *
  generalize (nrV b.kind).2.1 = hb at *
  clear ht hna hnb hk hc hg
  go_enter Tryz.func32, Tryz.ntmps32
  go_wp2_with fail
  go_at_call 50
  refine (CA.out _ (HT.out.keep (below3 _ _ _ _))).mono ?_
  rintro e w1 ⟨rfl, hb1⟩
  have j0 := keepCell (a := ⟨w.heap.size, 0, none⟩) (v := .int .i64 a.kind) hb1 (by go_simp)
  have j1 := keepCell (a := ⟨w.heap.size, 1, none⟩) (v := .string a.name) hb1 (by go_simp)
  have j2 := keepCell (a := ⟨w.heap.size, 2, none⟩) (v := .slice A a.labels.length ca) hb1 (by go_simp)
  have j3 := keepCell (a := ⟨w.heap.size, 3, none⟩) (v := .slice B a.kids.length cb) hb1 (by go_simp)
  have k0 := keepCell (a := ⟨w.heap.size + 1, 0, none⟩) (v := .int .i64 b.kind) hb1 (by go_simp)
  have k1 := keepCell (a := ⟨w.heap.size + 1, 1, none⟩) (v := .string b.name) hb1 (by go_simp)
  have k2 := keepCell (a := ⟨w.heap.size + 1, 2, none⟩) (v := .slice A' b.labels.length ca') hb1 (by go_simp)
  have k3 := keepCell (a := ⟨w.heap.size + 1, 3, none⟩) (v := .slice B' b.kids.length cb') hb1 (by go_simp)
  have r0 := keepCell (a := ⟨w.heap.size + 1 + 1, 0, none⟩) (v := .int .i64 0) hb1 (by go_simp)
  have r1 := keepCell (a := ⟨w.heap.size + 1 + 1, 1, none⟩) (v := .string ⟨#[]⟩) hb1 (by go_simp)
  have f0 : w1.frozen? ⟨w.heap.size + 1 + 1, 0, none⟩ = false := ((bcell hb1).2 _ _ (by first | (simp; done) | (simp; omega))).trans (by go_simp)
  have f1 : w1.frozen? ⟨w.heap.size + 1 + 1, 1, none⟩ = false := ((bcell hb1).2 _ _ (by first | (simp; done) | (simp; omega))).trans (by go_simp)
  have z1 : w.heap.size + 1 + 1 < w1.heap.size := World.block_lt_of_cell? w1 _ r0
  have HB1 := Lib.hid (bnext (below3 _ _ _ _) hb1)
  clear hb1
  go_wp2_with fail
  go_at_call 50
  refine (CB.out _ (HT.out.keep HB1.out)).mono ?_
  rintro e w2 ⟨rfl, hb2⟩
  replace j0 := keepCell hb2 j0
  replace j1 := keepCell hb2 j1
  replace j2 := keepCell hb2 j2
  replace j3 := keepCell hb2 j3
  replace k0 := keepCell hb2 k0
  replace k1 := keepCell hb2 k1
  replace k2 := keepCell hb2 k2
  replace k3 := keepCell hb2 k3
  replace r0 := keepCell hb2 r0
  replace r1 := keepCell hb2 r1
  replace f0 := ((bcell hb2).2 _ _ z1).trans f0
  replace f1 := ((bcell hb2).2 _ _ z1).trans f1
  have z2 : w.heap.size + 1 + 1 < w2.heap.size := World.block_lt_of_cell? w2 _ r0
  have HB2 := Lib.hid (bnext HB1.out hb2)
  clear hb2 z1 CA CB
  go_wp2_with fail
  go_at_call 51
  refine (HC.out _).mono ?_
  rintro e w3 ⟨rfl, hb3⟩
  replace r0 := keepCell hb3 r0
  replace r1 := keepCell hb3 r1
  replace f0 := ((bcell hb3).2 _ _ z2).trans f0
  replace f1 := ((bcell hb3).2 _ _ z2).trans f1
  have z3 : w.heap.size + 1 + 1 < w3.heap.size := World.block_lt_of_cell? w3 _ r0
  have HB3 := Lib.hid (bnext HB2.out hb3)
  clear hb3 HC j0 j1 j2 j3 k0 k1 k2 k3
  go_wp2_with fail
  go_at_call 75
  refine (HG.out _ HB3.out).mono ?_
  rintro e w4 ⟨rfl, hb4⟩
  replace r0 := keepCell hb4 r0
  replace r1 := keepCell hb4 r1
  replace f0 := ((bcell hb4).2 _ _ z3).trans f0
  replace f1 := ((bcell hb4).2 _ _ z3).trans f1
  have z4 : w.heap.size + 1 + 1 < w4.heap.size := World.block_lt_of_cell? w4 _ r0
  have HB4 := Lib.hid (bnext HB3.out hb4)
  clear hb4 HG
  go_wp2_with fail
  refine bodyPost_ret (v := .agg #[.int .i64 (rk R), .string (ra R)]) (by simp [results, Tryz.results32, go_sem, r0, r1]) rfl ⟨rfl, by (first | (with_reducible exact HB4.out) | ((with_reducible refine Below.setCell (HB4.out) ?_ _) <;> (first | exact Nat.le_refl _ | exact Nat.le_add_right _ _ | (dsimp only; omega) | (simp; omega))) | ((with_reducible refine Below.setCell (Below.setCell (HB4.out) ?_ _) ?_ _) <;> (first | exact Nat.le_refl _ | exact Nat.le_add_right _ _ | (dsimp only; omega) | (simp; omega))) | ((with_reducible refine Below.setCell (Below.setCell (Below.setCell (HB4.out) ?_ _) ?_ _) ?_ _) <;> (first | exact Nat.le_refl _ | exact Nat.le_add_right _ _ | (dsimp only; omega) | (simp; omega))))⟩
set_option maxHeartbeats 2000000 in
set_option maxRecDepth 100000 in
theorem tr_transfers (a b : Ty) (R : Option (Int × ByteArray)) (hna : numK a.kind = false) (hk : a.kind = b.kind) (A B A' B' : Option Addr) (ca cb ca' cb' : Nat) (w : World) (ht : RTable w)
    (hc : ∀ W : World, Calls Tryz.prog 51 #[.agg #[.int .i64 a.kind, .string a.name, .slice A a.labels.length ca, .slice B a.kids.length cb, .int .i64 b.kind, .string b.name, .slice A' b.labels.length ca', .slice B' b.kids.length cb']] W fun e w' => e = .returned (.func (.func 76) #[.agg #[.int .i64 a.kind, .string a.name, .slice A a.labels.length ca, .slice B a.kids.length cb, .int .i64 b.kind, .string b.name, .slice A' b.labels.length ca', .slice B' b.kids.length cb']] #[]) ∧ Below W.heap.size W w')
    (hg : ∀ W : World, Below w.heap.size w W → Calls Tryz.prog 76 #[.agg #[.int .i64 a.kind, .string a.name, .slice A a.labels.length ca, .slice B a.kids.length cb, .int .i64 b.kind, .string b.name, .slice A' b.labels.length ca', .slice B' b.kids.length cb']] W (RsnPost R W)) :
    Calls Tryz.prog 32 #[.agg #[.int .i64 a.kind, .string a.name, .slice A a.labels.length ca, .slice B a.kids.length cb], .agg #[.int .i64 b.kind, .string b.name, .slice A' b.labels.length ca', .slice B' b.kids.length cb']] w (RsnPost R w) := by
  have CA := Lib.hid (fun W h => nr_impl a.kind W h)
  have CB := Lib.hid (fun W h => nr_impl b.kind W h)
  have hnb : numK b.kind = false := hk ▸ hna
  rw [hna] at CA
  rw [hnb] at CB
  have HT := Lib.hid ht
  have HC := Lib.hid hc
  have HG := Lib.hid hg
  have x1 : (a.kind == b.kind) = true := by rw [beq_iff_eq]; exact hk
  have x2 : (a.kind != b.kind) = false := by rw [bne_eq_false_iff_eq]; exact hk
  generalize (nrV a.kind).1 = la at *
  generalize (nrV a.kind).2.1 = ha at *
  generalize (nrV b.kind).1 = lb at *
  generalize (nrV b.kind).2.1 = hb at *
  clear ht hna hnb hk hc hg
  go_enter Tryz.func32, Tryz.ntmps32
  go_wp2_with fail
  go_at_call 50
  refine (CA.out _ (HT.out.keep (below3 _ _ _ _))).mono ?_
  rintro e w1 ⟨rfl, hb1⟩
  have j0 := keepCell (a := ⟨w.heap.size, 0, none⟩) (v := .int .i64 a.kind) hb1 (by go_simp)
  have j1 := keepCell (a := ⟨w.heap.size, 1, none⟩) (v := .string a.name) hb1 (by go_simp)
  have j2 := keepCell (a := ⟨w.heap.size, 2, none⟩) (v := .slice A a.labels.length ca) hb1 (by go_simp)
  have j3 := keepCell (a := ⟨w.heap.size, 3, none⟩) (v := .slice B a.kids.length cb) hb1 (by go_simp)
  have k0 := keepCell (a := ⟨w.heap.size + 1, 0, none⟩) (v := .int .i64 b.kind) hb1 (by go_simp)
  have k1 := keepCell (a := ⟨w.heap.size + 1, 1, none⟩) (v := .string b.name) hb1 (by go_simp)
  have k2 := keepCell (a := ⟨w.heap.size + 1, 2, none⟩) (v := .slice A' b.labels.length ca') hb1 (by go_simp)
  have k3 := keepCell (a := ⟨w.heap.size + 1, 3, none⟩) (v := .slice B' b.kids.length cb') hb1 (by go_simp)
  have r0 := keepCell (a := ⟨w.heap.size + 1 + 1, 0, none⟩) (v := .int .i64 0) hb1 (by go_simp)
  have r1 := keepCell (a := ⟨w.heap.size + 1 + 1, 1, none⟩) (v := .string ⟨#[]⟩) hb1 (by go_simp)
  have f0 : w1.frozen? ⟨w.heap.size + 1 + 1, 0, none⟩ = false := ((bcell hb1).2 _ _ (by first | (simp; done) | (simp; omega))).trans (by go_simp)
  have f1 : w1.frozen? ⟨w.heap.size + 1 + 1, 1, none⟩ = false := ((bcell hb1).2 _ _ (by first | (simp; done) | (simp; omega))).trans (by go_simp)
  have z1 : w.heap.size + 1 + 1 < w1.heap.size := World.block_lt_of_cell? w1 _ r0
  have HB1 := Lib.hid (bnext (below3 _ _ _ _) hb1)
  clear hb1
  go_wp2_with fail
  go_at_call 50
  refine (CB.out _ (HT.out.keep HB1.out)).mono ?_
  rintro e w2 ⟨rfl, hb2⟩
  replace j0 := keepCell hb2 j0
  replace j1 := keepCell hb2 j1
  replace j2 := keepCell hb2 j2
  replace j3 := keepCell hb2 j3
  replace k0 := keepCell hb2 k0
  replace k1 := keepCell hb2 k1
  replace k2 := keepCell hb2 k2
  replace k3 := keepCell hb2 k3
  replace r0 := keepCell hb2 r0
  replace r1 := keepCell hb2 r1
  replace f0 := ((bcell hb2).2 _ _ z1).trans f0
  replace f1 := ((bcell hb2).2 _ _ z1).trans f1
  have z2 : w.heap.size + 1 + 1 < w2.heap.size := World.block_lt_of_cell? w2 _ r0
  have HB2 := Lib.hid (bnext HB1.out hb2)
  clear hb2 z1 CA CB
  go_wp2_with fail
  go_at_call 51
  refine (HC.out _).mono ?_
  rintro e w3 ⟨rfl, hb3⟩
  replace r0 := keepCell hb3 r0
  replace r1 := keepCell hb3 r1
  replace f0 := ((bcell hb3).2 _ _ z2).trans f0
  replace f1 := ((bcell hb3).2 _ _ z2).trans f1
  have z3 : w.heap.size + 1 + 1 < w3.heap.size := World.block_lt_of_cell? w3 _ r0
  have HB3 := Lib.hid (bnext HB2.out hb3)
  clear hb3 HC j0 j1 j2 j3 k0 k1 k2 k3
  go_wp2_with fail
  go_at_call 76
  refine (HG.out _ HB3.out).mono ?_
  rintro e w4 ⟨rfl, hb4⟩
  replace r0 := keepCell hb4 r0
  replace r1 := keepCell hb4 r1
  replace f0 := ((bcell hb4).2 _ _ z3).trans f0
  replace f1 := ((bcell hb4).2 _ _ z3).trans f1
  have z4 : w.heap.size + 1 + 1 < w4.heap.size := World.block_lt_of_cell? w4 _ r0
  have HB4 := Lib.hid (bnext HB3.out hb4)
  clear hb4 HG
  go_wp2_with fail
  refine bodyPost_ret (v := .agg #[.int .i64 (rk R), .string (ra R)]) (by simp [results, Tryz.results32, go_sem, r0, r1]) rfl ⟨rfl, by (first | (with_reducible exact HB4.out) | ((with_reducible refine Below.setCell (HB4.out) ?_ _) <;> (first | exact Nat.le_refl _ | exact Nat.le_add_right _ _ | (dsimp only; omega) | (simp; omega))) | ((with_reducible refine Below.setCell (Below.setCell (HB4.out) ?_ _) ?_ _) <;> (first | exact Nat.le_refl _ | exact Nat.le_add_right _ _ | (dsimp only; omega) | (simp; omega))) | ((with_reducible refine Below.setCell (Below.setCell (Below.setCell (HB4.out) ?_ _) ?_ _) ?_ _) <;> (first | exact Nat.le_refl _ | exact Nat.le_add_right _ _ | (dsimp only; omega) | (simp; omega))))⟩
set_option maxHeartbeats 2000000 in
set_option maxRecDepth 100000 in
theorem tr_nothing (a b : Ty) (R : Option (Int × ByteArray)) (hna : numK a.kind = false) (hk : a.kind = b.kind) (A B A' B' : Option Addr) (ca cb ca' cb' : Nat) (w : World) (ht : RTable w)
    (hc : ∀ W : World, Calls Tryz.prog 51 #[.agg #[.int .i64 a.kind, .string a.name, .slice A a.labels.length ca, .slice B a.kids.length cb, .int .i64 b.kind, .string b.name, .slice A' b.labels.length ca', .slice B' b.kids.length cb']] W fun e w' => e = .returned (.func (.func 77) #[.agg #[.int .i64 a.kind, .string a.name, .slice A a.labels.length ca, .slice B a.kids.length cb, .int .i64 b.kind, .string b.name, .slice A' b.labels.length ca', .slice B' b.kids.length cb']] #[]) ∧ Below W.heap.size W w')
    (hg : ∀ W : World, Below w.heap.size w W → Calls Tryz.prog 77 #[.agg #[.int .i64 a.kind, .string a.name, .slice A a.labels.length ca, .slice B a.kids.length cb, .int .i64 b.kind, .string b.name, .slice A' b.labels.length ca', .slice B' b.kids.length cb']] W (RsnPost R W)) :
    Calls Tryz.prog 32 #[.agg #[.int .i64 a.kind, .string a.name, .slice A a.labels.length ca, .slice B a.kids.length cb], .agg #[.int .i64 b.kind, .string b.name, .slice A' b.labels.length ca', .slice B' b.kids.length cb']] w (RsnPost R w) := by
  have CA := Lib.hid (fun W h => nr_impl a.kind W h)
  have CB := Lib.hid (fun W h => nr_impl b.kind W h)
  have hnb : numK b.kind = false := hk ▸ hna
  rw [hna] at CA
  rw [hnb] at CB
  have HT := Lib.hid ht
  have HC := Lib.hid hc
  have HG := Lib.hid hg
  have x1 : (a.kind == b.kind) = true := by rw [beq_iff_eq]; exact hk
  have x2 : (a.kind != b.kind) = false := by rw [bne_eq_false_iff_eq]; exact hk
  generalize (nrV a.kind).1 = la at *
  generalize (nrV a.kind).2.1 = ha at *
  generalize (nrV b.kind).1 = lb at *
  generalize (nrV b.kind).2.1 = hb at *
  clear ht hna hnb hk hc hg
  go_enter Tryz.func32, Tryz.ntmps32
  go_wp2_with fail
  go_at_call 50
  refine (CA.out _ (HT.out.keep (below3 _ _ _ _))).mono ?_
  rintro e w1 ⟨rfl, hb1⟩
  have j0 := keepCell (a := ⟨w.heap.size, 0, none⟩) (v := .int .i64 a.kind) hb1 (by go_simp)
  have j1 := keepCell (a := ⟨w.heap.size, 1, none⟩) (v := .string a.name) hb1 (by go_simp)
  have j2 := keepCell (a := ⟨w.heap.size, 2, none⟩) (v := .slice A a.labels.length ca) hb1 (by go_simp)
  have j3 := keepCell (a := ⟨w.heap.size, 3, none⟩) (v := .slice B a.kids.length cb) hb1 (by go_simp)
  have k0 := keepCell (a := ⟨w.heap.size + 1, 0, none⟩) (v := .int .i64 b.kind) hb1 (by go_simp)
  have k1 := keepCell (a := ⟨w.heap.size + 1, 1, none⟩) (v := .string b.name) hb1 (by go_simp)
  have k2 := keepCell (a := ⟨w.heap.size + 1, 2, none⟩) (v := .slice A' b.labels.length ca') hb1 (by go_simp)
  have k3 := keepCell (a := ⟨w.heap.size + 1, 3, none⟩) (v := .slice B' b.kids.length cb') hb1 (by go_simp)
  have r0 := keepCell (a := ⟨w.heap.size + 1 + 1, 0, none⟩) (v := .int .i64 0) hb1 (by go_simp)
  have r1 := keepCell (a := ⟨w.heap.size + 1 + 1, 1, none⟩) (v := .string ⟨#[]⟩) hb1 (by go_simp)
  have f0 : w1.frozen? ⟨w.heap.size + 1 + 1, 0, none⟩ = false := ((bcell hb1).2 _ _ (by first | (simp; done) | (simp; omega))).trans (by go_simp)
  have f1 : w1.frozen? ⟨w.heap.size + 1 + 1, 1, none⟩ = false := ((bcell hb1).2 _ _ (by first | (simp; done) | (simp; omega))).trans (by go_simp)
  have z1 : w.heap.size + 1 + 1 < w1.heap.size := World.block_lt_of_cell? w1 _ r0
  have HB1 := Lib.hid (bnext (below3 _ _ _ _) hb1)
  clear hb1
  go_wp2_with fail
  go_at_call 50
  refine (CB.out _ (HT.out.keep HB1.out)).mono ?_
  rintro e w2 ⟨rfl, hb2⟩
  replace j0 := keepCell hb2 j0
  replace j1 := keepCell hb2 j1
  replace j2 := keepCell hb2 j2
  replace j3 := keepCell hb2 j3
  replace k0 := keepCell hb2 k0
  replace k1 := keepCell hb2 k1
  replace k2 := keepCell hb2 k2
  replace k3 := keepCell hb2 k3
  replace r0 := keepCell hb2 r0
  replace r1 := keepCell hb2 r1
  replace f0 := ((bcell hb2).2 _ _ z1).trans f0
  replace f1 := ((bcell hb2).2 _ _ z1).trans f1
  have z2 : w.heap.size + 1 + 1 < w2.heap.size := World.block_lt_of_cell? w2 _ r0
  have HB2 := Lib.hid (bnext HB1.out hb2)
  clear hb2 z1 CA CB
  go_wp2_with fail
  go_at_call 51
  refine (HC.out _).mono ?_
  rintro e w3 ⟨rfl, hb3⟩
  replace r0 := keepCell hb3 r0
  replace r1 := keepCell hb3 r1
  replace f0 := ((bcell hb3).2 _ _ z2).trans f0
  replace f1 := ((bcell hb3).2 _ _ z2).trans f1
  have z3 : w.heap.size + 1 + 1 < w3.heap.size := World.block_lt_of_cell? w3 _ r0
  have HB3 := Lib.hid (bnext HB2.out hb3)
  clear hb3 HC j0 j1 j2 j3 k0 k1 k2 k3
  go_wp2_with fail
  go_at_call 77
  refine (HG.out _ HB3.out).mono ?_
  rintro e w4 ⟨rfl, hb4⟩
  replace r0 := keepCell hb4 r0
  replace r1 := keepCell hb4 r1
  replace f0 := ((bcell hb4).2 _ _ z3).trans f0
  replace f1 := ((bcell hb4).2 _ _ z3).trans f1
  have z4 : w.heap.size + 1 + 1 < w4.heap.size := World.block_lt_of_cell? w4 _ r0
  have HB4 := Lib.hid (bnext HB3.out hb4)
  clear hb4 HG
  go_wp2_with fail
  refine bodyPost_ret (v := .agg #[.int .i64 (rk R), .string (ra R)]) (by simp [results, Tryz.results32, go_sem, r0, r1]) rfl ⟨rfl, by (first | (with_reducible exact HB4.out) | ((with_reducible refine Below.setCell (HB4.out) ?_ _) <;> (first | exact Nat.le_refl _ | exact Nat.le_add_right _ _ | (dsimp only; omega) | (simp; omega))) | ((with_reducible refine Below.setCell (Below.setCell (HB4.out) ?_ _) ?_ _) <;> (first | exact Nat.le_refl _ | exact Nat.le_add_right _ _ | (dsimp only; omega) | (simp; omega))) | ((with_reducible refine Below.setCell (Below.setCell (Below.setCell (HB4.out) ?_ _) ?_ _) ?_ _) <;> (first | exact Nat.le_refl _ | exact Nat.le_add_right _ _ | (dsimp only; omega) | (simp; omega))))⟩
end Go.Proofs.YtifchfecfkdjlaaGreatDoor
