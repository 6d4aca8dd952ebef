/-
  The walks of the model's l08Why at tuples, records, variants, resources, and kinds with nothing more.
-/
import Derived.Test.YtifchfecfkdjlaaGreatDoorWhSW
namespace Go.Proofs.YtifchfecfkdjlaaGreatDoor
open Go.ChangeShapes Go.WideShapes Go.ChangeAt Go.RowKit Go.Deep

set_option maxHeartbeats 8000000 in
set_option maxRecDepth 100000 in
theorem why_tuple (a b : Ty) (hna : numK a.kind = false) (hk : a.kind = b.kind) (hka : a.kind = 15) (R : Option (Int × ByteArray)) (A B A' B' : Option Addr) (ca cb ca' cb' : Nat) (pt : ByteArray) (w : World) (hT : ∀ W : World, Below w.heap.size w W → Calls Tryz.prog 45 #[.agg #[.int .i64 a.kind, .string a.name, .slice A a.labels.length ca, .slice B a.kids.length cb], .agg #[.int .i64 b.kind, .string b.name, .slice A' b.labels.length ca', .slice B' b.kids.length cb'], .string pt] W (RsnS R pt W)) :
    Calls Tryz.prog 31 #[.agg #[.int .i64 a.kind, .string a.name, .slice A a.labels.length ca, .slice B a.kids.length cb], .agg #[.int .i64 b.kind, .string b.name, .slice A' b.labels.length ca', .slice B' b.kids.length cb'], .string pt] w (RsnS (R) pt w) := by
  have CN := (fun W => number_any a.kind W)
  rw [hna] at CN
  have CN := Lib.hid CN
  have x1 : (a.kind == b.kind) = true := by rw [beq_iff_eq]; exact hk
  have x2 : (a.kind != b.kind) = false := by rw [bne_eq_false_iff_eq]; exact hk
  have e12 : (a.kind == 12) = false := by rw [beq_eq_false_iff_ne]; omega
  have e13 : (a.kind == 13) = false := by rw [beq_eq_false_iff_ne]; omega
  have e14 : (a.kind == 14) = false := by rw [beq_eq_false_iff_ne]; omega
  have e15 : (a.kind == 15) = true := by rw [beq_iff_eq]; omega
  have HT := Lib.hid hT
  clear hT hna hk hka
  go_enter Tryz.func31, Tryz.ntmps31
  go_wp2_with (first | (go_at_call 42; (with_reducible refine (CN.out _).mono ?_); rintro e w2 ⟨rfl, rfl⟩))
  go_at_call 45
  refine (HT.out _ (below3 _ _ _ _)).mono ?_
  rintro e w4 ⟨rfl, hb4⟩
  have r0 := keepCell (a := ⟨w.heap.size + 1 + 1, 0, none⟩) (v := .int .i64 0) hb4 (by go_simp)
  have r1 := keepCell (a := ⟨w.heap.size + 1 + 1, 1, none⟩) (v := .string ⟨#[]⟩) hb4 (by go_simp)
  have rf0 : w4.frozen? ⟨w.heap.size + 1 + 1, 0, none⟩ = false := ((bcell hb4).2 _ _ (by first | (simp; done) | (simp; omega))).trans (by go_simp)
  have rf1 : w4.frozen? ⟨w.heap.size + 1 + 1, 1, none⟩ = false := ((bcell hb4).2 _ _ (by first | (simp; done) | (simp; omega))).trans (by go_simp)
  have HB4 := Lib.hid (bnext (below3 _ _ _ _) hb4)
  clear hb4
  go_wp2_with fail
  exact bodyPost_ret (v := .tuple #[.agg #[.int .i64 (rk R), .string (rp pt R)], .bool R.isSome]) (by simp [results, Tryz.results31, go_sem, r0, r1]) rfl ⟨rfl, by (first | (with_reducible exact HB4.out) | ((with_reducible refine Below.setCell (HB4.out) ?_ _) <;> (first | exact Nat.le_refl _ | exact Nat.le_add_right _ _ | (dsimp only; omega) | (simp; omega))) | ((with_reducible refine Below.setCell (Below.setCell (HB4.out) ?_ _) ?_ _) <;> (first | exact Nat.le_refl _ | exact Nat.le_add_right _ _ | (dsimp only; omega) | (simp; omega))) | ((with_reducible refine Below.setCell (Below.setCell (Below.setCell (HB4.out) ?_ _) ?_ _) ?_ _) <;> (first | exact Nat.le_refl _ | exact Nat.le_add_right _ _ | (dsimp only; omega) | (simp; omega))))⟩

set_option maxHeartbeats 8000000 in
set_option maxRecDepth 100000 in
theorem why_record (a b : Ty) (hna : numK a.kind = false) (hk : a.kind = b.kind) (hka : a.kind = 16) (R : Option (Int × ByteArray)) (A B A' B' : Option Addr) (ca cb ca' cb' : Nat) (pt : ByteArray) (w : World) (hT : ∀ W : World, Below w.heap.size w W → Calls Tryz.prog 46 #[.agg #[.int .i64 a.kind, .string a.name, .slice A a.labels.length ca, .slice B a.kids.length cb], .agg #[.int .i64 b.kind, .string b.name, .slice A' b.labels.length ca', .slice B' b.kids.length cb'], .string pt] W (RsnS R pt W)) :
    Calls Tryz.prog 31 #[.agg #[.int .i64 a.kind, .string a.name, .slice A a.labels.length ca, .slice B a.kids.length cb], .agg #[.int .i64 b.kind, .string b.name, .slice A' b.labels.length ca', .slice B' b.kids.length cb'], .string pt] w (RsnS (R) pt w) := by
  have CN := (fun W => number_any a.kind W)
  rw [hna] at CN
  have CN := Lib.hid CN
  have x1 : (a.kind == b.kind) = true := by rw [beq_iff_eq]; exact hk
  have x2 : (a.kind != b.kind) = false := by rw [bne_eq_false_iff_eq]; exact hk
  have e12 : (a.kind == 12) = false := by rw [beq_eq_false_iff_ne]; omega
  have e13 : (a.kind == 13) = false := by rw [beq_eq_false_iff_ne]; omega
  have e14 : (a.kind == 14) = false := by rw [beq_eq_false_iff_ne]; omega
  have e15 : (a.kind == 15) = false := by rw [beq_eq_false_iff_ne]; omega
  have e16 : (a.kind == 16) = true := by rw [beq_iff_eq]; omega
  have HT := Lib.hid hT
  clear hT hna hk hka
  go_enter Tryz.func31, Tryz.ntmps31
  go_wp2_with (first | (go_at_call 42; (with_reducible refine (CN.out _).mono ?_); rintro e w2 ⟨rfl, rfl⟩))
  go_at_call 46
  refine (HT.out _ (below3 _ _ _ _)).mono ?_
  rintro e w4 ⟨rfl, hb4⟩
  have r0 := keepCell (a := ⟨w.heap.size + 1 + 1, 0, none⟩) (v := .int .i64 0) hb4 (by go_simp)
  have r1 := keepCell (a := ⟨w.heap.size + 1 + 1, 1, none⟩) (v := .string ⟨#[]⟩) hb4 (by go_simp)
  have rf0 : w4.frozen? ⟨w.heap.size + 1 + 1, 0, none⟩ = false := ((bcell hb4).2 _ _ (by first | (simp; done) | (simp; omega))).trans (by go_simp)
  have rf1 : w4.frozen? ⟨w.heap.size + 1 + 1, 1, none⟩ = false := ((bcell hb4).2 _ _ (by first | (simp; done) | (simp; omega))).trans (by go_simp)
  have HB4 := Lib.hid (bnext (below3 _ _ _ _) hb4)
  clear hb4
  go_wp2_with fail
  exact bodyPost_ret (v := .tuple #[.agg #[.int .i64 (rk R), .string (rp pt R)], .bool R.isSome]) (by simp [results, Tryz.results31, go_sem, r0, r1]) rfl ⟨rfl, by (first | (with_reducible exact HB4.out) | ((with_reducible refine Below.setCell (HB4.out) ?_ _) <;> (first | exact Nat.le_refl _ | exact Nat.le_add_right _ _ | (dsimp only; omega) | (simp; omega))) | ((with_reducible refine Below.setCell (Below.setCell (HB4.out) ?_ _) ?_ _) <;> (first | exact Nat.le_refl _ | exact Nat.le_add_right _ _ | (dsimp only; omega) | (simp; omega))) | ((with_reducible refine Below.setCell (Below.setCell (Below.setCell (HB4.out) ?_ _) ?_ _) ?_ _) <;> (first | exact Nat.le_refl _ | exact Nat.le_add_right _ _ | (dsimp only; omega) | (simp; omega))))⟩

set_option maxHeartbeats 8000000 in
set_option maxRecDepth 100000 in
theorem why_variant (a b : Ty) (hna : numK a.kind = false) (hk : a.kind = b.kind) (hka : a.kind = 17) (R : Option (Int × ByteArray)) (A B A' B' : Option Addr) (ca cb ca' cb' : Nat) (pt : ByteArray) (w : World) (hT : ∀ W : World, Below w.heap.size w W → Calls Tryz.prog 47 #[.agg #[.int .i64 a.kind, .string a.name, .slice A a.labels.length ca, .slice B a.kids.length cb], .agg #[.int .i64 b.kind, .string b.name, .slice A' b.labels.length ca', .slice B' b.kids.length cb'], .string pt] W (RsnS R pt W)) :
    Calls Tryz.prog 31 #[.agg #[.int .i64 a.kind, .string a.name, .slice A a.labels.length ca, .slice B a.kids.length cb], .agg #[.int .i64 b.kind, .string b.name, .slice A' b.labels.length ca', .slice B' b.kids.length cb'], .string pt] w (RsnS (R) pt w) := by
  have CN := (fun W => number_any a.kind W)
  rw [hna] at CN
  have CN := Lib.hid CN
  have x1 : (a.kind == b.kind) = true := by rw [beq_iff_eq]; exact hk
  have x2 : (a.kind != b.kind) = false := by rw [bne_eq_false_iff_eq]; exact hk
  have e12 : (a.kind == 12) = false := by rw [beq_eq_false_iff_ne]; omega
  have e13 : (a.kind == 13) = false := by rw [beq_eq_false_iff_ne]; omega
  have e14 : (a.kind == 14) = false := by rw [beq_eq_false_iff_ne]; omega
  have e15 : (a.kind == 15) = false := by rw [beq_eq_false_iff_ne]; omega
  have e16 : (a.kind == 16) = false := by rw [beq_eq_false_iff_ne]; omega
  have e17 : (a.kind == 17) = true := by rw [beq_iff_eq]; omega
  have HT := Lib.hid hT
  clear hT hna hk hka
  go_enter Tryz.func31, Tryz.ntmps31
  go_wp2_with (first | (go_at_call 42; (with_reducible refine (CN.out _).mono ?_); rintro e w2 ⟨rfl, rfl⟩))
  go_at_call 47
  refine (HT.out _ (below3 _ _ _ _)).mono ?_
  rintro e w4 ⟨rfl, hb4⟩
  have r0 := keepCell (a := ⟨w.heap.size + 1 + 1, 0, none⟩) (v := .int .i64 0) hb4 (by go_simp)
  have r1 := keepCell (a := ⟨w.heap.size + 1 + 1, 1, none⟩) (v := .string ⟨#[]⟩) hb4 (by go_simp)
  have rf0 : w4.frozen? ⟨w.heap.size + 1 + 1, 0, none⟩ = false := ((bcell hb4).2 _ _ (by first | (simp; done) | (simp; omega))).trans (by go_simp)
  have rf1 : w4.frozen? ⟨w.heap.size + 1 + 1, 1, none⟩ = false := ((bcell hb4).2 _ _ (by first | (simp; done) | (simp; omega))).trans (by go_simp)
  have HB4 := Lib.hid (bnext (below3 _ _ _ _) hb4)
  clear hb4
  go_wp2_with fail
  exact bodyPost_ret (v := .tuple #[.agg #[.int .i64 (rk R), .string (rp pt R)], .bool R.isSome]) (by simp [results, Tryz.results31, go_sem, r0, r1]) rfl ⟨rfl, by (first | (with_reducible exact HB4.out) | ((with_reducible refine Below.setCell (HB4.out) ?_ _) <;> (first | exact Nat.le_refl _ | exact Nat.le_add_right _ _ | (dsimp only; omega) | (simp; omega))) | ((with_reducible refine Below.setCell (Below.setCell (HB4.out) ?_ _) ?_ _) <;> (first | exact Nat.le_refl _ | exact Nat.le_add_right _ _ | (dsimp only; omega) | (simp; omega))) | ((with_reducible refine Below.setCell (Below.setCell (Below.setCell (HB4.out) ?_ _) ?_ _) ?_ _) <;> (first | exact Nat.le_refl _ | exact Nat.le_add_right _ _ | (dsimp only; omega) | (simp; omega))))⟩

set_option maxHeartbeats 8000000 in
set_option maxRecDepth 100000 in
theorem why_res20_same (a b : Ty) (hna : numK a.kind = false) (hk : a.kind = b.kind) (hka : a.kind = 20) (h : a.name = b.name) (A B A' B' : Option Addr) (ca cb ca' cb' : Nat) (pt : ByteArray) (w : World) :
    Calls Tryz.prog 31 #[.agg #[.int .i64 a.kind, .string a.name, .slice A a.labels.length ca, .slice B a.kids.length cb], .agg #[.int .i64 b.kind, .string b.name, .slice A' b.labels.length ca', .slice B' b.kids.length cb'], .string pt] w (RsnS (none) pt w) := by
  have CN := (fun W => number_any a.kind W)
  rw [hna] at CN
  have CN := Lib.hid CN
  have x1 : (a.kind == b.kind) = true := by rw [beq_iff_eq]; exact hk
  have x2 : (a.kind != b.kind) = false := by rw [bne_eq_false_iff_eq]; exact hk
  have e12 : (a.kind == 12) = false := by rw [beq_eq_false_iff_ne]; omega
  have e13 : (a.kind == 13) = false := by rw [beq_eq_false_iff_ne]; omega
  have e14 : (a.kind == 14) = false := by rw [beq_eq_false_iff_ne]; omega
  have e15 : (a.kind == 15) = false := by rw [beq_eq_false_iff_ne]; omega
  have e16 : (a.kind == 16) = false := by rw [beq_eq_false_iff_ne]; omega
  have e17 : (a.kind == 17) = false := by rw [beq_eq_false_iff_ne]; omega
  have e18 : (a.kind == 18) = false := by rw [beq_eq_false_iff_ne]; omega
  have e19 : (a.kind == 19) = false := by rw [beq_eq_false_iff_ne]; omega
  have e20 : (a.kind == 20) = true := by rw [beq_iff_eq]; omega
  have e0 : (a.name.toList == b.name.toList) = true := by rw [h, beq_iff_eq]
  clear hna hk hka h
  go_enter Tryz.func31, Tryz.ntmps31
  go_wp2_with (first | (go_at_call 42; (with_reducible refine (CN.out _).mono ?_); rintro e w2 ⟨rfl, rfl⟩))
  exact bodyPost_ret (v := .tuple #[.agg #[.int .i64 0, .string ⟨#[]⟩], .bool false]) (by simp [results, Tryz.results31, go_sem]) rfl ⟨rfl, by (first | (with_reducible exact (below3 _ _ _ _)) | ((with_reducible refine Below.setCell ((below3 _ _ _ _)) ?_ _) <;> (first | exact Nat.le_refl _ | exact Nat.le_add_right _ _ | (dsimp only; omega) | (simp; omega))) | ((with_reducible refine Below.setCell (Below.setCell ((below3 _ _ _ _)) ?_ _) ?_ _) <;> (first | exact Nat.le_refl _ | exact Nat.le_add_right _ _ | (dsimp only; omega) | (simp; omega))) | ((with_reducible refine Below.setCell (Below.setCell (Below.setCell ((below3 _ _ _ _)) ?_ _) ?_ _) ?_ _) <;> (first | exact Nat.le_refl _ | exact Nat.le_add_right _ _ | (dsimp only; omega) | (simp; omega))))⟩

set_option maxHeartbeats 8000000 in
set_option maxRecDepth 100000 in
theorem why_res20_other (a b : Ty) (hna : numK a.kind = false) (hk : a.kind = b.kind) (hka : a.kind = 20) (h : ¬ a.name = b.name) (A B A' B' : Option Addr) (ca cb ca' cb' : Nat) (pt : ByteArray) (w : World) :
    Calls Tryz.prog 31 #[.agg #[.int .i64 a.kind, .string a.name, .slice A a.labels.length ca, .slice B a.kids.length cb], .agg #[.int .i64 b.kind, .string b.name, .slice A' b.labels.length ca', .slice B' b.kids.length cb'], .string pt] w (RsnS (some (6, sE)) pt w) := by
  have CN := (fun W => number_any a.kind W)
  rw [hna] at CN
  have CN := Lib.hid CN
  have x1 : (a.kind == b.kind) = true := by rw [beq_iff_eq]; exact hk
  have x2 : (a.kind != b.kind) = false := by rw [bne_eq_false_iff_eq]; exact hk
  have e12 : (a.kind == 12) = false := by rw [beq_eq_false_iff_ne]; omega
  have e13 : (a.kind == 13) = false := by rw [beq_eq_false_iff_ne]; omega
  have e14 : (a.kind == 14) = false := by rw [beq_eq_false_iff_ne]; omega
  have e15 : (a.kind == 15) = false := by rw [beq_eq_false_iff_ne]; omega
  have e16 : (a.kind == 16) = false := by rw [beq_eq_false_iff_ne]; omega
  have e17 : (a.kind == 17) = false := by rw [beq_eq_false_iff_ne]; omega
  have e18 : (a.kind == 18) = false := by rw [beq_eq_false_iff_ne]; omega
  have e19 : (a.kind == 19) = false := by rw [beq_eq_false_iff_ne]; omega
  have e20 : (a.kind == 20) = true := by rw [beq_iff_eq]; omega
  have e0 := text_ne h
  have HE : Hid (pt ++ sE = pt) := Lib.hid ByteArray.append_empty
  clear hna hk hka h
  go_enter Tryz.func31, Tryz.ntmps31
  go_wp2_with (first | (go_at_call 42; (with_reducible refine (CN.out _).mono ?_); rintro e w2 ⟨rfl, rfl⟩))
  go_at_call 44
  refine (no_any _ _ _).mono ?_
  rintro e w4 ⟨rfl, hb4⟩
  have r0 := keepCell (a := ⟨w.heap.size + 1 + 1, 0, none⟩) (v := .int .i64 0) hb4 (by go_simp)
  have r1 := keepCell (a := ⟨w.heap.size + 1 + 1, 1, none⟩) (v := .string ⟨#[]⟩) hb4 (by go_simp)
  have rf0 : w4.frozen? ⟨w.heap.size + 1 + 1, 0, none⟩ = false := ((bcell hb4).2 _ _ (by first | (simp; done) | (simp; omega))).trans (by go_simp)
  have rf1 : w4.frozen? ⟨w.heap.size + 1 + 1, 1, none⟩ = false := ((bcell hb4).2 _ _ (by first | (simp; done) | (simp; omega))).trans (by go_simp)
  have HB4 := Lib.hid (bnext (below3 _ _ _ _) hb4)
  clear hb4
  go_wp2_with fail
  exact bodyPost_ret (v := .tuple #[.agg #[.int .i64 6, .string pt], .bool true]) (by simp [results, Tryz.results31, go_sem, r0, r1]) rfl ⟨by show _ = Ending.returned (.tuple #[.agg #[.int .i64 6, .string (pt ++ sE)], .bool true]); rw [HE.out], by (first | (with_reducible exact HB4.out) | ((with_reducible refine Below.setCell (HB4.out) ?_ _) <;> (first | exact Nat.le_refl _ | exact Nat.le_add_right _ _ | (dsimp only; omega) | (simp; omega))) | ((with_reducible refine Below.setCell (Below.setCell (HB4.out) ?_ _) ?_ _) <;> (first | exact Nat.le_refl _ | exact Nat.le_add_right _ _ | (dsimp only; omega) | (simp; omega))) | ((with_reducible refine Below.setCell (Below.setCell (Below.setCell (HB4.out) ?_ _) ?_ _) ?_ _) <;> (first | exact Nat.le_refl _ | exact Nat.le_add_right _ _ | (dsimp only; omega) | (simp; omega))))⟩

set_option maxHeartbeats 8000000 in
set_option maxRecDepth 100000 in
theorem why_res21_same (a b : Ty) (hna : numK a.kind = false) (hk : a.kind = b.kind) (hka : a.kind = 21) (h : a.name = b.name) (A B A' B' : Option Addr) (ca cb ca' cb' : Nat) (pt : ByteArray) (w : World) :
    Calls Tryz.prog 31 #[.agg #[.int .i64 a.kind, .string a.name, .slice A a.labels.length ca, .slice B a.kids.length cb], .agg #[.int .i64 b.kind, .string b.name, .slice A' b.labels.length ca', .slice B' b.kids.length cb'], .string pt] w (RsnS (none) pt w) := by
  have CN := (fun W => number_any a.kind W)
  rw [hna] at CN
  have CN := Lib.hid CN
  have x1 : (a.kind == b.kind) = true := by rw [beq_iff_eq]; exact hk
  have x2 : (a.kind != b.kind) = false := by rw [bne_eq_false_iff_eq]; exact hk
  have e12 : (a.kind == 12) = false := by rw [beq_eq_false_iff_ne]; omega
  have e13 : (a.kind == 13) = false := by rw [beq_eq_false_iff_ne]; omega
  have e14 : (a.kind == 14) = false := by rw [beq_eq_false_iff_ne]; omega
  have e15 : (a.kind == 15) = false := by rw [beq_eq_false_iff_ne]; omega
  have e16 : (a.kind == 16) = false := by rw [beq_eq_false_iff_ne]; omega
  have e17 : (a.kind == 17) = false := by rw [beq_eq_false_iff_ne]; omega
  have e18 : (a.kind == 18) = false := by rw [beq_eq_false_iff_ne]; omega
  have e19 : (a.kind == 19) = false := by rw [beq_eq_false_iff_ne]; omega
  have e20 : (a.kind == 20) = false := by rw [beq_eq_false_iff_ne]; omega
  have e21 : (a.kind == 21) = true := by rw [beq_iff_eq]; omega
  have e0 : (a.name.toList == b.name.toList) = true := by rw [h, beq_iff_eq]
  clear hna hk hka h
  go_enter Tryz.func31, Tryz.ntmps31
  go_wp2_with (first | (go_at_call 42; (with_reducible refine (CN.out _).mono ?_); rintro e w2 ⟨rfl, rfl⟩))
  exact bodyPost_ret (v := .tuple #[.agg #[.int .i64 0, .string ⟨#[]⟩], .bool false]) (by simp [results, Tryz.results31, go_sem]) rfl ⟨rfl, by (first | (with_reducible exact (below3 _ _ _ _)) | ((with_reducible refine Below.setCell ((below3 _ _ _ _)) ?_ _) <;> (first | exact Nat.le_refl _ | exact Nat.le_add_right _ _ | (dsimp only; omega) | (simp; omega))) | ((with_reducible refine Below.setCell (Below.setCell ((below3 _ _ _ _)) ?_ _) ?_ _) <;> (first | exact Nat.le_refl _ | exact Nat.le_add_right _ _ | (dsimp only; omega) | (simp; omega))) | ((with_reducible refine Below.setCell (Below.setCell (Below.setCell ((below3 _ _ _ _)) ?_ _) ?_ _) ?_ _) <;> (first | exact Nat.le_refl _ | exact Nat.le_add_right _ _ | (dsimp only; omega) | (simp; omega))))⟩

set_option maxHeartbeats 8000000 in
set_option maxRecDepth 100000 in
theorem why_res21_other (a b : Ty) (hna : numK a.kind = false) (hk : a.kind = b.kind) (hka : a.kind = 21) (h : ¬ a.name = b.name) (A B A' B' : Option Addr) (ca cb ca' cb' : Nat) (pt : ByteArray) (w : World) :
    Calls Tryz.prog 31 #[.agg #[.int .i64 a.kind, .string a.name, .slice A a.labels.length ca, .slice B a.kids.length cb], .agg #[.int .i64 b.kind, .string b.name, .slice A' b.labels.length ca', .slice B' b.kids.length cb'], .string pt] w (RsnS (some (6, sE)) pt w) := by
  have CN := (fun W => number_any a.kind W)
  rw [hna] at CN
  have CN := Lib.hid CN
  have x1 : (a.kind == b.kind) = true := by rw [beq_iff_eq]; exact hk
  have x2 : (a.kind != b.kind) = false := by rw [bne_eq_false_iff_eq]; exact hk
  have e12 : (a.kind == 12) = false := by rw [beq_eq_false_iff_ne]; omega
  have e13 : (a.kind == 13) = false := by rw [beq_eq_false_iff_ne]; omega
  have e14 : (a.kind == 14) = false := by rw [beq_eq_false_iff_ne]; omega
  have e15 : (a.kind == 15) = false := by rw [beq_eq_false_iff_ne]; omega
  have e16 : (a.kind == 16) = false := by rw [beq_eq_false_iff_ne]; omega
  have e17 : (a.kind == 17) = false := by rw [beq_eq_false_iff_ne]; omega
  have e18 : (a.kind == 18) = false := by rw [beq_eq_false_iff_ne]; omega
  have e19 : (a.kind == 19) = false := by rw [beq_eq_false_iff_ne]; omega
  have e20 : (a.kind == 20) = false := by rw [beq_eq_false_iff_ne]; omega
  have e21 : (a.kind == 21) = true := by rw [beq_iff_eq]; omega
  have e0 := text_ne h
  have HE : Hid (pt ++ sE = pt) := Lib.hid ByteArray.append_empty
  clear hna hk hka h
  go_enter Tryz.func31, Tryz.ntmps31
  go_wp2_with (first | (go_at_call 42; (with_reducible refine (CN.out _).mono ?_); rintro e w2 ⟨rfl, rfl⟩))
  go_at_call 44
  refine (no_any _ _ _).mono ?_
  rintro e w4 ⟨rfl, hb4⟩
  have r0 := keepCell (a := ⟨w.heap.size + 1 + 1, 0, none⟩) (v := .int .i64 0) hb4 (by go_simp)
  have r1 := keepCell (a := ⟨w.heap.size + 1 + 1, 1, none⟩) (v := .string ⟨#[]⟩) hb4 (by go_simp)
  have rf0 : w4.frozen? ⟨w.heap.size + 1 + 1, 0, none⟩ = false := ((bcell hb4).2 _ _ (by first | (simp; done) | (simp; omega))).trans (by go_simp)
  have rf1 : w4.frozen? ⟨w.heap.size + 1 + 1, 1, none⟩ = false := ((bcell hb4).2 _ _ (by first | (simp; done) | (simp; omega))).trans (by go_simp)
  have HB4 := Lib.hid (bnext (below3 _ _ _ _) hb4)
  clear hb4
  go_wp2_with fail
  exact bodyPost_ret (v := .tuple #[.agg #[.int .i64 6, .string pt], .bool true]) (by simp [results, Tryz.results31, go_sem, r0, r1]) rfl ⟨by show _ = Ending.returned (.tuple #[.agg #[.int .i64 6, .string (pt ++ sE)], .bool true]); rw [HE.out], by (first | (with_reducible exact HB4.out) | ((with_reducible refine Below.setCell (HB4.out) ?_ _) <;> (first | exact Nat.le_refl _ | exact Nat.le_add_right _ _ | (dsimp only; omega) | (simp; omega))) | ((with_reducible refine Below.setCell (Below.setCell (HB4.out) ?_ _) ?_ _) <;> (first | exact Nat.le_refl _ | exact Nat.le_add_right _ _ | (dsimp only; omega) | (simp; omega))) | ((with_reducible refine Below.setCell (Below.setCell (Below.setCell (HB4.out) ?_ _) ?_ _) ?_ _) <;> (first | exact Nat.le_refl _ | exact Nat.le_add_right _ _ | (dsimp only; omega) | (simp; omega))))⟩

set_option maxHeartbeats 8000000 in
set_option maxRecDepth 100000 in
theorem why_none (a b : Ty) (hna : numK a.kind = false) (hk : a.kind = b.kind) (hka : a.kind < 12 ∨ 23 < a.kind) (A B A' B' : Option Addr) (ca cb ca' cb' : Nat) (pt : ByteArray) (w : World) :
    Calls Tryz.prog 31 #[.agg #[.int .i64 a.kind, .string a.name, .slice A a.labels.length ca, .slice B a.kids.length cb], .agg #[.int .i64 b.kind, .string b.name, .slice A' b.labels.length ca', .slice B' b.kids.length cb'], .string pt] w (RsnS (none) pt w) := by
  have CN := (fun W => number_any a.kind W)
  rw [hna] at CN
  have CN := Lib.hid CN
  have x1 : (a.kind == b.kind) = true := by rw [beq_iff_eq]; exact hk
  have x2 : (a.kind != b.kind) = false := by rw [bne_eq_false_iff_eq]; exact hk
  have e12 : (a.kind == 12) = false := by rw [beq_eq_false_iff_ne]; omega
  have e13 : (a.kind == 13) = false := by rw [beq_eq_false_iff_ne]; omega
  have e14 : (a.kind == 14) = false := by rw [beq_eq_false_iff_ne]; omega
  have e15 : (a.kind == 15) = false := by rw [beq_eq_false_iff_ne]; omega
  have e16 : (a.kind == 16) = false := by rw [beq_eq_false_iff_ne]; omega
  have e17 : (a.kind == 17) = false := by rw [beq_eq_false_iff_ne]; omega
  have e18 : (a.kind == 18) = false := by rw [beq_eq_false_iff_ne]; omega
  have e19 : (a.kind == 19) = false := by rw [beq_eq_false_iff_ne]; omega
  have e20 : (a.kind == 20) = false := by rw [beq_eq_false_iff_ne]; omega
  have e21 : (a.kind == 21) = false := by rw [beq_eq_false_iff_ne]; omega
  have e22 : (a.kind == 22) = false := by rw [beq_eq_false_iff_ne]; omega
  have e23 : (a.kind == 23) = false := by rw [beq_eq_false_iff_ne]; omega
  clear hna hk hka
  go_enter Tryz.func31, Tryz.ntmps31
  go_wp2_with (first | (go_at_call 42; (with_reducible refine (CN.out _).mono ?_); rintro e w2 ⟨rfl, rfl⟩))
  exact bodyPost_ret (v := .tuple #[.agg #[.int .i64 0, .string ⟨#[]⟩], .bool false]) (by simp [results, Tryz.results31, go_sem]) rfl ⟨rfl, by (first | (with_reducible exact (below3 _ _ _ _)) | ((with_reducible refine Below.setCell ((below3 _ _ _ _)) ?_ _) <;> (first | exact Nat.le_refl _ | exact Nat.le_add_right _ _ | (dsimp only; omega) | (simp; omega))) | ((with_reducible refine Below.setCell (Below.setCell ((below3 _ _ _ _)) ?_ _) ?_ _) <;> (first | exact Nat.le_refl _ | exact Nat.le_add_right _ _ | (dsimp only; omega) | (simp; omega))) | ((with_reducible refine Below.setCell (Below.setCell (Below.setCell ((below3 _ _ _ _)) ?_ _) ?_ _) ?_ _) <;> (first | exact Nat.le_refl _ | exact Nat.le_add_right _ _ | (dsimp only; omega) | (simp; omega))))⟩

end Go.Proofs.YtifchfecfkdjlaaGreatDoor
