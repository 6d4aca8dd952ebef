/-
  The walks of the model's l08Why: numbers, kinds that differ, lists and options.
-/
import Derived.Test.YtifchfecfkdjlaaGreatDoorMG
import Derived.Test.YtifchfecfkdjlaaGreatDoorML
import Derived.Deep.RegionHeld3
namespace Go.Proofs.YtifchfecfkdjlaaGreatDoor
open Go.ChangeShapes Go.WideShapes Go.ChangeAt Go.RowKit Go.Deep

theorem RsnS.pre {r : Option (Int × ByteArray)} {pt s : ByteArray} {w w' : World} {e : Ending} (h : RsnS r (pt ++ s) w e w') : RsnS (preR s r) pt w e w' := by
  unfold RsnS at *
  rw [rk_pre, rp_pre, some_pre]
  exact h

set_option maxHeartbeats 8000000 in
set_option maxRecDepth 100000 in
theorem why_num (a b : Ty) (hna : numK a.kind = true) (hnb : numK b.kind = true) (A B A' B' : Option Addr) (ca cb ca' cb' : Nat) (pt : ByteArray) (w : World) :
    Calls Tryz.prog 31 #[.agg #[.int .i64 a.kind, .string a.name, .slice A a.labels.length ca, .slice B a.kids.length cb], .agg #[.int .i64 b.kind, .string b.name, .slice A' b.labels.length ca', .slice B' b.kids.length cb'], .string pt] w (RsnS (if numIn a.kind b.kind = true then none else some (2, sE)) pt w) := by
  have CN := (fun W => number_any a.kind W)
  have CM := (fun W => number_any b.kind W)
  rw [hna] at CN
  rw [hnb] at CM
  have CN := Lib.hid CN
  have CM := Lib.hid CM
  have CI := (fun W => within_any a.kind b.kind W)
  have hE : pt ++ sE = pt := ByteArray.append_empty
  have HE := Lib.hid hE
  clear hE hna hnb
  cases hi : numIn a.kind b.kind with
  | true =>
    rw [hi] at CI
    have CI := Lib.hid CI
    rw [if_pos rfl]
    clear hi
    go_enter Tryz.func31, Tryz.ntmps31
    go_wp2_with (first | (go_at_call 42; (with_reducible refine (CN.out _).mono ?_); rintro e w2 ⟨rfl, rfl⟩) | (go_at_call 42; (with_reducible refine (CM.out _).mono ?_); rintro e w2 ⟨rfl, rfl⟩))
    go_at_call 43
    refine (CI.out _).mono ?_
    rintro e w3 ⟨rfl, hb3⟩
    have r0 := keepCell (a := ⟨w.heap.size + 1 + 1, 0, none⟩) (v := .int .i64 0) hb3 (by go_simp)
    have r1 := keepCell (a := ⟨w.heap.size + 1 + 1, 1, none⟩) (v := .string ⟨#[]⟩) hb3 (by go_simp)
    have rf0 : w3.frozen? ⟨w.heap.size + 1 + 1, 0, none⟩ = false := ((bcell hb3).2 _ _ (by first | (simp; done) | (simp; omega))).trans (by go_simp)
    have rf1 : w3.frozen? ⟨w.heap.size + 1 + 1, 1, none⟩ = false := ((bcell hb3).2 _ _ (by first | (simp; done) | (simp; omega))).trans (by go_simp)
    have HB3 := Lib.hid (bnext (below3 _ _ _ _) hb3)
    clear hb3 HE
    go_wp2_with fail
    exact bodyPost_ret (v := .tuple #[.agg #[.int .i64 0, .string ⟨#[]⟩], .bool false]) (by simp [results, Tryz.results31, go_sem, r0, r1]) rfl ⟨rfl, by (first | (with_reducible exact HB3.out) | ((with_reducible refine Below.setCell (HB3.out) ?_ _) <;> (first | exact Nat.le_refl _ | exact Nat.le_add_right _ _ | (dsimp only; omega) | (simp; omega))) | ((with_reducible refine Below.setCell (Below.setCell (HB3.out) ?_ _) ?_ _) <;> (first | exact Nat.le_refl _ | exact Nat.le_add_right _ _ | (dsimp only; omega) | (simp; omega))) | ((with_reducible refine Below.setCell (Below.setCell (Below.setCell (HB3.out) ?_ _) ?_ _) ?_ _) <;> (first | exact Nat.le_refl _ | exact Nat.le_add_right _ _ | (dsimp only; omega) | (simp; omega))))⟩
  | false =>
    rw [hi] at CI
    have CI := Lib.hid CI
    rw [if_neg (by simp)]
    clear hi
    go_enter Tryz.func31, Tryz.ntmps31
    go_wp2_with (first | (go_at_call 42; (with_reducible refine (CN.out _).mono ?_); rintro e w2 ⟨rfl, rfl⟩) | (go_at_call 42; (with_reducible refine (CM.out _).mono ?_); rintro e w2 ⟨rfl, rfl⟩))
    go_at_call 43
    refine (CI.out _).mono ?_
    rintro e w3 ⟨rfl, hb3⟩
    have r0 := keepCell (a := ⟨w.heap.size + 1 + 1, 0, none⟩) (v := .int .i64 0) hb3 (by go_simp)
    have r1 := keepCell (a := ⟨w.heap.size + 1 + 1, 1, none⟩) (v := .string ⟨#[]⟩) hb3 (by go_simp)
    have rf0 : w3.frozen? ⟨w.heap.size + 1 + 1, 0, none⟩ = false := ((bcell hb3).2 _ _ (by first | (simp; done) | (simp; omega))).trans (by go_simp)
    have rf1 : w3.frozen? ⟨w.heap.size + 1 + 1, 1, none⟩ = false := ((bcell hb3).2 _ _ (by first | (simp; done) | (simp; omega))).trans (by go_simp)
    have hz : w.heap.size + 1 + 1 < w3.heap.size := World.block_lt_of_cell? w3 _ r0
    have HB3 := Lib.hid (bnext (below3 _ _ _ _) hb3)
    clear hb3
    go_wp2_with fail
    go_at_call 44
    refine (no_any _ _ _).mono ?_
    rintro e w4 ⟨rfl, hb4⟩
    replace r0 := keepCell hb4 r0; replace r1 := keepCell hb4 r1
    replace rf0 : w4.frozen? ⟨w.heap.size + 1 + 1, 0, none⟩ = false := ((bcell hb4).2 _ _ hz).trans rf0
    replace rf1 : w4.frozen? ⟨w.heap.size + 1 + 1, 1, none⟩ = false := ((bcell hb4).2 _ _ hz).trans rf1
    have HB4 := Lib.hid (bnext HB3.out hb4)
    clear hb4
    go_wp2_with fail
    exact bodyPost_ret (v := .tuple #[.agg #[.int .i64 2, .string pt], .bool true]) (by simp [results, Tryz.results31, go_sem, r0, r1]) rfl ⟨by show _ = Ending.returned (.tuple #[.agg #[.int .i64 2, .string (pt ++ sE)], .bool true]); rw [HE.out], by (first | (with_reducible exact HB4.out) | ((with_reducible refine Below.setCell (HB4.out) ?_ _) <;> (first | exact Nat.le_refl _ | exact Nat.le_add_right _ _ | (dsimp only; omega) | (simp; omega))) | ((with_reducible refine Below.setCell (Below.setCell (HB4.out) ?_ _) ?_ _) <;> (first | exact Nat.le_refl _ | exact Nat.le_add_right _ _ | (dsimp only; omega) | (simp; omega))) | ((with_reducible refine Below.setCell (Below.setCell (Below.setCell (HB4.out) ?_ _) ?_ _) ?_ _) <;> (first | exact Nat.le_refl _ | exact Nat.le_add_right _ _ | (dsimp only; omega) | (simp; omega))))⟩

set_option maxHeartbeats 8000000 in
set_option maxRecDepth 100000 in
theorem why_kind_ff (a b : Ty) (hna : numK a.kind = false) (hnb : numK b.kind = false) (hk : ¬ a.kind = b.kind) (A B A' B' : Option Addr) (ca cb ca' cb' : Nat) (pt : ByteArray) (w : World) :
    Calls Tryz.prog 31 #[.agg #[.int .i64 a.kind, .string a.name, .slice A a.labels.length ca, .slice B a.kids.length cb], .agg #[.int .i64 b.kind, .string b.name, .slice A' b.labels.length ca', .slice B' b.kids.length cb'], .string pt] w (RsnS (some (1, sE)) pt w) := by
  have CN := (fun W => number_any a.kind W)
  have CM := (fun W => number_any b.kind W)
  rw [hna] at CN
  rw [hnb] at CM
  have CN := Lib.hid CN
  have CM := Lib.hid CM
  have hE : pt ++ sE = pt := ByteArray.append_empty
  have HE := Lib.hid hE
  have x1 : (a.kind == b.kind) = false := by rw [beq_eq_false_iff_ne]; exact hk
  have x2 : (a.kind != b.kind) = true := by rw [bne_iff_ne]; exact hk
  clear hE hna hnb hk
  go_enter Tryz.func31, Tryz.ntmps31
  go_wp2_with (first | (go_at_call 42; (with_reducible refine (CN.out _).mono ?_); rintro e w2 ⟨rfl, rfl⟩) | (go_at_call 42; (with_reducible refine (CM.out _).mono ?_); rintro e w2 ⟨rfl, rfl⟩))
  go_at_call 44
  refine (no_any _ _ _).mono ?_
  rintro e w4 ⟨rfl, hb4⟩
  have r0 := keepCell (a := ⟨w.heap.size + 1 + 1, 0, none⟩) (v := .int .i64 0) hb4 (by go_simp)
  have r1 := keepCell (a := ⟨w.heap.size + 1 + 1, 1, none⟩) (v := .string ⟨#[]⟩) hb4 (by go_simp)
  have rf0 : w4.frozen? ⟨w.heap.size + 1 + 1, 0, none⟩ = false := ((bcell hb4).2 _ _ (by first | (simp; done) | (simp; omega))).trans (by go_simp)
  have rf1 : w4.frozen? ⟨w.heap.size + 1 + 1, 1, none⟩ = false := ((bcell hb4).2 _ _ (by first | (simp; done) | (simp; omega))).trans (by go_simp)
  have HB4 := Lib.hid (bnext (below3 _ _ _ _) hb4)
  clear hb4
  go_wp2_with fail
  exact bodyPost_ret (v := .tuple #[.agg #[.int .i64 1, .string pt], .bool true]) (by simp [results, Tryz.results31, go_sem, r0, r1]) rfl ⟨by show _ = Ending.returned (.tuple #[.agg #[.int .i64 1, .string (pt ++ sE)], .bool true]); rw [HE.out], by (first | (with_reducible exact HB4.out) | ((with_reducible refine Below.setCell (HB4.out) ?_ _) <;> (first | exact Nat.le_refl _ | exact Nat.le_add_right _ _ | (dsimp only; omega) | (simp; omega))) | ((with_reducible refine Below.setCell (Below.setCell (HB4.out) ?_ _) ?_ _) <;> (first | exact Nat.le_refl _ | exact Nat.le_add_right _ _ | (dsimp only; omega) | (simp; omega))) | ((with_reducible refine Below.setCell (Below.setCell (Below.setCell (HB4.out) ?_ _) ?_ _) ?_ _) <;> (first | exact Nat.le_refl _ | exact Nat.le_add_right _ _ | (dsimp only; omega) | (simp; omega))))⟩

set_option maxHeartbeats 8000000 in
set_option maxRecDepth 100000 in
theorem why_kind_tf (a b : Ty) (hna : numK a.kind = true) (hnb : numK b.kind = false) (hk : ¬ a.kind = b.kind) (A B A' B' : Option Addr) (ca cb ca' cb' : Nat) (pt : ByteArray) (w : World) :
    Calls Tryz.prog 31 #[.agg #[.int .i64 a.kind, .string a.name, .slice A a.labels.length ca, .slice B a.kids.length cb], .agg #[.int .i64 b.kind, .string b.name, .slice A' b.labels.length ca', .slice B' b.kids.length cb'], .string pt] w (RsnS (some (1, sE)) pt w) := by
  have CN := (fun W => number_any a.kind W)
  have CM := (fun W => number_any b.kind W)
  rw [hna] at CN
  rw [hnb] at CM
  have CN := Lib.hid CN
  have CM := Lib.hid CM
  have hE : pt ++ sE = pt := ByteArray.append_empty
  have HE := Lib.hid hE
  have x1 : (a.kind == b.kind) = false := by rw [beq_eq_false_iff_ne]; exact hk
  have x2 : (a.kind != b.kind) = true := by rw [bne_iff_ne]; exact hk
  clear hE hna hnb hk
  go_enter Tryz.func31, Tryz.ntmps31
  go_wp2_with (first | (go_at_call 42; (with_reducible refine (CN.out _).mono ?_); rintro e w2 ⟨rfl, rfl⟩) | (go_at_call 42; (with_reducible refine (CM.out _).mono ?_); rintro e w2 ⟨rfl, rfl⟩))
  go_at_call 44
  refine (no_any _ _ _).mono ?_
  rintro e w4 ⟨rfl, hb4⟩
  have r0 := keepCell (a := ⟨w.heap.size + 1 + 1, 0, none⟩) (v := .int .i64 0) hb4 (by go_simp)
  have r1 := keepCell (a := ⟨w.heap.size + 1 + 1, 1, none⟩) (v := .string ⟨#[]⟩) hb4 (by go_simp)
  have rf0 : w4.frozen? ⟨w.heap.size + 1 + 1, 0, none⟩ = false := ((bcell hb4).2 _ _ (by first | (simp; done) | (simp; omega))).trans (by go_simp)
  have rf1 : w4.frozen? ⟨w.heap.size + 1 + 1, 1, none⟩ = false := ((bcell hb4).2 _ _ (by first | (simp; done) | (simp; omega))).trans (by go_simp)
  have HB4 := Lib.hid (bnext (below3 _ _ _ _) hb4)
  clear hb4
  go_wp2_with fail
  exact bodyPost_ret (v := .tuple #[.agg #[.int .i64 1, .string pt], .bool true]) (by simp [results, Tryz.results31, go_sem, r0, r1]) rfl ⟨by show _ = Ending.returned (.tuple #[.agg #[.int .i64 1, .string (pt ++ sE)], .bool true]); rw [HE.out], by (first | (with_reducible exact HB4.out) | ((with_reducible refine Below.setCell (HB4.out) ?_ _) <;> (first | exact Nat.le_refl _ | exact Nat.le_add_right _ _ | (dsimp only; omega) | (simp; omega))) | ((with_reducible refine Below.setCell (Below.setCell (HB4.out) ?_ _) ?_ _) <;> (first | exact Nat.le_refl _ | exact Nat.le_add_right _ _ | (dsimp only; omega) | (simp; omega))) | ((with_reducible refine Below.setCell (Below.setCell (Below.setCell (HB4.out) ?_ _) ?_ _) ?_ _) <;> (first | exact Nat.le_refl _ | exact Nat.le_add_right _ _ | (dsimp only; omega) | (simp; omega))))⟩

set_option maxHeartbeats 8000000 in
set_option maxRecDepth 100000 in
theorem why_kind_ft (a b : Ty) (hna : numK a.kind = false) (hnb : numK b.kind = true) (hk : ¬ a.kind = b.kind) (A B A' B' : Option Addr) (ca cb ca' cb' : Nat) (pt : ByteArray) (w : World) :
    Calls Tryz.prog 31 #[.agg #[.int .i64 a.kind, .string a.name, .slice A a.labels.length ca, .slice B a.kids.length cb], .agg #[.int .i64 b.kind, .string b.name, .slice A' b.labels.length ca', .slice B' b.kids.length cb'], .string pt] w (RsnS (some (1, sE)) pt w) := by
  have CN := (fun W => number_any a.kind W)
  have CM := (fun W => number_any b.kind W)
  rw [hna] at CN
  rw [hnb] at CM
  have CN := Lib.hid CN
  have CM := Lib.hid CM
  have hE : pt ++ sE = pt := ByteArray.append_empty
  have HE := Lib.hid hE
  have x1 : (a.kind == b.kind) = false := by rw [beq_eq_false_iff_ne]; exact hk
  have x2 : (a.kind != b.kind) = true := by rw [bne_iff_ne]; exact hk
  clear hE hna hnb hk
  go_enter Tryz.func31, Tryz.ntmps31
  go_wp2_with (first | (go_at_call 42; (with_reducible refine (CN.out _).mono ?_); rintro e w2 ⟨rfl, rfl⟩) | (go_at_call 42; (with_reducible refine (CM.out _).mono ?_); rintro e w2 ⟨rfl, rfl⟩))
  go_at_call 44
  refine (no_any _ _ _).mono ?_
  rintro e w4 ⟨rfl, hb4⟩
  have r0 := keepCell (a := ⟨w.heap.size + 1 + 1, 0, none⟩) (v := .int .i64 0) hb4 (by go_simp)
  have r1 := keepCell (a := ⟨w.heap.size + 1 + 1, 1, none⟩) (v := .string ⟨#[]⟩) hb4 (by go_simp)
  have rf0 : w4.frozen? ⟨w.heap.size + 1 + 1, 0, none⟩ = false := ((bcell hb4).2 _ _ (by first | (simp; done) | (simp; omega))).trans (by go_simp)
  have rf1 : w4.frozen? ⟨w.heap.size + 1 + 1, 1, none⟩ = false := ((bcell hb4).2 _ _ (by first | (simp; done) | (simp; omega))).trans (by go_simp)
  have HB4 := Lib.hid (bnext (below3 _ _ _ _) hb4)
  clear hb4
  go_wp2_with fail
  exact bodyPost_ret (v := .tuple #[.agg #[.int .i64 1, .string pt], .bool true]) (by simp [results, Tryz.results31, go_sem, r0, r1]) rfl ⟨by show _ = Ending.returned (.tuple #[.agg #[.int .i64 1, .string (pt ++ sE)], .bool true]); rw [HE.out], by (first | (with_reducible exact HB4.out) | ((with_reducible refine Below.setCell (HB4.out) ?_ _) <;> (first | exact Nat.le_refl _ | exact Nat.le_add_right _ _ | (dsimp only; omega) | (simp; omega))) | ((with_reducible refine Below.setCell (Below.setCell (HB4.out) ?_ _) ?_ _) <;> (first | exact Nat.le_refl _ | exact Nat.le_add_right _ _ | (dsimp only; omega) | (simp; omega))) | ((with_reducible refine Below.setCell (Below.setCell (Below.setCell (HB4.out) ?_ _) ?_ _) ?_ _) <;> (first | exact Nat.le_refl _ | exact Nat.le_add_right _ _ | (dsimp only; omega) | (simp; omega))))⟩

set_option maxHeartbeats 8000000 in
set_option maxRecDepth 100000 in
theorem why_list (n : Nat) (hn : n ≤ 3) (SP : SpTy n) (a b : Ty) (ga : Gd (n + 1) a) (gb : Gd (n + 1) b) (hna : numK a.kind = false) (hk : a.kind = b.kind) (hka : a.kind = 12) (A B A' B' : Option Addr) (ca cb ca' cb' : Nat) (lo lo' : Nat) (pt : ByteArray) (hpt : pt.size + (n + 1) * 1048577 ≤ 100000000) (w : World) (hat : Ty.At w lo a A B) (hbt : Ty.At w lo' b A' B') :
    Calls Tryz.prog 31 #[.agg #[.int .i64 a.kind, .string a.name, .slice A a.labels.length ca, .slice B a.kids.length cb], .agg #[.int .i64 b.kind, .string b.name, .slice A' b.labels.length ca', .slice B' b.kids.length cb'], .string pt] w (RsnS (kidR (Ty.why n) a.kids b.kids 0 0 sList) pt w) := by
  have la := ga.shape.one (by omega)
  have lb := gb.shape.one (by omega)
  obtain ⟨x, hx⟩ : ∃ x, a.kids[0]? = some x := ⟨_, List.getElem?_eq_getElem (by omega)⟩
  obtain ⟨y, hy⟩ : ∃ y, b.kids[0]? = some y := ⟨_, List.getElem?_eq_getElem (by omega)⟩
  rw [kidR_eq hx hy]
  have CW : ∀ (A1 B1 A2 B2 : Option Addr) (c1 d1 c2 d2 : Nat) (W : World), Ty.At W lo x A1 B1 → Ty.At W lo' y A2 B2 → Calls Tryz.prog 31 #[.agg #[.int .i64 x.kind, .string x.name, .slice A1 x.labels.length c1, .slice B1 x.kids.length d1], .agg #[.int .i64 y.kind, .string y.name, .slice A2 y.labels.length c2, .slice B2 y.kids.length d2], .string (pt ++ ⟨#[91, 93]⟩)] W (RsnS (Ty.why n x y) (pt ++ ⟨#[91, 93]⟩) W) := fun A1 B1 A2 B2 c1 d1 c2 d2 W h1 h2 => SP x y (ga.kid hx) (gb.kid hy) A1 B1 A2 B2 c1 d1 c2 d2 lo lo' _ (by rw [appS_size]; have : (⟨#[91, 93]⟩ : ByteArray).size ≤ 4 := (by decide); omega) W h1 h2
  have HRA := Lib.hid hat.rowAt
  have HRB := Lib.hid hbt.rowAt
  have hps : pt.size ≤ 100000000 := by omega
  have hsa : ¬ 9223372036854775807 < pt.size + (⟨#[91, 93]⟩ : ByteArray).size := by have : (⟨#[91, 93]⟩ : ByteArray).size ≤ 4 := (by decide); omega
  have hsb : ¬ 9223372036854775807 < pt.size + 2 := by omega
  have qa_ : 0 < a.kids.length := by omega
  have qb_ : 0 < b.kids.length := by omega
  obtain ⟨b1, o1, x', A1, B1, c1, d1, rfl, _, hx', hc⟩ := HRA.out.at_ (k := 0) qa_
  obtain ⟨b2, o2, y', A2, B2, c2, d2, rfl, _, hy', hd⟩ := HRB.out.at_ (k := 0) qb_
  obtain rfl : x = x' := Option.some.inj (hx.symm.trans hx')
  obtain rfl : y = y' := Option.some.inj (hy.symm.trans hy')
  have HX := Lib.hid hc.tree
  have HY := Lib.hid hd.tree
  have l1 : b1 < w.heap.size := World.block_lt_of_cell? w _ hc.kind
  have l2 : b2 < w.heap.size := World.block_lt_of_cell? w _ hd.kind
  obtain ⟨c0, c1h, c2h, c3, _⟩ := hc
  obtain ⟨e0, e1, e2, e3, _⟩ := hd
  simp only [Nat.zero_mul, Nat.add_zero] at c0 c1h c2h c3 e0 e1 e2 e3
  have C := Lib.hid (CW A1 B1 A2 B2 c1 d1 c2 d2)
  have CN := (fun W => number_any a.kind W)
  rw [hna] at CN
  have CN := Lib.hid CN
  have x1 : (a.kind == b.kind) = true := by rw [beq_iff_eq]; exact hk
  have x2 : (a.kind != b.kind) = false := by rw [bne_eq_false_iff_eq]; exact hk
  have e12 : (a.kind == 12) = true := by rw [beq_iff_eq]; omega
  suffices hS : Calls Tryz.prog 31 #[.agg #[.int .i64 a.kind, .string a.name, .slice A a.labels.length ca, .slice (some ⟨b1, o1, none⟩) a.kids.length cb], .agg #[.int .i64 b.kind, .string b.name, .slice A' b.labels.length ca', .slice (some ⟨b2, o2, none⟩) b.kids.length cb'], .string pt] w (RsnS (Ty.why n x y) (pt ++ ⟨#[91, 93]⟩) w) from hS.mono fun _ _ h => h.pre
  generalize Ty.why n x y = R at *
  clear SP ga gb hat hbt hn hka la lb hx hy hx' hy' CW hpt hna hk HRA HRB
  go_enter Tryz.func31, Tryz.ntmps31
  go_wp2_with (first | (go_at_call 42; (with_reducible refine (CN.out _).mono ?_); rintro e w2 ⟨rfl, rfl⟩))
  obtain ⟨W, hW, hb, a0_, a1_, a2_, a3_, b0_, b1_, b2_, b3_, r0, r1, rf0, rf1⟩ : ∃ W, (((w.alloc (.cells #[.int .i64 a.kind, .string a.name, .slice A a.labels.length ca, .slice (some ⟨b1, o1, none⟩) a.kids.length cb] 30)).alloc (.cells #[.int .i64 b.kind, .string b.name, .slice A' b.labels.length ca', .slice (some ⟨b2, o2, none⟩) b.kids.length cb'] 30)).alloc (.cells #[.int .i64 0, .string ⟨#[]⟩] 34)) = W ∧ Below w.heap.size w W ∧ W.cell? ⟨w.heap.size, 0, none⟩ = some (.int .i64 a.kind) ∧ W.cell? ⟨w.heap.size, 1, none⟩ = some (.string a.name) ∧ W.cell? ⟨w.heap.size, 2, none⟩ = some (.slice A a.labels.length ca) ∧ W.cell? ⟨w.heap.size, 3, none⟩ = some (.slice (some ⟨b1, o1, none⟩) a.kids.length cb) ∧ W.cell? ⟨w.heap.size + 1, 0, none⟩ = some (.int .i64 b.kind) ∧ W.cell? ⟨w.heap.size + 1, 1, none⟩ = some (.string b.name) ∧ W.cell? ⟨w.heap.size + 1, 2, none⟩ = some (.slice A' b.labels.length ca') ∧ W.cell? ⟨w.heap.size + 1, 3, none⟩ = some (.slice (some ⟨b2, o2, none⟩) b.kids.length cb') ∧ W.cell? ⟨w.heap.size + 1 + 1, 0, none⟩ = some (.int .i64 0) ∧ W.cell? ⟨w.heap.size + 1 + 1, 1, none⟩ = some (.string ⟨#[]⟩) ∧ W.frozen? ⟨w.heap.size + 1 + 1, 0, none⟩ = false ∧ W.frozen? ⟨w.heap.size + 1 + 1, 1, none⟩ = false := ⟨_, rfl, below3 _ _ _ _, by go_simp, by go_simp, by go_simp, by go_simp, by go_simp, by go_simp, by go_simp, by go_simp, by go_simp, by go_simp, by go_simp, by go_simp⟩
  rw [hW]
  have hz : w.heap.size + 1 + 1 < W.heap.size := World.block_lt_of_cell? W _ r0
  replace c0 := keepCell hb c0; replace c1h := keepCell hb c1h; replace c2h := keepCell hb c2h; replace c3 := keepCell hb c3; replace e0 := keepCell hb e0; replace e1 := keepCell hb e1; replace e2 := keepCell hb e2; replace e3 := keepCell hb e3
  replace HX := Lib.hid (HX.out.below hb)
  replace HY := Lib.hid (HY.out.below hb)
  have HB := Lib.hid hb
  clear hW hb
  go_region_held3 (fun w' => w'.cell? ⟨w.heap.size, 3, none⟩ = some (.slice (some ⟨b1, o1, none⟩) a.kids.length cb) ∧ w'.cell? ⟨w.heap.size + 1, 3, none⟩ = some (.slice (some ⟨b2, o2, none⟩) b.kids.length cb') ∧ w'.cell? ⟨b1, o1, none⟩ = some (.int .i64 x.kind) ∧ w'.cell? ⟨b1, o1 + 1, none⟩ = some (.string x.name) ∧ w'.cell? ⟨b1, o1 + 2, none⟩ = some (.slice A1 x.labels.length c1) ∧ w'.cell? ⟨b1, o1 + 3, none⟩ = some (.slice B1 x.kids.length d1) ∧ w'.cell? ⟨b2, o2, none⟩ = some (.int .i64 y.kind) ∧ w'.cell? ⟨b2, o2 + 1, none⟩ = some (.string y.name) ∧ w'.cell? ⟨b2, o2 + 2, none⟩ = some (.slice A2 y.labels.length c2) ∧ w'.cell? ⟨b2, o2 + 3, none⟩ = some (.slice B2 y.kids.length d2))
    (first | assumption | (with_reducible exact ⟨a3_, b3_, c0, c1h, c2h, c3, e0, e1, e2, e3⟩) | (refine ⟨?_, ?_, ?_, ?_, ?_, ?_, ?_, ?_, ?_, ?_⟩ <;> first | assumption | (exact (cells_far2 (by omega)).trans (by assumption))))
    (first | (go_at_call 31; refine (C.out _ (HX.out.below (Below.refl _ _).drew) (HY.out.below (Below.refl _ _).drew)).mono ?_; rintro e w4 ⟨rfl, hb4⟩; have hbw : Below W.heap.size W w4 := (Below.refl W.heap.size W).drew.trans hb4; have ua3_ := keepCell hbw a3_; have ub3_ := keepCell hbw b3_; have uc0 := keepCell hbw c0; have uc1h := keepCell hbw c1h; have uc2h := keepCell hbw c2h; have uc3 := keepCell hbw c3; have ue0 := keepCell hbw e0; have ue1 := keepCell hbw e1; have ue2 := keepCell hbw e2; have ue3 := keepCell hbw e3; have ua0_ := keepCell hbw a0_; have ua1_ := keepCell hbw a1_; have ua2_ := keepCell hbw a2_; have ub0_ := keepCell hbw b0_; have ub1_ := keepCell hbw b1_; have ub2_ := keepCell hbw b2_; have ur0 := keepCell hbw r0; have ur1 := keepCell hbw r1; have urf0 : w4.frozen? ⟨w.heap.size + 1 + 1, 0, none⟩ = false := ((bcell hbw).2 _ _ hz).trans rf0; have urf1 : w4.frozen? ⟨w.heap.size + 1 + 1, 1, none⟩ = false := ((bcell hbw).2 _ _ hz).trans rf1))
  go_wp2_with fail
  exact bodyPost_ret (v := .tuple #[.agg #[.int .i64 (rk R), .string (rp (pt ++ ⟨#[91, 93]⟩) R)], .bool R.isSome]) (by simp [results, Tryz.results31, go_sem, ur0, ur1]) rfl ⟨rfl, by (first | (with_reducible exact (bnext HB.out hbw)) | ((with_reducible refine Below.setCell ((bnext HB.out hbw)) ?_ _) <;> (first | exact Nat.le_refl _ | exact Nat.le_add_right _ _ | (dsimp only; omega) | (simp; omega))) | ((with_reducible refine Below.setCell (Below.setCell ((bnext HB.out hbw)) ?_ _) ?_ _) <;> (first | exact Nat.le_refl _ | exact Nat.le_add_right _ _ | (dsimp only; omega) | (simp; omega))) | ((with_reducible refine Below.setCell (Below.setCell (Below.setCell ((bnext HB.out hbw)) ?_ _) ?_ _) ?_ _) <;> (first | exact Nat.le_refl _ | exact Nat.le_add_right _ _ | (dsimp only; omega) | (simp; omega))))⟩

set_option maxHeartbeats 8000000 in
set_option maxRecDepth 100000 in
theorem why_option (n : Nat) (hn : n ≤ 3) (SP : SpTy n) (a b : Ty) (ga : Gd (n + 1) a) (gb : Gd (n + 1) b) (hna : numK a.kind = false) (hk : a.kind = b.kind) (hka : a.kind = 13) (A B A' B' : Option Addr) (ca cb ca' cb' : Nat) (lo lo' : Nat) (pt : ByteArray) (hpt : pt.size + (n + 1) * 1048577 ≤ 100000000) (w : World) (hat : Ty.At w lo a A B) (hbt : Ty.At w lo' b A' B') :
    Calls Tryz.prog 31 #[.agg #[.int .i64 a.kind, .string a.name, .slice A a.labels.length ca, .slice B a.kids.length cb], .agg #[.int .i64 b.kind, .string b.name, .slice A' b.labels.length ca', .slice B' b.kids.length cb'], .string pt] w (RsnS (kidR (Ty.why n) a.kids b.kids 0 0 sOpt) pt w) := by
  have la := ga.shape.one (by omega)
  have lb := gb.shape.one (by omega)
  obtain ⟨x, hx⟩ : ∃ x, a.kids[0]? = some x := ⟨_, List.getElem?_eq_getElem (by omega)⟩
  obtain ⟨y, hy⟩ : ∃ y, b.kids[0]? = some y := ⟨_, List.getElem?_eq_getElem (by omega)⟩
  rw [kidR_eq hx hy]
  have CW : ∀ (A1 B1 A2 B2 : Option Addr) (c1 d1 c2 d2 : Nat) (W : World), Ty.At W lo x A1 B1 → Ty.At W lo' y A2 B2 → Calls Tryz.prog 31 #[.agg #[.int .i64 x.kind, .string x.name, .slice A1 x.labels.length c1, .slice B1 x.kids.length d1], .agg #[.int .i64 y.kind, .string y.name, .slice A2 y.labels.length c2, .slice B2 y.kids.length d2], .string (pt ++ ⟨#[63]⟩)] W (RsnS (Ty.why n x y) (pt ++ ⟨#[63]⟩) W) := fun A1 B1 A2 B2 c1 d1 c2 d2 W h1 h2 => SP x y (ga.kid hx) (gb.kid hy) A1 B1 A2 B2 c1 d1 c2 d2 lo lo' _ (by rw [appS_size]; have : (⟨#[63]⟩ : ByteArray).size ≤ 4 := (by decide); omega) W h1 h2
  have HRA := Lib.hid hat.rowAt
  have HRB := Lib.hid hbt.rowAt
  have hps : pt.size ≤ 100000000 := by omega
  have hsa : ¬ 9223372036854775807 < pt.size + (⟨#[63]⟩ : ByteArray).size := by have : (⟨#[63]⟩ : ByteArray).size ≤ 4 := (by decide); omega
  have hsb : ¬ 9223372036854775807 < pt.size + 1 := by omega
  have qa_ : 0 < a.kids.length := by omega
  have qb_ : 0 < b.kids.length := by omega
  obtain ⟨b1, o1, x', A1, B1, c1, d1, rfl, _, hx', hc⟩ := HRA.out.at_ (k := 0) qa_
  obtain ⟨b2, o2, y', A2, B2, c2, d2, rfl, _, hy', hd⟩ := HRB.out.at_ (k := 0) qb_
  obtain rfl : x = x' := Option.some.inj (hx.symm.trans hx')
  obtain rfl : y = y' := Option.some.inj (hy.symm.trans hy')
  have HX := Lib.hid hc.tree
  have HY := Lib.hid hd.tree
  have l1 : b1 < w.heap.size := World.block_lt_of_cell? w _ hc.kind
  have l2 : b2 < w.heap.size := World.block_lt_of_cell? w _ hd.kind
  obtain ⟨c0, c1h, c2h, c3, _⟩ := hc
  obtain ⟨e0, e1, e2, e3, _⟩ := hd
  simp only [Nat.zero_mul, Nat.add_zero] at c0 c1h c2h c3 e0 e1 e2 e3
  have C := Lib.hid (CW A1 B1 A2 B2 c1 d1 c2 d2)
  have CN := (fun W => number_any a.kind W)
  rw [hna] at CN
  have CN := Lib.hid CN
  have x1 : (a.kind == b.kind) = true := by rw [beq_iff_eq]; exact hk
  have x2 : (a.kind != b.kind) = false := by rw [bne_eq_false_iff_eq]; exact hk
  have e12 : (a.kind == 12) = false := by rw [beq_eq_false_iff_ne]; omega
  have e13 : (a.kind == 13) = true := by rw [beq_iff_eq]; omega
  suffices hS : Calls Tryz.prog 31 #[.agg #[.int .i64 a.kind, .string a.name, .slice A a.labels.length ca, .slice (some ⟨b1, o1, none⟩) a.kids.length cb], .agg #[.int .i64 b.kind, .string b.name, .slice A' b.labels.length ca', .slice (some ⟨b2, o2, none⟩) b.kids.length cb'], .string pt] w (RsnS (Ty.why n x y) (pt ++ ⟨#[63]⟩) w) from hS.mono fun _ _ h => h.pre
  generalize Ty.why n x y = R at *
  clear SP ga gb hat hbt hn hka la lb hx hy hx' hy' CW hpt hna hk HRA HRB
  go_enter Tryz.func31, Tryz.ntmps31
  go_wp2_with (first | (go_at_call 42; (with_reducible refine (CN.out _).mono ?_); rintro e w2 ⟨rfl, rfl⟩))
  obtain ⟨W, hW, hb, a0_, a1_, a2_, a3_, b0_, b1_, b2_, b3_, r0, r1, rf0, rf1⟩ : ∃ W, (((w.alloc (.cells #[.int .i64 a.kind, .string a.name, .slice A a.labels.length ca, .slice (some ⟨b1, o1, none⟩) a.kids.length cb] 30)).alloc (.cells #[.int .i64 b.kind, .string b.name, .slice A' b.labels.length ca', .slice (some ⟨b2, o2, none⟩) b.kids.length cb'] 30)).alloc (.cells #[.int .i64 0, .string ⟨#[]⟩] 34)) = W ∧ Below w.heap.size w W ∧ W.cell? ⟨w.heap.size, 0, none⟩ = some (.int .i64 a.kind) ∧ W.cell? ⟨w.heap.size, 1, none⟩ = some (.string a.name) ∧ W.cell? ⟨w.heap.size, 2, none⟩ = some (.slice A a.labels.length ca) ∧ W.cell? ⟨w.heap.size, 3, none⟩ = some (.slice (some ⟨b1, o1, none⟩) a.kids.length cb) ∧ W.cell? ⟨w.heap.size + 1, 0, none⟩ = some (.int .i64 b.kind) ∧ W.cell? ⟨w.heap.size + 1, 1, none⟩ = some (.string b.name) ∧ W.cell? ⟨w.heap.size + 1, 2, none⟩ = some (.slice A' b.labels.length ca') ∧ W.cell? ⟨w.heap.size + 1, 3, none⟩ = some (.slice (some ⟨b2, o2, none⟩) b.kids.length cb') ∧ W.cell? ⟨w.heap.size + 1 + 1, 0, none⟩ = some (.int .i64 0) ∧ W.cell? ⟨w.heap.size + 1 + 1, 1, none⟩ = some (.string ⟨#[]⟩) ∧ W.frozen? ⟨w.heap.size + 1 + 1, 0, none⟩ = false ∧ W.frozen? ⟨w.heap.size + 1 + 1, 1, none⟩ = false := ⟨_, rfl, below3 _ _ _ _, by go_simp, by go_simp, by go_simp, by go_simp, by go_simp, by go_simp, by go_simp, by go_simp, by go_simp, by go_simp, by go_simp, by go_simp⟩
  rw [hW]
  have hz : w.heap.size + 1 + 1 < W.heap.size := World.block_lt_of_cell? W _ r0
  replace c0 := keepCell hb c0; replace c1h := keepCell hb c1h; replace c2h := keepCell hb c2h; replace c3 := keepCell hb c3; replace e0 := keepCell hb e0; replace e1 := keepCell hb e1; replace e2 := keepCell hb e2; replace e3 := keepCell hb e3
  replace HX := Lib.hid (HX.out.below hb)
  replace HY := Lib.hid (HY.out.below hb)
  have HB := Lib.hid hb
  clear hW hb
  go_region_held3 (fun w' => w'.cell? ⟨w.heap.size, 3, none⟩ = some (.slice (some ⟨b1, o1, none⟩) a.kids.length cb) ∧ w'.cell? ⟨w.heap.size + 1, 3, none⟩ = some (.slice (some ⟨b2, o2, none⟩) b.kids.length cb') ∧ w'.cell? ⟨b1, o1, none⟩ = some (.int .i64 x.kind) ∧ w'.cell? ⟨b1, o1 + 1, none⟩ = some (.string x.name) ∧ w'.cell? ⟨b1, o1 + 2, none⟩ = some (.slice A1 x.labels.length c1) ∧ w'.cell? ⟨b1, o1 + 3, none⟩ = some (.slice B1 x.kids.length d1) ∧ w'.cell? ⟨b2, o2, none⟩ = some (.int .i64 y.kind) ∧ w'.cell? ⟨b2, o2 + 1, none⟩ = some (.string y.name) ∧ w'.cell? ⟨b2, o2 + 2, none⟩ = some (.slice A2 y.labels.length c2) ∧ w'.cell? ⟨b2, o2 + 3, none⟩ = some (.slice B2 y.kids.length d2))
    (first | assumption | (with_reducible exact ⟨a3_, b3_, c0, c1h, c2h, c3, e0, e1, e2, e3⟩) | (refine ⟨?_, ?_, ?_, ?_, ?_, ?_, ?_, ?_, ?_, ?_⟩ <;> first | assumption | (exact (cells_far2 (by omega)).trans (by assumption))))
    (first | (go_at_call 31; refine (C.out _ (HX.out.below (Below.refl _ _).drew) (HY.out.below (Below.refl _ _).drew)).mono ?_; rintro e w4 ⟨rfl, hb4⟩; have hbw : Below W.heap.size W w4 := (Below.refl W.heap.size W).drew.trans hb4; have ua3_ := keepCell hbw a3_; have ub3_ := keepCell hbw b3_; have uc0 := keepCell hbw c0; have uc1h := keepCell hbw c1h; have uc2h := keepCell hbw c2h; have uc3 := keepCell hbw c3; have ue0 := keepCell hbw e0; have ue1 := keepCell hbw e1; have ue2 := keepCell hbw e2; have ue3 := keepCell hbw e3; have ua0_ := keepCell hbw a0_; have ua1_ := keepCell hbw a1_; have ua2_ := keepCell hbw a2_; have ub0_ := keepCell hbw b0_; have ub1_ := keepCell hbw b1_; have ub2_ := keepCell hbw b2_; have ur0 := keepCell hbw r0; have ur1 := keepCell hbw r1; have urf0 : w4.frozen? ⟨w.heap.size + 1 + 1, 0, none⟩ = false := ((bcell hbw).2 _ _ hz).trans rf0; have urf1 : w4.frozen? ⟨w.heap.size + 1 + 1, 1, none⟩ = false := ((bcell hbw).2 _ _ hz).trans rf1))
  go_wp2_with fail
  exact bodyPost_ret (v := .tuple #[.agg #[.int .i64 (rk R), .string (rp (pt ++ ⟨#[63]⟩) R)], .bool R.isSome]) (by simp [results, Tryz.results31, go_sem, ur0, ur1]) rfl ⟨rfl, by (first | (with_reducible exact (bnext HB.out hbw)) | ((with_reducible refine Below.setCell ((bnext HB.out hbw)) ?_ _) <;> (first | exact Nat.le_refl _ | exact Nat.le_add_right _ _ | (dsimp only; omega) | (simp; omega))) | ((with_reducible refine Below.setCell (Below.setCell ((bnext HB.out hbw)) ?_ _) ?_ _) <;> (first | exact Nat.le_refl _ | exact Nat.le_add_right _ _ | (dsimp only; omega) | (simp; omega))) | ((with_reducible refine Below.setCell (Below.setCell (Below.setCell ((bnext HB.out hbw)) ?_ _) ?_ _) ?_ _) <;> (first | exact Nat.le_refl _ | exact Nat.le_add_right _ _ | (dsimp only; omega) | (simp; omega))))⟩

end Go.Proofs.YtifchfecfkdjlaaGreatDoor
