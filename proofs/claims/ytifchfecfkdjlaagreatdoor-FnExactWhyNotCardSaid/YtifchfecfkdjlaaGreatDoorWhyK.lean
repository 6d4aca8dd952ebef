/-
  The walk of the program's typePairing.kid, typeReason's contract at the kids given.
-/
import Derived.Test.YtifchfecfkdjlaaGreatDoorWhyU
import Derived.Deep.RegionHeld3
namespace Go.Proofs.YtifchfecfkdjlaaGreatDoor
open Go.ChangeShapes Go.WideShapes Go.ChangeAt Go.RowKit Go.Deep

theorem cells_far2 {W : World} {x g : Nat} (h : x ≠ g) {i : Nat} {a b : Value} : ((W.setCell ⟨g, 0, none⟩ a).setCell ⟨g, 1, none⟩ b).cell? ⟨x, i, none⟩ = W.cell? ⟨x, i, none⟩ := by
  have hn : ∀ j, (⟨x, i, none⟩ : Addr) ≠ ⟨g, j, none⟩ := fun j e => h (by injection e)
  simp only [World.cell?_setCell_other, ne_eq, not_false_eq_true, Ne.symm (hn _)]

set_option maxHeartbeats 4000000 in
set_option maxRecDepth 100000 in
theorem kid_any (n : Nat) (hn : n ≤ 4) (IH : TyR n) (a b x y : Ty) (i j : Nat) (hx : a.kids[i]? = some x) (hy : b.kids[j]? = some y) (gx : Gd n x) (gy : Gd n y) (_hk : a.kids.length ≤ 1000 ∧ b.kids.length ≤ 1000) (s : ByteArray) (hs : s.size ≤ 2000000) (A B A' B' : Option Addr) (ca cb ca' cb' : Nat) (w : World) (hat : Ty.Pl w 0 a A B) (hbt : Ty.Pl w 0 b A' B') (ht : RTable w) :
    Calls Tryz.prog 87 #[.agg #[.int .i64 a.kind, .string a.name, .slice A a.labels.length ca, .slice B a.kids.length cb, .int .i64 b.kind, .string b.name, .slice A' b.labels.length ca', .slice B' b.kids.length cb'], .int .i64 i, .int .i64 j, .string s] w (RsnPost (preR s (Ty.why n x y)) w) := by
  have hil : i < a.kids.length := (List.getElem?_eq_some_iff.1 hx).1
  have hjl : j < b.kids.length := (List.getElem?_eq_some_iff.1 hy).1
  obtain ⟨b1, o1, x', A1, B1, c1, d1, rfl, hb1, hx', hc⟩ := hat.rowP.at_ hil
  obtain ⟨b2, o2, y', A2, B2, c2, d2, rfl, hb2, hy', hd⟩ := hbt.rowP.at_ hjl
  obtain rfl : x = x' := Option.some.inj (hx.symm.trans hx')
  obtain rfl : y = y' := Option.some.inj (hy.symm.trans hy')
  have CT := Lib.hid (fun W h1 h2 h3 => IH x y gx gy A1 B1 A2 B2 c1 d1 c2 d2 W h1 h2 h3)
  have hro := Ty.why_small hn gx gy
  have CU := Lib.hid (fun W => under_any (Ty.why n x y) (hro.mono (by omega)) s (by omega) W)
  have HX := Lib.hid hc.tree
  have HY := Lib.hid hd.tree
  have HT := Lib.hid ht
  have l1 : b1 < w.heap.size := World.block_lt_of_cell? w _ hc.kind
  have l2 : b2 < w.heap.size := World.block_lt_of_cell? w _ hd.kind
  obtain ⟨c0, c1h, c2h, c3, _⟩ := hc
  obtain ⟨e0, e1, e2, e3, _⟩ := hd
  have q1 : (i : Int) < (a.kids.length : Int) := by omega
  have q2 : (j : Int) < (b.kids.length : Int) := by omega
  have q3 : (0 : Int) ≤ (i : Int) := by omega
  have q4 : (0 : Int) ≤ (j : Int) := by omega
  have k1 : b1 ≠ w.heap.size + 1 := by omega
  have k2 : b2 ≠ w.heap.size + 1 := by omega
  have k3 : w.heap.size ≠ w.heap.size + 1 := by omega
  generalize Ty.why n x y = R at *
  clear IH gx gy hx hy hx' hy' hat hbt ht hb1 hb2 hs hro hil hjl hn
  go_enter Tryz.func87, Tryz.ntmps87
  go_wp2_with fail
  obtain ⟨W, hW, hb, hz, p0, p1, r0, r1, rf⟩ : ∃ W, ((w.alloc (.cells #[.int .i64 a.kind, .string a.name, .slice A a.labels.length ca, .slice (some ⟨b1, o1, none⟩) a.kids.length cb, .int .i64 b.kind, .string b.name, .slice A' b.labels.length ca', .slice (some ⟨b2, o2, none⟩) b.kids.length cb'] 73)).alloc (.cells #[.int .i64 0, .string ⟨#[]⟩] 34)) = W ∧ Below w.heap.size w W ∧ W.heap.size = w.heap.size + 1 + 1 ∧ W.cell? ⟨w.heap.size, 3, none⟩ = some (.slice (some ⟨b1, o1, none⟩) a.kids.length cb) ∧ W.cell? ⟨w.heap.size, 7, none⟩ = some (.slice (some ⟨b2, o2, none⟩) b.kids.length cb') ∧ W.cell? ⟨w.heap.size + 1, 0, none⟩ = some (.int .i64 0) ∧ W.cell? ⟨w.heap.size + 1, 1, none⟩ = some (.string ⟨#[]⟩) ∧ ∀ o, W.frozen? ⟨w.heap.size + 1, o, none⟩ = false := ⟨_, rfl, below2 _ _ _, by simp, by go_simp, by go_simp, by go_simp, by go_simp, fun o => by go_simp⟩
  rw [hW]
  replace c0 := keepCell hb c0
  replace c1h := keepCell hb c1h
  replace c2h := keepCell hb c2h
  replace c3 := keepCell hb c3
  replace e0 := keepCell hb e0
  replace e1 := keepCell hb e1
  replace e2 := keepCell hb e2
  replace e3 := keepCell hb e3
  replace HX := Lib.hid (HX.out.keep (Kp.below hb).1)
  replace HY := Lib.hid (HY.out.keep (Kp.below hb).1)
  replace HT := Lib.hid (HT.out.keep hb)
  have HB := Lib.hid hb
  have RF := Lib.hid rf
  clear hW hb rf
  go_region_held3 (fun w' => w'.cell? ⟨w.heap.size, 3, none⟩ = some (.slice (some ⟨b1, o1, none⟩) a.kids.length cb) ∧ w'.cell? ⟨w.heap.size, 7, none⟩ = some (.slice (some ⟨b2, o2, none⟩) b.kids.length cb') ∧ w'.cell? ⟨b1, o1 + i * 4, none⟩ = some (.int .i64 x.kind) ∧ w'.cell? ⟨b1, o1 + i * 4 + 1, none⟩ = some (.string x.name) ∧ w'.cell? ⟨b1, o1 + i * 4 + 2, none⟩ = some (.slice A1 x.labels.length c1) ∧ w'.cell? ⟨b1, o1 + i * 4 + 3, none⟩ = some (.slice B1 x.kids.length d1) ∧ w'.cell? ⟨b2, o2 + j * 4, none⟩ = some (.int .i64 y.kind) ∧ w'.cell? ⟨b2, o2 + j * 4 + 1, none⟩ = some (.string y.name) ∧ w'.cell? ⟨b2, o2 + j * 4 + 2, none⟩ = some (.slice A2 y.labels.length c2) ∧ w'.cell? ⟨b2, o2 + j * 4 + 3, none⟩ = some (.slice B2 y.kids.length d2))
    (first | assumption | (exact ⟨p0, p1, c0, c1h, c2h, c3, e0, e1, e2, e3⟩) | (refine ⟨?_, ?_, ?_, ?_, ?_, ?_, ?_, ?_, ?_, ?_⟩ <;> first | assumption | ((with_reducible refine (cells_far2 (by assumption)).trans ?_); assumption)))
    (first
      | (go_at_call 32; refine (CT.out _ (HX.out.keep (Kp.below (Below.refl _ _).drew).1) (HY.out.keep (Kp.below (Below.refl _ _).drew).1) (HT.out.keep (Below.refl _ _).drew)).mono ?_; rintro e w3 ⟨rfl, hb3⟩; have hbw : Below W.heap.size W w3 := (Below.refl W.heap.size W).drew.trans hb3; have up0 := keepCell hbw p0; have up1 := keepCell hbw p1; have uc0 := keepCell hbw c0; have uc1h := keepCell hbw c1h; have uc2h := keepCell hbw c2h; have uc3 := keepCell hbw c3; have ue0 := keepCell hbw e0; have ue1 := keepCell hbw e1; have ue2 := keepCell hbw e2; have ue3 := keepCell hbw e3; have ur0 := keepCell hbw r0; have ur1 := keepCell hbw r1)
      | (go_at_call 60; refine (CU.out _).mono ?_; rintro e w4 ⟨rfl, hb4⟩; have hbx : Below W.heap.size W w4 := hbw.trans (hb4.mono hbw.size); have vp0 := keepCell hbx p0; have vp1 := keepCell hbx p1; have vc0 := keepCell hbx c0; have vc1h := keepCell hbx c1h; have vc2h := keepCell hbx c2h; have vc3 := keepCell hbx c3; have ve0 := keepCell hbx e0; have ve1 := keepCell hbx e1; have ve2 := keepCell hbx e2; have ve3 := keepCell hbx e3; have vr0 := keepCell hbx r0; have vr1 := keepCell hbx r1; have vf : w4.frozen? ⟨w.heap.size + 1, 0, none⟩ = false := ((bcell hbx).2 _ _ (by omega)).trans (RF.out _); have vg : w4.frozen? ⟨w.heap.size + 1, 1, none⟩ = false := ((bcell hbx).2 _ _ (by omega)).trans (RF.out _)))
  go_wp2_with fail
  exact bodyPost_ret (v := .agg #[.int .i64 (rk (preR s R)), .string (ra (preR s R))]) (by simp [results, Tryz.results87, go_sem, vr0, vr1]) rfl ⟨rfl, by (first | (with_reducible exact bnext HB.out hbx) | ((with_reducible refine Below.setCell (bnext HB.out hbx) ?_ _) <;> (first | exact Nat.le_refl _ | exact Nat.le_add_right _ _ | (dsimp only; omega) | (simp; omega))) | ((with_reducible refine Below.setCell (Below.setCell (bnext HB.out hbx) ?_ _) ?_ _) <;> (first | exact Nat.le_refl _ | exact Nat.le_add_right _ _ | (dsimp only; omega) | (simp; omega))) | ((with_reducible refine Below.setCell (Below.setCell (Below.setCell (bnext HB.out hbx) ?_ _) ?_ _) ?_ _) <;> (first | exact Nat.le_refl _ | exact Nat.le_add_right _ _ | (dsimp only; omega) | (simp; omega))))⟩
end Go.Proofs.YtifchfecfkdjlaaGreatDoor
