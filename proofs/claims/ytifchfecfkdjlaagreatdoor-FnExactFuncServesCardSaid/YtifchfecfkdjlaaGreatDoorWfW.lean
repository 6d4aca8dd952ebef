/-
  The walks of the program's WhyNotFunc and FuncServes.
-/
import Derived.Test.YtifchfecfkdjlaaGreatDoorMI
import Derived.Test.YtifchfecfkdjlaaGreatDoorWfU
import Derived.Test.YtifchfecfkdjlaaGreatDoorML
import Derived.Test.YtifchfecfkdjlaaGreatDoorWhyA
import Derived.Test.YtifchfecfkdjlaaGreatDoorWhSA
namespace Go.Proofs.YtifchfecfkdjlaaGreatDoor
open Go.ChangeShapes Go.WideShapes Go.ChangeAt Go.RowKit Go.Deep

def WnP2 (r : Option (Int × ByteArray)) (w : World) (e : Ending) (w' : World) : Prop := e = .returned (.tuple #[.agg #[.int .i64 (rk r), .string (ra r)], .bool r.isSome]) ∧ Below w.heap.size w w'
theorem Fn.why_pos {a b : Fn} (ga : FnG a) (gb : FnG b) : ∀ (k : Int) (s : ByteArray), Fn.why a b = some (k, s) → 1 ≤ k := by
  have h1 : ∀ (ps qs : List Pm), (∀ p ∈ ps, Gd 4 p.ty) → (∀ q ∈ qs, Gd 4 q.ty) → ∀ (k : Int) (s : ByteArray), pmsWhy ps qs = some (k, s) → 1 ≤ k := by
    intro ps
    induction ps with
    | nil => intro qs _ _ k s h; rw [pmsWhy] at h; cases h; simp
    | cons p ps ih =>
      intro qs hp hq k s h
      cases qs with
      | nil => rw [pmsWhy] at h; cases h; simp
      | cons q qs =>
        rw [pmsWhy] at h
        cases hx : pmWhy p q with
        | none =>
          rw [hx, orR_none] at h
          exact ih qs (fun p h => hp p (List.mem_cons_of_mem _ h)) (fun q h => hq q (List.mem_cons_of_mem _ h)) k s h
        | some x =>
          obtain ⟨k2, s2⟩ := x
          rw [hx, orR_some] at h
          cases h
          rw [pmWhy_pre] at hx
          exact (((pmWhy0_ok (hp p List.mem_cons_self) (hq q List.mem_cons_self)).pre (Nat.le_refl _)) _ _ hx).1.1
  intro k s h
  unfold Fn.why at h
  split at h
  · cases hx : pmsWhy a.params b.params with
    | some x =>
      obtain ⟨k2, s2⟩ := x
      rw [hx, orR_some] at h
      cases h
      exact h1 _ _ ga.2.2 gb.2.2 _ _ hx
    | none =>
      rw [hx, orR_none] at h
      unfold Fn.whyR at h
      cases hy : Ty.why 4 a.res b.res with
      | some x =>
        obtain ⟨k2, s2⟩ := x
        rw [hy] at h
        have h5 : some (k2, sArr ++ s2) = some (k, s) := h
        cases h5
        exact ((Ty.why_small (by omega) ga.2.1 gb.2.1) _ _ hy).1.1
      | none =>
        rw [hy] at h
        have h5 : (if a.async = true ∧ b.async = false then some ((8 : Int), (⟨#[]⟩ : ByteArray)) else none) = some (k, s) := h
        split at h5
        · cases h5
          omega
        · cases h5
  · cases h
    omega
theorem funcReason_any (H4 : TyR 4) (a b : Fn) (ga : FnG a) (gb : FnG b) (Ra Rb A B A' B' : Option Addr) (na nb ca cb ca' cb' lo lo' : Nat) (hlo : 0 < lo) (hlo' : 0 < lo') (w : World) (hat : Fn.At w lo a Ra A B) (hbt : Fn.At w lo' b Rb A' B') (hr : RTable w) :
    Calls Tryz.prog 39 #[.agg #[.slice Ra a.params.length na, .int .i64 a.res.kind, .string a.res.name, .slice A a.res.labels.length ca, .slice B a.res.kids.length cb, .bool a.async], .agg #[.slice Rb b.params.length nb, .int .i64 b.res.kind, .string b.res.name, .slice A' b.res.labels.length ca', .slice B' b.res.kids.length cb', .bool b.async]] w (RsnPost (Fn.why a b) w) := by
  by_cases hl : a.params.length = b.params.length
  · exact funcReason_yes H4 a b ga gb hl Ra Rb A B A' B' na nb ca cb ca' cb' lo lo' hlo hlo' w hat hbt hr
  · exact funcReason_len a b hl Ra Rb A B A' B' na nb ca cb ca' cb' w

set_option maxHeartbeats 2000000 in
set_option maxRecDepth 100000 in
theorem implWNF_na (a b : Fn) (hT : a.wt ≤ 1048576) (_hU : b.wt ≤ 1048576) (hoa : ¬ a.Ok) (Ra Rb A B A' B' : Option Addr) (na nb ca cb ca' cb' lo lo' : Nat) (_hlo : 0 < lo) (_hlo' : 0 < lo') (w : World) (hat : Fn.At w lo a Ra A B) (_hbt : Fn.At w lo' b Rb A' B') (_ht : RTable w) (hm : MaxC w) :
    Calls Tryz.prog 21 #[.agg #[.slice Ra a.params.length na, .int .i64 a.res.kind, .string a.res.name, .slice A a.res.labels.length ca, .slice B a.res.kids.length cb, .bool a.async], .agg #[.slice Rb b.params.length nb, .int .i64 b.res.kind, .string b.res.name, .slice A' b.res.labels.length ca', .slice B' b.res.kids.length cb', .bool b.async]] w (WnP2 none w) := by
  have OA := Lib.hid (fun W h h2 => (implFuncOk_any a hT Ra A B na ca cb lo W h h2).mono fun _ _ j => j.no hoa)
  have HA := Lib.hid hat
  have HM := Lib.hid hm
  clear hat hm hoa hT
  go_enter Tryz.func21, Tryz.ntmps21
  go_wp2_with fail
  go_at_call 37
  refine (OA.out _ (HA.out.below (below3 _ _ _ _)) (HM.out.keep (below3 _ _ _ _))).mono ?_
  rintro e w2 ⟨rfl, hbw2⟩
  have r0 := keepCell (a := ⟨w.heap.size + 1 + 1, 0, none⟩) (v := .int .i64 0) hbw2 (by go_simp)
  have r1 := keepCell (a := ⟨w.heap.size + 1 + 1, 1, none⟩) (v := .string ⟨#[]⟩) hbw2 (by go_simp)
  have rf0 : w2.frozen? ⟨w.heap.size + 1 + 1, 0, none⟩ = false := ((bcell hbw2).2 _ _ (by first | (simp; done) | (simp; omega))).trans (by go_simp)
  have rf1 : w2.frozen? ⟨w.heap.size + 1 + 1, 1, none⟩ = false := ((bcell hbw2).2 _ _ (by first | (simp; done) | (simp; omega))).trans (by go_simp)
  have HBw2 := Lib.hid (bnext (below3 _ _ _ _) hbw2)
  clear hbw2
  go_wp2_with fail
  have st := setTwo (v0 := .int .i64 0) (v1 := .string ⟨#[]⟩) r0 r1
  have s0 := st.1
  have s1 := st.2
  clear st
  exact bodyPost_ret (v := .tuple #[.agg #[.int .i64 0, .string ⟨#[]⟩], .bool false]) (by simp [results, Tryz.results21, go_sem, s0, s1]) rfl ⟨rfl, (HBw2.out.setCell (by first | exact Nat.le_refl _ | exact Nat.le_add_right _ _ | (dsimp only; omega) | (simp; omega)) _).setCell (by first | exact Nat.le_refl _ | exact Nat.le_add_right _ _ | (dsimp only; omega) | (simp; omega)) _⟩
set_option maxHeartbeats 2000000 in
set_option maxRecDepth 100000 in
theorem implWNF_nb (a b : Fn) (hT : a.wt ≤ 1048576) (hU : b.wt ≤ 1048576) (hoa : a.Ok) (hob : ¬ b.Ok) (Ra Rb A B A' B' : Option Addr) (na nb ca cb ca' cb' lo lo' : Nat) (_hlo : 0 < lo) (_hlo' : 0 < lo') (w : World) (hat : Fn.At w lo a Ra A B) (hbt : Fn.At w lo' b Rb A' B') (_ht : RTable w) (hm : MaxC w) :
    Calls Tryz.prog 21 #[.agg #[.slice Ra a.params.length na, .int .i64 a.res.kind, .string a.res.name, .slice A a.res.labels.length ca, .slice B a.res.kids.length cb, .bool a.async], .agg #[.slice Rb b.params.length nb, .int .i64 b.res.kind, .string b.res.name, .slice A' b.res.labels.length ca', .slice B' b.res.kids.length cb', .bool b.async]] w (WnP2 none w) := by
  have OA := fun W h h2 => implFuncOk_any a hT Ra A B na ca cb lo W h h2
  have OB := fun W h h2 => implFuncOk_any b hU Rb A' B' nb ca' cb' lo' W h h2
  have OA := Lib.hid (fun W h h2 => (OA W h h2).mono fun _ _ j => j.yes hoa)
  have OB := Lib.hid (fun W h h2 => (OB W h h2).mono fun _ _ j => j.no hob)
  have HA := Lib.hid hat
  have HBt := Lib.hid hbt
  have HM := Lib.hid hm
  clear hat hbt hm hoa hob hT hU
  go_enter Tryz.func21, Tryz.ntmps21
  go_wp2_with fail
  go_at_call 37
  refine (OA.out _ (HA.out.below (below3 _ _ _ _)) (HM.out.keep (below3 _ _ _ _))).mono ?_
  rintro e w2 ⟨rfl, hbw2⟩
  have a0_ := keepCell (a := ⟨w.heap.size, 0, none⟩) (v := .slice Ra a.params.length na) hbw2 (by go_simp)
  have a1_ := keepCell (a := ⟨w.heap.size, 1, none⟩) (v := .int .i64 a.res.kind) hbw2 (by go_simp)
  have a2_ := keepCell (a := ⟨w.heap.size, 2, none⟩) (v := .string a.res.name) hbw2 (by go_simp)
  have a3_ := keepCell (a := ⟨w.heap.size, 3, none⟩) (v := .slice A a.res.labels.length ca) hbw2 (by go_simp)
  have a4_ := keepCell (a := ⟨w.heap.size, 4, none⟩) (v := .slice B a.res.kids.length cb) hbw2 (by go_simp)
  have a5_ := keepCell (a := ⟨w.heap.size, 5, none⟩) (v := .bool a.async) hbw2 (by go_simp)
  have b0_ := keepCell (a := ⟨w.heap.size + 1, 0, none⟩) (v := .slice Rb b.params.length nb) hbw2 (by go_simp)
  have b1_ := keepCell (a := ⟨w.heap.size + 1, 1, none⟩) (v := .int .i64 b.res.kind) hbw2 (by go_simp)
  have b2_ := keepCell (a := ⟨w.heap.size + 1, 2, none⟩) (v := .string b.res.name) hbw2 (by go_simp)
  have b3_ := keepCell (a := ⟨w.heap.size + 1, 3, none⟩) (v := .slice A' b.res.labels.length ca') hbw2 (by go_simp)
  have b4_ := keepCell (a := ⟨w.heap.size + 1, 4, none⟩) (v := .slice B' b.res.kids.length cb') hbw2 (by go_simp)
  have b5_ := keepCell (a := ⟨w.heap.size + 1, 5, none⟩) (v := .bool b.async) hbw2 (by go_simp)
  have r0 := keepCell (a := ⟨w.heap.size + 1 + 1, 0, none⟩) (v := .int .i64 0) hbw2 (by go_simp)
  have r1 := keepCell (a := ⟨w.heap.size + 1 + 1, 1, none⟩) (v := .string ⟨#[]⟩) hbw2 (by go_simp)
  have rf0 : w2.frozen? ⟨w.heap.size + 1 + 1, 0, none⟩ = false := ((bcell hbw2).2 _ _ (by first | (simp; done) | (simp; omega))).trans (by go_simp)
  have rf1 : w2.frozen? ⟨w.heap.size + 1 + 1, 1, none⟩ = false := ((bcell hbw2).2 _ _ (by first | (simp; done) | (simp; omega))).trans (by go_simp)
  have hzw2 : w.heap.size + 1 + 1 < w2.heap.size := World.block_lt_of_cell? w2 _ r0
  have HBw2 := Lib.hid (bnext (below3 _ _ _ _) hbw2)
  clear hbw2
  go_wp2_with fail
  go_at_call 37
  refine (OB.out _ (HBt.out.below HBw2.out) (HM.out.keep HBw2.out)).mono ?_
  rintro e w3 ⟨rfl, hbw3⟩
  replace a0_ := keepCell hbw3 a0_
  replace a1_ := keepCell hbw3 a1_
  replace a2_ := keepCell hbw3 a2_
  replace a3_ := keepCell hbw3 a3_
  replace a4_ := keepCell hbw3 a4_
  replace a5_ := keepCell hbw3 a5_
  replace b0_ := keepCell hbw3 b0_
  replace b1_ := keepCell hbw3 b1_
  replace b2_ := keepCell hbw3 b2_
  replace b3_ := keepCell hbw3 b3_
  replace b4_ := keepCell hbw3 b4_
  replace b5_ := keepCell hbw3 b5_
  replace r0 := keepCell hbw3 r0
  replace r1 := keepCell hbw3 r1
  replace rf0 : w3.frozen? ⟨w.heap.size + 1 + 1, 0, none⟩ = false := ((bcell hbw3).2 _ _ hzw2).trans rf0
  replace rf1 : w3.frozen? ⟨w.heap.size + 1 + 1, 1, none⟩ = false := ((bcell hbw3).2 _ _ hzw2).trans rf1
  have hzw3 : w.heap.size + 1 + 1 < w3.heap.size := World.block_lt_of_cell? w3 _ r0
  have HBw3 := Lib.hid (bnext HBw2.out hbw3)
  clear hbw3
  go_wp2_with fail
  have st := setTwo (v0 := .int .i64 0) (v1 := .string ⟨#[]⟩) r0 r1
  have s0 := st.1
  have s1 := st.2
  clear st
  exact bodyPost_ret (v := .tuple #[.agg #[.int .i64 0, .string ⟨#[]⟩], .bool false]) (by simp [results, Tryz.results21, go_sem, s0, s1]) rfl ⟨rfl, (HBw3.out.setCell (by first | exact Nat.le_refl _ | exact Nat.le_add_right _ _ | (dsimp only; omega) | (simp; omega)) _).setCell (by first | exact Nat.le_refl _ | exact Nat.le_add_right _ _ | (dsimp only; omega) | (simp; omega)) _⟩
set_option maxHeartbeats 2000000 in
set_option maxRecDepth 100000 in
theorem implWNF_none (a b : Fn) (hT : a.wt ≤ 1048576) (hU : b.wt ≤ 1048576) (hoa : a.Ok) (hob : b.Ok) (H4 : TyR 4) (hr : Fn.why a b = none) (Ra Rb A B A' B' : Option Addr) (na nb ca cb ca' cb' lo lo' : Nat) (hlo : 0 < lo) (hlo' : 0 < lo') (w : World) (hat : Fn.At w lo a Ra A B) (hbt : Fn.At w lo' b Rb A' B') (ht : RTable w) (hm : MaxC w) :
    Calls Tryz.prog 21 #[.agg #[.slice Ra a.params.length na, .int .i64 a.res.kind, .string a.res.name, .slice A a.res.labels.length ca, .slice B a.res.kids.length cb, .bool a.async], .agg #[.slice Rb b.params.length nb, .int .i64 b.res.kind, .string b.res.name, .slice A' b.res.labels.length ca', .slice B' b.res.kids.length cb', .bool b.async]] w (WnP2 none w) := by
  have OA := fun W h h2 => implFuncOk_any a hT Ra A B na ca cb lo W h h2
  have OB := fun W h h2 => implFuncOk_any b hU Rb A' B' nb ca' cb' lo' W h h2
  have OA := Lib.hid (fun W h h2 => (OA W h h2).mono fun _ _ j => j.yes hoa)
  have OB := Lib.hid (fun W h h2 => (OB W h h2).mono fun _ _ j => j.yes hob)
  have HA := Lib.hid hat
  have HBt := Lib.hid hbt
  have HT := Lib.hid ht
  have HM := Lib.hid hm
  have CW0 := fun W h1 h2 h3 => funcReason_any H4 a b (FnG.of hT hoa) (FnG.of hU hob) Ra Rb A B A' B' na nb ca cb ca' cb' lo lo' hlo hlo' W h1 h2 h3
  rw [hr] at CW0
  have CW := Lib.hid (fun W h1 h2 h3 => (CW0 W h1 h2 h3).mono fun _ _ j => j.none_)
  clear CW0 hat hbt hoa hob hT hU ht hm hr H4 hlo hlo'
  go_enter Tryz.func21, Tryz.ntmps21
  go_wp2_with fail
  go_at_call 37
  refine (OA.out _ (HA.out.below (below3 _ _ _ _)) (HM.out.keep (below3 _ _ _ _))).mono ?_
  rintro e w2 ⟨rfl, hbw2⟩
  have a0_ := keepCell (a := ⟨w.heap.size, 0, none⟩) (v := .slice Ra a.params.length na) hbw2 (by go_simp)
  have a1_ := keepCell (a := ⟨w.heap.size, 1, none⟩) (v := .int .i64 a.res.kind) hbw2 (by go_simp)
  have a2_ := keepCell (a := ⟨w.heap.size, 2, none⟩) (v := .string a.res.name) hbw2 (by go_simp)
  have a3_ := keepCell (a := ⟨w.heap.size, 3, none⟩) (v := .slice A a.res.labels.length ca) hbw2 (by go_simp)
  have a4_ := keepCell (a := ⟨w.heap.size, 4, none⟩) (v := .slice B a.res.kids.length cb) hbw2 (by go_simp)
  have a5_ := keepCell (a := ⟨w.heap.size, 5, none⟩) (v := .bool a.async) hbw2 (by go_simp)
  have b0_ := keepCell (a := ⟨w.heap.size + 1, 0, none⟩) (v := .slice Rb b.params.length nb) hbw2 (by go_simp)
  have b1_ := keepCell (a := ⟨w.heap.size + 1, 1, none⟩) (v := .int .i64 b.res.kind) hbw2 (by go_simp)
  have b2_ := keepCell (a := ⟨w.heap.size + 1, 2, none⟩) (v := .string b.res.name) hbw2 (by go_simp)
  have b3_ := keepCell (a := ⟨w.heap.size + 1, 3, none⟩) (v := .slice A' b.res.labels.length ca') hbw2 (by go_simp)
  have b4_ := keepCell (a := ⟨w.heap.size + 1, 4, none⟩) (v := .slice B' b.res.kids.length cb') hbw2 (by go_simp)
  have b5_ := keepCell (a := ⟨w.heap.size + 1, 5, none⟩) (v := .bool b.async) hbw2 (by go_simp)
  have r0 := keepCell (a := ⟨w.heap.size + 1 + 1, 0, none⟩) (v := .int .i64 0) hbw2 (by go_simp)
  have r1 := keepCell (a := ⟨w.heap.size + 1 + 1, 1, none⟩) (v := .string ⟨#[]⟩) hbw2 (by go_simp)
  have rf0 : w2.frozen? ⟨w.heap.size + 1 + 1, 0, none⟩ = false := ((bcell hbw2).2 _ _ (by first | (simp; done) | (simp; omega))).trans (by go_simp)
  have rf1 : w2.frozen? ⟨w.heap.size + 1 + 1, 1, none⟩ = false := ((bcell hbw2).2 _ _ (by first | (simp; done) | (simp; omega))).trans (by go_simp)
  have hzw2 : w.heap.size + 1 + 1 < w2.heap.size := World.block_lt_of_cell? w2 _ r0
  have HBw2 := Lib.hid (bnext (below3 _ _ _ _) hbw2)
  clear hbw2
  go_wp2_with fail
  go_at_call 37
  refine (OB.out _ (HBt.out.below HBw2.out) (HM.out.keep HBw2.out)).mono ?_
  rintro e w3 ⟨rfl, hbw3⟩
  replace a0_ := keepCell hbw3 a0_
  replace a1_ := keepCell hbw3 a1_
  replace a2_ := keepCell hbw3 a2_
  replace a3_ := keepCell hbw3 a3_
  replace a4_ := keepCell hbw3 a4_
  replace a5_ := keepCell hbw3 a5_
  replace b0_ := keepCell hbw3 b0_
  replace b1_ := keepCell hbw3 b1_
  replace b2_ := keepCell hbw3 b2_
  replace b3_ := keepCell hbw3 b3_
  replace b4_ := keepCell hbw3 b4_
  replace b5_ := keepCell hbw3 b5_
  replace r0 := keepCell hbw3 r0
  replace r1 := keepCell hbw3 r1
  replace rf0 : w3.frozen? ⟨w.heap.size + 1 + 1, 0, none⟩ = false := ((bcell hbw3).2 _ _ hzw2).trans rf0
  replace rf1 : w3.frozen? ⟨w.heap.size + 1 + 1, 1, none⟩ = false := ((bcell hbw3).2 _ _ hzw2).trans rf1
  have hzw3 : w.heap.size + 1 + 1 < w3.heap.size := World.block_lt_of_cell? w3 _ r0
  have HBw3 := Lib.hid (bnext HBw2.out hbw3)
  clear hbw3
  go_wp2_with fail
  go_at_call 39
  refine (CW.out _ (HA.out.below HBw3.out) (HBt.out.below HBw3.out) (HT.out.keep HBw3.out)).mono ?_
  rintro e w4 ⟨rfl, hbw4⟩
  replace a0_ := keepCell hbw4 a0_
  replace a1_ := keepCell hbw4 a1_
  replace a2_ := keepCell hbw4 a2_
  replace a3_ := keepCell hbw4 a3_
  replace a4_ := keepCell hbw4 a4_
  replace a5_ := keepCell hbw4 a5_
  replace b0_ := keepCell hbw4 b0_
  replace b1_ := keepCell hbw4 b1_
  replace b2_ := keepCell hbw4 b2_
  replace b3_ := keepCell hbw4 b3_
  replace b4_ := keepCell hbw4 b4_
  replace b5_ := keepCell hbw4 b5_
  replace r0 := keepCell hbw4 r0
  replace r1 := keepCell hbw4 r1
  replace rf0 : w4.frozen? ⟨w.heap.size + 1 + 1, 0, none⟩ = false := ((bcell hbw4).2 _ _ hzw3).trans rf0
  replace rf1 : w4.frozen? ⟨w.heap.size + 1 + 1, 1, none⟩ = false := ((bcell hbw4).2 _ _ hzw3).trans rf1
  have hzw4 : w.heap.size + 1 + 1 < w4.heap.size := World.block_lt_of_cell? w4 _ r0
  have HBw4 := Lib.hid (bnext HBw3.out hbw4)
  clear hbw4
  go_wp2_with fail
  obtain ⟨W, hW, hb, g0, g1, q0, q1, qf0, qf1⟩ : ∃ W, w4.alloc (.cells #[.int .i64 0, .string ⟨#[]⟩] 34) = W ∧ Below w4.heap.size w4 W ∧ W.cell? ⟨w4.heap.size, 0, none⟩ = some (.int .i64 0) ∧ W.cell? ⟨w4.heap.size, 1, none⟩ = some (.string ⟨#[]⟩) ∧ W.cell? ⟨w.heap.size + 1 + 1, 0, none⟩ = some (.int .i64 0) ∧ W.cell? ⟨w.heap.size + 1 + 1, 1, none⟩ = some (.string ⟨#[]⟩) ∧ W.frozen? ⟨w.heap.size + 1 + 1, 0, none⟩ = false ∧ W.frozen? ⟨w.heap.size + 1 + 1, 1, none⟩ = false := ⟨_, rfl, below1 _ _, by go_simp, by go_simp, keepCell (below1 _ _) r0, keepCell (below1 _ _) r1, by go_simp, by go_simp⟩
  rw [hW]
  have HBX := Lib.hid (bnext HBw4.out hb)
  have hne : w4.heap.size ≠ w.heap.size + 1 + 1 := by omega
  clear hW hb r0 r1 rf0 rf1 a0_ a1_ a2_ a3_ a4_ a5_ b0_ b1_ b2_ b3_ b4_ b5_
  go_region_held3 (fun w' => w'.cell? ⟨w4.heap.size, 0, none⟩ = some (.int .i64 0) ∧ w'.cell? ⟨w4.heap.size, 1, none⟩ = some (.string ⟨#[]⟩))
    (first | assumption | (with_reducible exact ⟨g0, g1⟩) | (refine ⟨?_, ?_⟩ <;> first | assumption | (exact (cells_far2 hne).trans (by assumption))))
    (fail)
  all_goals
    go_wp2_with fail
    exact bodyPost_ret (v := .tuple #[.agg #[.int .i64 0, .string ⟨#[]⟩], .bool false]) (by simp [results, Tryz.results21, go_sem, q0, q1]) rfl ⟨rfl, by first | exact ((HBX.out.setCell (by first | exact Nat.le_refl _ | exact Nat.le_add_right _ _ | (dsimp only; omega) | (simp; omega)) _).setCell (by first | exact Nat.le_refl _ | exact Nat.le_add_right _ _ | (dsimp only; omega) | (simp; omega)) _).drew | exact (((HBX.out.drew).setCell (by first | exact Nat.le_refl _ | exact Nat.le_add_right _ _ | (dsimp only; omega) | (simp; omega)) _).setCell (by first | exact Nat.le_refl _ | exact Nat.le_add_right _ _ | (dsimp only; omega) | (simp; omega)) _)⟩
set_option maxHeartbeats 2000000 in
set_option maxRecDepth 100000 in
theorem implWNF_some (a b : Fn) (hT : a.wt ≤ 1048576) (hU : b.wt ≤ 1048576) (hoa : a.Ok) (hob : b.Ok) (H4 : TyR 4) (z : Int) (p : ByteArray) (hz : 1 ≤ z) (hr : Fn.why a b = some (z, p)) (Ra Rb A B A' B' : Option Addr) (na nb ca cb ca' cb' lo lo' : Nat) (hlo : 0 < lo) (hlo' : 0 < lo') (w : World) (hat : Fn.At w lo a Ra A B) (hbt : Fn.At w lo' b Rb A' B') (ht : RTable w) (hm : MaxC w) :
    Calls Tryz.prog 21 #[.agg #[.slice Ra a.params.length na, .int .i64 a.res.kind, .string a.res.name, .slice A a.res.labels.length ca, .slice B a.res.kids.length cb, .bool a.async], .agg #[.slice Rb b.params.length nb, .int .i64 b.res.kind, .string b.res.name, .slice A' b.res.labels.length ca', .slice B' b.res.kids.length cb', .bool b.async]] w (WnP2 (some (z, p)) w) := by
  have OA := fun W h h2 => implFuncOk_any a hT Ra A B na ca cb lo W h h2
  have OB := fun W h h2 => implFuncOk_any b hU Rb A' B' nb ca' cb' lo' W h h2
  have OA := Lib.hid (fun W h h2 => (OA W h h2).mono fun _ _ j => j.yes hoa)
  have OB := Lib.hid (fun W h h2 => (OB W h h2).mono fun _ _ j => j.yes hob)
  have HA := Lib.hid hat
  have HBt := Lib.hid hbt
  have HT := Lib.hid ht
  have HM := Lib.hid hm
  have CW0 := fun W h1 h2 h3 => funcReason_any H4 a b (FnG.of hT hoa) (FnG.of hU hob) Ra Rb A B A' B' na nb ca cb ca' cb' lo lo' hlo hlo' W h1 h2 h3
  rw [hr] at CW0
  have CW := Lib.hid (fun W h1 h2 h3 => (CW0 W h1 h2 h3).mono fun _ _ j => j.some_)
  have ez : (z == 0) = false := by rw [beq_eq_false_iff_ne]; omega
  have ez' : (z != 0) = true := by rw [bne_iff_ne]; omega
  clear hz
  clear CW0 hat hbt hoa hob hT hU ht hm hr H4 hlo hlo'
  go_enter Tryz.func21, Tryz.ntmps21
  go_wp2_with fail
  go_at_call 37
  refine (OA.out _ (HA.out.below (below3 _ _ _ _)) (HM.out.keep (below3 _ _ _ _))).mono ?_
  rintro e w2 ⟨rfl, hbw2⟩
  have a0_ := keepCell (a := ⟨w.heap.size, 0, none⟩) (v := .slice Ra a.params.length na) hbw2 (by go_simp)
  have a1_ := keepCell (a := ⟨w.heap.size, 1, none⟩) (v := .int .i64 a.res.kind) hbw2 (by go_simp)
  have a2_ := keepCell (a := ⟨w.heap.size, 2, none⟩) (v := .string a.res.name) hbw2 (by go_simp)
  have a3_ := keepCell (a := ⟨w.heap.size, 3, none⟩) (v := .slice A a.res.labels.length ca) hbw2 (by go_simp)
  have a4_ := keepCell (a := ⟨w.heap.size, 4, none⟩) (v := .slice B a.res.kids.length cb) hbw2 (by go_simp)
  have a5_ := keepCell (a := ⟨w.heap.size, 5, none⟩) (v := .bool a.async) hbw2 (by go_simp)
  have b0_ := keepCell (a := ⟨w.heap.size + 1, 0, none⟩) (v := .slice Rb b.params.length nb) hbw2 (by go_simp)
  have b1_ := keepCell (a := ⟨w.heap.size + 1, 1, none⟩) (v := .int .i64 b.res.kind) hbw2 (by go_simp)
  have b2_ := keepCell (a := ⟨w.heap.size + 1, 2, none⟩) (v := .string b.res.name) hbw2 (by go_simp)
  have b3_ := keepCell (a := ⟨w.heap.size + 1, 3, none⟩) (v := .slice A' b.res.labels.length ca') hbw2 (by go_simp)
  have b4_ := keepCell (a := ⟨w.heap.size + 1, 4, none⟩) (v := .slice B' b.res.kids.length cb') hbw2 (by go_simp)
  have b5_ := keepCell (a := ⟨w.heap.size + 1, 5, none⟩) (v := .bool b.async) hbw2 (by go_simp)
  have r0 := keepCell (a := ⟨w.heap.size + 1 + 1, 0, none⟩) (v := .int .i64 0) hbw2 (by go_simp)
  have r1 := keepCell (a := ⟨w.heap.size + 1 + 1, 1, none⟩) (v := .string ⟨#[]⟩) hbw2 (by go_simp)
  have rf0 : w2.frozen? ⟨w.heap.size + 1 + 1, 0, none⟩ = false := ((bcell hbw2).2 _ _ (by first | (simp; done) | (simp; omega))).trans (by go_simp)
  have rf1 : w2.frozen? ⟨w.heap.size + 1 + 1, 1, none⟩ = false := ((bcell hbw2).2 _ _ (by first | (simp; done) | (simp; omega))).trans (by go_simp)
  have hzw2 : w.heap.size + 1 + 1 < w2.heap.size := World.block_lt_of_cell? w2 _ r0
  have HBw2 := Lib.hid (bnext (below3 _ _ _ _) hbw2)
  clear hbw2
  go_wp2_with fail
  go_at_call 37
  refine (OB.out _ (HBt.out.below HBw2.out) (HM.out.keep HBw2.out)).mono ?_
  rintro e w3 ⟨rfl, hbw3⟩
  replace a0_ := keepCell hbw3 a0_
  replace a1_ := keepCell hbw3 a1_
  replace a2_ := keepCell hbw3 a2_
  replace a3_ := keepCell hbw3 a3_
  replace a4_ := keepCell hbw3 a4_
  replace a5_ := keepCell hbw3 a5_
  replace b0_ := keepCell hbw3 b0_
  replace b1_ := keepCell hbw3 b1_
  replace b2_ := keepCell hbw3 b2_
  replace b3_ := keepCell hbw3 b3_
  replace b4_ := keepCell hbw3 b4_
  replace b5_ := keepCell hbw3 b5_
  replace r0 := keepCell hbw3 r0
  replace r1 := keepCell hbw3 r1
  replace rf0 : w3.frozen? ⟨w.heap.size + 1 + 1, 0, none⟩ = false := ((bcell hbw3).2 _ _ hzw2).trans rf0
  replace rf1 : w3.frozen? ⟨w.heap.size + 1 + 1, 1, none⟩ = false := ((bcell hbw3).2 _ _ hzw2).trans rf1
  have hzw3 : w.heap.size + 1 + 1 < w3.heap.size := World.block_lt_of_cell? w3 _ r0
  have HBw3 := Lib.hid (bnext HBw2.out hbw3)
  clear hbw3
  go_wp2_with fail
  go_at_call 39
  refine (CW.out _ (HA.out.below HBw3.out) (HBt.out.below HBw3.out) (HT.out.keep HBw3.out)).mono ?_
  rintro e w4 ⟨rfl, hbw4⟩
  replace a0_ := keepCell hbw4 a0_
  replace a1_ := keepCell hbw4 a1_
  replace a2_ := keepCell hbw4 a2_
  replace a3_ := keepCell hbw4 a3_
  replace a4_ := keepCell hbw4 a4_
  replace a5_ := keepCell hbw4 a5_
  replace b0_ := keepCell hbw4 b0_
  replace b1_ := keepCell hbw4 b1_
  replace b2_ := keepCell hbw4 b2_
  replace b3_ := keepCell hbw4 b3_
  replace b4_ := keepCell hbw4 b4_
  replace b5_ := keepCell hbw4 b5_
  replace r0 := keepCell hbw4 r0
  replace r1 := keepCell hbw4 r1
  replace rf0 : w4.frozen? ⟨w.heap.size + 1 + 1, 0, none⟩ = false := ((bcell hbw4).2 _ _ hzw3).trans rf0
  replace rf1 : w4.frozen? ⟨w.heap.size + 1 + 1, 1, none⟩ = false := ((bcell hbw4).2 _ _ hzw3).trans rf1
  have hzw4 : w.heap.size + 1 + 1 < w4.heap.size := World.block_lt_of_cell? w4 _ r0
  have HBw4 := Lib.hid (bnext HBw3.out hbw4)
  clear hbw4
  go_wp2_with fail
  obtain ⟨W, hW, hb, g0, g1, q0, q1, qf0, qf1⟩ : ∃ W, w4.alloc (.cells #[.int .i64 z, .string p] 34) = W ∧ Below w4.heap.size w4 W ∧ W.cell? ⟨w4.heap.size, 0, none⟩ = some (.int .i64 z) ∧ W.cell? ⟨w4.heap.size, 1, none⟩ = some (.string p) ∧ W.cell? ⟨w.heap.size + 1 + 1, 0, none⟩ = some (.int .i64 0) ∧ W.cell? ⟨w.heap.size + 1 + 1, 1, none⟩ = some (.string ⟨#[]⟩) ∧ W.frozen? ⟨w.heap.size + 1 + 1, 0, none⟩ = false ∧ W.frozen? ⟨w.heap.size + 1 + 1, 1, none⟩ = false := ⟨_, rfl, below1 _ _, by go_simp, by go_simp, keepCell (below1 _ _) r0, keepCell (below1 _ _) r1, by go_simp, by go_simp⟩
  rw [hW]
  have HBX := Lib.hid (bnext HBw4.out hb)
  have hne : w4.heap.size ≠ w.heap.size + 1 + 1 := by omega
  clear hW hb r0 r1 rf0 rf1 a0_ a1_ a2_ a3_ a4_ a5_ b0_ b1_ b2_ b3_ b4_ b5_
  go_region_held3 (fun w' => w'.cell? ⟨w4.heap.size, 0, none⟩ = some (.int .i64 z) ∧ w'.cell? ⟨w4.heap.size, 1, none⟩ = some (.string p))
    (first | assumption | (with_reducible exact ⟨g0, g1⟩) | (refine ⟨?_, ?_⟩ <;> first | assumption | (exact (cells_far2 hne).trans (by assumption))))
    (fail)
  all_goals
    go_wp2_with fail
    exact bodyPost_ret (v := .tuple #[.agg #[.int .i64 z, .string p], .bool true]) (by simp [results, Tryz.results21, go_sem, q0, q1]) rfl ⟨rfl, by first | exact ((HBX.out.setCell (by first | exact Nat.le_refl _ | exact Nat.le_add_right _ _ | (dsimp only; omega) | (simp; omega)) _).setCell (by first | exact Nat.le_refl _ | exact Nat.le_add_right _ _ | (dsimp only; omega) | (simp; omega)) _).drew | exact (((HBX.out.drew).setCell (by first | exact Nat.le_refl _ | exact Nat.le_add_right _ _ | (dsimp only; omega) | (simp; omega)) _).setCell (by first | exact Nat.le_refl _ | exact Nat.le_add_right _ _ | (dsimp only; omega) | (simp; omega)) _)⟩
/-- What both answer: a reason where both are in order. -/
noncomputable def wnf (a b : Fn) : Option (Int × ByteArray) := by
  classical
  exact if a.Ok ∧ b.Ok then Fn.why a b else none
theorem wnf_yes {a b : Fn} (h : a.Ok ∧ b.Ok) : wnf a b = Fn.why a b := by
  unfold wnf
  rw [if_pos h]
theorem wnf_no {a b : Fn} (h : ¬ (a.Ok ∧ b.Ok)) : wnf a b = none := by
  unfold wnf
  rw [if_neg h]
theorem implWNF_any (H4 : TyR 4) (a b : Fn) (hT : a.wt ≤ 1048576) (hU : b.wt ≤ 1048576) (Ra Rb A B A' B' : Option Addr) (na nb ca cb ca' cb' lo lo' : Nat) (hlo : 0 < lo) (hlo' : 0 < lo') (w : World) (hat : Fn.At w lo a Ra A B) (hbt : Fn.At w lo' b Rb A' B') (ht : RTable w) (hm : MaxC w) :
    Calls Tryz.prog 21 #[.agg #[.slice Ra a.params.length na, .int .i64 a.res.kind, .string a.res.name, .slice A a.res.labels.length ca, .slice B a.res.kids.length cb, .bool a.async], .agg #[.slice Rb b.params.length nb, .int .i64 b.res.kind, .string b.res.name, .slice A' b.res.labels.length ca', .slice B' b.res.kids.length cb', .bool b.async]] w (WnP2 (wnf a b) w) := by
  by_cases hoa : a.Ok
  · by_cases hob : b.Ok
    · rw [wnf_yes ⟨hoa, hob⟩]
      cases hr : Fn.why a b with
      | none => exact implWNF_none a b hT hU hoa hob H4 hr Ra Rb A B A' B' na nb ca cb ca' cb' lo lo' hlo hlo' w hat hbt ht hm
      | some x =>
        obtain ⟨z, p⟩ := x
        exact implWNF_some a b hT hU hoa hob H4 z p (Fn.why_pos (FnG.of hT hoa) (FnG.of hU hob) z p hr) hr Ra Rb A B A' B' na nb ca cb ca' cb' lo lo' hlo hlo' w hat hbt ht hm
    · rw [wnf_no (fun h => hob h.2)]
      exact implWNF_nb a b hT hU hoa hob Ra Rb A B A' B' na nb ca cb ca' cb' lo lo' hlo hlo' w hat hbt ht hm
  · rw [wnf_no (fun h => hoa h.1)]
    exact implWNF_na a b hT hU hoa Ra Rb A B A' B' na nb ca cb ca' cb' lo lo' hlo hlo' w hat hbt ht hm

set_option maxHeartbeats 2000000 in
set_option maxRecDepth 100000 in
theorem implFS_na (a b : Fn) (hT : a.wt ≤ 1048576) (hU : b.wt ≤ 1048576) (H4 : TyR 4) (hoa : ¬ a.Ok) (Ra Rb A B A' B' : Option Addr) (na nb ca cb ca' cb' lo lo' : Nat) (hlo : 0 < lo) (hlo' : 0 < lo') (w : World) (hat : Fn.At w lo a Ra A B) (hbt : Fn.At w lo' b Rb A' B') (ht : RTable w) (hm : MaxC w) :
    Calls Tryz.prog 18 #[.agg #[.slice Ra a.params.length na, .int .i64 a.res.kind, .string a.res.name, .slice A a.res.labels.length ca, .slice B a.res.kids.length cb, .bool a.async], .agg #[.slice Rb b.params.length nb, .int .i64 b.res.kind, .string b.res.name, .slice A' b.res.labels.length ca', .slice B' b.res.kids.length cb', .bool b.async]] w fun e w' => e = .returned (.bool false) ∧ Below w.heap.size w w' := by
  have hr0 : wnf a b = none := wnf_no (fun h => hoa h.1)
  have OA := fun W h h2 => implFuncOk_any a hT Ra A B na ca cb lo W h h2
  have OB := fun W h h2 => implFuncOk_any b hU Rb A' B' nb ca' cb' lo' W h h2
  have OA := Lib.hid (fun W h h2 => (OA W h h2).mono fun _ _ j => j.no hoa)
  clear OB
  have HA := Lib.hid hat
  have HBt := Lib.hid hbt
  have HT := Lib.hid ht
  have HM := Lib.hid hm
  have CW0 := fun W h1 h2 h3 h4 => implWNF_any H4 a b hT hU Ra Rb A B A' B' na nb ca cb ca' cb' lo lo' hlo hlo' W h1 h2 h3 h4
  rw [hr0] at CW0
  have CW := Lib.hid (fun W h1 h2 h3 h4 => (CW0 W h1 h2 h3 h4).mono fun e w' h => (show e = .returned (.tuple #[.agg #[.int .i64 0, .string ⟨#[]⟩], .bool false]) ∧ Below W.heap.size W w' from h))
  clear CW0 hat hbt hT hU ht hm H4 hlo hlo' hr0 hoa
  go_enter Tryz.func18, Tryz.ntmps18
  go_wp2_with fail
  go_at_call 21
  refine (CW.out _ (HA.out.below (below2 _ _ _)) (HBt.out.below (below2 _ _ _)) (HT.out.keep (below2 _ _ _)) (HM.out.keep (below2 _ _ _))).mono ?_
  rintro e w2 ⟨rfl, hbw2⟩
  have a0_ := keepCell (a := ⟨w.heap.size, 0, none⟩) (v := .slice Ra a.params.length na) hbw2 (by go_simp)
  have a1_ := keepCell (a := ⟨w.heap.size, 1, none⟩) (v := .int .i64 a.res.kind) hbw2 (by go_simp)
  have a2_ := keepCell (a := ⟨w.heap.size, 2, none⟩) (v := .string a.res.name) hbw2 (by go_simp)
  have a3_ := keepCell (a := ⟨w.heap.size, 3, none⟩) (v := .slice A a.res.labels.length ca) hbw2 (by go_simp)
  have a4_ := keepCell (a := ⟨w.heap.size, 4, none⟩) (v := .slice B a.res.kids.length cb) hbw2 (by go_simp)
  have a5_ := keepCell (a := ⟨w.heap.size, 5, none⟩) (v := .bool a.async) hbw2 (by go_simp)
  have b0_ := keepCell (a := ⟨w.heap.size + 1, 0, none⟩) (v := .slice Rb b.params.length nb) hbw2 (by go_simp)
  have b1_ := keepCell (a := ⟨w.heap.size + 1, 1, none⟩) (v := .int .i64 b.res.kind) hbw2 (by go_simp)
  have b2_ := keepCell (a := ⟨w.heap.size + 1, 2, none⟩) (v := .string b.res.name) hbw2 (by go_simp)
  have b3_ := keepCell (a := ⟨w.heap.size + 1, 3, none⟩) (v := .slice A' b.res.labels.length ca') hbw2 (by go_simp)
  have b4_ := keepCell (a := ⟨w.heap.size + 1, 4, none⟩) (v := .slice B' b.res.kids.length cb') hbw2 (by go_simp)
  have b5_ := keepCell (a := ⟨w.heap.size + 1, 5, none⟩) (v := .bool b.async) hbw2 (by go_simp)
  have HBw2 := Lib.hid (bnext (below2 _ _ _) hbw2)
  clear hbw2
  replace a0_ := fun o => keepCell (below1 w2 o) a0_
  replace a1_ := fun o => keepCell (below1 w2 o) a1_
  replace a2_ := fun o => keepCell (below1 w2 o) a2_
  replace a3_ := fun o => keepCell (below1 w2 o) a3_
  replace a4_ := fun o => keepCell (below1 w2 o) a4_
  replace a5_ := fun o => keepCell (below1 w2 o) a5_
  replace b0_ := fun o => keepCell (below1 w2 o) b0_
  replace b1_ := fun o => keepCell (below1 w2 o) b1_
  replace b2_ := fun o => keepCell (below1 w2 o) b2_
  replace b3_ := fun o => keepCell (below1 w2 o) b3_
  replace b4_ := fun o => keepCell (below1 w2 o) b4_
  replace b5_ := fun o => keepCell (below1 w2 o) b5_
  go_wp2_with fail
  go_at_call 37
  refine (OA.out _ ((HA.out.below HBw2.out).below (below1 _ _)) ((HM.out.keep HBw2.out).keep (below1 _ _))).mono ?_
  rintro e w3 ⟨rfl, hbw3⟩
  have c0_ := keepCell hbw3 (b0_ _)
  have c1_ := keepCell hbw3 (b1_ _)
  have c2_ := keepCell hbw3 (b2_ _)
  have c3_ := keepCell hbw3 (b3_ _)
  have c4_ := keepCell hbw3 (b4_ _)
  have c5_ := keepCell hbw3 (b5_ _)
  have HBw3 := Lib.hid (bnext (bnext HBw2.out (below1 _ _)) hbw3)
  clear hbw3 a0_ a1_ a2_ a3_ a4_ a5_ b0_ b1_ b2_ b3_ b4_ b5_
  go_wp2_with fail
  go_ret
  exact ⟨rfl, HBw3.out⟩
set_option maxHeartbeats 2000000 in
set_option maxRecDepth 100000 in
theorem implFS_nb (a b : Fn) (hT : a.wt ≤ 1048576) (hU : b.wt ≤ 1048576) (H4 : TyR 4) (hoa : a.Ok) (hob : ¬ b.Ok) (Ra Rb A B A' B' : Option Addr) (na nb ca cb ca' cb' lo lo' : Nat) (hlo : 0 < lo) (hlo' : 0 < lo') (w : World) (hat : Fn.At w lo a Ra A B) (hbt : Fn.At w lo' b Rb A' B') (ht : RTable w) (hm : MaxC w) :
    Calls Tryz.prog 18 #[.agg #[.slice Ra a.params.length na, .int .i64 a.res.kind, .string a.res.name, .slice A a.res.labels.length ca, .slice B a.res.kids.length cb, .bool a.async], .agg #[.slice Rb b.params.length nb, .int .i64 b.res.kind, .string b.res.name, .slice A' b.res.labels.length ca', .slice B' b.res.kids.length cb', .bool b.async]] w fun e w' => e = .returned (.bool false) ∧ Below w.heap.size w w' := by
  have hr0 : wnf a b = none := wnf_no (fun h => hob h.2)
  have OA := fun W h h2 => implFuncOk_any a hT Ra A B na ca cb lo W h h2
  have OB := fun W h h2 => implFuncOk_any b hU Rb A' B' nb ca' cb' lo' W h h2
  have OA := Lib.hid (fun W h h2 => (OA W h h2).mono fun _ _ j => j.yes hoa)
  have OB := Lib.hid (fun W h h2 => (OB W h h2).mono fun _ _ j => j.no hob)
  have HA := Lib.hid hat
  have HBt := Lib.hid hbt
  have HT := Lib.hid ht
  have HM := Lib.hid hm
  have CW0 := fun W h1 h2 h3 h4 => implWNF_any H4 a b hT hU Ra Rb A B A' B' na nb ca cb ca' cb' lo lo' hlo hlo' W h1 h2 h3 h4
  rw [hr0] at CW0
  have CW := Lib.hid (fun W h1 h2 h3 h4 => (CW0 W h1 h2 h3 h4).mono fun e w' h => (show e = .returned (.tuple #[.agg #[.int .i64 0, .string ⟨#[]⟩], .bool false]) ∧ Below W.heap.size W w' from h))
  clear CW0 hat hbt hT hU ht hm H4 hlo hlo' hr0 hoa hob
  go_enter Tryz.func18, Tryz.ntmps18
  go_wp2_with fail
  go_at_call 21
  refine (CW.out _ (HA.out.below (below2 _ _ _)) (HBt.out.below (below2 _ _ _)) (HT.out.keep (below2 _ _ _)) (HM.out.keep (below2 _ _ _))).mono ?_
  rintro e w2 ⟨rfl, hbw2⟩
  have a0_ := keepCell (a := ⟨w.heap.size, 0, none⟩) (v := .slice Ra a.params.length na) hbw2 (by go_simp)
  have a1_ := keepCell (a := ⟨w.heap.size, 1, none⟩) (v := .int .i64 a.res.kind) hbw2 (by go_simp)
  have a2_ := keepCell (a := ⟨w.heap.size, 2, none⟩) (v := .string a.res.name) hbw2 (by go_simp)
  have a3_ := keepCell (a := ⟨w.heap.size, 3, none⟩) (v := .slice A a.res.labels.length ca) hbw2 (by go_simp)
  have a4_ := keepCell (a := ⟨w.heap.size, 4, none⟩) (v := .slice B a.res.kids.length cb) hbw2 (by go_simp)
  have a5_ := keepCell (a := ⟨w.heap.size, 5, none⟩) (v := .bool a.async) hbw2 (by go_simp)
  have b0_ := keepCell (a := ⟨w.heap.size + 1, 0, none⟩) (v := .slice Rb b.params.length nb) hbw2 (by go_simp)
  have b1_ := keepCell (a := ⟨w.heap.size + 1, 1, none⟩) (v := .int .i64 b.res.kind) hbw2 (by go_simp)
  have b2_ := keepCell (a := ⟨w.heap.size + 1, 2, none⟩) (v := .string b.res.name) hbw2 (by go_simp)
  have b3_ := keepCell (a := ⟨w.heap.size + 1, 3, none⟩) (v := .slice A' b.res.labels.length ca') hbw2 (by go_simp)
  have b4_ := keepCell (a := ⟨w.heap.size + 1, 4, none⟩) (v := .slice B' b.res.kids.length cb') hbw2 (by go_simp)
  have b5_ := keepCell (a := ⟨w.heap.size + 1, 5, none⟩) (v := .bool b.async) hbw2 (by go_simp)
  have HBw2 := Lib.hid (bnext (below2 _ _ _) hbw2)
  clear hbw2
  replace a0_ := fun o => keepCell (below1 w2 o) a0_
  replace a1_ := fun o => keepCell (below1 w2 o) a1_
  replace a2_ := fun o => keepCell (below1 w2 o) a2_
  replace a3_ := fun o => keepCell (below1 w2 o) a3_
  replace a4_ := fun o => keepCell (below1 w2 o) a4_
  replace a5_ := fun o => keepCell (below1 w2 o) a5_
  replace b0_ := fun o => keepCell (below1 w2 o) b0_
  replace b1_ := fun o => keepCell (below1 w2 o) b1_
  replace b2_ := fun o => keepCell (below1 w2 o) b2_
  replace b3_ := fun o => keepCell (below1 w2 o) b3_
  replace b4_ := fun o => keepCell (below1 w2 o) b4_
  replace b5_ := fun o => keepCell (below1 w2 o) b5_
  go_wp2_with fail
  go_at_call 37
  refine (OA.out _ ((HA.out.below HBw2.out).below (below1 _ _)) ((HM.out.keep HBw2.out).keep (below1 _ _))).mono ?_
  rintro e w3 ⟨rfl, hbw3⟩
  have c0_ := keepCell hbw3 (b0_ _)
  have c1_ := keepCell hbw3 (b1_ _)
  have c2_ := keepCell hbw3 (b2_ _)
  have c3_ := keepCell hbw3 (b3_ _)
  have c4_ := keepCell hbw3 (b4_ _)
  have c5_ := keepCell hbw3 (b5_ _)
  have HBw3 := Lib.hid (bnext (bnext HBw2.out (below1 _ _)) hbw3)
  clear hbw3 a0_ a1_ a2_ a3_ a4_ a5_ b0_ b1_ b2_ b3_ b4_ b5_
  go_wp2_with fail
  go_at_call 37
  refine (OB.out _ (HBt.out.below HBw3.out) (HM.out.keep HBw3.out)).mono ?_
  rintro e w4 ⟨rfl, hbw4⟩
  have HBw4 := Lib.hid (bnext HBw3.out hbw4)
  clear hbw4
  go_wp2_with fail
  go_ret
  exact ⟨rfl, HBw4.out⟩
set_option maxHeartbeats 2000000 in
set_option maxRecDepth 100000 in
theorem implFS_none (a b : Fn) (hT : a.wt ≤ 1048576) (hU : b.wt ≤ 1048576) (H4 : TyR 4) (hoa : a.Ok) (hob : b.Ok) (hr : wnf a b = none) (Ra Rb A B A' B' : Option Addr) (na nb ca cb ca' cb' lo lo' : Nat) (hlo : 0 < lo) (hlo' : 0 < lo') (w : World) (hat : Fn.At w lo a Ra A B) (hbt : Fn.At w lo' b Rb A' B') (ht : RTable w) (hm : MaxC w) :
    Calls Tryz.prog 18 #[.agg #[.slice Ra a.params.length na, .int .i64 a.res.kind, .string a.res.name, .slice A a.res.labels.length ca, .slice B a.res.kids.length cb, .bool a.async], .agg #[.slice Rb b.params.length nb, .int .i64 b.res.kind, .string b.res.name, .slice A' b.res.labels.length ca', .slice B' b.res.kids.length cb', .bool b.async]] w fun e w' => e = .returned (.bool true) ∧ Below w.heap.size w w' := by
  have OA := fun W h h2 => implFuncOk_any a hT Ra A B na ca cb lo W h h2
  have OB := fun W h h2 => implFuncOk_any b hU Rb A' B' nb ca' cb' lo' W h h2
  have OA := Lib.hid (fun W h h2 => (OA W h h2).mono fun _ _ j => j.yes hoa)
  have OB := Lib.hid (fun W h h2 => (OB W h h2).mono fun _ _ j => j.yes hob)
  have HA := Lib.hid hat
  have HBt := Lib.hid hbt
  have HT := Lib.hid ht
  have HM := Lib.hid hm
  have CW0 := fun W h1 h2 h3 h4 => implWNF_any H4 a b hT hU Ra Rb A B A' B' na nb ca cb ca' cb' lo lo' hlo hlo' W h1 h2 h3 h4
  rw [hr] at CW0
  have CW := Lib.hid (fun W h1 h2 h3 h4 => (CW0 W h1 h2 h3 h4).mono fun e w' h => (show e = .returned (.tuple #[.agg #[.int .i64 0, .string ⟨#[]⟩], .bool false]) ∧ Below W.heap.size W w' from h))
  clear CW0 hat hbt hT hU ht hm H4 hlo hlo' hr hoa hob
  go_enter Tryz.func18, Tryz.ntmps18
  go_wp2_with fail
  go_at_call 21
  refine (CW.out _ (HA.out.below (below2 _ _ _)) (HBt.out.below (below2 _ _ _)) (HT.out.keep (below2 _ _ _)) (HM.out.keep (below2 _ _ _))).mono ?_
  rintro e w2 ⟨rfl, hbw2⟩
  have a0_ := keepCell (a := ⟨w.heap.size, 0, none⟩) (v := .slice Ra a.params.length na) hbw2 (by go_simp)
  have a1_ := keepCell (a := ⟨w.heap.size, 1, none⟩) (v := .int .i64 a.res.kind) hbw2 (by go_simp)
  have a2_ := keepCell (a := ⟨w.heap.size, 2, none⟩) (v := .string a.res.name) hbw2 (by go_simp)
  have a3_ := keepCell (a := ⟨w.heap.size, 3, none⟩) (v := .slice A a.res.labels.length ca) hbw2 (by go_simp)
  have a4_ := keepCell (a := ⟨w.heap.size, 4, none⟩) (v := .slice B a.res.kids.length cb) hbw2 (by go_simp)
  have a5_ := keepCell (a := ⟨w.heap.size, 5, none⟩) (v := .bool a.async) hbw2 (by go_simp)
  have b0_ := keepCell (a := ⟨w.heap.size + 1, 0, none⟩) (v := .slice Rb b.params.length nb) hbw2 (by go_simp)
  have b1_ := keepCell (a := ⟨w.heap.size + 1, 1, none⟩) (v := .int .i64 b.res.kind) hbw2 (by go_simp)
  have b2_ := keepCell (a := ⟨w.heap.size + 1, 2, none⟩) (v := .string b.res.name) hbw2 (by go_simp)
  have b3_ := keepCell (a := ⟨w.heap.size + 1, 3, none⟩) (v := .slice A' b.res.labels.length ca') hbw2 (by go_simp)
  have b4_ := keepCell (a := ⟨w.heap.size + 1, 4, none⟩) (v := .slice B' b.res.kids.length cb') hbw2 (by go_simp)
  have b5_ := keepCell (a := ⟨w.heap.size + 1, 5, none⟩) (v := .bool b.async) hbw2 (by go_simp)
  have HBw2 := Lib.hid (bnext (below2 _ _ _) hbw2)
  clear hbw2
  replace a0_ := fun o => keepCell (below1 w2 o) a0_
  replace a1_ := fun o => keepCell (below1 w2 o) a1_
  replace a2_ := fun o => keepCell (below1 w2 o) a2_
  replace a3_ := fun o => keepCell (below1 w2 o) a3_
  replace a4_ := fun o => keepCell (below1 w2 o) a4_
  replace a5_ := fun o => keepCell (below1 w2 o) a5_
  replace b0_ := fun o => keepCell (below1 w2 o) b0_
  replace b1_ := fun o => keepCell (below1 w2 o) b1_
  replace b2_ := fun o => keepCell (below1 w2 o) b2_
  replace b3_ := fun o => keepCell (below1 w2 o) b3_
  replace b4_ := fun o => keepCell (below1 w2 o) b4_
  replace b5_ := fun o => keepCell (below1 w2 o) b5_
  go_wp2_with fail
  go_at_call 37
  refine (OA.out _ ((HA.out.below HBw2.out).below (below1 _ _)) ((HM.out.keep HBw2.out).keep (below1 _ _))).mono ?_
  rintro e w3 ⟨rfl, hbw3⟩
  have c0_ := keepCell hbw3 (b0_ _)
  have c1_ := keepCell hbw3 (b1_ _)
  have c2_ := keepCell hbw3 (b2_ _)
  have c3_ := keepCell hbw3 (b3_ _)
  have c4_ := keepCell hbw3 (b4_ _)
  have c5_ := keepCell hbw3 (b5_ _)
  have HBw3 := Lib.hid (bnext (bnext HBw2.out (below1 _ _)) hbw3)
  clear hbw3 a0_ a1_ a2_ a3_ a4_ a5_ b0_ b1_ b2_ b3_ b4_ b5_
  go_wp2_with fail
  go_at_call 37
  refine (OB.out _ (HBt.out.below HBw3.out) (HM.out.keep HBw3.out)).mono ?_
  rintro e w4 ⟨rfl, hbw4⟩
  have HBw4 := Lib.hid (bnext HBw3.out hbw4)
  clear hbw4
  go_wp2_with fail
  go_ret
  exact ⟨rfl, HBw4.out⟩
set_option maxHeartbeats 2000000 in
set_option maxRecDepth 100000 in
theorem implFS_some (a b : Fn) (hT : a.wt ≤ 1048576) (hU : b.wt ≤ 1048576) (H4 : TyR 4) (hoa : a.Ok) (hob : b.Ok) (z : Int) (p : ByteArray) (hr : wnf a b = some (z, p)) (Ra Rb A B A' B' : Option Addr) (na nb ca cb ca' cb' lo lo' : Nat) (hlo : 0 < lo) (hlo' : 0 < lo') (w : World) (hat : Fn.At w lo a Ra A B) (hbt : Fn.At w lo' b Rb A' B') (ht : RTable w) (hm : MaxC w) :
    Calls Tryz.prog 18 #[.agg #[.slice Ra a.params.length na, .int .i64 a.res.kind, .string a.res.name, .slice A a.res.labels.length ca, .slice B a.res.kids.length cb, .bool a.async], .agg #[.slice Rb b.params.length nb, .int .i64 b.res.kind, .string b.res.name, .slice A' b.res.labels.length ca', .slice B' b.res.kids.length cb', .bool b.async]] w fun e w' => e = .returned (.bool false) ∧ Below w.heap.size w w' := by
  have OA := fun W h h2 => implFuncOk_any a hT Ra A B na ca cb lo W h h2
  have OB := fun W h h2 => implFuncOk_any b hU Rb A' B' nb ca' cb' lo' W h h2
  have OA := Lib.hid (fun W h h2 => (OA W h h2).mono fun _ _ j => j.yes hoa)
  have OB := Lib.hid (fun W h h2 => (OB W h h2).mono fun _ _ j => j.yes hob)
  have HA := Lib.hid hat
  have HBt := Lib.hid hbt
  have HT := Lib.hid ht
  have HM := Lib.hid hm
  have CW0 := fun W h1 h2 h3 h4 => implWNF_any H4 a b hT hU Ra Rb A B A' B' na nb ca cb ca' cb' lo lo' hlo hlo' W h1 h2 h3 h4
  rw [hr] at CW0
  have CW := Lib.hid (fun W h1 h2 h3 h4 => (CW0 W h1 h2 h3 h4).mono fun e w' h => (show e = .returned (.tuple #[.agg #[.int .i64 z, .string p], .bool true]) ∧ Below W.heap.size W w' from h))
  clear CW0 hat hbt hT hU ht hm H4 hlo hlo' hr hoa hob
  go_enter Tryz.func18, Tryz.ntmps18
  go_wp2_with fail
  go_at_call 21
  refine (CW.out _ (HA.out.below (below2 _ _ _)) (HBt.out.below (below2 _ _ _)) (HT.out.keep (below2 _ _ _)) (HM.out.keep (below2 _ _ _))).mono ?_
  rintro e w2 ⟨rfl, hbw2⟩
  have a0_ := keepCell (a := ⟨w.heap.size, 0, none⟩) (v := .slice Ra a.params.length na) hbw2 (by go_simp)
  have a1_ := keepCell (a := ⟨w.heap.size, 1, none⟩) (v := .int .i64 a.res.kind) hbw2 (by go_simp)
  have a2_ := keepCell (a := ⟨w.heap.size, 2, none⟩) (v := .string a.res.name) hbw2 (by go_simp)
  have a3_ := keepCell (a := ⟨w.heap.size, 3, none⟩) (v := .slice A a.res.labels.length ca) hbw2 (by go_simp)
  have a4_ := keepCell (a := ⟨w.heap.size, 4, none⟩) (v := .slice B a.res.kids.length cb) hbw2 (by go_simp)
  have a5_ := keepCell (a := ⟨w.heap.size, 5, none⟩) (v := .bool a.async) hbw2 (by go_simp)
  have b0_ := keepCell (a := ⟨w.heap.size + 1, 0, none⟩) (v := .slice Rb b.params.length nb) hbw2 (by go_simp)
  have b1_ := keepCell (a := ⟨w.heap.size + 1, 1, none⟩) (v := .int .i64 b.res.kind) hbw2 (by go_simp)
  have b2_ := keepCell (a := ⟨w.heap.size + 1, 2, none⟩) (v := .string b.res.name) hbw2 (by go_simp)
  have b3_ := keepCell (a := ⟨w.heap.size + 1, 3, none⟩) (v := .slice A' b.res.labels.length ca') hbw2 (by go_simp)
  have b4_ := keepCell (a := ⟨w.heap.size + 1, 4, none⟩) (v := .slice B' b.res.kids.length cb') hbw2 (by go_simp)
  have b5_ := keepCell (a := ⟨w.heap.size + 1, 5, none⟩) (v := .bool b.async) hbw2 (by go_simp)
  have HBw2 := Lib.hid (bnext (below2 _ _ _) hbw2)
  clear hbw2
  replace a0_ := fun o => keepCell (below1 w2 o) a0_
  replace a1_ := fun o => keepCell (below1 w2 o) a1_
  replace a2_ := fun o => keepCell (below1 w2 o) a2_
  replace a3_ := fun o => keepCell (below1 w2 o) a3_
  replace a4_ := fun o => keepCell (below1 w2 o) a4_
  replace a5_ := fun o => keepCell (below1 w2 o) a5_
  replace b0_ := fun o => keepCell (below1 w2 o) b0_
  replace b1_ := fun o => keepCell (below1 w2 o) b1_
  replace b2_ := fun o => keepCell (below1 w2 o) b2_
  replace b3_ := fun o => keepCell (below1 w2 o) b3_
  replace b4_ := fun o => keepCell (below1 w2 o) b4_
  replace b5_ := fun o => keepCell (below1 w2 o) b5_
  go_wp2_with fail
  go_at_call 37
  refine (OA.out _ ((HA.out.below HBw2.out).below (below1 _ _)) ((HM.out.keep HBw2.out).keep (below1 _ _))).mono ?_
  rintro e w3 ⟨rfl, hbw3⟩
  have c0_ := keepCell hbw3 (b0_ _)
  have c1_ := keepCell hbw3 (b1_ _)
  have c2_ := keepCell hbw3 (b2_ _)
  have c3_ := keepCell hbw3 (b3_ _)
  have c4_ := keepCell hbw3 (b4_ _)
  have c5_ := keepCell hbw3 (b5_ _)
  have HBw3 := Lib.hid (bnext (bnext HBw2.out (below1 _ _)) hbw3)
  clear hbw3 a0_ a1_ a2_ a3_ a4_ a5_ b0_ b1_ b2_ b3_ b4_ b5_
  go_wp2_with fail
  go_at_call 37
  refine (OB.out _ (HBt.out.below HBw3.out) (HM.out.keep HBw3.out)).mono ?_
  rintro e w4 ⟨rfl, hbw4⟩
  have HBw4 := Lib.hid (bnext HBw3.out hbw4)
  clear hbw4
  go_wp2_with fail
  go_ret
  exact ⟨rfl, HBw4.out⟩
theorem implFS_any (H4 : TyR 4) (a b : Fn) (hT : a.wt ≤ 1048576) (hU : b.wt ≤ 1048576) (Ra Rb A B A' B' : Option Addr) (na nb ca cb ca' cb' lo lo' : Nat) (hlo : 0 < lo) (hlo' : 0 < lo') (w : World) (hat : Fn.At w lo a Ra A B) (hbt : Fn.At w lo' b Rb A' B') (ht : RTable w) (hm : MaxC w) :
    Calls Tryz.prog 18 #[.agg #[.slice Ra a.params.length na, .int .i64 a.res.kind, .string a.res.name, .slice A a.res.labels.length ca, .slice B a.res.kids.length cb, .bool a.async], .agg #[.slice Rb b.params.length nb, .int .i64 b.res.kind, .string b.res.name, .slice A' b.res.labels.length ca', .slice B' b.res.kids.length cb', .bool b.async]] w (fun e w' => ∃ v : Bool, e = .returned (.bool v) ∧ (a.Ok ∧ b.Ok → v = (Fn.why a b).isNone) ∧ (¬ (a.Ok ∧ b.Ok) → v = false) ∧ Below w.heap.size w w') := by
  by_cases hoa : a.Ok
  · by_cases hob : b.Ok
    · cases hr : Fn.why a b with
      | none => exact (implFS_none a b hT hU H4 hoa hob (by rw [wnf_yes ⟨hoa, hob⟩]; exact hr) Ra Rb A B A' B' na nb ca cb ca' cb' lo lo' hlo hlo' w hat hbt ht hm).mono fun e w' ⟨h1, h2⟩ => ⟨true, h1, fun _ => rfl, fun h => absurd ⟨hoa, hob⟩ h, h2⟩
      | some x =>
        obtain ⟨z, p⟩ := x
        exact (implFS_some a b hT hU H4 hoa hob z p (by rw [wnf_yes ⟨hoa, hob⟩]; exact hr) Ra Rb A B A' B' na nb ca cb ca' cb' lo lo' hlo hlo' w hat hbt ht hm).mono fun e w' ⟨h1, h2⟩ => ⟨false, h1, fun _ => rfl, fun _ => rfl, h2⟩
    · exact (implFS_nb a b hT hU H4 hoa hob Ra Rb A B A' B' na nb ca cb ca' cb' lo lo' hlo hlo' w hat hbt ht hm).mono fun e w' ⟨h1, h2⟩ => ⟨false, h1, fun h => absurd h.2 hob, fun _ => rfl, h2⟩
  · exact (implFS_na a b hT hU H4 hoa Ra Rb A B A' B' na nb ca cb ca' cb' lo lo' hlo hlo' w hat hbt ht hm).mono fun e w' ⟨h1, h2⟩ => ⟨false, h1, fun h => absurd h.1 hoa, fun _ => rfl, h2⟩
end Go.Proofs.YtifchfecfkdjlaaGreatDoor
