/-
  The walks of both MayStand; what both WhyNot and both MayStand answer, in one.
-/
import Derived.Test.YtifchfecfkdjlaaGreatDoorWhN1
namespace Go.Proofs.YtifchfecfkdjlaaGreatDoor
open Go.ChangeShapes Go.WideShapes Go.ChangeAt Go.RowKit Go.Deep

set_option maxHeartbeats 8000000 in
set_option maxRecDepth 100000 in
theorem l08May_none (a b : Ty) (ga : Gd 4 a) (gb : Gd 4 b) (hr : Ty.why 4 a b = none) (A B A' B' : Option Addr) (ca cb ca' cb' : Nat) (lo lo' : Nat) (w : World) (hat : Ty.At w lo a A B) (hbt : Ty.At w lo' b A' B') :
    Calls Tryz.prog 25 #[.agg #[.int .i64 a.kind, .string a.name, .slice A a.labels.length ca, .slice B a.kids.length cb], .agg #[.int .i64 b.kind, .string b.name, .slice A' b.labels.length ca', .slice B' b.kids.length cb']] w fun e w' => e = .returned (.bool true) ∧ Below w.heap.size w w' := by
  have CW0 := (fun W h1 h2 => why_any 4 (by omega) a b ga gb A B A' B' ca cb ca' cb' lo lo' ⟨#[]⟩ (by decide) W h1 h2)
  rw [hr] at CW0
  have CW := Lib.hid (fun W h1 h2 => (CW0 W h1 h2).mono fun e w' j => (show e = .returned (.tuple #[.agg #[.int .i64 0, .string ⟨#[]⟩], .bool false]) ∧ Below W.heap.size W w' from j))
  have HA := Lib.hid hat
  have HBt := Lib.hid hbt
  clear CW0 hat hbt ga gb hr
  go_enter Tryz.func25, Tryz.ntmps25
  go_wp2_with fail
  go_at_call 31
  refine (CW.out _ (HA.out.below (below2 _ _ _)) (HBt.out.below (below2 _ _ _))).mono ?_
  rintro e w2 ⟨rfl, hbw2⟩
  have HBw2 := Lib.hid (bnext (below2 _ _ _) hbw2)
  clear hbw2 CW
  go_wp2_with fail
  go_ret
  exact ⟨rfl, bnext HBw2.out (below1 _ _)⟩

set_option maxHeartbeats 8000000 in
set_option maxRecDepth 100000 in
theorem l08May_some (a b : Ty) (ga : Gd 4 a) (gb : Gd 4 b) (z : Int) (p : ByteArray) (hr : Ty.why 4 a b = some (z, p)) (A B A' B' : Option Addr) (ca cb ca' cb' : Nat) (lo lo' : Nat) (w : World) (hat : Ty.At w lo a A B) (hbt : Ty.At w lo' b A' B') :
    Calls Tryz.prog 25 #[.agg #[.int .i64 a.kind, .string a.name, .slice A a.labels.length ca, .slice B a.kids.length cb], .agg #[.int .i64 b.kind, .string b.name, .slice A' b.labels.length ca', .slice B' b.kids.length cb']] w fun e w' => e = .returned (.bool false) ∧ Below w.heap.size w w' := by
  have CW0 := (fun W h1 h2 => why_any 4 (by omega) a b ga gb A B A' B' ca cb ca' cb' lo lo' ⟨#[]⟩ (by decide) W h1 h2)
  rw [hr] at CW0
  have CW := Lib.hid (fun W h1 h2 => (CW0 W h1 h2).mono fun e w' j => (show e = .returned (.tuple #[.agg #[.int .i64 z, .string (⟨#[]⟩ ++ p)], .bool true]) ∧ Below W.heap.size W w' from j))
  have HA := Lib.hid hat
  have HBt := Lib.hid hbt
  clear CW0 hat hbt ga gb hr
  go_enter Tryz.func25, Tryz.ntmps25
  go_wp2_with fail
  go_at_call 31
  refine (CW.out _ (HA.out.below (below2 _ _ _)) (HBt.out.below (below2 _ _ _))).mono ?_
  rintro e w2 ⟨rfl, hbw2⟩
  have HBw2 := Lib.hid (bnext (below2 _ _ _) hbw2)
  clear hbw2 CW
  go_wp2_with fail
  go_ret
  exact ⟨rfl, bnext HBw2.out (below1 _ _)⟩

set_option maxHeartbeats 8000000 in
set_option maxRecDepth 100000 in
theorem specMay_na (a b : Ty) (hT : a.wt ≤ 1048576) (hoa : ¬ a.Ok) (A B A' B' : Option Addr) (ca cb ca' cb' : Nat) (lo : Nat) (w : World) (hat : Ty.At w lo a A B) :
    Calls Tryz.prog 8 #[.agg #[.int .i64 a.kind, .string a.name, .slice A a.labels.length ca, .slice B a.kids.length cb], .agg #[.int .i64 b.kind, .string b.name, .slice A' b.labels.length ca', .slice B' b.kids.length cb']] w fun e w' => e = .returned (.bool false) ∧ Below w.heap.size w w' := by
  have OA := (fun W h => specTypeOk_any a hT A B ca cb lo W h)
  have OA := Lib.hid (fun W h => (OA W h).mono fun _ _ j => j.no hoa)
  have HA := Lib.hid hat
  clear hat hoa hT
  go_enter Tryz.func8, Tryz.ntmps8
  go_wp2_with fail
  go_at_call 24
  refine (OA.out _ (HA.out.below (below2 _ _ _))).mono ?_
  rintro e w2 ⟨rfl, hbw2⟩
  have HBw2 := Lib.hid (bnext (below2 _ _ _) hbw2)
  clear hbw2
  go_wp2_with fail
  go_ret
  exact ⟨rfl, HBw2.out⟩

set_option maxHeartbeats 8000000 in
set_option maxRecDepth 100000 in
theorem specMay_nb (a b : Ty) (hT : a.wt ≤ 1048576) (hU : b.wt ≤ 1048576) (hoa : a.Ok) (hob : ¬ b.Ok) (A B A' B' : Option Addr) (ca cb ca' cb' : Nat) (lo lo' : Nat) (w : World) (hat : Ty.At w lo a A B) (hbt : Ty.At w lo' b A' B') :
    Calls Tryz.prog 8 #[.agg #[.int .i64 a.kind, .string a.name, .slice A a.labels.length ca, .slice B a.kids.length cb], .agg #[.int .i64 b.kind, .string b.name, .slice A' b.labels.length ca', .slice B' b.kids.length cb']] w fun e w' => e = .returned (.bool false) ∧ Below w.heap.size w w' := by
  have OA := (fun W h => specTypeOk_any a hT A B ca cb lo W h)
  have OB := (fun W h => specTypeOk_any b hU A' B' ca' cb' lo' W h)
  have OA := Lib.hid (fun W h => (OA W h).mono fun _ _ j => j.yes hoa)
  have OB := Lib.hid (fun W h => (OB W h).mono fun _ _ j => j.no hob)
  have HA := Lib.hid hat
  have HBt := Lib.hid hbt
  clear hat hbt hoa hob hT hU
  go_enter Tryz.func8, Tryz.ntmps8
  go_wp2_with fail
  go_at_call 24
  refine (OA.out _ (HA.out.below (below2 _ _ _))).mono ?_
  rintro e w2 ⟨rfl, hbw2⟩
  have a0_ := keepCell (a := ⟨w.heap.size, 0, none⟩) (v := .int .i64 a.kind) hbw2 (by go_simp)
  have a1_ := keepCell (a := ⟨w.heap.size, 1, none⟩) (v := .string a.name) hbw2 (by go_simp)
  have a2_ := keepCell (a := ⟨w.heap.size, 2, none⟩) (v := .slice A a.labels.length ca) hbw2 (by go_simp)
  have a3_ := keepCell (a := ⟨w.heap.size, 3, none⟩) (v := .slice B a.kids.length cb) hbw2 (by go_simp)
  have b0_ := keepCell (a := ⟨w.heap.size + 1, 0, none⟩) (v := .int .i64 b.kind) hbw2 (by go_simp)
  have b1_ := keepCell (a := ⟨w.heap.size + 1, 1, none⟩) (v := .string b.name) hbw2 (by go_simp)
  have b2_ := keepCell (a := ⟨w.heap.size + 1, 2, none⟩) (v := .slice A' b.labels.length ca') hbw2 (by go_simp)
  have b3_ := keepCell (a := ⟨w.heap.size + 1, 3, none⟩) (v := .slice B' b.kids.length cb') hbw2 (by go_simp)
  have hzw2 : w.heap.size + 1 < w2.heap.size := World.block_lt_of_cell? w2 _ b0_
  have HBw2 := Lib.hid (bnext (below2 _ _ _) hbw2)
  clear hbw2
  go_wp2_with fail
  go_at_call 24
  refine (OB.out _ (HBt.out.below (HBw2.out))).mono ?_
  rintro e w3 ⟨rfl, hbw3⟩
  have HBw3 := Lib.hid (bnext HBw2.out hbw3)
  clear hbw3
  go_wp2_with fail
  go_ret
  exact ⟨rfl, HBw3.out⟩

set_option maxHeartbeats 8000000 in
set_option maxRecDepth 100000 in
theorem specMay_ok (a b : Ty) (hoa : a.Ok) (hob : b.Ok) (ga : Gd 4 a) (gb : Gd 4 b) (v : Bool) (A B A' B' : Option Addr) (ca cb ca' cb' : Nat) (lo lo' : Nat) (w : World) (hat : Ty.At w lo a A B) (hbt : Ty.At w lo' b A' B')
    (hmay : ∀ W : World, Ty.At W lo a A B → Ty.At W lo' b A' B' → Calls Tryz.prog 25 #[.agg #[.int .i64 a.kind, .string a.name, .slice A a.labels.length ca, .slice B a.kids.length cb], .agg #[.int .i64 b.kind, .string b.name, .slice A' b.labels.length ca', .slice B' b.kids.length cb']] W fun e w' => e = .returned (.bool v) ∧ Below W.heap.size W w') :
    Calls Tryz.prog 8 #[.agg #[.int .i64 a.kind, .string a.name, .slice A a.labels.length ca, .slice B a.kids.length cb], .agg #[.int .i64 b.kind, .string b.name, .slice A' b.labels.length ca', .slice B' b.kids.length cb']] w fun e w' => e = .returned (.bool v) ∧ Below w.heap.size w w' := by
  have hT := ga.1
  have hU := gb.1
  have OA := (fun W h => specTypeOk_any a hT A B ca cb lo W h)
  have OB := (fun W h => specTypeOk_any b hU A' B' ca' cb' lo' W h)
  have OA := Lib.hid (fun W h => (OA W h).mono fun _ _ j => j.yes hoa)
  have OB := Lib.hid (fun W h => (OB W h).mono fun _ _ j => j.yes hob)
  have HA := Lib.hid hat
  have HBt := Lib.hid hbt
  have CM := Lib.hid hmay
  clear hat hbt hoa hob hT hU ga gb hmay
  go_enter Tryz.func8, Tryz.ntmps8
  go_wp2_with fail
  go_at_call 24
  refine (OA.out _ (HA.out.below (below2 _ _ _))).mono ?_
  rintro e w2 ⟨rfl, hbw2⟩
  have a0_ := keepCell (a := ⟨w.heap.size, 0, none⟩) (v := .int .i64 a.kind) hbw2 (by go_simp)
  have a1_ := keepCell (a := ⟨w.heap.size, 1, none⟩) (v := .string a.name) hbw2 (by go_simp)
  have a2_ := keepCell (a := ⟨w.heap.size, 2, none⟩) (v := .slice A a.labels.length ca) hbw2 (by go_simp)
  have a3_ := keepCell (a := ⟨w.heap.size, 3, none⟩) (v := .slice B a.kids.length cb) hbw2 (by go_simp)
  have b0_ := keepCell (a := ⟨w.heap.size + 1, 0, none⟩) (v := .int .i64 b.kind) hbw2 (by go_simp)
  have b1_ := keepCell (a := ⟨w.heap.size + 1, 1, none⟩) (v := .string b.name) hbw2 (by go_simp)
  have b2_ := keepCell (a := ⟨w.heap.size + 1, 2, none⟩) (v := .slice A' b.labels.length ca') hbw2 (by go_simp)
  have b3_ := keepCell (a := ⟨w.heap.size + 1, 3, none⟩) (v := .slice B' b.kids.length cb') hbw2 (by go_simp)
  have hzw2 : w.heap.size + 1 < w2.heap.size := World.block_lt_of_cell? w2 _ b0_
  have HBw2 := Lib.hid (bnext (below2 _ _ _) hbw2)
  clear hbw2
  go_wp2_with fail
  go_at_call 24
  refine (OB.out _ (HBt.out.below (HBw2.out))).mono ?_
  rintro e w3 ⟨rfl, hbw3⟩
  replace a0_ := keepCell hbw3 a0_
  replace a1_ := keepCell hbw3 a1_
  replace a2_ := keepCell hbw3 a2_
  replace a3_ := keepCell hbw3 a3_
  replace b0_ := keepCell hbw3 b0_
  replace b1_ := keepCell hbw3 b1_
  replace b2_ := keepCell hbw3 b2_
  replace b3_ := keepCell hbw3 b3_
  have hzw3 : w.heap.size + 1 < w3.heap.size := World.block_lt_of_cell? w3 _ b0_
  have HBw3 := Lib.hid (bnext HBw2.out hbw3)
  clear hbw3
  go_wp2_with fail
  go_at_call 25
  refine (CM.out _ (HA.out.below (HBw3.out)) (HBt.out.below (HBw3.out))).mono ?_
  rintro e w4 ⟨rfl, hbw4⟩
  have HBw4 := Lib.hid (bnext HBw3.out hbw4)
  clear hbw4
  go_wp2_with fail
  go_ret
  exact ⟨rfl, HBw4.out⟩

set_option maxHeartbeats 8000000 in
set_option maxRecDepth 100000 in
theorem implMay_na (a b : Ty) (hT : a.wt ≤ 1048576) (hU : b.wt ≤ 1048576) (hoa : ¬ a.Ok) (A B A' B' : Option Addr) (ca cb ca' cb' : Nat) (w : World) (hat : Ty.Pl w 0 a A B) (hbt : Ty.Pl w 0 b A' B') (hm : MaxC w)
    (hw : ∀ W : World, Below w.heap.size w W → Calls Tryz.prog 13 #[.agg #[.int .i64 a.kind, .string a.name, .slice A a.labels.length ca, .slice B a.kids.length cb], .agg #[.int .i64 b.kind, .string b.name, .slice A' b.labels.length ca', .slice B' b.kids.length cb']] W fun e w' => e = .returned (.tuple #[.agg #[.int .i64 0, .string ⟨#[]⟩], .bool false]) ∧ Below W.heap.size W w') :
    Calls Tryz.prog 10 #[.agg #[.int .i64 a.kind, .string a.name, .slice A a.labels.length ca, .slice B a.kids.length cb], .agg #[.int .i64 b.kind, .string b.name, .slice A' b.labels.length ca', .slice B' b.kids.length cb']] w fun e w' => e = .returned (.bool false) ∧ Below w.heap.size w w' := by
  have OA := (fun W h h2 => implTypeOk_any a 0 hT A B ca cb W (Ty.Pl.at_ h) h2)
  have OB := (fun W h h2 => implTypeOk_any b 0 hU A' B' ca' cb' W (Ty.Pl.at_ h) h2)
  have OA := Lib.hid (fun W h h2 => (OA W h h2).mono fun _ _ j => j.no hoa)
  have HA := Lib.hid hat
  have HBt := Lib.hid hbt
  have HM := Lib.hid hm
  have CWN := Lib.hid hw
  clear hat hbt hm hw hoa hT hU OB
  go_enter Tryz.func10, Tryz.ntmps10
  go_wp2_with fail
  go_at_call 13
  refine (CWN.out _ (below2 _ _ _)).mono ?_
  rintro e w2 ⟨rfl, hbw2⟩
  have a0_ := keepCell (a := ⟨w.heap.size, 0, none⟩) (v := .int .i64 a.kind) hbw2 (by go_simp)
  have a1_ := keepCell (a := ⟨w.heap.size, 1, none⟩) (v := .string a.name) hbw2 (by go_simp)
  have a2_ := keepCell (a := ⟨w.heap.size, 2, none⟩) (v := .slice A a.labels.length ca) hbw2 (by go_simp)
  have a3_ := keepCell (a := ⟨w.heap.size, 3, none⟩) (v := .slice B a.kids.length cb) hbw2 (by go_simp)
  have b0_ := keepCell (a := ⟨w.heap.size + 1, 0, none⟩) (v := .int .i64 b.kind) hbw2 (by go_simp)
  have b1_ := keepCell (a := ⟨w.heap.size + 1, 1, none⟩) (v := .string b.name) hbw2 (by go_simp)
  have b2_ := keepCell (a := ⟨w.heap.size + 1, 2, none⟩) (v := .slice A' b.labels.length ca') hbw2 (by go_simp)
  have b3_ := keepCell (a := ⟨w.heap.size + 1, 3, none⟩) (v := .slice B' b.kids.length cb') hbw2 (by go_simp)
  have hzw2 : w.heap.size + 1 < w2.heap.size := World.block_lt_of_cell? w2 _ b0_
  have HBw2 := Lib.hid (bnext (below2 _ _ _) hbw2)
  clear hbw2
  have xa0_ := fun o => keepCell (below1 w2 o) a0_
  have xa1_ := fun o => keepCell (below1 w2 o) a1_
  have xa2_ := fun o => keepCell (below1 w2 o) a2_
  have xa3_ := fun o => keepCell (below1 w2 o) a3_
  have xb0_ := fun o => keepCell (below1 w2 o) b0_
  have xb1_ := fun o => keepCell (below1 w2 o) b1_
  have xb2_ := fun o => keepCell (below1 w2 o) b2_
  have xb3_ := fun o => keepCell (below1 w2 o) b3_
  go_wp2_with fail
  go_at_call 28
  refine (OA.out _ (HA.out.on (bnext HBw2.out (below1 _ _))) (HM.out.keep (bnext HBw2.out (below1 _ _)))).mono ?_
  rintro e w3 ⟨rfl, hbw3⟩
  have HBw3 := Lib.hid (bnext (bnext HBw2.out (below1 _ _)) hbw3)
  clear hbw3
  go_wp2_with fail
  go_ret
  exact ⟨rfl, HBw3.out⟩

set_option maxHeartbeats 8000000 in
set_option maxRecDepth 100000 in
theorem implMay_nb (a b : Ty) (hT : a.wt ≤ 1048576) (hU : b.wt ≤ 1048576) (hoa : a.Ok) (hob : ¬ b.Ok) (A B A' B' : Option Addr) (ca cb ca' cb' : Nat) (w : World) (hat : Ty.Pl w 0 a A B) (hbt : Ty.Pl w 0 b A' B') (hm : MaxC w)
    (hw : ∀ W : World, Below w.heap.size w W → Calls Tryz.prog 13 #[.agg #[.int .i64 a.kind, .string a.name, .slice A a.labels.length ca, .slice B a.kids.length cb], .agg #[.int .i64 b.kind, .string b.name, .slice A' b.labels.length ca', .slice B' b.kids.length cb']] W fun e w' => e = .returned (.tuple #[.agg #[.int .i64 0, .string ⟨#[]⟩], .bool false]) ∧ Below W.heap.size W w') :
    Calls Tryz.prog 10 #[.agg #[.int .i64 a.kind, .string a.name, .slice A a.labels.length ca, .slice B a.kids.length cb], .agg #[.int .i64 b.kind, .string b.name, .slice A' b.labels.length ca', .slice B' b.kids.length cb']] w fun e w' => e = .returned (.bool false) ∧ Below w.heap.size w w' := by
  have OA := (fun W h h2 => implTypeOk_any a 0 hT A B ca cb W (Ty.Pl.at_ h) h2)
  have OB := (fun W h h2 => implTypeOk_any b 0 hU A' B' ca' cb' W (Ty.Pl.at_ h) h2)
  have OA := Lib.hid (fun W h h2 => (OA W h h2).mono fun _ _ j => j.yes hoa)
  have OB := Lib.hid (fun W h h2 => (OB W h h2).mono fun _ _ j => j.no hob)
  have HA := Lib.hid hat
  have HBt := Lib.hid hbt
  have HM := Lib.hid hm
  have CWN := Lib.hid hw
  clear hat hbt hm hw hoa hT hU hob
  go_enter Tryz.func10, Tryz.ntmps10
  go_wp2_with fail
  go_at_call 13
  refine (CWN.out _ (below2 _ _ _)).mono ?_
  rintro e w2 ⟨rfl, hbw2⟩
  have a0_ := keepCell (a := ⟨w.heap.size, 0, none⟩) (v := .int .i64 a.kind) hbw2 (by go_simp)
  have a1_ := keepCell (a := ⟨w.heap.size, 1, none⟩) (v := .string a.name) hbw2 (by go_simp)
  have a2_ := keepCell (a := ⟨w.heap.size, 2, none⟩) (v := .slice A a.labels.length ca) hbw2 (by go_simp)
  have a3_ := keepCell (a := ⟨w.heap.size, 3, none⟩) (v := .slice B a.kids.length cb) hbw2 (by go_simp)
  have b0_ := keepCell (a := ⟨w.heap.size + 1, 0, none⟩) (v := .int .i64 b.kind) hbw2 (by go_simp)
  have b1_ := keepCell (a := ⟨w.heap.size + 1, 1, none⟩) (v := .string b.name) hbw2 (by go_simp)
  have b2_ := keepCell (a := ⟨w.heap.size + 1, 2, none⟩) (v := .slice A' b.labels.length ca') hbw2 (by go_simp)
  have b3_ := keepCell (a := ⟨w.heap.size + 1, 3, none⟩) (v := .slice B' b.kids.length cb') hbw2 (by go_simp)
  have hzw2 : w.heap.size + 1 < w2.heap.size := World.block_lt_of_cell? w2 _ b0_
  have HBw2 := Lib.hid (bnext (below2 _ _ _) hbw2)
  clear hbw2
  have xa0_ := fun o => keepCell (below1 w2 o) a0_
  have xa1_ := fun o => keepCell (below1 w2 o) a1_
  have xa2_ := fun o => keepCell (below1 w2 o) a2_
  have xa3_ := fun o => keepCell (below1 w2 o) a3_
  have xb0_ := fun o => keepCell (below1 w2 o) b0_
  have xb1_ := fun o => keepCell (below1 w2 o) b1_
  have xb2_ := fun o => keepCell (below1 w2 o) b2_
  have xb3_ := fun o => keepCell (below1 w2 o) b3_
  go_wp2_with fail
  go_at_call 28
  refine (OA.out _ (HA.out.on (bnext HBw2.out (below1 _ _))) (HM.out.keep (bnext HBw2.out (below1 _ _)))).mono ?_
  rintro e w3 ⟨rfl, hbw3⟩
  replace a0_ := keepCell hbw3 (keepCell (below1 _ _) a0_)
  replace a1_ := keepCell hbw3 (keepCell (below1 _ _) a1_)
  replace a2_ := keepCell hbw3 (keepCell (below1 _ _) a2_)
  replace a3_ := keepCell hbw3 (keepCell (below1 _ _) a3_)
  replace b0_ := keepCell hbw3 (keepCell (below1 _ _) b0_)
  replace b1_ := keepCell hbw3 (keepCell (below1 _ _) b1_)
  replace b2_ := keepCell hbw3 (keepCell (below1 _ _) b2_)
  replace b3_ := keepCell hbw3 (keepCell (below1 _ _) b3_)
  have HBw3 := Lib.hid (bnext (bnext HBw2.out (below1 _ _)) hbw3)
  clear hbw3
  go_wp2_with fail
  go_at_call 28
  refine (OB.out _ (HBt.out.on HBw3.out) (HM.out.keep HBw3.out)).mono ?_
  rintro e w4 ⟨rfl, hbw4⟩
  have HBw4 := Lib.hid (bnext HBw3.out hbw4)
  clear hbw4
  go_wp2_with fail
  go_ret
  exact ⟨rfl, HBw4.out⟩

set_option maxHeartbeats 8000000 in
set_option maxRecDepth 100000 in
theorem implMay_none (a b : Ty) (hT : a.wt ≤ 1048576) (hU : b.wt ≤ 1048576) (hoa : a.Ok) (hob : b.Ok) (A B A' B' : Option Addr) (ca cb ca' cb' : Nat) (w : World) (hat : Ty.Pl w 0 a A B) (hbt : Ty.Pl w 0 b A' B') (hm : MaxC w)
    (hw : ∀ W : World, Below w.heap.size w W → Calls Tryz.prog 13 #[.agg #[.int .i64 a.kind, .string a.name, .slice A a.labels.length ca, .slice B a.kids.length cb], .agg #[.int .i64 b.kind, .string b.name, .slice A' b.labels.length ca', .slice B' b.kids.length cb']] W fun e w' => e = .returned (.tuple #[.agg #[.int .i64 0, .string ⟨#[]⟩], .bool false]) ∧ Below W.heap.size W w') :
    Calls Tryz.prog 10 #[.agg #[.int .i64 a.kind, .string a.name, .slice A a.labels.length ca, .slice B a.kids.length cb], .agg #[.int .i64 b.kind, .string b.name, .slice A' b.labels.length ca', .slice B' b.kids.length cb']] w fun e w' => e = .returned (.bool true) ∧ Below w.heap.size w w' := by
  have OA := (fun W h h2 => implTypeOk_any a 0 hT A B ca cb W (Ty.Pl.at_ h) h2)
  have OB := (fun W h h2 => implTypeOk_any b 0 hU A' B' ca' cb' W (Ty.Pl.at_ h) h2)
  have OA := Lib.hid (fun W h h2 => (OA W h h2).mono fun _ _ j => j.yes hoa)
  have OB := Lib.hid (fun W h h2 => (OB W h h2).mono fun _ _ j => j.yes hob)
  have HA := Lib.hid hat
  have HBt := Lib.hid hbt
  have HM := Lib.hid hm
  have CWN := Lib.hid hw
  clear hat hbt hm hw hoa hT hU hob
  go_enter Tryz.func10, Tryz.ntmps10
  go_wp2_with fail
  go_at_call 13
  refine (CWN.out _ (below2 _ _ _)).mono ?_
  rintro e w2 ⟨rfl, hbw2⟩
  have a0_ := keepCell (a := ⟨w.heap.size, 0, none⟩) (v := .int .i64 a.kind) hbw2 (by go_simp)
  have a1_ := keepCell (a := ⟨w.heap.size, 1, none⟩) (v := .string a.name) hbw2 (by go_simp)
  have a2_ := keepCell (a := ⟨w.heap.size, 2, none⟩) (v := .slice A a.labels.length ca) hbw2 (by go_simp)
  have a3_ := keepCell (a := ⟨w.heap.size, 3, none⟩) (v := .slice B a.kids.length cb) hbw2 (by go_simp)
  have b0_ := keepCell (a := ⟨w.heap.size + 1, 0, none⟩) (v := .int .i64 b.kind) hbw2 (by go_simp)
  have b1_ := keepCell (a := ⟨w.heap.size + 1, 1, none⟩) (v := .string b.name) hbw2 (by go_simp)
  have b2_ := keepCell (a := ⟨w.heap.size + 1, 2, none⟩) (v := .slice A' b.labels.length ca') hbw2 (by go_simp)
  have b3_ := keepCell (a := ⟨w.heap.size + 1, 3, none⟩) (v := .slice B' b.kids.length cb') hbw2 (by go_simp)
  have hzw2 : w.heap.size + 1 < w2.heap.size := World.block_lt_of_cell? w2 _ b0_
  have HBw2 := Lib.hid (bnext (below2 _ _ _) hbw2)
  clear hbw2
  have xa0_ := fun o => keepCell (below1 w2 o) a0_
  have xa1_ := fun o => keepCell (below1 w2 o) a1_
  have xa2_ := fun o => keepCell (below1 w2 o) a2_
  have xa3_ := fun o => keepCell (below1 w2 o) a3_
  have xb0_ := fun o => keepCell (below1 w2 o) b0_
  have xb1_ := fun o => keepCell (below1 w2 o) b1_
  have xb2_ := fun o => keepCell (below1 w2 o) b2_
  have xb3_ := fun o => keepCell (below1 w2 o) b3_
  go_wp2_with fail
  go_at_call 28
  refine (OA.out _ (HA.out.on (bnext HBw2.out (below1 _ _))) (HM.out.keep (bnext HBw2.out (below1 _ _)))).mono ?_
  rintro e w3 ⟨rfl, hbw3⟩
  replace a0_ := keepCell hbw3 (keepCell (below1 _ _) a0_)
  replace a1_ := keepCell hbw3 (keepCell (below1 _ _) a1_)
  replace a2_ := keepCell hbw3 (keepCell (below1 _ _) a2_)
  replace a3_ := keepCell hbw3 (keepCell (below1 _ _) a3_)
  replace b0_ := keepCell hbw3 (keepCell (below1 _ _) b0_)
  replace b1_ := keepCell hbw3 (keepCell (below1 _ _) b1_)
  replace b2_ := keepCell hbw3 (keepCell (below1 _ _) b2_)
  replace b3_ := keepCell hbw3 (keepCell (below1 _ _) b3_)
  have HBw3 := Lib.hid (bnext (bnext HBw2.out (below1 _ _)) hbw3)
  clear hbw3
  go_wp2_with fail
  go_at_call 28
  refine (OB.out _ (HBt.out.on HBw3.out) (HM.out.keep HBw3.out)).mono ?_
  rintro e w4 ⟨rfl, hbw4⟩
  have HBw4 := Lib.hid (bnext HBw3.out hbw4)
  clear hbw4
  go_wp2_with fail
  go_ret
  exact ⟨rfl, HBw4.out⟩

set_option maxHeartbeats 8000000 in
set_option maxRecDepth 100000 in
theorem implMay_some (a b : Ty) (hT : a.wt ≤ 1048576) (hU : b.wt ≤ 1048576) (hoa : a.Ok) (hob : b.Ok) (z : Int) (p : ByteArray) (A B A' B' : Option Addr) (ca cb ca' cb' : Nat) (w : World) (hat : Ty.Pl w 0 a A B) (hbt : Ty.Pl w 0 b A' B') (hm : MaxC w)
    (hw : ∀ W : World, Below w.heap.size w W → Calls Tryz.prog 13 #[.agg #[.int .i64 a.kind, .string a.name, .slice A a.labels.length ca, .slice B a.kids.length cb], .agg #[.int .i64 b.kind, .string b.name, .slice A' b.labels.length ca', .slice B' b.kids.length cb']] W fun e w' => e = .returned (.tuple #[.agg #[.int .i64 z, .string p], .bool true]) ∧ Below W.heap.size W w') :
    Calls Tryz.prog 10 #[.agg #[.int .i64 a.kind, .string a.name, .slice A a.labels.length ca, .slice B a.kids.length cb], .agg #[.int .i64 b.kind, .string b.name, .slice A' b.labels.length ca', .slice B' b.kids.length cb']] w fun e w' => e = .returned (.bool false) ∧ Below w.heap.size w w' := by
  have OA := (fun W h h2 => implTypeOk_any a 0 hT A B ca cb W (Ty.Pl.at_ h) h2)
  have OB := (fun W h h2 => implTypeOk_any b 0 hU A' B' ca' cb' W (Ty.Pl.at_ h) h2)
  have OA := Lib.hid (fun W h h2 => (OA W h h2).mono fun _ _ j => j.yes hoa)
  have OB := Lib.hid (fun W h h2 => (OB W h h2).mono fun _ _ j => j.yes hob)
  have HA := Lib.hid hat
  have HBt := Lib.hid hbt
  have HM := Lib.hid hm
  have CWN := Lib.hid hw
  clear hat hbt hm hw hoa hT hU hob
  go_enter Tryz.func10, Tryz.ntmps10
  go_wp2_with fail
  go_at_call 13
  refine (CWN.out _ (below2 _ _ _)).mono ?_
  rintro e w2 ⟨rfl, hbw2⟩
  have a0_ := keepCell (a := ⟨w.heap.size, 0, none⟩) (v := .int .i64 a.kind) hbw2 (by go_simp)
  have a1_ := keepCell (a := ⟨w.heap.size, 1, none⟩) (v := .string a.name) hbw2 (by go_simp)
  have a2_ := keepCell (a := ⟨w.heap.size, 2, none⟩) (v := .slice A a.labels.length ca) hbw2 (by go_simp)
  have a3_ := keepCell (a := ⟨w.heap.size, 3, none⟩) (v := .slice B a.kids.length cb) hbw2 (by go_simp)
  have b0_ := keepCell (a := ⟨w.heap.size + 1, 0, none⟩) (v := .int .i64 b.kind) hbw2 (by go_simp)
  have b1_ := keepCell (a := ⟨w.heap.size + 1, 1, none⟩) (v := .string b.name) hbw2 (by go_simp)
  have b2_ := keepCell (a := ⟨w.heap.size + 1, 2, none⟩) (v := .slice A' b.labels.length ca') hbw2 (by go_simp)
  have b3_ := keepCell (a := ⟨w.heap.size + 1, 3, none⟩) (v := .slice B' b.kids.length cb') hbw2 (by go_simp)
  have hzw2 : w.heap.size + 1 < w2.heap.size := World.block_lt_of_cell? w2 _ b0_
  have HBw2 := Lib.hid (bnext (below2 _ _ _) hbw2)
  clear hbw2
  have xa0_ := fun o => keepCell (below1 w2 o) a0_
  have xa1_ := fun o => keepCell (below1 w2 o) a1_
  have xa2_ := fun o => keepCell (below1 w2 o) a2_
  have xa3_ := fun o => keepCell (below1 w2 o) a3_
  have xb0_ := fun o => keepCell (below1 w2 o) b0_
  have xb1_ := fun o => keepCell (below1 w2 o) b1_
  have xb2_ := fun o => keepCell (below1 w2 o) b2_
  have xb3_ := fun o => keepCell (below1 w2 o) b3_
  go_wp2_with fail
  go_at_call 28
  refine (OA.out _ (HA.out.on (bnext HBw2.out (below1 _ _))) (HM.out.keep (bnext HBw2.out (below1 _ _)))).mono ?_
  rintro e w3 ⟨rfl, hbw3⟩
  replace a0_ := keepCell hbw3 (keepCell (below1 _ _) a0_)
  replace a1_ := keepCell hbw3 (keepCell (below1 _ _) a1_)
  replace a2_ := keepCell hbw3 (keepCell (below1 _ _) a2_)
  replace a3_ := keepCell hbw3 (keepCell (below1 _ _) a3_)
  replace b0_ := keepCell hbw3 (keepCell (below1 _ _) b0_)
  replace b1_ := keepCell hbw3 (keepCell (below1 _ _) b1_)
  replace b2_ := keepCell hbw3 (keepCell (below1 _ _) b2_)
  replace b3_ := keepCell hbw3 (keepCell (below1 _ _) b3_)
  have HBw3 := Lib.hid (bnext (bnext HBw2.out (below1 _ _)) hbw3)
  clear hbw3
  go_wp2_with fail
  go_at_call 28
  refine (OB.out _ (HBt.out.on HBw3.out) (HM.out.keep HBw3.out)).mono ?_
  rintro e w4 ⟨rfl, hbw4⟩
  have HBw4 := Lib.hid (bnext HBw3.out hbw4)
  clear hbw4
  go_wp2_with fail
  go_ret
  exact ⟨rfl, HBw4.out⟩

/-- The one may stand for the other. -/
def MayP (a b : Ty) : Prop := a.Ok ∧ b.Ok ∧ Ty.why 4 a b = none
theorem says_of {p : Prop} {v : Bool} {w w' : World} {e : Ending} (hv : v = true ↔ p) (h : e = .returned (.bool v) ∧ Below w.heap.size w w') : SaysB p w e w' := ⟨v, h.1, hv, h.2⟩

theorem specMay_any (a b : Ty) (hT : a.wt ≤ 1048576) (hU : b.wt ≤ 1048576) (A B A' B' : Option Addr) (ca cb ca' cb' : Nat) (lo lo' : Nat) (w : World) (hat : Ty.At w lo a A B) (hbt : Ty.At w lo' b A' B') :
    Calls Tryz.prog 8 #[.agg #[.int .i64 a.kind, .string a.name, .slice A a.labels.length ca, .slice B a.kids.length cb], .agg #[.int .i64 b.kind, .string b.name, .slice A' b.labels.length ca', .slice B' b.kids.length cb']] w (SaysB (MayP a b) w) := by
  by_cases hoa : a.Ok
  · by_cases hob : b.Ok
    · have ga := Gd.of hT hoa
      have gb := Gd.of hU hob
      cases hr : Ty.why 4 a b with
      | none => exact (specMay_ok a b hoa hob ga gb true A B A' B' ca cb ca' cb' lo lo' w hat hbt (fun W h1 h2 => l08May_none a b ga gb hr A B A' B' ca cb ca' cb' lo lo' W h1 h2)).mono fun _ _ h => says_of ⟨fun _ => ⟨hoa, hob, hr⟩, fun _ => rfl⟩ h
      | some v =>
        obtain ⟨z, p⟩ := v
        exact (specMay_ok a b hoa hob ga gb false A B A' B' ca cb ca' cb' lo lo' w hat hbt (fun W h1 h2 => l08May_some a b ga gb z p hr A B A' B' ca cb ca' cb' lo lo' W h1 h2)).mono fun _ _ h => says_of ⟨(fun e => by cases e), fun h => by rw [h.2.2] at hr; cases hr⟩ h
    · exact (specMay_nb a b hT hU hoa hob A B A' B' ca cb ca' cb' lo lo' w hat hbt).mono fun _ _ h => says_of ⟨(fun e => by cases e), fun h => absurd h.2.1 hob⟩ h
  · exact (specMay_na a b hT hoa A B A' B' ca cb ca' cb' lo w hat).mono fun _ _ h => says_of ⟨(fun e => by cases e), fun h => absurd h.1 hoa⟩ h

theorem implMay_any (a b : Ty) (hT : a.wt ≤ 1048576) (hU : b.wt ≤ 1048576) (A B A' B' : Option Addr) (ca cb ca' cb' : Nat) (w : World) (hat : Ty.Pl w 0 a A B) (hbt : Ty.Pl w 0 b A' B') (ht : RTable w) (hm : MaxC w) :
    Calls Tryz.prog 10 #[.agg #[.int .i64 a.kind, .string a.name, .slice A a.labels.length ca, .slice B a.kids.length cb], .agg #[.int .i64 b.kind, .string b.name, .slice A' b.labels.length ca', .slice B' b.kids.length cb']] w (SaysB (MayP a b) w) := by
  by_cases hoa : a.Ok
  · by_cases hob : b.Ok
    · have ga := Gd.of hT hoa
      have gb := Gd.of hU hob
      cases hr : Ty.why 4 a b with
      | none => exact (implMay_none a b hT hU hoa hob A B A' B' ca cb ca' cb' w hat hbt hm (fun W hW => implWhyNot_none a b hoa hob ga gb hr A B A' B' ca cb ca' cb' W (hat.on hW) (hbt.on hW) (ht.keep hW) (hm.keep hW))).mono fun _ _ h => says_of ⟨fun _ => ⟨hoa, hob, hr⟩, fun _ => rfl⟩ h
      | some v =>
        obtain ⟨z, p⟩ := v
        exact (implMay_some a b hT hU hoa hob z p A B A' B' ca cb ca' cb' w hat hbt hm (fun W hW => implWhyNot_some a b hoa hob ga gb z p hr A B A' B' ca cb ca' cb' W (hat.on hW) (hbt.on hW) (ht.keep hW) (hm.keep hW))).mono fun _ _ h => says_of ⟨(fun e => by cases e), fun h => by rw [h.2.2] at hr; cases hr⟩ h
    · exact (implMay_nb a b hT hU hoa hob A B A' B' ca cb ca' cb' w hat hbt hm (fun W hW => implWhyNot_nb a b hT hU hoa hob A B A' B' ca cb ca' cb' W (hat.on hW) (hbt.on hW) (hm.keep hW))).mono fun _ _ h => says_of ⟨(fun e => by cases e), fun h => absurd h.2.1 hob⟩ h
  · exact (implMay_na a b hT hU hoa A B A' B' ca cb ca' cb' w hat hbt hm (fun W hW => implWhyNot_na a b hT hoa A B A' B' ca cb ca' cb' W (hat.on hW) (hm.keep hW))).mono fun _ _ h => says_of ⟨(fun e => by cases e), fun h => absurd h.1 hoa⟩ h

/-- There is one reason (or none) that both WhyNot answer. -/
theorem whynot_both (a b : Ty) (hT : a.wt ≤ 1048576) (hU : b.wt ≤ 1048576) : ∃ R : Option (Int × ByteArray), (∀ (A B A' B' : Option Addr) (ca cb ca' cb' : Nat) (lo lo' : Nat) (w : World), Ty.At w lo a A B → Ty.At w lo' b A' B' → Calls Tryz.prog 12 #[.agg #[.int .i64 a.kind, .string a.name, .slice A a.labels.length ca, .slice B a.kids.length cb], .agg #[.int .i64 b.kind, .string b.name, .slice A' b.labels.length ca', .slice B' b.kids.length cb']] w (WnPost R w)) ∧
    (∀ (A B A' B' : Option Addr) (ca cb ca' cb' : Nat) (w : World), Ty.Pl w 0 a A B → Ty.Pl w 0 b A' B' → RTable w → MaxC w → Calls Tryz.prog 13 #[.agg #[.int .i64 a.kind, .string a.name, .slice A a.labels.length ca, .slice B a.kids.length cb], .agg #[.int .i64 b.kind, .string b.name, .slice A' b.labels.length ca', .slice B' b.kids.length cb']] w (WnPost R w)) := by
  by_cases hoa : a.Ok
  · by_cases hob : b.Ok
    · have ga := Gd.of hT hoa
      have gb := Gd.of hU hob
      refine ⟨Ty.why 4 a b, fun A B A' B' ca cb ca' cb' lo lo' w h1 h2 => specWhyNot_ok a b hoa hob ga gb A B A' B' ca cb ca' cb' lo lo' w h1 h2, fun A B A' B' ca cb ca' cb' w h1 h2 h3 h4 => ?_⟩
      cases hr : Ty.why 4 a b with
      | none => exact implWhyNot_none a b hoa hob ga gb hr A B A' B' ca cb ca' cb' w h1 h2 h3 h4
      | some v =>
        obtain ⟨z, p⟩ := v
        exact implWhyNot_some a b hoa hob ga gb z p hr A B A' B' ca cb ca' cb' w h1 h2 h3 h4
    · exact ⟨none, fun A B A' B' ca cb ca' cb' lo lo' w h1 h2 => specWhyNot_nb a b hT hU hoa hob A B A' B' ca cb ca' cb' lo lo' w h1 h2, fun A B A' B' ca cb ca' cb' w h1 h2 h3 h4 => implWhyNot_nb a b hT hU hoa hob A B A' B' ca cb ca' cb' w h1 h2 h4⟩
  · exact ⟨none, fun A B A' B' ca cb ca' cb' lo lo' w h1 h2 => specWhyNot_na a b hT hoa A B A' B' ca cb ca' cb' lo w h1, fun A B A' B' ca cb ca' cb' w h1 h2 h3 h4 => implWhyNot_na a b hT hoa A B A' B' ca cb ca' cb' w h1 h4⟩
end Go.Proofs.YtifchfecfkdjlaaGreatDoor
