/-
  Both SizeOf and both AlignOf walk as lay says.
-/
import Derived.Test.YtlmmbheamicdaaaLayMS
import Derived.Test.YtlmmbheamicdaaaLayMI
namespace Go.Proofs.Ytlmmbheamicdaaa
open Go.ChangeShapes Go.WideShapes Go.ChangeAt Go.RowKit Go.Deep

/-- A number where it holds, and 0 where it doesn't. -/
def SaysInt (p : Prop) (n : Int) (w : World) (e : Ending) (w' : World) : Prop := ∃ v : Int, e = .returned (.int .i64 v) ∧ ((p → v = n) ∧ (¬ p → v = 0)) ∧ Below w.heap.size w w'
theorem saysInt_same {p : Prop} {n : Int} {v u : Int} (h : (p → v = n) ∧ (¬ p → v = 0)) (k : (p → u = n) ∧ (¬ p → u = 0)) : v = u := by
  by_cases hp : p
  · rw [h.1 hp, k.1 hp]
  · rw [h.2 hp, k.2 hp]

set_option maxRecDepth 100000 in
theorem specSize_any (T : Ty) (hT : T.wt ≤ 1048576) (A B : Option Addr) (ca cb lo : Nat) (w : World) (hat : Ty.At w lo T A B) :
    Calls Try.prog 31 #[.agg #[.int .i64 T.kind, .string T.name, .slice A T.labels.length ca, .slice B T.kids.length cb]] w (SaysInt T.Ok T.lay.1 w) := by
  have CO := fun W h => specTypeOk_any T hT A B ca cb lo W h
  have HA := Lib.hid hat
  clear hat
  by_cases ho : T.Ok
  · have CO' := Lib.hid (fun W h => (CO W h).mono fun _ _ k => k.yes ho)
    have CS := Lib.hid (shapeS_all T lo ho hT A B ca cb)
    have HO := Lib.hid ho
    clear ho CO hT
    go_enter Try.func31, Try.ntmps31
    go_wp2_with fail
    go_at_call 64
    refine (CO'.out _ (HA.out.below (below1 _ _))).mono ?_
    rintro e w2 ⟨rfl, hb2⟩
    have k0 := keepCell (a := ⟨w.heap.size, 0, none⟩) (v := .int .i64 T.kind) hb2 (by go_simp)
    have k1 := keepCell (a := ⟨w.heap.size, 1, none⟩) (v := .string T.name) hb2 (by go_simp)
    have k2 := keepCell (a := ⟨w.heap.size, 2, none⟩) (v := .slice A T.labels.length ca) hb2 (by go_simp)
    have k3 := keepCell (a := ⟨w.heap.size, 3, none⟩) (v := .slice B T.kids.length cb) hb2 (by go_simp)
    have HB2 := Lib.hid (bnext (below1 _ _) hb2)
    clear hb2
    go_wp2_with fail
    go_at_call 65
    refine (CS.out _ (HA.out.below HB2.out)).mono ?_
    rintro e w3 ⟨rfl, hb3⟩
    have HB3 := Lib.hid (bnext HB2.out hb3)
    clear hb3
    go_wp2_with fail
    go_ret
    exact ⟨_, rfl, ⟨fun _ => rfl, fun h => absurd HO.out h⟩, HB3.out⟩
  · have CO' := Lib.hid (fun W h => (CO W h).mono fun _ _ k => k.no ho)
    have HO := Lib.hid ho
    clear ho CO hT
    go_enter Try.func31, Try.ntmps31
    go_wp2_with fail
    go_at_call 64
    refine (CO'.out _ (HA.out.below (below1 _ _))).mono ?_
    rintro e w2 ⟨rfl, hb2⟩
    have HB2 := Lib.hid (bnext (below1 _ _) hb2)
    clear hb2
    go_wp2_with fail
    go_ret
    exact ⟨0, rfl, ⟨fun h => absurd h HO.out, fun _ => rfl⟩, HB2.out⟩

set_option maxRecDepth 100000 in
theorem specAlign_any (T : Ty) (hT : T.wt ≤ 1048576) (A B : Option Addr) (ca cb lo : Nat) (w : World) (hat : Ty.At w lo T A B) :
    Calls Try.prog 33 #[.agg #[.int .i64 T.kind, .string T.name, .slice A T.labels.length ca, .slice B T.kids.length cb]] w (SaysInt T.Ok T.lay.2 w) := by
  have CO := fun W h => specTypeOk_any T hT A B ca cb lo W h
  have HA := Lib.hid hat
  clear hat
  by_cases ho : T.Ok
  · have CO' := Lib.hid (fun W h => (CO W h).mono fun _ _ k => k.yes ho)
    have CS := Lib.hid (shapeS_all T lo ho hT A B ca cb)
    have HO := Lib.hid ho
    clear ho CO hT
    go_enter Try.func33, Try.ntmps33
    go_wp2_with fail
    go_at_call 64
    refine (CO'.out _ (HA.out.below (below1 _ _))).mono ?_
    rintro e w2 ⟨rfl, hb2⟩
    have k0 := keepCell (a := ⟨w.heap.size, 0, none⟩) (v := .int .i64 T.kind) hb2 (by go_simp)
    have k1 := keepCell (a := ⟨w.heap.size, 1, none⟩) (v := .string T.name) hb2 (by go_simp)
    have k2 := keepCell (a := ⟨w.heap.size, 2, none⟩) (v := .slice A T.labels.length ca) hb2 (by go_simp)
    have k3 := keepCell (a := ⟨w.heap.size, 3, none⟩) (v := .slice B T.kids.length cb) hb2 (by go_simp)
    have HB2 := Lib.hid (bnext (below1 _ _) hb2)
    clear hb2
    go_wp2_with fail
    go_at_call 65
    refine (CS.out _ (HA.out.below HB2.out)).mono ?_
    rintro e w3 ⟨rfl, hb3⟩
    have HB3 := Lib.hid (bnext HB2.out hb3)
    clear hb3
    go_wp2_with fail
    go_ret
    exact ⟨_, rfl, ⟨fun _ => rfl, fun h => absurd HO.out h⟩, HB3.out⟩
  · have CO' := Lib.hid (fun W h => (CO W h).mono fun _ _ k => k.no ho)
    have HO := Lib.hid ho
    clear ho CO hT
    go_enter Try.func33, Try.ntmps33
    go_wp2_with fail
    go_at_call 64
    refine (CO'.out _ (HA.out.below (below1 _ _))).mono ?_
    rintro e w2 ⟨rfl, hb2⟩
    have HB2 := Lib.hid (bnext (below1 _ _) hb2)
    clear hb2
    go_wp2_with fail
    go_ret
    exact ⟨0, rfl, ⟨fun h => absurd h HO.out, fun _ => rfl⟩, HB2.out⟩

set_option maxRecDepth 100000 in
theorem implSize_any (T : Ty) (lo : Nat) (hT : T.wt ≤ 1048576) (A B : Option Addr) (ca cb : Nat) (w : World) (hat : Ty.At w lo T A B) (hm : MaxC w) :
    Calls Try.prog 32 #[.agg #[.int .i64 T.kind, .string T.name, .slice A T.labels.length ca, .slice B T.kids.length cb]] w (SaysInt T.Ok T.lay.1 w) := by
  have CO := fun W h hm => implTypeOk_any T lo hT A B ca cb W h hm
  have HA := Lib.hid hat
  have HM := Lib.hid hm
  clear hat hm
  by_cases ho : T.Ok
  · have CO' := Lib.hid (fun W h hm => (CO W h hm).mono fun _ _ k => k.yes ho)
    have CS := Lib.hid (shapeI_all T lo ho hT A B ca cb)
    have HO := Lib.hid ho
    clear ho CO hT
    go_enter Try.func32, Try.ntmps32
    go_wp2_with fail
    go_at_call 54
    refine (CO'.out _ (HA.out.below (below1 _ _)) (HM.out.keep (below1 _ _))).mono ?_
    rintro e w2 ⟨rfl, hb2⟩
    have k0 := keepCell (a := ⟨w.heap.size, 0, none⟩) (v := .int .i64 T.kind) hb2 (by go_simp)
    have k1 := keepCell (a := ⟨w.heap.size, 1, none⟩) (v := .string T.name) hb2 (by go_simp)
    have k2 := keepCell (a := ⟨w.heap.size, 2, none⟩) (v := .slice A T.labels.length ca) hb2 (by go_simp)
    have k3 := keepCell (a := ⟨w.heap.size, 3, none⟩) (v := .slice B T.kids.length cb) hb2 (by go_simp)
    have HB2 := Lib.hid (bnext (below1 _ _) hb2)
    clear hb2
    go_wp2_with fail
    go_at_call 66
    refine (CS.out _ (HA.out.below HB2.out)).mono ?_
    rintro e w3 ⟨rfl, hb3⟩
    have HB3 := Lib.hid (bnext HB2.out hb3)
    clear hb3
    go_wp2_with fail
    go_ret
    exact ⟨_, rfl, ⟨fun _ => rfl, fun h => absurd HO.out h⟩, HB3.out⟩
  · have CO' := Lib.hid (fun W h hm => (CO W h hm).mono fun _ _ k => k.no ho)
    have HO := Lib.hid ho
    clear ho CO hT
    go_enter Try.func32, Try.ntmps32
    go_wp2_with fail
    go_at_call 54
    refine (CO'.out _ (HA.out.below (below1 _ _)) (HM.out.keep (below1 _ _))).mono ?_
    rintro e w2 ⟨rfl, hb2⟩
    have HB2 := Lib.hid (bnext (below1 _ _) hb2)
    clear hb2
    go_wp2_with fail
    go_ret
    exact ⟨0, rfl, ⟨fun h => absurd h HO.out, fun _ => rfl⟩, HB2.out⟩

set_option maxRecDepth 100000 in
theorem implAlign_any (T : Ty) (lo : Nat) (hT : T.wt ≤ 1048576) (A B : Option Addr) (ca cb : Nat) (w : World) (hat : Ty.At w lo T A B) (hm : MaxC w) :
    Calls Try.prog 34 #[.agg #[.int .i64 T.kind, .string T.name, .slice A T.labels.length ca, .slice B T.kids.length cb]] w (SaysInt T.Ok T.lay.2 w) := by
  have CO := fun W h hm => implTypeOk_any T lo hT A B ca cb W h hm
  have HA := Lib.hid hat
  have HM := Lib.hid hm
  clear hat hm
  by_cases ho : T.Ok
  · have CO' := Lib.hid (fun W h hm => (CO W h hm).mono fun _ _ k => k.yes ho)
    have CS := Lib.hid (shapeI_all T lo ho hT A B ca cb)
    have HO := Lib.hid ho
    clear ho CO hT
    go_enter Try.func34, Try.ntmps34
    go_wp2_with fail
    go_at_call 54
    refine (CO'.out _ (HA.out.below (below1 _ _)) (HM.out.keep (below1 _ _))).mono ?_
    rintro e w2 ⟨rfl, hb2⟩
    have k0 := keepCell (a := ⟨w.heap.size, 0, none⟩) (v := .int .i64 T.kind) hb2 (by go_simp)
    have k1 := keepCell (a := ⟨w.heap.size, 1, none⟩) (v := .string T.name) hb2 (by go_simp)
    have k2 := keepCell (a := ⟨w.heap.size, 2, none⟩) (v := .slice A T.labels.length ca) hb2 (by go_simp)
    have k3 := keepCell (a := ⟨w.heap.size, 3, none⟩) (v := .slice B T.kids.length cb) hb2 (by go_simp)
    have HB2 := Lib.hid (bnext (below1 _ _) hb2)
    clear hb2
    go_wp2_with fail
    go_at_call 66
    refine (CS.out _ (HA.out.below HB2.out)).mono ?_
    rintro e w3 ⟨rfl, hb3⟩
    have HB3 := Lib.hid (bnext HB2.out hb3)
    clear hb3
    go_wp2_with fail
    go_ret
    exact ⟨_, rfl, ⟨fun _ => rfl, fun h => absurd HO.out h⟩, HB3.out⟩
  · have CO' := Lib.hid (fun W h hm => (CO W h hm).mono fun _ _ k => k.no ho)
    have HO := Lib.hid ho
    clear ho CO hT
    go_enter Try.func34, Try.ntmps34
    go_wp2_with fail
    go_at_call 54
    refine (CO'.out _ (HA.out.below (below1 _ _)) (HM.out.keep (below1 _ _))).mono ?_
    rintro e w2 ⟨rfl, hb2⟩
    have HB2 := Lib.hid (bnext (below1 _ _) hb2)
    clear hb2
    go_wp2_with fail
    go_ret
    exact ⟨0, rfl, ⟨fun h => absurd h HO.out, fun _ => rfl⟩, HB2.out⟩
end Go.Proofs.Ytlmmbheamicdaaa
