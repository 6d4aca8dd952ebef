/-
  The walk of the model's FuncServes.
-/
import Derived.Test.YtifchfecfkdjlaaGreatDoorWfT
namespace Go.Proofs.YtifchfecfkdjlaaGreatDoor
open Go.ChangeShapes Go.WideShapes Go.ChangeAt Go.RowKit Go.Deep

set_option maxHeartbeats 2000000 in
set_option maxRecDepth 100000 in
theorem specFuncServes_any (H4 : SpTy 4) (a b : Fn) (hT : a.wt ≤ 1048576) (hU : b.wt ≤ 1048576) (r : Bool) (hr1 : a.Ok ∧ b.Ok → r = (Fn.why a b).isNone) (hr0 : ¬ (a.Ok ∧ b.Ok) → r = false) (Ra Rb A B A' B' : Option Addr) (na nb ca cb ca' cb' lo lo' : Nat) (w : World) (hat : Fn.At w lo a Ra A B) (hbt : Fn.At w lo' b Rb A' B') :
    Calls Tryz.prog 16 #[.agg #[.slice Ra a.params.length na, .int .i64 a.res.kind, .string a.res.name, .slice A a.res.labels.length ca, .slice B a.res.kids.length cb, .bool a.async], .agg #[.slice Rb b.params.length nb, .int .i64 b.res.kind, .string b.res.name, .slice A' b.res.labels.length ca', .slice B' b.res.kids.length cb', .bool b.async]] w fun e w' => e = .returned (.bool r) ∧ Below w.heap.size w w' := by
  have HPA := Lib.hid hat
  have HPB := Lib.hid hbt
  have CA0 := fun W h => specFuncOk_any a hT Ra A B na ca cb lo W h
  have CB0 := fun W h => specFuncOk_any b hU Rb A' B' nb ca' cb' lo' W h
  clear hat hbt
  by_cases ho : a.Ok
  · have CA := Lib.hid (fun W h => (CA0 W h).mono fun _ _ k => k.yes ho)
    by_cases hp : b.Ok
    · have CB := Lib.hid (fun W h => (CB0 W h).mono fun _ _ k => k.yes hp)
      have CW := Lib.hid (fun W h1 h2 => l08Func_any H4 a b (FnG.of hT ho) (FnG.of hU hp) Ra Rb A B A' B' na nb ca cb ca' cb' lo lo' ⟨#[]⟩ (by show (0 : Nat) ≤ 50000000; omega) W h1 h2)
      have hr := hr1 ⟨ho, hp⟩
      subst hr
      generalize Fn.why a b = Q at *
      clear ho hp CA0 CB0 H4 hT hU hr1 hr0
      have ka0 : ((w.alloc (.cells #[.slice Ra a.params.length na, .int .i64 a.res.kind, .string a.res.name, .slice A a.res.labels.length ca, .slice B a.res.kids.length cb, .bool a.async] 45)).alloc (.cells #[.slice Rb b.params.length nb, .int .i64 b.res.kind, .string b.res.name, .slice A' b.res.labels.length ca', .slice B' b.res.kids.length cb', .bool b.async] 45)).cell? ⟨w.heap.size, 0, none⟩ = some (.slice Ra a.params.length na) := by go_simp
      have ka1 : ((w.alloc (.cells #[.slice Ra a.params.length na, .int .i64 a.res.kind, .string a.res.name, .slice A a.res.labels.length ca, .slice B a.res.kids.length cb, .bool a.async] 45)).alloc (.cells #[.slice Rb b.params.length nb, .int .i64 b.res.kind, .string b.res.name, .slice A' b.res.labels.length ca', .slice B' b.res.kids.length cb', .bool b.async] 45)).cell? ⟨w.heap.size, 1, none⟩ = some (.int .i64 a.res.kind) := by go_simp
      have ka2 : ((w.alloc (.cells #[.slice Ra a.params.length na, .int .i64 a.res.kind, .string a.res.name, .slice A a.res.labels.length ca, .slice B a.res.kids.length cb, .bool a.async] 45)).alloc (.cells #[.slice Rb b.params.length nb, .int .i64 b.res.kind, .string b.res.name, .slice A' b.res.labels.length ca', .slice B' b.res.kids.length cb', .bool b.async] 45)).cell? ⟨w.heap.size, 2, none⟩ = some (.string a.res.name) := by go_simp
      have ka3 : ((w.alloc (.cells #[.slice Ra a.params.length na, .int .i64 a.res.kind, .string a.res.name, .slice A a.res.labels.length ca, .slice B a.res.kids.length cb, .bool a.async] 45)).alloc (.cells #[.slice Rb b.params.length nb, .int .i64 b.res.kind, .string b.res.name, .slice A' b.res.labels.length ca', .slice B' b.res.kids.length cb', .bool b.async] 45)).cell? ⟨w.heap.size, 3, none⟩ = some (.slice A a.res.labels.length ca) := by go_simp
      have ka4 : ((w.alloc (.cells #[.slice Ra a.params.length na, .int .i64 a.res.kind, .string a.res.name, .slice A a.res.labels.length ca, .slice B a.res.kids.length cb, .bool a.async] 45)).alloc (.cells #[.slice Rb b.params.length nb, .int .i64 b.res.kind, .string b.res.name, .slice A' b.res.labels.length ca', .slice B' b.res.kids.length cb', .bool b.async] 45)).cell? ⟨w.heap.size, 4, none⟩ = some (.slice B a.res.kids.length cb) := by go_simp
      have ka5 : ((w.alloc (.cells #[.slice Ra a.params.length na, .int .i64 a.res.kind, .string a.res.name, .slice A a.res.labels.length ca, .slice B a.res.kids.length cb, .bool a.async] 45)).alloc (.cells #[.slice Rb b.params.length nb, .int .i64 b.res.kind, .string b.res.name, .slice A' b.res.labels.length ca', .slice B' b.res.kids.length cb', .bool b.async] 45)).cell? ⟨w.heap.size, 5, none⟩ = some (.bool a.async) := by go_simp
      have kb0 : ((w.alloc (.cells #[.slice Ra a.params.length na, .int .i64 a.res.kind, .string a.res.name, .slice A a.res.labels.length ca, .slice B a.res.kids.length cb, .bool a.async] 45)).alloc (.cells #[.slice Rb b.params.length nb, .int .i64 b.res.kind, .string b.res.name, .slice A' b.res.labels.length ca', .slice B' b.res.kids.length cb', .bool b.async] 45)).cell? ⟨w.heap.size + 1, 0, none⟩ = some (.slice Rb b.params.length nb) := by go_simp
      have kb1 : ((w.alloc (.cells #[.slice Ra a.params.length na, .int .i64 a.res.kind, .string a.res.name, .slice A a.res.labels.length ca, .slice B a.res.kids.length cb, .bool a.async] 45)).alloc (.cells #[.slice Rb b.params.length nb, .int .i64 b.res.kind, .string b.res.name, .slice A' b.res.labels.length ca', .slice B' b.res.kids.length cb', .bool b.async] 45)).cell? ⟨w.heap.size + 1, 1, none⟩ = some (.int .i64 b.res.kind) := by go_simp
      have kb2 : ((w.alloc (.cells #[.slice Ra a.params.length na, .int .i64 a.res.kind, .string a.res.name, .slice A a.res.labels.length ca, .slice B a.res.kids.length cb, .bool a.async] 45)).alloc (.cells #[.slice Rb b.params.length nb, .int .i64 b.res.kind, .string b.res.name, .slice A' b.res.labels.length ca', .slice B' b.res.kids.length cb', .bool b.async] 45)).cell? ⟨w.heap.size + 1, 2, none⟩ = some (.string b.res.name) := by go_simp
      have kb3 : ((w.alloc (.cells #[.slice Ra a.params.length na, .int .i64 a.res.kind, .string a.res.name, .slice A a.res.labels.length ca, .slice B a.res.kids.length cb, .bool a.async] 45)).alloc (.cells #[.slice Rb b.params.length nb, .int .i64 b.res.kind, .string b.res.name, .slice A' b.res.labels.length ca', .slice B' b.res.kids.length cb', .bool b.async] 45)).cell? ⟨w.heap.size + 1, 3, none⟩ = some (.slice A' b.res.labels.length ca') := by go_simp
      have kb4 : ((w.alloc (.cells #[.slice Ra a.params.length na, .int .i64 a.res.kind, .string a.res.name, .slice A a.res.labels.length ca, .slice B a.res.kids.length cb, .bool a.async] 45)).alloc (.cells #[.slice Rb b.params.length nb, .int .i64 b.res.kind, .string b.res.name, .slice A' b.res.labels.length ca', .slice B' b.res.kids.length cb', .bool b.async] 45)).cell? ⟨w.heap.size + 1, 4, none⟩ = some (.slice B' b.res.kids.length cb') := by go_simp
      have kb5 : ((w.alloc (.cells #[.slice Ra a.params.length na, .int .i64 a.res.kind, .string a.res.name, .slice A a.res.labels.length ca, .slice B a.res.kids.length cb, .bool a.async] 45)).alloc (.cells #[.slice Rb b.params.length nb, .int .i64 b.res.kind, .string b.res.name, .slice A' b.res.labels.length ca', .slice B' b.res.kids.length cb', .bool b.async] 45)).cell? ⟨w.heap.size + 1, 5, none⟩ = some (.bool b.async) := by go_simp
      have HW3 := Lib.hid (below2 w (.cells #[.slice Ra a.params.length na, .int .i64 a.res.kind, .string a.res.name, .slice A a.res.labels.length ca, .slice B a.res.kids.length cb, .bool a.async] 45) (.cells #[.slice Rb b.params.length nb, .int .i64 b.res.kind, .string b.res.name, .slice A' b.res.labels.length ca', .slice B' b.res.kids.length cb', .bool b.async] 45))
      go_enter Tryz.func16, Tryz.ntmps16
      go_wp2_with fail
      generalize ((w.alloc (.cells #[.slice Ra a.params.length na, .int .i64 a.res.kind, .string a.res.name, .slice A a.res.labels.length ca, .slice B a.res.kids.length cb, .bool a.async] 45)).alloc (.cells #[.slice Rb b.params.length nb, .int .i64 b.res.kind, .string b.res.name, .slice A' b.res.labels.length ca', .slice B' b.res.kids.length cb', .bool b.async] 45)) = W at *
      go_at_call 34
      refine (CA.out _ (HPA.out.below HW3.out)).mono ?_
      rintro e w2 ⟨rfl, hb2⟩
      replace ka0 := keepCell hb2 ka0
      replace ka1 := keepCell hb2 ka1
      replace ka2 := keepCell hb2 ka2
      replace ka3 := keepCell hb2 ka3
      replace ka4 := keepCell hb2 ka4
      replace ka5 := keepCell hb2 ka5
      replace kb0 := keepCell hb2 kb0
      replace kb1 := keepCell hb2 kb1
      replace kb2 := keepCell hb2 kb2
      replace kb3 := keepCell hb2 kb3
      replace kb4 := keepCell hb2 kb4
      replace kb5 := keepCell hb2 kb5
      have HB2 := Lib.hid (bnext HW3.out hb2)
      clear hb2
      go_wp2_with fail
      go_at_call 34
      refine (CB.out _ (HPB.out.below HB2.out)).mono ?_
      rintro e w3 ⟨rfl, hb3⟩
      replace ka0 := keepCell hb3 ka0
      replace ka1 := keepCell hb3 ka1
      replace ka2 := keepCell hb3 ka2
      replace ka3 := keepCell hb3 ka3
      replace ka4 := keepCell hb3 ka4
      replace ka5 := keepCell hb3 ka5
      replace kb0 := keepCell hb3 kb0
      replace kb1 := keepCell hb3 kb1
      replace kb2 := keepCell hb3 kb2
      replace kb3 := keepCell hb3 kb3
      replace kb4 := keepCell hb3 kb4
      replace kb5 := keepCell hb3 kb5
      have HB3 := Lib.hid (bnext HB2.out hb3)
      clear hb3
      go_wp2_with fail
      go_at_call 35
      refine (CW.out _ (HPA.out.below HB3.out) (HPB.out.below HB3.out)).mono ?_
      rintro e w4 ⟨rfl, hb4⟩
      have HB4 := Lib.hid (bnext HB3.out hb4)
      clear hb4
      go_wp2_with fail
      go_ret
      exact ⟨rfl, bnext HB4.out (below1 _ _)⟩
    · have CB := Lib.hid (fun W h => (CB0 W h).mono fun _ _ k => k.no hp)
      have hr := hr0 (fun h => hp h.2)
      subst hr
      clear ho hp CA0 CB0 H4 hT hU hr1 hr0
      have ka0 : ((w.alloc (.cells #[.slice Ra a.params.length na, .int .i64 a.res.kind, .string a.res.name, .slice A a.res.labels.length ca, .slice B a.res.kids.length cb, .bool a.async] 45)).alloc (.cells #[.slice Rb b.params.length nb, .int .i64 b.res.kind, .string b.res.name, .slice A' b.res.labels.length ca', .slice B' b.res.kids.length cb', .bool b.async] 45)).cell? ⟨w.heap.size, 0, none⟩ = some (.slice Ra a.params.length na) := by go_simp
      have ka1 : ((w.alloc (.cells #[.slice Ra a.params.length na, .int .i64 a.res.kind, .string a.res.name, .slice A a.res.labels.length ca, .slice B a.res.kids.length cb, .bool a.async] 45)).alloc (.cells #[.slice Rb b.params.length nb, .int .i64 b.res.kind, .string b.res.name, .slice A' b.res.labels.length ca', .slice B' b.res.kids.length cb', .bool b.async] 45)).cell? ⟨w.heap.size, 1, none⟩ = some (.int .i64 a.res.kind) := by go_simp
      have ka2 : ((w.alloc (.cells #[.slice Ra a.params.length na, .int .i64 a.res.kind, .string a.res.name, .slice A a.res.labels.length ca, .slice B a.res.kids.length cb, .bool a.async] 45)).alloc (.cells #[.slice Rb b.params.length nb, .int .i64 b.res.kind, .string b.res.name, .slice A' b.res.labels.length ca', .slice B' b.res.kids.length cb', .bool b.async] 45)).cell? ⟨w.heap.size, 2, none⟩ = some (.string a.res.name) := by go_simp
      have ka3 : ((w.alloc (.cells #[.slice Ra a.params.length na, .int .i64 a.res.kind, .string a.res.name, .slice A a.res.labels.length ca, .slice B a.res.kids.length cb, .bool a.async] 45)).alloc (.cells #[.slice Rb b.params.length nb, .int .i64 b.res.kind, .string b.res.name, .slice A' b.res.labels.length ca', .slice B' b.res.kids.length cb', .bool b.async] 45)).cell? ⟨w.heap.size, 3, none⟩ = some (.slice A a.res.labels.length ca) := by go_simp
      have ka4 : ((w.alloc (.cells #[.slice Ra a.params.length na, .int .i64 a.res.kind, .string a.res.name, .slice A a.res.labels.length ca, .slice B a.res.kids.length cb, .bool a.async] 45)).alloc (.cells #[.slice Rb b.params.length nb, .int .i64 b.res.kind, .string b.res.name, .slice A' b.res.labels.length ca', .slice B' b.res.kids.length cb', .bool b.async] 45)).cell? ⟨w.heap.size, 4, none⟩ = some (.slice B a.res.kids.length cb) := by go_simp
      have ka5 : ((w.alloc (.cells #[.slice Ra a.params.length na, .int .i64 a.res.kind, .string a.res.name, .slice A a.res.labels.length ca, .slice B a.res.kids.length cb, .bool a.async] 45)).alloc (.cells #[.slice Rb b.params.length nb, .int .i64 b.res.kind, .string b.res.name, .slice A' b.res.labels.length ca', .slice B' b.res.kids.length cb', .bool b.async] 45)).cell? ⟨w.heap.size, 5, none⟩ = some (.bool a.async) := by go_simp
      have kb0 : ((w.alloc (.cells #[.slice Ra a.params.length na, .int .i64 a.res.kind, .string a.res.name, .slice A a.res.labels.length ca, .slice B a.res.kids.length cb, .bool a.async] 45)).alloc (.cells #[.slice Rb b.params.length nb, .int .i64 b.res.kind, .string b.res.name, .slice A' b.res.labels.length ca', .slice B' b.res.kids.length cb', .bool b.async] 45)).cell? ⟨w.heap.size + 1, 0, none⟩ = some (.slice Rb b.params.length nb) := by go_simp
      have kb1 : ((w.alloc (.cells #[.slice Ra a.params.length na, .int .i64 a.res.kind, .string a.res.name, .slice A a.res.labels.length ca, .slice B a.res.kids.length cb, .bool a.async] 45)).alloc (.cells #[.slice Rb b.params.length nb, .int .i64 b.res.kind, .string b.res.name, .slice A' b.res.labels.length ca', .slice B' b.res.kids.length cb', .bool b.async] 45)).cell? ⟨w.heap.size + 1, 1, none⟩ = some (.int .i64 b.res.kind) := by go_simp
      have kb2 : ((w.alloc (.cells #[.slice Ra a.params.length na, .int .i64 a.res.kind, .string a.res.name, .slice A a.res.labels.length ca, .slice B a.res.kids.length cb, .bool a.async] 45)).alloc (.cells #[.slice Rb b.params.length nb, .int .i64 b.res.kind, .string b.res.name, .slice A' b.res.labels.length ca', .slice B' b.res.kids.length cb', .bool b.async] 45)).cell? ⟨w.heap.size + 1, 2, none⟩ = some (.string b.res.name) := by go_simp
      have kb3 : ((w.alloc (.cells #[.slice Ra a.params.length na, .int .i64 a.res.kind, .string a.res.name, .slice A a.res.labels.length ca, .slice B a.res.kids.length cb, .bool a.async] 45)).alloc (.cells #[.slice Rb b.params.length nb, .int .i64 b.res.kind, .string b.res.name, .slice A' b.res.labels.length ca', .slice B' b.res.kids.length cb', .bool b.async] 45)).cell? ⟨w.heap.size + 1, 3, none⟩ = some (.slice A' b.res.labels.length ca') := by go_simp
      have kb4 : ((w.alloc (.cells #[.slice Ra a.params.length na, .int .i64 a.res.kind, .string a.res.name, .slice A a.res.labels.length ca, .slice B a.res.kids.length cb, .bool a.async] 45)).alloc (.cells #[.slice Rb b.params.length nb, .int .i64 b.res.kind, .string b.res.name, .slice A' b.res.labels.length ca', .slice B' b.res.kids.length cb', .bool b.async] 45)).cell? ⟨w.heap.size + 1, 4, none⟩ = some (.slice B' b.res.kids.length cb') := by go_simp
      have kb5 : ((w.alloc (.cells #[.slice Ra a.params.length na, .int .i64 a.res.kind, .string a.res.name, .slice A a.res.labels.length ca, .slice B a.res.kids.length cb, .bool a.async] 45)).alloc (.cells #[.slice Rb b.params.length nb, .int .i64 b.res.kind, .string b.res.name, .slice A' b.res.labels.length ca', .slice B' b.res.kids.length cb', .bool b.async] 45)).cell? ⟨w.heap.size + 1, 5, none⟩ = some (.bool b.async) := by go_simp
      have HW3 := Lib.hid (below2 w (.cells #[.slice Ra a.params.length na, .int .i64 a.res.kind, .string a.res.name, .slice A a.res.labels.length ca, .slice B a.res.kids.length cb, .bool a.async] 45) (.cells #[.slice Rb b.params.length nb, .int .i64 b.res.kind, .string b.res.name, .slice A' b.res.labels.length ca', .slice B' b.res.kids.length cb', .bool b.async] 45))
      go_enter Tryz.func16, Tryz.ntmps16
      go_wp2_with fail
      generalize ((w.alloc (.cells #[.slice Ra a.params.length na, .int .i64 a.res.kind, .string a.res.name, .slice A a.res.labels.length ca, .slice B a.res.kids.length cb, .bool a.async] 45)).alloc (.cells #[.slice Rb b.params.length nb, .int .i64 b.res.kind, .string b.res.name, .slice A' b.res.labels.length ca', .slice B' b.res.kids.length cb', .bool b.async] 45)) = W at *
      go_at_call 34
      refine (CA.out _ (HPA.out.below HW3.out)).mono ?_
      rintro e w2 ⟨rfl, hb2⟩
      replace ka0 := keepCell hb2 ka0
      replace ka1 := keepCell hb2 ka1
      replace ka2 := keepCell hb2 ka2
      replace ka3 := keepCell hb2 ka3
      replace ka4 := keepCell hb2 ka4
      replace ka5 := keepCell hb2 ka5
      replace kb0 := keepCell hb2 kb0
      replace kb1 := keepCell hb2 kb1
      replace kb2 := keepCell hb2 kb2
      replace kb3 := keepCell hb2 kb3
      replace kb4 := keepCell hb2 kb4
      replace kb5 := keepCell hb2 kb5
      have HB2 := Lib.hid (bnext HW3.out hb2)
      clear hb2
      go_wp2_with fail
      go_at_call 34
      refine (CB.out _ (HPB.out.below HB2.out)).mono ?_
      rintro e w3 ⟨rfl, hb3⟩
      replace ka0 := keepCell hb3 ka0
      replace ka1 := keepCell hb3 ka1
      replace ka2 := keepCell hb3 ka2
      replace ka3 := keepCell hb3 ka3
      replace ka4 := keepCell hb3 ka4
      replace ka5 := keepCell hb3 ka5
      replace kb0 := keepCell hb3 kb0
      replace kb1 := keepCell hb3 kb1
      replace kb2 := keepCell hb3 kb2
      replace kb3 := keepCell hb3 kb3
      replace kb4 := keepCell hb3 kb4
      replace kb5 := keepCell hb3 kb5
      have HB3 := Lib.hid (bnext HB2.out hb3)
      clear hb3
      go_wp2_with fail
      go_ret
      exact ⟨rfl, HB3.out⟩
  · have CA := Lib.hid (fun W h => (CA0 W h).mono fun _ _ k => k.no ho)
    have hr := hr0 (fun h => ho h.1)
    subst hr
    clear ho CA0 CB0 H4 hT hU hr1 hr0
    have ka0 : ((w.alloc (.cells #[.slice Ra a.params.length na, .int .i64 a.res.kind, .string a.res.name, .slice A a.res.labels.length ca, .slice B a.res.kids.length cb, .bool a.async] 45)).alloc (.cells #[.slice Rb b.params.length nb, .int .i64 b.res.kind, .string b.res.name, .slice A' b.res.labels.length ca', .slice B' b.res.kids.length cb', .bool b.async] 45)).cell? ⟨w.heap.size, 0, none⟩ = some (.slice Ra a.params.length na) := by go_simp
    have ka1 : ((w.alloc (.cells #[.slice Ra a.params.length na, .int .i64 a.res.kind, .string a.res.name, .slice A a.res.labels.length ca, .slice B a.res.kids.length cb, .bool a.async] 45)).alloc (.cells #[.slice Rb b.params.length nb, .int .i64 b.res.kind, .string b.res.name, .slice A' b.res.labels.length ca', .slice B' b.res.kids.length cb', .bool b.async] 45)).cell? ⟨w.heap.size, 1, none⟩ = some (.int .i64 a.res.kind) := by go_simp
    have ka2 : ((w.alloc (.cells #[.slice Ra a.params.length na, .int .i64 a.res.kind, .string a.res.name, .slice A a.res.labels.length ca, .slice B a.res.kids.length cb, .bool a.async] 45)).alloc (.cells #[.slice Rb b.params.length nb, .int .i64 b.res.kind, .string b.res.name, .slice A' b.res.labels.length ca', .slice B' b.res.kids.length cb', .bool b.async] 45)).cell? ⟨w.heap.size, 2, none⟩ = some (.string a.res.name) := by go_simp
    have ka3 : ((w.alloc (.cells #[.slice Ra a.params.length na, .int .i64 a.res.kind, .string a.res.name, .slice A a.res.labels.length ca, .slice B a.res.kids.length cb, .bool a.async] 45)).alloc (.cells #[.slice Rb b.params.length nb, .int .i64 b.res.kind, .string b.res.name, .slice A' b.res.labels.length ca', .slice B' b.res.kids.length cb', .bool b.async] 45)).cell? ⟨w.heap.size, 3, none⟩ = some (.slice A a.res.labels.length ca) := by go_simp
    have ka4 : ((w.alloc (.cells #[.slice Ra a.params.length na, .int .i64 a.res.kind, .string a.res.name, .slice A a.res.labels.length ca, .slice B a.res.kids.length cb, .bool a.async] 45)).alloc (.cells #[.slice Rb b.params.length nb, .int .i64 b.res.kind, .string b.res.name, .slice A' b.res.labels.length ca', .slice B' b.res.kids.length cb', .bool b.async] 45)).cell? ⟨w.heap.size, 4, none⟩ = some (.slice B a.res.kids.length cb) := by go_simp
    have ka5 : ((w.alloc (.cells #[.slice Ra a.params.length na, .int .i64 a.res.kind, .string a.res.name, .slice A a.res.labels.length ca, .slice B a.res.kids.length cb, .bool a.async] 45)).alloc (.cells #[.slice Rb b.params.length nb, .int .i64 b.res.kind, .string b.res.name, .slice A' b.res.labels.length ca', .slice B' b.res.kids.length cb', .bool b.async] 45)).cell? ⟨w.heap.size, 5, none⟩ = some (.bool a.async) := by go_simp
    have kb0 : ((w.alloc (.cells #[.slice Ra a.params.length na, .int .i64 a.res.kind, .string a.res.name, .slice A a.res.labels.length ca, .slice B a.res.kids.length cb, .bool a.async] 45)).alloc (.cells #[.slice Rb b.params.length nb, .int .i64 b.res.kind, .string b.res.name, .slice A' b.res.labels.length ca', .slice B' b.res.kids.length cb', .bool b.async] 45)).cell? ⟨w.heap.size + 1, 0, none⟩ = some (.slice Rb b.params.length nb) := by go_simp
    have kb1 : ((w.alloc (.cells #[.slice Ra a.params.length na, .int .i64 a.res.kind, .string a.res.name, .slice A a.res.labels.length ca, .slice B a.res.kids.length cb, .bool a.async] 45)).alloc (.cells #[.slice Rb b.params.length nb, .int .i64 b.res.kind, .string b.res.name, .slice A' b.res.labels.length ca', .slice B' b.res.kids.length cb', .bool b.async] 45)).cell? ⟨w.heap.size + 1, 1, none⟩ = some (.int .i64 b.res.kind) := by go_simp
    have kb2 : ((w.alloc (.cells #[.slice Ra a.params.length na, .int .i64 a.res.kind, .string a.res.name, .slice A a.res.labels.length ca, .slice B a.res.kids.length cb, .bool a.async] 45)).alloc (.cells #[.slice Rb b.params.length nb, .int .i64 b.res.kind, .string b.res.name, .slice A' b.res.labels.length ca', .slice B' b.res.kids.length cb', .bool b.async] 45)).cell? ⟨w.heap.size + 1, 2, none⟩ = some (.string b.res.name) := by go_simp
    have kb3 : ((w.alloc (.cells #[.slice Ra a.params.length na, .int .i64 a.res.kind, .string a.res.name, .slice A a.res.labels.length ca, .slice B a.res.kids.length cb, .bool a.async] 45)).alloc (.cells #[.slice Rb b.params.length nb, .int .i64 b.res.kind, .string b.res.name, .slice A' b.res.labels.length ca', .slice B' b.res.kids.length cb', .bool b.async] 45)).cell? ⟨w.heap.size + 1, 3, none⟩ = some (.slice A' b.res.labels.length ca') := by go_simp
    have kb4 : ((w.alloc (.cells #[.slice Ra a.params.length na, .int .i64 a.res.kind, .string a.res.name, .slice A a.res.labels.length ca, .slice B a.res.kids.length cb, .bool a.async] 45)).alloc (.cells #[.slice Rb b.params.length nb, .int .i64 b.res.kind, .string b.res.name, .slice A' b.res.labels.length ca', .slice B' b.res.kids.length cb', .bool b.async] 45)).cell? ⟨w.heap.size + 1, 4, none⟩ = some (.slice B' b.res.kids.length cb') := by go_simp
    have kb5 : ((w.alloc (.cells #[.slice Ra a.params.length na, .int .i64 a.res.kind, .string a.res.name, .slice A a.res.labels.length ca, .slice B a.res.kids.length cb, .bool a.async] 45)).alloc (.cells #[.slice Rb b.params.length nb, .int .i64 b.res.kind, .string b.res.name, .slice A' b.res.labels.length ca', .slice B' b.res.kids.length cb', .bool b.async] 45)).cell? ⟨w.heap.size + 1, 5, none⟩ = some (.bool b.async) := by go_simp
    have HW3 := Lib.hid (below2 w (.cells #[.slice Ra a.params.length na, .int .i64 a.res.kind, .string a.res.name, .slice A a.res.labels.length ca, .slice B a.res.kids.length cb, .bool a.async] 45) (.cells #[.slice Rb b.params.length nb, .int .i64 b.res.kind, .string b.res.name, .slice A' b.res.labels.length ca', .slice B' b.res.kids.length cb', .bool b.async] 45))
    go_enter Tryz.func16, Tryz.ntmps16
    go_wp2_with fail
    generalize ((w.alloc (.cells #[.slice Ra a.params.length na, .int .i64 a.res.kind, .string a.res.name, .slice A a.res.labels.length ca, .slice B a.res.kids.length cb, .bool a.async] 45)).alloc (.cells #[.slice Rb b.params.length nb, .int .i64 b.res.kind, .string b.res.name, .slice A' b.res.labels.length ca', .slice B' b.res.kids.length cb', .bool b.async] 45)) = W at *
    go_at_call 34
    refine (CA.out _ (HPA.out.below HW3.out)).mono ?_
    rintro e w2 ⟨rfl, hb2⟩
    replace ka0 := keepCell hb2 ka0
    replace ka1 := keepCell hb2 ka1
    replace ka2 := keepCell hb2 ka2
    replace ka3 := keepCell hb2 ka3
    replace ka4 := keepCell hb2 ka4
    replace ka5 := keepCell hb2 ka5
    replace kb0 := keepCell hb2 kb0
    replace kb1 := keepCell hb2 kb1
    replace kb2 := keepCell hb2 kb2
    replace kb3 := keepCell hb2 kb3
    replace kb4 := keepCell hb2 kb4
    replace kb5 := keepCell hb2 kb5
    have HB2 := Lib.hid (bnext HW3.out hb2)
    clear hb2
    go_wp2_with fail
    go_ret
    exact ⟨rfl, HB2.out⟩
end Go.Proofs.YtifchfecfkdjlaaGreatDoor
