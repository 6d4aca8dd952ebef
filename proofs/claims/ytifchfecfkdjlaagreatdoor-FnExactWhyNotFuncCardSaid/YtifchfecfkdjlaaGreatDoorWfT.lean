/-
  The walks of the model's FuncOk and WhyNotFunc.
-/
import Derived.Test.YtifchfecfkdjlaaGreatDoorWfS
import Derived.Test.YtifchfecfkdjlaaGreatDoorFnOkS
namespace Go.Proofs.YtifchfecfkdjlaaGreatDoor
open Go.ChangeShapes Go.WideShapes Go.ChangeAt Go.RowKit Go.Deep

theorem gd_ok {T : Ty} (hT : T.wt ≤ 1048576) (h : T.Ok) : Gd 4 T := by
  obtain ⟨h1, h2⟩ := h
  unfold Ty.fits at h1
  exact ⟨hT, h2, by omega, h1.2⟩
theorem FnG.of {a : Fn} (hT : a.wt ≤ 1048576) (h : a.Ok) : FnG a := by
  have h1 := Pm.wts_nonneg a.params
  have h2 := a.res.wt_nonneg
  have hT' := hT
  unfold Fn.wt at hT'
  refine ⟨hT, gd_ok (by omega) h.2.1, fun p hp => ?_⟩
  obtain ⟨i, hi, rfl⟩ := List.getElem_of_mem hp
  have hq := List.getElem?_eq_getElem hi
  have h3 := Pm.wt_mem hq
  unfold Pm.wt at h3
  have h5 : (0 : Int) ≤ (a.params[i].name.size : Int) := by omega
  exact gd_ok (by omega) ((h.pm hq).2.2.1)

set_option maxRecDepth 100000 in
theorem specFuncOk_any (x : Fn) (hT : x.wt ≤ 1048576) (R A B : Option Addr) (c ca cb lo : Nat) (w : World) (hat : Fn.At w lo x R A B) :
    Calls Tryz.prog 34 #[.agg #[.slice R x.params.length c, .int .i64 x.res.kind, .string x.res.name, .slice A x.res.labels.length ca, .slice B x.res.kids.length cb, .bool x.async]] w (SaysB x.Ok w) := by
  have C := Lib.hid (fun W h => l03Func_any x hT R A B c ca cb lo W h)
  have H := Lib.hid hat
  clear hat hT
  go_enter Tryz.func34, Tryz.ntmps34
  go_wp2_with fail
  go_at_call 53
  refine (C.out _ (H.out.below (below1 _ _))).mono ?_
  rintro e w2 ⟨v, rfl, hv, hb2⟩
  have HB2 := Lib.hid (bnext (below1 _ _) hb2)
  have HV := Lib.hid hv
  clear hb2 hv
  go_wp2_with fail
  go_ret
  exact ⟨v, rfl, HV.out, HB2.out⟩

set_option maxHeartbeats 2000000 in
set_option maxRecDepth 100000 in
theorem specWhyNotFunc_any (H4 : SpTy 4) (a b : Fn) (hT : a.wt ≤ 1048576) (hU : b.wt ≤ 1048576) (Q : Option (Int × ByteArray)) (hQ1 : a.Ok ∧ b.Ok → Q = Fn.why a b) (hQ0 : ¬ (a.Ok ∧ b.Ok) → Q = none) (Ra Rb A B A' B' : Option Addr) (na nb ca cb ca' cb' lo lo' : Nat) (w : World) (hat : Fn.At w lo a Ra A B) (hbt : Fn.At w lo' b Rb A' B') :
    Calls Tryz.prog 20 #[.agg #[.slice Ra a.params.length na, .int .i64 a.res.kind, .string a.res.name, .slice A a.res.labels.length ca, .slice B a.res.kids.length cb, .bool a.async], .agg #[.slice Rb b.params.length nb, .int .i64 b.res.kind, .string b.res.name, .slice A' b.res.labels.length ca', .slice B' b.res.kids.length cb', .bool b.async]] w (RsnS Q ⟨#[]⟩ w) := by
  have HPA := Lib.hid hat
  have HPB := Lib.hid hbt
  have CA0 := fun W h => specFuncOk_any a hT Ra A B na ca cb lo W h
  have CB0 := fun W h => specFuncOk_any b hU Rb A' B' nb ca' cb' lo' W h
  clear hat hbt
  by_cases ho : a.Ok
  · have CA := Lib.hid (fun W h => (CA0 W h).mono fun _ _ k => k.yes ho)
    by_cases hp : b.Ok
    · have CB := Lib.hid (fun W h => (CB0 W h).mono fun _ _ k => k.yes hp)
      have CW := Lib.hid (fun W h1 h2 => l08Func_any H4 a b (FnG.of hT ho) (FnG.of hU hp) Ra Rb A B A' B' na nb ca cb ca' cb' lo lo' ⟨#[]⟩ (by show (0 : Nat) ≤ 50000000; omega) W h1 h2)
      have hQ := hQ1 ⟨ho, hp⟩
      rw [← hQ] at CW
      clear ho hp CA0 CB0 H4 hT hU hQ1 hQ0 hQ
      have ka0 : (((w.alloc (.cells #[.slice Ra a.params.length na, .int .i64 a.res.kind, .string a.res.name, .slice A a.res.labels.length ca, .slice B a.res.kids.length cb, .bool a.async] 45)).alloc (.cells #[.slice Rb b.params.length nb, .int .i64 b.res.kind, .string b.res.name, .slice A' b.res.labels.length ca', .slice B' b.res.kids.length cb', .bool b.async] 45)).alloc (.cells #[.int .i64 0, .string ⟨#[]⟩] 34)).cell? ⟨w.heap.size, 0, none⟩ = some (.slice Ra a.params.length na) := by go_simp
      have ka1 : (((w.alloc (.cells #[.slice Ra a.params.length na, .int .i64 a.res.kind, .string a.res.name, .slice A a.res.labels.length ca, .slice B a.res.kids.length cb, .bool a.async] 45)).alloc (.cells #[.slice Rb b.params.length nb, .int .i64 b.res.kind, .string b.res.name, .slice A' b.res.labels.length ca', .slice B' b.res.kids.length cb', .bool b.async] 45)).alloc (.cells #[.int .i64 0, .string ⟨#[]⟩] 34)).cell? ⟨w.heap.size, 1, none⟩ = some (.int .i64 a.res.kind) := by go_simp
      have ka2 : (((w.alloc (.cells #[.slice Ra a.params.length na, .int .i64 a.res.kind, .string a.res.name, .slice A a.res.labels.length ca, .slice B a.res.kids.length cb, .bool a.async] 45)).alloc (.cells #[.slice Rb b.params.length nb, .int .i64 b.res.kind, .string b.res.name, .slice A' b.res.labels.length ca', .slice B' b.res.kids.length cb', .bool b.async] 45)).alloc (.cells #[.int .i64 0, .string ⟨#[]⟩] 34)).cell? ⟨w.heap.size, 2, none⟩ = some (.string a.res.name) := by go_simp
      have ka3 : (((w.alloc (.cells #[.slice Ra a.params.length na, .int .i64 a.res.kind, .string a.res.name, .slice A a.res.labels.length ca, .slice B a.res.kids.length cb, .bool a.async] 45)).alloc (.cells #[.slice Rb b.params.length nb, .int .i64 b.res.kind, .string b.res.name, .slice A' b.res.labels.length ca', .slice B' b.res.kids.length cb', .bool b.async] 45)).alloc (.cells #[.int .i64 0, .string ⟨#[]⟩] 34)).cell? ⟨w.heap.size, 3, none⟩ = some (.slice A a.res.labels.length ca) := by go_simp
      have ka4 : (((w.alloc (.cells #[.slice Ra a.params.length na, .int .i64 a.res.kind, .string a.res.name, .slice A a.res.labels.length ca, .slice B a.res.kids.length cb, .bool a.async] 45)).alloc (.cells #[.slice Rb b.params.length nb, .int .i64 b.res.kind, .string b.res.name, .slice A' b.res.labels.length ca', .slice B' b.res.kids.length cb', .bool b.async] 45)).alloc (.cells #[.int .i64 0, .string ⟨#[]⟩] 34)).cell? ⟨w.heap.size, 4, none⟩ = some (.slice B a.res.kids.length cb) := by go_simp
      have ka5 : (((w.alloc (.cells #[.slice Ra a.params.length na, .int .i64 a.res.kind, .string a.res.name, .slice A a.res.labels.length ca, .slice B a.res.kids.length cb, .bool a.async] 45)).alloc (.cells #[.slice Rb b.params.length nb, .int .i64 b.res.kind, .string b.res.name, .slice A' b.res.labels.length ca', .slice B' b.res.kids.length cb', .bool b.async] 45)).alloc (.cells #[.int .i64 0, .string ⟨#[]⟩] 34)).cell? ⟨w.heap.size, 5, none⟩ = some (.bool a.async) := by go_simp
      have kb0 : (((w.alloc (.cells #[.slice Ra a.params.length na, .int .i64 a.res.kind, .string a.res.name, .slice A a.res.labels.length ca, .slice B a.res.kids.length cb, .bool a.async] 45)).alloc (.cells #[.slice Rb b.params.length nb, .int .i64 b.res.kind, .string b.res.name, .slice A' b.res.labels.length ca', .slice B' b.res.kids.length cb', .bool b.async] 45)).alloc (.cells #[.int .i64 0, .string ⟨#[]⟩] 34)).cell? ⟨w.heap.size + 1, 0, none⟩ = some (.slice Rb b.params.length nb) := by go_simp
      have kb1 : (((w.alloc (.cells #[.slice Ra a.params.length na, .int .i64 a.res.kind, .string a.res.name, .slice A a.res.labels.length ca, .slice B a.res.kids.length cb, .bool a.async] 45)).alloc (.cells #[.slice Rb b.params.length nb, .int .i64 b.res.kind, .string b.res.name, .slice A' b.res.labels.length ca', .slice B' b.res.kids.length cb', .bool b.async] 45)).alloc (.cells #[.int .i64 0, .string ⟨#[]⟩] 34)).cell? ⟨w.heap.size + 1, 1, none⟩ = some (.int .i64 b.res.kind) := by go_simp
      have kb2 : (((w.alloc (.cells #[.slice Ra a.params.length na, .int .i64 a.res.kind, .string a.res.name, .slice A a.res.labels.length ca, .slice B a.res.kids.length cb, .bool a.async] 45)).alloc (.cells #[.slice Rb b.params.length nb, .int .i64 b.res.kind, .string b.res.name, .slice A' b.res.labels.length ca', .slice B' b.res.kids.length cb', .bool b.async] 45)).alloc (.cells #[.int .i64 0, .string ⟨#[]⟩] 34)).cell? ⟨w.heap.size + 1, 2, none⟩ = some (.string b.res.name) := by go_simp
      have kb3 : (((w.alloc (.cells #[.slice Ra a.params.length na, .int .i64 a.res.kind, .string a.res.name, .slice A a.res.labels.length ca, .slice B a.res.kids.length cb, .bool a.async] 45)).alloc (.cells #[.slice Rb b.params.length nb, .int .i64 b.res.kind, .string b.res.name, .slice A' b.res.labels.length ca', .slice B' b.res.kids.length cb', .bool b.async] 45)).alloc (.cells #[.int .i64 0, .string ⟨#[]⟩] 34)).cell? ⟨w.heap.size + 1, 3, none⟩ = some (.slice A' b.res.labels.length ca') := by go_simp
      have kb4 : (((w.alloc (.cells #[.slice Ra a.params.length na, .int .i64 a.res.kind, .string a.res.name, .slice A a.res.labels.length ca, .slice B a.res.kids.length cb, .bool a.async] 45)).alloc (.cells #[.slice Rb b.params.length nb, .int .i64 b.res.kind, .string b.res.name, .slice A' b.res.labels.length ca', .slice B' b.res.kids.length cb', .bool b.async] 45)).alloc (.cells #[.int .i64 0, .string ⟨#[]⟩] 34)).cell? ⟨w.heap.size + 1, 4, none⟩ = some (.slice B' b.res.kids.length cb') := by go_simp
      have kb5 : (((w.alloc (.cells #[.slice Ra a.params.length na, .int .i64 a.res.kind, .string a.res.name, .slice A a.res.labels.length ca, .slice B a.res.kids.length cb, .bool a.async] 45)).alloc (.cells #[.slice Rb b.params.length nb, .int .i64 b.res.kind, .string b.res.name, .slice A' b.res.labels.length ca', .slice B' b.res.kids.length cb', .bool b.async] 45)).alloc (.cells #[.int .i64 0, .string ⟨#[]⟩] 34)).cell? ⟨w.heap.size + 1, 5, none⟩ = some (.bool b.async) := by go_simp
      have r0 : (((w.alloc (.cells #[.slice Ra a.params.length na, .int .i64 a.res.kind, .string a.res.name, .slice A a.res.labels.length ca, .slice B a.res.kids.length cb, .bool a.async] 45)).alloc (.cells #[.slice Rb b.params.length nb, .int .i64 b.res.kind, .string b.res.name, .slice A' b.res.labels.length ca', .slice B' b.res.kids.length cb', .bool b.async] 45)).alloc (.cells #[.int .i64 0, .string ⟨#[]⟩] 34)).cell? ⟨w.heap.size + 1 + 1, 0, none⟩ = some (.int .i64 0) := by go_simp
      have r1 : (((w.alloc (.cells #[.slice Ra a.params.length na, .int .i64 a.res.kind, .string a.res.name, .slice A a.res.labels.length ca, .slice B a.res.kids.length cb, .bool a.async] 45)).alloc (.cells #[.slice Rb b.params.length nb, .int .i64 b.res.kind, .string b.res.name, .slice A' b.res.labels.length ca', .slice B' b.res.kids.length cb', .bool b.async] 45)).alloc (.cells #[.int .i64 0, .string ⟨#[]⟩] 34)).cell? ⟨w.heap.size + 1 + 1, 1, none⟩ = some (.string ⟨#[]⟩) := by go_simp
      have BR := Lib.hid (blk_n2 w (.cells #[.slice Ra a.params.length na, .int .i64 a.res.kind, .string a.res.name, .slice A a.res.labels.length ca, .slice B a.res.kids.length cb, .bool a.async] 45) (.cells #[.slice Rb b.params.length nb, .int .i64 b.res.kind, .string b.res.name, .slice A' b.res.labels.length ca', .slice B' b.res.kids.length cb', .bool b.async] 45) #[.int .i64 0, .string ⟨#[]⟩] 34)
      have HW3 := Lib.hid (below3 w (.cells #[.slice Ra a.params.length na, .int .i64 a.res.kind, .string a.res.name, .slice A a.res.labels.length ca, .slice B a.res.kids.length cb, .bool a.async] 45) (.cells #[.slice Rb b.params.length nb, .int .i64 b.res.kind, .string b.res.name, .slice A' b.res.labels.length ca', .slice B' b.res.kids.length cb', .bool b.async] 45) (.cells #[.int .i64 0, .string ⟨#[]⟩] 34))
      have hz3 : (((w.alloc (.cells #[.slice Ra a.params.length na, .int .i64 a.res.kind, .string a.res.name, .slice A a.res.labels.length ca, .slice B a.res.kids.length cb, .bool a.async] 45)).alloc (.cells #[.slice Rb b.params.length nb, .int .i64 b.res.kind, .string b.res.name, .slice A' b.res.labels.length ca', .slice B' b.res.kids.length cb', .bool b.async] 45)).alloc (.cells #[.int .i64 0, .string ⟨#[]⟩] 34)).heap.size = w.heap.size + 3 := by simp
      go_enter Tryz.func20, Tryz.ntmps20
      go_wp2_with fail
      generalize (((w.alloc (.cells #[.slice Ra a.params.length na, .int .i64 a.res.kind, .string a.res.name, .slice A a.res.labels.length ca, .slice B a.res.kids.length cb, .bool a.async] 45)).alloc (.cells #[.slice Rb b.params.length nb, .int .i64 b.res.kind, .string b.res.name, .slice A' b.res.labels.length ca', .slice B' b.res.kids.length cb', .bool b.async] 45)).alloc (.cells #[.int .i64 0, .string ⟨#[]⟩] 34)) = W at *
      go_at_call 34
      refine (CA.out _ (HPA.out.below HW3.out)).mono ?_
      rintro e w2 ⟨rfl, hb2⟩
      replace ka0 := keepCell hb2 ka0
      replace ka1 := keepCell hb2 ka1
      replace ka2 := keepCell hb2 ka2
      replace ka3 := keepCell hb2 ka3
      replace ka4 := keepCell hb2 ka4
      replace ka5 := keepCell hb2 ka5
      replace kb0 := keepCell hb2 kb0
      replace kb1 := keepCell hb2 kb1
      replace kb2 := keepCell hb2 kb2
      replace kb3 := keepCell hb2 kb3
      replace kb4 := keepCell hb2 kb4
      replace kb5 := keepCell hb2 kb5
      replace r0 := keepCell hb2 r0
      replace r1 := keepCell hb2 r1
      have HB2 := Lib.hid (bnext HW3.out hb2)
      have HBW := Lib.hid hb2
      clear hb2
      go_wp2_with fail
      go_at_call 34
      refine (CB.out _ (HPB.out.below HB2.out)).mono ?_
      rintro e w3 ⟨rfl, hb3⟩
      replace ka0 := keepCell hb3 ka0
      replace ka1 := keepCell hb3 ka1
      replace ka2 := keepCell hb3 ka2
      replace ka3 := keepCell hb3 ka3
      replace ka4 := keepCell hb3 ka4
      replace ka5 := keepCell hb3 ka5
      replace kb0 := keepCell hb3 kb0
      replace kb1 := keepCell hb3 kb1
      replace kb2 := keepCell hb3 kb2
      replace kb3 := keepCell hb3 kb3
      replace kb4 := keepCell hb3 kb4
      replace kb5 := keepCell hb3 kb5
      replace r0 := keepCell hb3 r0
      replace r1 := keepCell hb3 r1
      have HB3 := Lib.hid (bnext HB2.out hb3)
      have HBW3 := Lib.hid (bnext HBW.out hb3)
      clear hb3
      go_wp2_with fail
      go_at_call 35
      refine (CW.out _ (HPA.out.below HB3.out) (HPB.out.below HB3.out)).mono ?_
      rintro e w4 ⟨rfl, hb4⟩
      replace r0 := keepCell hb4 r0
      replace r1 := keepCell hb4 r1
      have f1 := fun o => ((BR.out.below HBW3.out).below hb4).free o
      have HB4 := Lib.hid (bnext HB3.out hb4)
      clear hb4
      go_wp2_with fail
      have st := setTwo (v0 := .int .i64 (rk Q)) (v1 := .string (rp ⟨#[]⟩ Q)) r0 r1
      have s0 := st.1
      have s1 := st.2
      clear st
      exact bodyPost_ret (v := .tuple #[.agg #[.int .i64 (rk Q), .string (rp ⟨#[]⟩ Q)], .bool Q.isSome]) (by simp [results, Tryz.results20, go_sem, s0, s1]) rfl ⟨rfl, (HB4.out.setCell (by simp; omega) _).setCell (by simp; omega) _⟩
    · have CB := Lib.hid (fun W h => (CB0 W h).mono fun _ _ k => k.no hp)
      have hQ := hQ0 (fun h => hp h.2)
      subst hQ
      clear ho hp CA0 CB0 H4 hT hU hQ1 hQ0
      have ka0 : (((w.alloc (.cells #[.slice Ra a.params.length na, .int .i64 a.res.kind, .string a.res.name, .slice A a.res.labels.length ca, .slice B a.res.kids.length cb, .bool a.async] 45)).alloc (.cells #[.slice Rb b.params.length nb, .int .i64 b.res.kind, .string b.res.name, .slice A' b.res.labels.length ca', .slice B' b.res.kids.length cb', .bool b.async] 45)).alloc (.cells #[.int .i64 0, .string ⟨#[]⟩] 34)).cell? ⟨w.heap.size, 0, none⟩ = some (.slice Ra a.params.length na) := by go_simp
      have ka1 : (((w.alloc (.cells #[.slice Ra a.params.length na, .int .i64 a.res.kind, .string a.res.name, .slice A a.res.labels.length ca, .slice B a.res.kids.length cb, .bool a.async] 45)).alloc (.cells #[.slice Rb b.params.length nb, .int .i64 b.res.kind, .string b.res.name, .slice A' b.res.labels.length ca', .slice B' b.res.kids.length cb', .bool b.async] 45)).alloc (.cells #[.int .i64 0, .string ⟨#[]⟩] 34)).cell? ⟨w.heap.size, 1, none⟩ = some (.int .i64 a.res.kind) := by go_simp
      have ka2 : (((w.alloc (.cells #[.slice Ra a.params.length na, .int .i64 a.res.kind, .string a.res.name, .slice A a.res.labels.length ca, .slice B a.res.kids.length cb, .bool a.async] 45)).alloc (.cells #[.slice Rb b.params.length nb, .int .i64 b.res.kind, .string b.res.name, .slice A' b.res.labels.length ca', .slice B' b.res.kids.length cb', .bool b.async] 45)).alloc (.cells #[.int .i64 0, .string ⟨#[]⟩] 34)).cell? ⟨w.heap.size, 2, none⟩ = some (.string a.res.name) := by go_simp
      have ka3 : (((w.alloc (.cells #[.slice Ra a.params.length na, .int .i64 a.res.kind, .string a.res.name, .slice A a.res.labels.length ca, .slice B a.res.kids.length cb, .bool a.async] 45)).alloc (.cells #[.slice Rb b.params.length nb, .int .i64 b.res.kind, .string b.res.name, .slice A' b.res.labels.length ca', .slice B' b.res.kids.length cb', .bool b.async] 45)).alloc (.cells #[.int .i64 0, .string ⟨#[]⟩] 34)).cell? ⟨w.heap.size, 3, none⟩ = some (.slice A a.res.labels.length ca) := by go_simp
      have ka4 : (((w.alloc (.cells #[.slice Ra a.params.length na, .int .i64 a.res.kind, .string a.res.name, .slice A a.res.labels.length ca, .slice B a.res.kids.length cb, .bool a.async] 45)).alloc (.cells #[.slice Rb b.params.length nb, .int .i64 b.res.kind, .string b.res.name, .slice A' b.res.labels.length ca', .slice B' b.res.kids.length cb', .bool b.async] 45)).alloc (.cells #[.int .i64 0, .string ⟨#[]⟩] 34)).cell? ⟨w.heap.size, 4, none⟩ = some (.slice B a.res.kids.length cb) := by go_simp
      have ka5 : (((w.alloc (.cells #[.slice Ra a.params.length na, .int .i64 a.res.kind, .string a.res.name, .slice A a.res.labels.length ca, .slice B a.res.kids.length cb, .bool a.async] 45)).alloc (.cells #[.slice Rb b.params.length nb, .int .i64 b.res.kind, .string b.res.name, .slice A' b.res.labels.length ca', .slice B' b.res.kids.length cb', .bool b.async] 45)).alloc (.cells #[.int .i64 0, .string ⟨#[]⟩] 34)).cell? ⟨w.heap.size, 5, none⟩ = some (.bool a.async) := by go_simp
      have kb0 : (((w.alloc (.cells #[.slice Ra a.params.length na, .int .i64 a.res.kind, .string a.res.name, .slice A a.res.labels.length ca, .slice B a.res.kids.length cb, .bool a.async] 45)).alloc (.cells #[.slice Rb b.params.length nb, .int .i64 b.res.kind, .string b.res.name, .slice A' b.res.labels.length ca', .slice B' b.res.kids.length cb', .bool b.async] 45)).alloc (.cells #[.int .i64 0, .string ⟨#[]⟩] 34)).cell? ⟨w.heap.size + 1, 0, none⟩ = some (.slice Rb b.params.length nb) := by go_simp
      have kb1 : (((w.alloc (.cells #[.slice Ra a.params.length na, .int .i64 a.res.kind, .string a.res.name, .slice A a.res.labels.length ca, .slice B a.res.kids.length cb, .bool a.async] 45)).alloc (.cells #[.slice Rb b.params.length nb, .int .i64 b.res.kind, .string b.res.name, .slice A' b.res.labels.length ca', .slice B' b.res.kids.length cb', .bool b.async] 45)).alloc (.cells #[.int .i64 0, .string ⟨#[]⟩] 34)).cell? ⟨w.heap.size + 1, 1, none⟩ = some (.int .i64 b.res.kind) := by go_simp
      have kb2 : (((w.alloc (.cells #[.slice Ra a.params.length na, .int .i64 a.res.kind, .string a.res.name, .slice A a.res.labels.length ca, .slice B a.res.kids.length cb, .bool a.async] 45)).alloc (.cells #[.slice Rb b.params.length nb, .int .i64 b.res.kind, .string b.res.name, .slice A' b.res.labels.length ca', .slice B' b.res.kids.length cb', .bool b.async] 45)).alloc (.cells #[.int .i64 0, .string ⟨#[]⟩] 34)).cell? ⟨w.heap.size + 1, 2, none⟩ = some (.string b.res.name) := by go_simp
      have kb3 : (((w.alloc (.cells #[.slice Ra a.params.length na, .int .i64 a.res.kind, .string a.res.name, .slice A a.res.labels.length ca, .slice B a.res.kids.length cb, .bool a.async] 45)).alloc (.cells #[.slice Rb b.params.length nb, .int .i64 b.res.kind, .string b.res.name, .slice A' b.res.labels.length ca', .slice B' b.res.kids.length cb', .bool b.async] 45)).alloc (.cells #[.int .i64 0, .string ⟨#[]⟩] 34)).cell? ⟨w.heap.size + 1, 3, none⟩ = some (.slice A' b.res.labels.length ca') := by go_simp
      have kb4 : (((w.alloc (.cells #[.slice Ra a.params.length na, .int .i64 a.res.kind, .string a.res.name, .slice A a.res.labels.length ca, .slice B a.res.kids.length cb, .bool a.async] 45)).alloc (.cells #[.slice Rb b.params.length nb, .int .i64 b.res.kind, .string b.res.name, .slice A' b.res.labels.length ca', .slice B' b.res.kids.length cb', .bool b.async] 45)).alloc (.cells #[.int .i64 0, .string ⟨#[]⟩] 34)).cell? ⟨w.heap.size + 1, 4, none⟩ = some (.slice B' b.res.kids.length cb') := by go_simp
      have kb5 : (((w.alloc (.cells #[.slice Ra a.params.length na, .int .i64 a.res.kind, .string a.res.name, .slice A a.res.labels.length ca, .slice B a.res.kids.length cb, .bool a.async] 45)).alloc (.cells #[.slice Rb b.params.length nb, .int .i64 b.res.kind, .string b.res.name, .slice A' b.res.labels.length ca', .slice B' b.res.kids.length cb', .bool b.async] 45)).alloc (.cells #[.int .i64 0, .string ⟨#[]⟩] 34)).cell? ⟨w.heap.size + 1, 5, none⟩ = some (.bool b.async) := by go_simp
      have r0 : (((w.alloc (.cells #[.slice Ra a.params.length na, .int .i64 a.res.kind, .string a.res.name, .slice A a.res.labels.length ca, .slice B a.res.kids.length cb, .bool a.async] 45)).alloc (.cells #[.slice Rb b.params.length nb, .int .i64 b.res.kind, .string b.res.name, .slice A' b.res.labels.length ca', .slice B' b.res.kids.length cb', .bool b.async] 45)).alloc (.cells #[.int .i64 0, .string ⟨#[]⟩] 34)).cell? ⟨w.heap.size + 1 + 1, 0, none⟩ = some (.int .i64 0) := by go_simp
      have r1 : (((w.alloc (.cells #[.slice Ra a.params.length na, .int .i64 a.res.kind, .string a.res.name, .slice A a.res.labels.length ca, .slice B a.res.kids.length cb, .bool a.async] 45)).alloc (.cells #[.slice Rb b.params.length nb, .int .i64 b.res.kind, .string b.res.name, .slice A' b.res.labels.length ca', .slice B' b.res.kids.length cb', .bool b.async] 45)).alloc (.cells #[.int .i64 0, .string ⟨#[]⟩] 34)).cell? ⟨w.heap.size + 1 + 1, 1, none⟩ = some (.string ⟨#[]⟩) := by go_simp
      have BR := Lib.hid (blk_n2 w (.cells #[.slice Ra a.params.length na, .int .i64 a.res.kind, .string a.res.name, .slice A a.res.labels.length ca, .slice B a.res.kids.length cb, .bool a.async] 45) (.cells #[.slice Rb b.params.length nb, .int .i64 b.res.kind, .string b.res.name, .slice A' b.res.labels.length ca', .slice B' b.res.kids.length cb', .bool b.async] 45) #[.int .i64 0, .string ⟨#[]⟩] 34)
      have HW3 := Lib.hid (below3 w (.cells #[.slice Ra a.params.length na, .int .i64 a.res.kind, .string a.res.name, .slice A a.res.labels.length ca, .slice B a.res.kids.length cb, .bool a.async] 45) (.cells #[.slice Rb b.params.length nb, .int .i64 b.res.kind, .string b.res.name, .slice A' b.res.labels.length ca', .slice B' b.res.kids.length cb', .bool b.async] 45) (.cells #[.int .i64 0, .string ⟨#[]⟩] 34))
      have hz3 : (((w.alloc (.cells #[.slice Ra a.params.length na, .int .i64 a.res.kind, .string a.res.name, .slice A a.res.labels.length ca, .slice B a.res.kids.length cb, .bool a.async] 45)).alloc (.cells #[.slice Rb b.params.length nb, .int .i64 b.res.kind, .string b.res.name, .slice A' b.res.labels.length ca', .slice B' b.res.kids.length cb', .bool b.async] 45)).alloc (.cells #[.int .i64 0, .string ⟨#[]⟩] 34)).heap.size = w.heap.size + 3 := by simp
      go_enter Tryz.func20, Tryz.ntmps20
      go_wp2_with fail
      generalize (((w.alloc (.cells #[.slice Ra a.params.length na, .int .i64 a.res.kind, .string a.res.name, .slice A a.res.labels.length ca, .slice B a.res.kids.length cb, .bool a.async] 45)).alloc (.cells #[.slice Rb b.params.length nb, .int .i64 b.res.kind, .string b.res.name, .slice A' b.res.labels.length ca', .slice B' b.res.kids.length cb', .bool b.async] 45)).alloc (.cells #[.int .i64 0, .string ⟨#[]⟩] 34)) = W at *
      go_at_call 34
      refine (CA.out _ (HPA.out.below HW3.out)).mono ?_
      rintro e w2 ⟨rfl, hb2⟩
      replace ka0 := keepCell hb2 ka0
      replace ka1 := keepCell hb2 ka1
      replace ka2 := keepCell hb2 ka2
      replace ka3 := keepCell hb2 ka3
      replace ka4 := keepCell hb2 ka4
      replace ka5 := keepCell hb2 ka5
      replace kb0 := keepCell hb2 kb0
      replace kb1 := keepCell hb2 kb1
      replace kb2 := keepCell hb2 kb2
      replace kb3 := keepCell hb2 kb3
      replace kb4 := keepCell hb2 kb4
      replace kb5 := keepCell hb2 kb5
      replace r0 := keepCell hb2 r0
      replace r1 := keepCell hb2 r1
      have HB2 := Lib.hid (bnext HW3.out hb2)
      have HBW := Lib.hid hb2
      clear hb2
      go_wp2_with fail
      go_at_call 34
      refine (CB.out _ (HPB.out.below HB2.out)).mono ?_
      rintro e w3 ⟨rfl, hb3⟩
      replace ka0 := keepCell hb3 ka0
      replace ka1 := keepCell hb3 ka1
      replace ka2 := keepCell hb3 ka2
      replace ka3 := keepCell hb3 ka3
      replace ka4 := keepCell hb3 ka4
      replace ka5 := keepCell hb3 ka5
      replace kb0 := keepCell hb3 kb0
      replace kb1 := keepCell hb3 kb1
      replace kb2 := keepCell hb3 kb2
      replace kb3 := keepCell hb3 kb3
      replace kb4 := keepCell hb3 kb4
      replace kb5 := keepCell hb3 kb5
      replace r0 := keepCell hb3 r0
      replace r1 := keepCell hb3 r1
      have HB3 := Lib.hid (bnext HB2.out hb3)
      have HBW3 := Lib.hid (bnext HBW.out hb3)
      clear hb3
      have f1 := fun o => (BR.out.below HBW3.out).free o
      go_wp2_with fail
      have st := setTwo (v0 := .int .i64 0) (v1 := .string ⟨#[]⟩) r0 r1
      have s0 := st.1
      have s1 := st.2
      clear st
      exact bodyPost_ret (v := .tuple #[.agg #[.int .i64 0, .string ⟨#[]⟩], .bool false]) (by simp [results, Tryz.results20, go_sem, s0, s1]) rfl ⟨rfl, (HB3.out.setCell (by simp; omega) _).setCell (by simp; omega) _⟩
  · have CA := Lib.hid (fun W h => (CA0 W h).mono fun _ _ k => k.no ho)
    have hQ := hQ0 (fun h => ho h.1)
    subst hQ
    clear ho CA0 CB0 H4 hT hU hQ1 hQ0
    have ka0 : (((w.alloc (.cells #[.slice Ra a.params.length na, .int .i64 a.res.kind, .string a.res.name, .slice A a.res.labels.length ca, .slice B a.res.kids.length cb, .bool a.async] 45)).alloc (.cells #[.slice Rb b.params.length nb, .int .i64 b.res.kind, .string b.res.name, .slice A' b.res.labels.length ca', .slice B' b.res.kids.length cb', .bool b.async] 45)).alloc (.cells #[.int .i64 0, .string ⟨#[]⟩] 34)).cell? ⟨w.heap.size, 0, none⟩ = some (.slice Ra a.params.length na) := by go_simp
    have ka1 : (((w.alloc (.cells #[.slice Ra a.params.length na, .int .i64 a.res.kind, .string a.res.name, .slice A a.res.labels.length ca, .slice B a.res.kids.length cb, .bool a.async] 45)).alloc (.cells #[.slice Rb b.params.length nb, .int .i64 b.res.kind, .string b.res.name, .slice A' b.res.labels.length ca', .slice B' b.res.kids.length cb', .bool b.async] 45)).alloc (.cells #[.int .i64 0, .string ⟨#[]⟩] 34)).cell? ⟨w.heap.size, 1, none⟩ = some (.int .i64 a.res.kind) := by go_simp
    have ka2 : (((w.alloc (.cells #[.slice Ra a.params.length na, .int .i64 a.res.kind, .string a.res.name, .slice A a.res.labels.length ca, .slice B a.res.kids.length cb, .bool a.async] 45)).alloc (.cells #[.slice Rb b.params.length nb, .int .i64 b.res.kind, .string b.res.name, .slice A' b.res.labels.length ca', .slice B' b.res.kids.length cb', .bool b.async] 45)).alloc (.cells #[.int .i64 0, .string ⟨#[]⟩] 34)).cell? ⟨w.heap.size, 2, none⟩ = some (.string a.res.name) := by go_simp
    have ka3 : (((w.alloc (.cells #[.slice Ra a.params.length na, .int .i64 a.res.kind, .string a.res.name, .slice A a.res.labels.length ca, .slice B a.res.kids.length cb, .bool a.async] 45)).alloc (.cells #[.slice Rb b.params.length nb, .int .i64 b.res.kind, .string b.res.name, .slice A' b.res.labels.length ca', .slice B' b.res.kids.length cb', .bool b.async] 45)).alloc (.cells #[.int .i64 0, .string ⟨#[]⟩] 34)).cell? ⟨w.heap.size, 3, none⟩ = some (.slice A a.res.labels.length ca) := by go_simp
    have ka4 : (((w.alloc (.cells #[.slice Ra a.params.length na, .int .i64 a.res.kind, .string a.res.name, .slice A a.res.labels.length ca, .slice B a.res.kids.length cb, .bool a.async] 45)).alloc (.cells #[.slice Rb b.params.length nb, .int .i64 b.res.kind, .string b.res.name, .slice A' b.res.labels.length ca', .slice B' b.res.kids.length cb', .bool b.async] 45)).alloc (.cells #[.int .i64 0, .string ⟨#[]⟩] 34)).cell? ⟨w.heap.size, 4, none⟩ = some (.slice B a.res.kids.length cb) := by go_simp
    have ka5 : (((w.alloc (.cells #[.slice Ra a.params.length na, .int .i64 a.res.kind, .string a.res.name, .slice A a.res.labels.length ca, .slice B a.res.kids.length cb, .bool a.async] 45)).alloc (.cells #[.slice Rb b.params.length nb, .int .i64 b.res.kind, .string b.res.name, .slice A' b.res.labels.length ca', .slice B' b.res.kids.length cb', .bool b.async] 45)).alloc (.cells #[.int .i64 0, .string ⟨#[]⟩] 34)).cell? ⟨w.heap.size, 5, none⟩ = some (.bool a.async) := by go_simp
    have kb0 : (((w.alloc (.cells #[.slice Ra a.params.length na, .int .i64 a.res.kind, .string a.res.name, .slice A a.res.labels.length ca, .slice B a.res.kids.length cb, .bool a.async] 45)).alloc (.cells #[.slice Rb b.params.length nb, .int .i64 b.res.kind, .string b.res.name, .slice A' b.res.labels.length ca', .slice B' b.res.kids.length cb', .bool b.async] 45)).alloc (.cells #[.int .i64 0, .string ⟨#[]⟩] 34)).cell? ⟨w.heap.size + 1, 0, none⟩ = some (.slice Rb b.params.length nb) := by go_simp
    have kb1 : (((w.alloc (.cells #[.slice Ra a.params.length na, .int .i64 a.res.kind, .string a.res.name, .slice A a.res.labels.length ca, .slice B a.res.kids.length cb, .bool a.async] 45)).alloc (.cells #[.slice Rb b.params.length nb, .int .i64 b.res.kind, .string b.res.name, .slice A' b.res.labels.length ca', .slice B' b.res.kids.length cb', .bool b.async] 45)).alloc (.cells #[.int .i64 0, .string ⟨#[]⟩] 34)).cell? ⟨w.heap.size + 1, 1, none⟩ = some (.int .i64 b.res.kind) := by go_simp
    have kb2 : (((w.alloc (.cells #[.slice Ra a.params.length na, .int .i64 a.res.kind, .string a.res.name, .slice A a.res.labels.length ca, .slice B a.res.kids.length cb, .bool a.async] 45)).alloc (.cells #[.slice Rb b.params.length nb, .int .i64 b.res.kind, .string b.res.name, .slice A' b.res.labels.length ca', .slice B' b.res.kids.length cb', .bool b.async] 45)).alloc (.cells #[.int .i64 0, .string ⟨#[]⟩] 34)).cell? ⟨w.heap.size + 1, 2, none⟩ = some (.string b.res.name) := by go_simp
    have kb3 : (((w.alloc (.cells #[.slice Ra a.params.length na, .int .i64 a.res.kind, .string a.res.name, .slice A a.res.labels.length ca, .slice B a.res.kids.length cb, .bool a.async] 45)).alloc (.cells #[.slice Rb b.params.length nb, .int .i64 b.res.kind, .string b.res.name, .slice A' b.res.labels.length ca', .slice B' b.res.kids.length cb', .bool b.async] 45)).alloc (.cells #[.int .i64 0, .string ⟨#[]⟩] 34)).cell? ⟨w.heap.size + 1, 3, none⟩ = some (.slice A' b.res.labels.length ca') := by go_simp
    have kb4 : (((w.alloc (.cells #[.slice Ra a.params.length na, .int .i64 a.res.kind, .string a.res.name, .slice A a.res.labels.length ca, .slice B a.res.kids.length cb, .bool a.async] 45)).alloc (.cells #[.slice Rb b.params.length nb, .int .i64 b.res.kind, .string b.res.name, .slice A' b.res.labels.length ca', .slice B' b.res.kids.length cb', .bool b.async] 45)).alloc (.cells #[.int .i64 0, .string ⟨#[]⟩] 34)).cell? ⟨w.heap.size + 1, 4, none⟩ = some (.slice B' b.res.kids.length cb') := by go_simp
    have kb5 : (((w.alloc (.cells #[.slice Ra a.params.length na, .int .i64 a.res.kind, .string a.res.name, .slice A a.res.labels.length ca, .slice B a.res.kids.length cb, .bool a.async] 45)).alloc (.cells #[.slice Rb b.params.length nb, .int .i64 b.res.kind, .string b.res.name, .slice A' b.res.labels.length ca', .slice B' b.res.kids.length cb', .bool b.async] 45)).alloc (.cells #[.int .i64 0, .string ⟨#[]⟩] 34)).cell? ⟨w.heap.size + 1, 5, none⟩ = some (.bool b.async) := by go_simp
    have r0 : (((w.alloc (.cells #[.slice Ra a.params.length na, .int .i64 a.res.kind, .string a.res.name, .slice A a.res.labels.length ca, .slice B a.res.kids.length cb, .bool a.async] 45)).alloc (.cells #[.slice Rb b.params.length nb, .int .i64 b.res.kind, .string b.res.name, .slice A' b.res.labels.length ca', .slice B' b.res.kids.length cb', .bool b.async] 45)).alloc (.cells #[.int .i64 0, .string ⟨#[]⟩] 34)).cell? ⟨w.heap.size + 1 + 1, 0, none⟩ = some (.int .i64 0) := by go_simp
    have r1 : (((w.alloc (.cells #[.slice Ra a.params.length na, .int .i64 a.res.kind, .string a.res.name, .slice A a.res.labels.length ca, .slice B a.res.kids.length cb, .bool a.async] 45)).alloc (.cells #[.slice Rb b.params.length nb, .int .i64 b.res.kind, .string b.res.name, .slice A' b.res.labels.length ca', .slice B' b.res.kids.length cb', .bool b.async] 45)).alloc (.cells #[.int .i64 0, .string ⟨#[]⟩] 34)).cell? ⟨w.heap.size + 1 + 1, 1, none⟩ = some (.string ⟨#[]⟩) := by go_simp
    have BR := Lib.hid (blk_n2 w (.cells #[.slice Ra a.params.length na, .int .i64 a.res.kind, .string a.res.name, .slice A a.res.labels.length ca, .slice B a.res.kids.length cb, .bool a.async] 45) (.cells #[.slice Rb b.params.length nb, .int .i64 b.res.kind, .string b.res.name, .slice A' b.res.labels.length ca', .slice B' b.res.kids.length cb', .bool b.async] 45) #[.int .i64 0, .string ⟨#[]⟩] 34)
    have HW3 := Lib.hid (below3 w (.cells #[.slice Ra a.params.length na, .int .i64 a.res.kind, .string a.res.name, .slice A a.res.labels.length ca, .slice B a.res.kids.length cb, .bool a.async] 45) (.cells #[.slice Rb b.params.length nb, .int .i64 b.res.kind, .string b.res.name, .slice A' b.res.labels.length ca', .slice B' b.res.kids.length cb', .bool b.async] 45) (.cells #[.int .i64 0, .string ⟨#[]⟩] 34))
    have hz3 : (((w.alloc (.cells #[.slice Ra a.params.length na, .int .i64 a.res.kind, .string a.res.name, .slice A a.res.labels.length ca, .slice B a.res.kids.length cb, .bool a.async] 45)).alloc (.cells #[.slice Rb b.params.length nb, .int .i64 b.res.kind, .string b.res.name, .slice A' b.res.labels.length ca', .slice B' b.res.kids.length cb', .bool b.async] 45)).alloc (.cells #[.int .i64 0, .string ⟨#[]⟩] 34)).heap.size = w.heap.size + 3 := by simp
    go_enter Tryz.func20, Tryz.ntmps20
    go_wp2_with fail
    generalize (((w.alloc (.cells #[.slice Ra a.params.length na, .int .i64 a.res.kind, .string a.res.name, .slice A a.res.labels.length ca, .slice B a.res.kids.length cb, .bool a.async] 45)).alloc (.cells #[.slice Rb b.params.length nb, .int .i64 b.res.kind, .string b.res.name, .slice A' b.res.labels.length ca', .slice B' b.res.kids.length cb', .bool b.async] 45)).alloc (.cells #[.int .i64 0, .string ⟨#[]⟩] 34)) = W at *
    go_at_call 34
    refine (CA.out _ (HPA.out.below HW3.out)).mono ?_
    rintro e w2 ⟨rfl, hb2⟩
    replace ka0 := keepCell hb2 ka0
    replace ka1 := keepCell hb2 ka1
    replace ka2 := keepCell hb2 ka2
    replace ka3 := keepCell hb2 ka3
    replace ka4 := keepCell hb2 ka4
    replace ka5 := keepCell hb2 ka5
    replace kb0 := keepCell hb2 kb0
    replace kb1 := keepCell hb2 kb1
    replace kb2 := keepCell hb2 kb2
    replace kb3 := keepCell hb2 kb3
    replace kb4 := keepCell hb2 kb4
    replace kb5 := keepCell hb2 kb5
    replace r0 := keepCell hb2 r0
    replace r1 := keepCell hb2 r1
    have HB2 := Lib.hid (bnext HW3.out hb2)
    have HBW := Lib.hid hb2
    clear hb2
    have f1 := fun o => (BR.out.below HBW.out).free o
    go_wp2_with fail
    have st := setTwo (v0 := .int .i64 0) (v1 := .string ⟨#[]⟩) r0 r1
    have s0 := st.1
    have s1 := st.2
    clear st
    exact bodyPost_ret (v := .tuple #[.agg #[.int .i64 0, .string ⟨#[]⟩], .bool false]) (by simp [results, Tryz.results20, go_sem, s0, s1]) rfl ⟨rfl, (HB2.out.setCell (by simp; omega) _).setCell (by simp; omega) _⟩
end Go.Proofs.YtifchfecfkdjlaaGreatDoor
