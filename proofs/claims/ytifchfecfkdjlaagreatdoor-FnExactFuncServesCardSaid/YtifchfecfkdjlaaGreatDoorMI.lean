/-
  WfQ, WfR, WfV: in one text.
-/
import Derived.Test.YtifchfecfkdjlaaGreatDoorWfS
import Derived.Deep.RegionHeld3
namespace Go.Proofs.YtifchfecfkdjlaaGreatDoor
open Go.ChangeShapes Go.WideShapes Go.ChangeAt Go.RowKit Go.Deep

def pmWhy0 (p q : Pm) : Option (Int × ByteArray) := if p.name = q.name then Ty.why 4 q.ty p.ty else some (7, ⟨#[]⟩)

set_option maxHeartbeats 1000000 in
set_option maxRecDepth 100000 in
theorem paramReason_any (H4 : TyR 4) (p q : Pm) (gp : Gd 4 p.ty) (gq : Gd 4 q.ty) (A B A' B' : Option Addr) (ca cb ca' cb' : Nat) (w : World) (hp : Ty.Pl w 0 p.ty A B) (hq : Ty.Pl w 0 q.ty A' B') (hr : RTable w) :
    Calls Tryz.prog 59 #[.agg #[.string p.name, .int .i64 p.ty.kind, .string p.ty.name, .slice A p.ty.labels.length ca, .slice B p.ty.kids.length cb], .agg #[.string q.name, .int .i64 q.ty.kind, .string q.ty.name, .slice A' q.ty.labels.length ca', .slice B' q.ty.kids.length cb']] w (RsnPost (pmWhy0 p q) w) := by
  have HP := Lib.hid hp
  have HQ := Lib.hid hq
  have HR := Lib.hid hr
  have C := Lib.hid (fun W h1 h2 h3 => H4 q.ty p.ty gq gp A' B' A B ca' cb' ca cb W h1 h2 h3)
  clear hp hq hr H4 gp gq
  have ka0 : ((w.alloc (.cells #[.string p.name, .int .i64 p.ty.kind, .string p.ty.name, .slice A p.ty.labels.length ca, .slice B p.ty.kids.length cb] 79)).alloc (.cells #[.string q.name, .int .i64 q.ty.kind, .string q.ty.name, .slice A' q.ty.labels.length ca', .slice B' q.ty.kids.length cb'] 79)).cell? ⟨w.heap.size, 0, none⟩ = some (.string p.name) := by go_simp
  have ka1 : ((w.alloc (.cells #[.string p.name, .int .i64 p.ty.kind, .string p.ty.name, .slice A p.ty.labels.length ca, .slice B p.ty.kids.length cb] 79)).alloc (.cells #[.string q.name, .int .i64 q.ty.kind, .string q.ty.name, .slice A' q.ty.labels.length ca', .slice B' q.ty.kids.length cb'] 79)).cell? ⟨w.heap.size, 1, none⟩ = some (.int .i64 p.ty.kind) := by go_simp
  have ka2 : ((w.alloc (.cells #[.string p.name, .int .i64 p.ty.kind, .string p.ty.name, .slice A p.ty.labels.length ca, .slice B p.ty.kids.length cb] 79)).alloc (.cells #[.string q.name, .int .i64 q.ty.kind, .string q.ty.name, .slice A' q.ty.labels.length ca', .slice B' q.ty.kids.length cb'] 79)).cell? ⟨w.heap.size, 2, none⟩ = some (.string p.ty.name) := by go_simp
  have ka3 : ((w.alloc (.cells #[.string p.name, .int .i64 p.ty.kind, .string p.ty.name, .slice A p.ty.labels.length ca, .slice B p.ty.kids.length cb] 79)).alloc (.cells #[.string q.name, .int .i64 q.ty.kind, .string q.ty.name, .slice A' q.ty.labels.length ca', .slice B' q.ty.kids.length cb'] 79)).cell? ⟨w.heap.size, 3, none⟩ = some (.slice A p.ty.labels.length ca) := by go_simp
  have ka4 : ((w.alloc (.cells #[.string p.name, .int .i64 p.ty.kind, .string p.ty.name, .slice A p.ty.labels.length ca, .slice B p.ty.kids.length cb] 79)).alloc (.cells #[.string q.name, .int .i64 q.ty.kind, .string q.ty.name, .slice A' q.ty.labels.length ca', .slice B' q.ty.kids.length cb'] 79)).cell? ⟨w.heap.size, 4, none⟩ = some (.slice B p.ty.kids.length cb) := by go_simp
  have kb0 : ((w.alloc (.cells #[.string p.name, .int .i64 p.ty.kind, .string p.ty.name, .slice A p.ty.labels.length ca, .slice B p.ty.kids.length cb] 79)).alloc (.cells #[.string q.name, .int .i64 q.ty.kind, .string q.ty.name, .slice A' q.ty.labels.length ca', .slice B' q.ty.kids.length cb'] 79)).cell? ⟨w.heap.size + 1, 0, none⟩ = some (.string q.name) := by go_simp
  have kb1 : ((w.alloc (.cells #[.string p.name, .int .i64 p.ty.kind, .string p.ty.name, .slice A p.ty.labels.length ca, .slice B p.ty.kids.length cb] 79)).alloc (.cells #[.string q.name, .int .i64 q.ty.kind, .string q.ty.name, .slice A' q.ty.labels.length ca', .slice B' q.ty.kids.length cb'] 79)).cell? ⟨w.heap.size + 1, 1, none⟩ = some (.int .i64 q.ty.kind) := by go_simp
  have kb2 : ((w.alloc (.cells #[.string p.name, .int .i64 p.ty.kind, .string p.ty.name, .slice A p.ty.labels.length ca, .slice B p.ty.kids.length cb] 79)).alloc (.cells #[.string q.name, .int .i64 q.ty.kind, .string q.ty.name, .slice A' q.ty.labels.length ca', .slice B' q.ty.kids.length cb'] 79)).cell? ⟨w.heap.size + 1, 2, none⟩ = some (.string q.ty.name) := by go_simp
  have kb3 : ((w.alloc (.cells #[.string p.name, .int .i64 p.ty.kind, .string p.ty.name, .slice A p.ty.labels.length ca, .slice B p.ty.kids.length cb] 79)).alloc (.cells #[.string q.name, .int .i64 q.ty.kind, .string q.ty.name, .slice A' q.ty.labels.length ca', .slice B' q.ty.kids.length cb'] 79)).cell? ⟨w.heap.size + 1, 3, none⟩ = some (.slice A' q.ty.labels.length ca') := by go_simp
  have kb4 : ((w.alloc (.cells #[.string p.name, .int .i64 p.ty.kind, .string p.ty.name, .slice A p.ty.labels.length ca, .slice B p.ty.kids.length cb] 79)).alloc (.cells #[.string q.name, .int .i64 q.ty.kind, .string q.ty.name, .slice A' q.ty.labels.length ca', .slice B' q.ty.kids.length cb'] 79)).cell? ⟨w.heap.size + 1, 4, none⟩ = some (.slice B' q.ty.kids.length cb') := by go_simp
  have HW := Lib.hid (below2 w (.cells #[.string p.name, .int .i64 p.ty.kind, .string p.ty.name, .slice A p.ty.labels.length ca, .slice B p.ty.kids.length cb] 79) (.cells #[.string q.name, .int .i64 q.ty.kind, .string q.ty.name, .slice A' q.ty.labels.length ca', .slice B' q.ty.kids.length cb'] 79))
  by_cases hn : p.name = q.name
  · rw [pmWhy0, if_pos hn]
    rw [hn] at ka0
    go_enter Tryz.func59, Tryz.ntmps59
    go_wp2_with fail
    go_at_call 32
    refine (C.out _ (HQ.out.on (below3 _ _ _ _)) (HP.out.on (below3 _ _ _ _)) (HR.out.keep (below3 _ _ _ _))).mono ?_
    rintro e w2 ⟨rfl, hb2⟩
    have r0 := keepCell (a := ⟨w.heap.size + 1 + 1, 0, none⟩) (v := .int .i64 0) hb2 (by go_simp)
    have r1 := keepCell (a := ⟨w.heap.size + 1 + 1, 1, none⟩) (v := .string ⟨#[]⟩) hb2 (by go_simp)
    have br : Blk w2 (w.heap.size + 1 + 1) := Blk.below (blk_n2 _ _ _ _ _) hb2
    have f1 := fun o => br.free o
    have HB2 := Lib.hid (bnext (below3 _ _ _ _) hb2)
    clear hb2
    generalize Ty.why 4 q.ty p.ty = Q at *
    go_wp2_with fail
    have st := setTwo (v0 := .int .i64 (rk Q)) (v1 := .string (ra Q)) r0 r1
    have s0 := st.1
    have s1 := st.2
    clear st
    exact bodyPost_ret (v := .agg #[.int .i64 (rk Q), .string (ra Q)]) (by simp [results, Tryz.results59, go_sem, s0, s1]) rfl ⟨rfl, (HB2.out.setCell (by simp; omega) _).setCell (by simp; omega) _⟩
  · rw [pmWhy0, if_neg hn]
    have hnl := text_ne hn
    go_enter Tryz.func59, Tryz.ntmps59
    go_wp2_with fail
    exact bodyPost_ret (v := .agg #[.int .i64 7, .string ⟨#[]⟩]) (by simp [results, Tryz.results59, go_sem]) rfl ⟨rfl, below3 _ _ _ _⟩
end Go.Proofs.YtifchfecfkdjlaaGreatDoor

namespace Go.Proofs.YtifchfecfkdjlaaGreatDoor
open Go.ChangeShapes Go.WideShapes Go.ChangeAt Go.RowKit Go.Deep

set_option maxHeartbeats 2000000 in
set_option maxRecDepth 100000 in
theorem funcReason_len (a b : Fn) (hl : a.params.length ≠ b.params.length) (Ra Rb A B A' B' : Option Addr) (na nb ca cb ca' cb' : Nat) (w : World) :
    Calls Tryz.prog 39 #[.agg #[.slice Ra a.params.length na, .int .i64 a.res.kind, .string a.res.name, .slice A a.res.labels.length ca, .slice B a.res.kids.length cb, .bool a.async], .agg #[.slice Rb b.params.length nb, .int .i64 b.res.kind, .string b.res.name, .slice A' b.res.labels.length ca', .slice B' b.res.kids.length cb', .bool b.async]] w (RsnPost (Fn.why a b) w) := by
  have hli : ¬ (a.params.length : Int) = (b.params.length : Int) := by omega
  rw [Fn.why, if_neg hl]
  go_enter Tryz.func39, Tryz.ntmps39
  go_wp2_with fail
  exact bodyPost_ret (v := .agg #[.int .i64 7, .string ⟨#[]⟩]) (by simp [results, Tryz.results39, go_sem]) rfl ⟨rfl, below3 _ _ _ _⟩
end Go.Proofs.YtifchfecfkdjlaaGreatDoor

namespace Go.Proofs.YtifchfecfkdjlaaGreatDoor
open Go.ChangeShapes Go.WideShapes Go.ChangeAt Go.RowKit Go.Deep

theorem pmWhy_pre (p q : Pm) : pmWhy p q = preR (sPar q.name) (pmWhy0 p q) := by
  unfold pmWhy pmWhy0
  by_cases h : p.name = q.name
  · rw [if_pos h, if_pos h]
  · rw [if_neg h, if_neg h]
    show some ((7 : Int), sPar q.name) = some (7, sPar q.name ++ (⟨#[]⟩ : ByteArray))
    rw [app_nil]
theorem pmWhy0_ok {p q : Pm} (gp : Gd 4 p.ty) (gq : Gd 4 q.ty) : RsnOk 100000000 (pmWhy0 p q) := by
  unfold pmWhy0
  by_cases h : p.name = q.name
  · rw [if_pos h]
    exact (Ty.why_small (by omega) gq gp).mono (by omega)
  · rw [if_neg h]
    exact RsnOk.lit (by omega) (by decide)

set_option maxHeartbeats 8000000 in
set_option maxRecDepth 100000 in
theorem funcReason_yes (H4 : TyR 4) (a b : Fn) (ga : FnG a) (gb : FnG b) (hl : a.params.length = b.params.length) (Ra Rb A B A' B' : Option Addr) (na nb ca cb ca' cb' lo lo' : Nat) (hlo : 0 < lo) (hlo' : 0 < lo') (w : World) (hat : Fn.At w lo a Ra A B) (hbt : Fn.At w lo' b Rb A' B') (hr : RTable w) :
    Calls Tryz.prog 39 #[.agg #[.slice Ra a.params.length na, .int .i64 a.res.kind, .string a.res.name, .slice A a.res.labels.length ca, .slice B a.res.kids.length cb, .bool a.async], .agg #[.slice Rb b.params.length nb, .int .i64 b.res.kind, .string b.res.name, .slice A' b.res.labels.length ca', .slice B' b.res.kids.length cb', .bool b.async]] w (RsnPost (Fn.why a b) w) := by
  obtain ⟨la, hna⟩ := Fn.name_le ga.1
  obtain ⟨lb, hnb⟩ := Fn.name_le gb.1
  obtain ⟨R, hR⟩ : ∃ R, Fn.why a b = R := ⟨_, rfl⟩
  rw [hR]
  have HPA := Lib.hid hat.1
  have HPB := Lib.hid hbt.1
  have HRA := Lib.hid (hat.2.pl hlo)
  have HRB := Lib.hid (hbt.2.pl hlo')
  have HT := Lib.hid hr
  have HLO := Lib.hid hlo
  have HLO' := Lib.hid hlo'
  have CR := Lib.hid (fun W h1 h2 h3 => H4 a.res b.res ga.2.1 gb.2.1 A B A' B' ca cb ca' cb' W h1 h2 h3)
  have CP : Hid (∀ (j : Nat) (p q : Pm), a.params[j]? = some p → b.params[j]? = some q → ∀ (A B A' B' : Option Addr) (ca cb ca' cb' : Nat) (W : World), Ty.Pl W 0 p.ty A B → Ty.Pl W 0 q.ty A' B' → RTable W → Calls Tryz.prog 59 #[.agg #[.string p.name, .int .i64 p.ty.kind, .string p.ty.name, .slice A p.ty.labels.length ca, .slice B p.ty.kids.length cb], .agg #[.string q.name, .int .i64 q.ty.kind, .string q.ty.name, .slice A' q.ty.labels.length ca', .slice B' q.ty.kids.length cb']] W (RsnPost (pmWhy0 p q) W)) := Lib.hid (fun j p q hp hq A B A' B' ca cb ca' cb' W h1 h2 h3 => paramReason_any H4 p q (ga.2.2 p (List.mem_of_getElem? hp)) (gb.2.2 q (List.mem_of_getElem? hq)) A B A' B' ca cb ca' cb' W h1 h2 h3)
  have CV : Hid (∀ (j : Nat) (p q : Pm), a.params[j]? = some p → b.params[j]? = some q → ∀ W : World, Calls Tryz.prog 60 #[.agg #[.int .i64 (rk (pmWhy0 p q)), .string (ra (pmWhy0 p q))], .string ((⟨#[40]⟩ : ByteArray) ++ q.name ++ ⟨#[41]⟩)] W (RsnPost (pmWhy p q) W)) := Lib.hid (fun j p q hp hq W => by
    have h1 := hnb j q hq
    rw [pmWhy_pre]
    refine under_any _ (pmWhy0_ok (ga.2.2 p (List.mem_of_getElem? hp)) (gb.2.2 q (List.mem_of_getElem? hq))) (sPar q.name) ?_ W
    unfold sPar
    rw [ByteArray.size_append, ByteArray.size_append]
    show 1 + q.name.size + 1 ≤ 100000000
    omega)
  have CW : Hid (∀ W : World, Calls Tryz.prog 60 #[.agg #[.int .i64 (rk (Ty.why 4 a.res b.res)), .string (ra (Ty.why 4 a.res b.res))], .string sArr] W (RsnPost (preR sArr (Ty.why 4 a.res b.res)) W)) := Lib.hid (fun W => under_any _ ((Ty.why_small (by omega) ga.2.1 gb.2.1).mono (by omega)) sArr (by decide) W)
  have KOK : Hid (∀ (j : Nat) (p q : Pm), a.params[j]? = some p → b.params[j]? = some q → ∀ (k : Int) (s : ByteArray), pmWhy p q = some (k, s) → 1 ≤ k) := Lib.hid (fun j p q hp hq k s h => by
    rw [pmWhy_pre] at h
    exact (((pmWhy0_ok (ga.2.2 p (List.mem_of_getElem? hp)) (gb.2.2 q (List.mem_of_getElem? hq))).pre (Nat.le_refl _)) k s h).1.1)
  have YOK : Hid (∀ (k : Int) (s : ByteArray), Ty.why 4 a.res b.res = some (k, s) → 1 ≤ k) := Lib.hid (fun k s h => ((Ty.why_small (by omega) ga.2.1 gb.2.1) k s h).1.1)
  clear hat hbt hr hlo hlo'
  have HW : Hid (R = orR (pmsWhy (a.params.drop 0) (b.params.drop 0)) (a.whyR b)) := Lib.hid (by rw [← hR, Fn.why, if_pos hl, List.drop_zero, List.drop_zero])
  obtain ⟨n, hla⟩ : ∃ n, a.params.length = n := ⟨_, rfl⟩
  have hlb : b.params.length = n := by omega
  have HLA := Lib.hid hla
  have HLB := Lib.hid hlb
  rw [hla, hlb]
  rw [hla] at la
  have HNB := Lib.hid hnb
  clear hR ga gb H4 hna hnb hl hla hlb lb
  have ka0 : (((w.alloc (.cells #[.slice Ra n na, .int .i64 a.res.kind, .string a.res.name, .slice A a.res.labels.length ca, .slice B a.res.kids.length cb, .bool a.async] 45)).alloc (.cells #[.slice Rb n nb, .int .i64 b.res.kind, .string b.res.name, .slice A' b.res.labels.length ca', .slice B' b.res.kids.length cb', .bool b.async] 45)).alloc (.cells #[.int .i64 0, .string ⟨#[]⟩] 34)).cell? ⟨w.heap.size, 0, none⟩ = some (.slice Ra n na) := by go_simp
  have ka1 : (((w.alloc (.cells #[.slice Ra n na, .int .i64 a.res.kind, .string a.res.name, .slice A a.res.labels.length ca, .slice B a.res.kids.length cb, .bool a.async] 45)).alloc (.cells #[.slice Rb n nb, .int .i64 b.res.kind, .string b.res.name, .slice A' b.res.labels.length ca', .slice B' b.res.kids.length cb', .bool b.async] 45)).alloc (.cells #[.int .i64 0, .string ⟨#[]⟩] 34)).cell? ⟨w.heap.size, 1, none⟩ = some (.int .i64 a.res.kind) := by go_simp
  have ka2 : (((w.alloc (.cells #[.slice Ra n na, .int .i64 a.res.kind, .string a.res.name, .slice A a.res.labels.length ca, .slice B a.res.kids.length cb, .bool a.async] 45)).alloc (.cells #[.slice Rb n nb, .int .i64 b.res.kind, .string b.res.name, .slice A' b.res.labels.length ca', .slice B' b.res.kids.length cb', .bool b.async] 45)).alloc (.cells #[.int .i64 0, .string ⟨#[]⟩] 34)).cell? ⟨w.heap.size, 2, none⟩ = some (.string a.res.name) := by go_simp
  have ka3 : (((w.alloc (.cells #[.slice Ra n na, .int .i64 a.res.kind, .string a.res.name, .slice A a.res.labels.length ca, .slice B a.res.kids.length cb, .bool a.async] 45)).alloc (.cells #[.slice Rb n nb, .int .i64 b.res.kind, .string b.res.name, .slice A' b.res.labels.length ca', .slice B' b.res.kids.length cb', .bool b.async] 45)).alloc (.cells #[.int .i64 0, .string ⟨#[]⟩] 34)).cell? ⟨w.heap.size, 3, none⟩ = some (.slice A a.res.labels.length ca) := by go_simp
  have ka4 : (((w.alloc (.cells #[.slice Ra n na, .int .i64 a.res.kind, .string a.res.name, .slice A a.res.labels.length ca, .slice B a.res.kids.length cb, .bool a.async] 45)).alloc (.cells #[.slice Rb n nb, .int .i64 b.res.kind, .string b.res.name, .slice A' b.res.labels.length ca', .slice B' b.res.kids.length cb', .bool b.async] 45)).alloc (.cells #[.int .i64 0, .string ⟨#[]⟩] 34)).cell? ⟨w.heap.size, 4, none⟩ = some (.slice B a.res.kids.length cb) := by go_simp
  have ka5 : (((w.alloc (.cells #[.slice Ra n na, .int .i64 a.res.kind, .string a.res.name, .slice A a.res.labels.length ca, .slice B a.res.kids.length cb, .bool a.async] 45)).alloc (.cells #[.slice Rb n nb, .int .i64 b.res.kind, .string b.res.name, .slice A' b.res.labels.length ca', .slice B' b.res.kids.length cb', .bool b.async] 45)).alloc (.cells #[.int .i64 0, .string ⟨#[]⟩] 34)).cell? ⟨w.heap.size, 5, none⟩ = some (.bool a.async) := by go_simp
  have kb0 : (((w.alloc (.cells #[.slice Ra n na, .int .i64 a.res.kind, .string a.res.name, .slice A a.res.labels.length ca, .slice B a.res.kids.length cb, .bool a.async] 45)).alloc (.cells #[.slice Rb n nb, .int .i64 b.res.kind, .string b.res.name, .slice A' b.res.labels.length ca', .slice B' b.res.kids.length cb', .bool b.async] 45)).alloc (.cells #[.int .i64 0, .string ⟨#[]⟩] 34)).cell? ⟨w.heap.size + 1, 0, none⟩ = some (.slice Rb n nb) := by go_simp
  have kb1 : (((w.alloc (.cells #[.slice Ra n na, .int .i64 a.res.kind, .string a.res.name, .slice A a.res.labels.length ca, .slice B a.res.kids.length cb, .bool a.async] 45)).alloc (.cells #[.slice Rb n nb, .int .i64 b.res.kind, .string b.res.name, .slice A' b.res.labels.length ca', .slice B' b.res.kids.length cb', .bool b.async] 45)).alloc (.cells #[.int .i64 0, .string ⟨#[]⟩] 34)).cell? ⟨w.heap.size + 1, 1, none⟩ = some (.int .i64 b.res.kind) := by go_simp
  have kb2 : (((w.alloc (.cells #[.slice Ra n na, .int .i64 a.res.kind, .string a.res.name, .slice A a.res.labels.length ca, .slice B a.res.kids.length cb, .bool a.async] 45)).alloc (.cells #[.slice Rb n nb, .int .i64 b.res.kind, .string b.res.name, .slice A' b.res.labels.length ca', .slice B' b.res.kids.length cb', .bool b.async] 45)).alloc (.cells #[.int .i64 0, .string ⟨#[]⟩] 34)).cell? ⟨w.heap.size + 1, 2, none⟩ = some (.string b.res.name) := by go_simp
  have kb3 : (((w.alloc (.cells #[.slice Ra n na, .int .i64 a.res.kind, .string a.res.name, .slice A a.res.labels.length ca, .slice B a.res.kids.length cb, .bool a.async] 45)).alloc (.cells #[.slice Rb n nb, .int .i64 b.res.kind, .string b.res.name, .slice A' b.res.labels.length ca', .slice B' b.res.kids.length cb', .bool b.async] 45)).alloc (.cells #[.int .i64 0, .string ⟨#[]⟩] 34)).cell? ⟨w.heap.size + 1, 3, none⟩ = some (.slice A' b.res.labels.length ca') := by go_simp
  have kb4 : (((w.alloc (.cells #[.slice Ra n na, .int .i64 a.res.kind, .string a.res.name, .slice A a.res.labels.length ca, .slice B a.res.kids.length cb, .bool a.async] 45)).alloc (.cells #[.slice Rb n nb, .int .i64 b.res.kind, .string b.res.name, .slice A' b.res.labels.length ca', .slice B' b.res.kids.length cb', .bool b.async] 45)).alloc (.cells #[.int .i64 0, .string ⟨#[]⟩] 34)).cell? ⟨w.heap.size + 1, 4, none⟩ = some (.slice B' b.res.kids.length cb') := by go_simp
  have kb5 : (((w.alloc (.cells #[.slice Ra n na, .int .i64 a.res.kind, .string a.res.name, .slice A a.res.labels.length ca, .slice B a.res.kids.length cb, .bool a.async] 45)).alloc (.cells #[.slice Rb n nb, .int .i64 b.res.kind, .string b.res.name, .slice A' b.res.labels.length ca', .slice B' b.res.kids.length cb', .bool b.async] 45)).alloc (.cells #[.int .i64 0, .string ⟨#[]⟩] 34)).cell? ⟨w.heap.size + 1, 5, none⟩ = some (.bool b.async) := by go_simp
  have r0 : (((w.alloc (.cells #[.slice Ra n na, .int .i64 a.res.kind, .string a.res.name, .slice A a.res.labels.length ca, .slice B a.res.kids.length cb, .bool a.async] 45)).alloc (.cells #[.slice Rb n nb, .int .i64 b.res.kind, .string b.res.name, .slice A' b.res.labels.length ca', .slice B' b.res.kids.length cb', .bool b.async] 45)).alloc (.cells #[.int .i64 0, .string ⟨#[]⟩] 34)).cell? ⟨w.heap.size + 1 + 1, 0, none⟩ = some (.int .i64 0) := by go_simp
  have r1 : (((w.alloc (.cells #[.slice Ra n na, .int .i64 a.res.kind, .string a.res.name, .slice A a.res.labels.length ca, .slice B a.res.kids.length cb, .bool a.async] 45)).alloc (.cells #[.slice Rb n nb, .int .i64 b.res.kind, .string b.res.name, .slice A' b.res.labels.length ca', .slice B' b.res.kids.length cb', .bool b.async] 45)).alloc (.cells #[.int .i64 0, .string ⟨#[]⟩] 34)).cell? ⟨w.heap.size + 1 + 1, 1, none⟩ = some (.string ⟨#[]⟩) := by go_simp
  have BR := Lib.hid (blk_n2 w (.cells #[.slice Ra n na, .int .i64 a.res.kind, .string a.res.name, .slice A a.res.labels.length ca, .slice B a.res.kids.length cb, .bool a.async] 45) (.cells #[.slice Rb n nb, .int .i64 b.res.kind, .string b.res.name, .slice A' b.res.labels.length ca', .slice B' b.res.kids.length cb', .bool b.async] 45) #[.int .i64 0, .string ⟨#[]⟩] 34)
  have HW3 := Lib.hid (below3 w (.cells #[.slice Ra n na, .int .i64 a.res.kind, .string a.res.name, .slice A a.res.labels.length ca, .slice B a.res.kids.length cb, .bool a.async] 45) (.cells #[.slice Rb n nb, .int .i64 b.res.kind, .string b.res.name, .slice A' b.res.labels.length ca', .slice B' b.res.kids.length cb', .bool b.async] 45) (.cells #[.int .i64 0, .string ⟨#[]⟩] 34))
  have hz3 : (((w.alloc (.cells #[.slice Ra n na, .int .i64 a.res.kind, .string a.res.name, .slice A a.res.labels.length ca, .slice B a.res.kids.length cb, .bool a.async] 45)).alloc (.cells #[.slice Rb n nb, .int .i64 b.res.kind, .string b.res.name, .slice A' b.res.labels.length ca', .slice B' b.res.kids.length cb', .bool b.async] 45)).alloc (.cells #[.int .i64 0, .string ⟨#[]⟩] 34)).heap.size = w.heap.size + 3 := by simp
  go_enter Tryz.func39, Tryz.ntmps39
  go_wp2_with fail
  generalize (((w.alloc (.cells #[.slice Ra n na, .int .i64 a.res.kind, .string a.res.name, .slice A a.res.labels.length ca, .slice B a.res.kids.length cb, .bool a.async] 45)).alloc (.cells #[.slice Rb n nb, .int .i64 b.res.kind, .string b.res.name, .slice A' b.res.labels.length ca', .slice B' b.res.kids.length cb', .bool b.async] 45)).alloc (.cells #[.int .i64 0, .string ⟨#[]⟩] 34)) = W at *
  go_loopw [20] (fun i wr => ∃ j : Nat, j ≤ n ∧ i = .int .i64 j ∧ Hid (R = orR (pmsWhy (a.params.drop j) (b.params.drop j)) (a.whyR b)) ∧ Hid (Below W.heap.size W wr)) (fun i _ => n - (intOf i).toNat)
  case atStart => exact ⟨0, Nat.zero_le _, rfl, HW, Below.refl _ _⟩
  case round =>
    obtain ⟨j, hj, rfl, HWj, HB⟩ := hrel
    have sa0 := keepCell HB.out ka0
    have sb0 := keepCell HB.out kb0
    have q0 := keepCell HB.out r0
    have q1 := keepCell HB.out r1
    have brr := (BR.out.below HB.out).free
    have f1 := fun o => brr o
    have HBw := Lib.hid (bnext HW3.out HB.out)
    by_cases hlt : j < n
    · obtain ⟨b1, o1, p, Ap, Bp, cp, dp, hra, _, hp, hcp⟩ := (HPA.out.below HBw.out).at_ (k := j) (by have := HLA.out; omega)
      obtain ⟨b2, o2, q, Aq, Bq, cq, dq, hrb, _, hq, hcq⟩ := (HPB.out.below HBw.out).at_ (k := j) (by have := HLB.out; omega)
      subst hra
      subst hrb
      have hnq := HNB.out j q hq
      rw [pmsWhy_drop hp hq, orR_assoc] at HWj
      have C := Lib.hid (CP.out j p q hp hq Ap Bp Aq Bq cp dp cq dq)
      have CU := Lib.hid (CV.out j p q hp hq)
      obtain ⟨c0, c1, c2, c3, c4, cat⟩ := hcp
      obtain ⟨d0, d1, d2, d3, d4, dat⟩ := hcq
      have HPT := Lib.hid (cat.pl HLO.out)
      have HQT := Lib.hid (dat.pl HLO'.out)
      have hlj : (j : Int) < (n : Int) := by omega
      have t1 : ¬ 9223372036854775807 < 1 + q.name.size := by omega
      have t2 : ¬ 9223372036854775807 < 1 + q.name.size + 1 := by omega
      have t3 : ¬ 9223372036854775807 < (⟨#[40]⟩ : ByteArray).size + q.name.size := t1
      have t4 : ¬ 9223372036854775807 < ((⟨#[40]⟩ : ByteArray) ++ q.name).size + (⟨#[41]⟩ : ByteArray).size := by rw [ByteArray.size_append]; exact t2
      have HKX : Hid (∀ (k : Int) (s : ByteArray), pmWhy p q = some (k, s) → 1 ≤ k) := Lib.hid (fun k s h => ((KOK.out j p q hp hq) k s h))
      generalize pmWhy0 p q = X0 at *
      generalize pmWhy p q = X at *
      clear cat dat hp hq
      go_wp2_with fail
      obtain ⟨K, wx, hK, hwx, hb, hzx, y0, y1, y2, y3, y4⟩ : ∃ K wx, wr.heap.size = K ∧ (wr.alloc (.cells #[.string q.name, .int .i64 q.ty.kind, .string q.ty.name, .slice Aq q.ty.labels.length cq, .slice Bq q.ty.kids.length dq] 79)) = wx ∧ Below wr.heap.size wr wx ∧ wx.heap.size = K + 1 ∧ wx.cell? ⟨K, 0, none⟩ = some (.string q.name) ∧ wx.cell? ⟨K, 1, none⟩ = some (.int .i64 q.ty.kind) ∧ wx.cell? ⟨K, 2, none⟩ = some (.string q.ty.name) ∧ wx.cell? ⟨K, 3, none⟩ = some (.slice Aq q.ty.labels.length cq) ∧ wx.cell? ⟨K, 4, none⟩ = some (.slice Bq q.ty.kids.length dq) := ⟨_, _, rfl, rfl, below1 _ _, by simp, by go_simp, by go_simp, by go_simp, by go_simp, by go_simp⟩
      rw [hwx, hK]
      replace sa0 := keepCell hb sa0
      replace q0 := keepCell hb q0
      replace q1 := keepCell hb q1
      replace c0 := keepCell hb c0
      replace c1 := keepCell hb c1
      replace c2 := keepCell hb c2
      replace c3 := keepCell hb c3
      replace c4 := keepCell hb c4
      replace HPT := Lib.hid (HPT.out.on hb)
      replace HQT := Lib.hid (HQT.out.on hb)
      have HTX := Lib.hid (HT.out.keep (bnext HBw.out hb))
      have HBX := Lib.hid (bnext HB.out hb)
      have HZX := Lib.hid hzx
      clear hb hwx hK hzx f1 brr d0 d1 d2 d3 d4 HB HBw sb0
      go_cut [7] from 21 to 41 (fun r w' => ∃ g : Nat, r = .pointer (some ⟨g, 0, none⟩) ∧ wx.heap.size ≤ g ∧ w'.cell? ⟨g, 0, none⟩ = some (.int .i64 (rk X)) ∧ w'.cell? ⟨g, 1, none⟩ = some (.string (ra X)) ∧ Below wx.heap.size wx w')
      case first =>
        have hl1 : w.heap.size < wx.heap.size := World.block_lt_of_cell? wx _ sa0
        have hl3 : b1 < wx.heap.size := World.block_lt_of_cell? wx _ c0
        have hl5 : K < wx.heap.size := World.block_lt_of_cell? wx _ y0
        go_region_held3 (fun w' => w'.cell? ⟨w.heap.size, 0, none⟩ = some (.slice (some ⟨b1, o1, none⟩) n na) ∧ w'.cell? ⟨b1, o1 + j * 5, none⟩ = some (.string p.name) ∧ w'.cell? ⟨b1, o1 + j * 5 + 1, none⟩ = some (.int .i64 p.ty.kind) ∧ w'.cell? ⟨b1, o1 + j * 5 + 2, none⟩ = some (.string p.ty.name) ∧ w'.cell? ⟨b1, o1 + j * 5 + 3, none⟩ = some (.slice Ap p.ty.labels.length cp) ∧ w'.cell? ⟨b1, o1 + j * 5 + 4, none⟩ = some (.slice Bp p.ty.kids.length dp) ∧ w'.cell? ⟨K, 0, none⟩ = some (.string q.name) ∧ w'.cell? ⟨K, 1, none⟩ = some (.int .i64 q.ty.kind) ∧ w'.cell? ⟨K, 2, none⟩ = some (.string q.ty.name) ∧ w'.cell? ⟨K, 3, none⟩ = some (.slice Aq q.ty.labels.length cq) ∧ w'.cell? ⟨K, 4, none⟩ = some (.slice Bq q.ty.kids.length dq))
          (first | (with_reducible assumption) | (with_reducible exact ⟨keepCell (Below.refl _ _).drew sa0, keepCell (Below.refl _ _).drew c0, keepCell (Below.refl _ _).drew c1, keepCell (Below.refl _ _).drew c2, keepCell (Below.refl _ _).drew c3, keepCell (Below.refl _ _).drew c4, keepCell (Below.refl _ _).drew y0, keepCell (Below.refl _ _).drew y1, keepCell (Below.refl _ _).drew y2, keepCell (Below.refl _ _).drew y3, keepCell (Below.refl _ _).drew y4⟩) | (with_reducible exact ⟨keepCell (below1 _ _) sa0, keepCell (below1 _ _) c0, keepCell (below1 _ _) c1, keepCell (below1 _ _) c2, keepCell (below1 _ _) c3, keepCell (below1 _ _) c4, keepCell (below1 _ _) y0, keepCell (below1 _ _) y1, keepCell (below1 _ _) y2, keepCell (below1 _ _) y3, keepCell (below1 _ _) y4⟩) | (with_reducible exact ⟨keepCell (below1 _ _).drew sa0, keepCell (below1 _ _).drew c0, keepCell (below1 _ _).drew c1, keepCell (below1 _ _).drew c2, keepCell (below1 _ _).drew c3, keepCell (below1 _ _).drew c4, keepCell (below1 _ _).drew y0, keepCell (below1 _ _).drew y1, keepCell (below1 _ _).drew y2, keepCell (below1 _ _).drew y3, keepCell (below1 _ _).drew y4⟩) | (with_reducible exact ⟨keepCell (bnext (Below.refl _ _).drew (below1 _ _)) sa0, keepCell (bnext (Below.refl _ _).drew (below1 _ _)) c0, keepCell (bnext (Below.refl _ _).drew (below1 _ _)) c1, keepCell (bnext (Below.refl _ _).drew (below1 _ _)) c2, keepCell (bnext (Below.refl _ _).drew (below1 _ _)) c3, keepCell (bnext (Below.refl _ _).drew (below1 _ _)) c4, keepCell (bnext (Below.refl _ _).drew (below1 _ _)) y0, keepCell (bnext (Below.refl _ _).drew (below1 _ _)) y1, keepCell (bnext (Below.refl _ _).drew (below1 _ _)) y2, keepCell (bnext (Below.refl _ _).drew (below1 _ _)) y3, keepCell (bnext (Below.refl _ _).drew (below1 _ _)) y4⟩) | (with_reducible exact ⟨usa0, uc0, uc1, uc2, uc3, uc4, uy0, uy1, uy2, uy3, uy4⟩) | (with_reducible exact ⟨vsa0, vc0, vc1, vc2, vc3, vc4, vy0, vy1, vy2, vy3, vy4⟩) | (with_reducible exact ⟨keepCell (below1 _ _) usa0, keepCell (below1 _ _) uc0, keepCell (below1 _ _) uc1, keepCell (below1 _ _) uc2, keepCell (below1 _ _) uc3, keepCell (below1 _ _) uc4, keepCell (below1 _ _) uy0, keepCell (below1 _ _) uy1, keepCell (below1 _ _) uy2, keepCell (below1 _ _) uy3, keepCell (below1 _ _) uy4⟩) | (with_reducible exact ⟨keepCell (below1 _ _) vsa0, keepCell (below1 _ _) vc0, keepCell (below1 _ _) vc1, keepCell (below1 _ _) vc2, keepCell (below1 _ _) vc3, keepCell (below1 _ _) vc4, keepCell (below1 _ _) vy0, keepCell (below1 _ _) vy1, keepCell (below1 _ _) vy2, keepCell (below1 _ _) vy3, keepCell (below1 _ _) vy4⟩) | (with_reducible exact ⟨farSet (by first | (dsimp only; omega) | (simp; omega)) (farSet (by first | (dsimp only; omega) | (simp; omega)) vsa0), farSet (by first | (dsimp only; omega) | (simp; omega)) (farSet (by first | (dsimp only; omega) | (simp; omega)) vc0), farSet (by first | (dsimp only; omega) | (simp; omega)) (farSet (by first | (dsimp only; omega) | (simp; omega)) vc1), farSet (by first | (dsimp only; omega) | (simp; omega)) (farSet (by first | (dsimp only; omega) | (simp; omega)) vc2), farSet (by first | (dsimp only; omega) | (simp; omega)) (farSet (by first | (dsimp only; omega) | (simp; omega)) vc3), farSet (by first | (dsimp only; omega) | (simp; omega)) (farSet (by first | (dsimp only; omega) | (simp; omega)) vc4), farSet (by first | (dsimp only; omega) | (simp; omega)) (farSet (by first | (dsimp only; omega) | (simp; omega)) vy0), farSet (by first | (dsimp only; omega) | (simp; omega)) (farSet (by first | (dsimp only; omega) | (simp; omega)) vy1), farSet (by first | (dsimp only; omega) | (simp; omega)) (farSet (by first | (dsimp only; omega) | (simp; omega)) vy2), farSet (by first | (dsimp only; omega) | (simp; omega)) (farSet (by first | (dsimp only; omega) | (simp; omega)) vy3), farSet (by first | (dsimp only; omega) | (simp; omega)) (farSet (by first | (dsimp only; omega) | (simp; omega)) vy4)⟩) | fail)
          (first
              | (go_at_call 59; first
                | ((with_reducible refine (C.out _ (HPT.out.on (Below.refl _ _).drew) (HQT.out.on (Below.refl _ _).drew) (HTX.out.keep (Below.refl _ _).drew)).mono ?_); rintro e w4 ⟨rfl, hb4⟩; have hbw : Below wx.heap.size wx w4 := (Below.refl wx.heap.size wx).drew.trans hb4; have usa0 := keepCell hbw sa0; have uc0 := keepCell hbw c0; have uc1 := keepCell hbw c1; have uc2 := keepCell hbw c2; have uc3 := keepCell hbw c3; have uc4 := keepCell hbw c4; have uy0 := keepCell hbw y0; have uy1 := keepCell hbw y1; have uy2 := keepCell hbw y2; have uy3 := keepCell hbw y3; have uy4 := keepCell hbw y4; have um1 : b1 < w4.heap.size := Nat.lt_of_lt_of_le hl3 hbw.size; have um2 : w.heap.size < w4.heap.size := Nat.lt_of_lt_of_le hl1 hbw.size; have um3 : K < w4.heap.size := Nat.lt_of_lt_of_le hl5 hbw.size; clear hb4)
                | ((with_reducible refine (C.out _ (HPT.out.on (below1 _ _).drew) (HQT.out.on (below1 _ _).drew) (HTX.out.keep (below1 _ _).drew)).mono ?_); rintro e w4 ⟨rfl, hb4⟩; have hbw : Below wx.heap.size wx w4 := bnext (below1 _ _).drew hb4; have z0 := keepCell (a := ⟨wx.heap.size, 0, none⟩) (v := .int .i64 0) hb4 (by first | (go_simp; done) | fail); have z1 := keepCell (a := ⟨wx.heap.size, 1, none⟩) (v := .string ⟨#[]⟩) hb4 (by first | (go_simp; done) | fail); have zf : ∀ o, w4.frozen? ⟨wx.heap.size, o, none⟩ = false := (fun o => ((bcell hb4).2 _ _ (by first | (simp; done) | (simp; omega))).trans (by go_simp)); have usa0 := keepCell hbw sa0; have uc0 := keepCell hbw c0; have uc1 := keepCell hbw c1; have uc2 := keepCell hbw c2; have uc3 := keepCell hbw c3; have uc4 := keepCell hbw c4; have uy0 := keepCell hbw y0; have uy1 := keepCell hbw y1; have uy2 := keepCell hbw y2; have uy3 := keepCell hbw y3; have uy4 := keepCell hbw y4; have um1 : b1 < w4.heap.size := Nat.lt_of_lt_of_le hl3 hbw.size; have um2 : w.heap.size < w4.heap.size := Nat.lt_of_lt_of_le hl1 hbw.size; have um3 : K < w4.heap.size := Nat.lt_of_lt_of_le hl5 hbw.size; clear hb4))
              | (go_at_call 60; first
                | ((with_reducible refine (CU.out w4).mono ?_); rintro e w5 ⟨rfl, hb5⟩; have t0 := keepCell hb5 z0; have t1 := keepCell hb5 z1; have tf : ∀ o, w5.frozen? ⟨wx.heap.size, o, none⟩ = false := (fun o => ((bcell hb5).2 _ _ (World.block_lt_of_cell? w4 _ z0)).trans (zf o)); have hbx := bnext hbw hb5; have vsa0 := keepCell hbx sa0; have vc0 := keepCell hbx c0; have vc1 := keepCell hbx c1; have vc2 := keepCell hbx c2; have vc3 := keepCell hbx c3; have vc4 := keepCell hbx c4; have vy0 := keepCell hbx y0; have vy1 := keepCell hbx y1; have vy2 := keepCell hbx y2; have vy3 := keepCell hbx y3; have vy4 := keepCell hbx y4)
                | ((with_reducible refine (CU.out w4).mono ?_); rintro e w5 ⟨rfl, hb5⟩; have hbx := bnext hbw hb5; have vsa0 := keepCell hbx sa0; have vc0 := keepCell hbx c0; have vc1 := keepCell hbx c1; have vc2 := keepCell hbx c2; have vc3 := keepCell hbx c3; have vc4 := keepCell hbx c4; have vy0 := keepCell hbx y0; have vy1 := keepCell hbx y1; have vy2 := keepCell hbx y2; have vy3 := keepCell hbx y3; have vy4 := keepCell hbx y4)
                | ((with_reducible refine (CU.out _).mono ?_); rintro e w5 ⟨rfl, hb5⟩; have z0 := keepCell (a := ⟨w4.heap.size, 0, none⟩) (v := .int .i64 0) hb5 (by first | (go_simp; done) | fail); have z1 := keepCell (a := ⟨w4.heap.size, 1, none⟩) (v := .string ⟨#[]⟩) hb5 (by first | (go_simp; done) | fail); have zf : ∀ o, w5.frozen? ⟨w4.heap.size, o, none⟩ = false := (fun o => ((bcell hb5).2 _ _ (by first | (simp; done) | (simp; omega))).trans (by go_simp)); have hbx := bnext (bnext hbw (below1 _ _)) hb5; have vsa0 := keepCell hbx sa0; have vc0 := keepCell hbx c0; have vc1 := keepCell hbx c1; have vc2 := keepCell hbx c2; have vc3 := keepCell hbx c3; have vc4 := keepCell hbx c4; have vy0 := keepCell hbx y0; have vy1 := keepCell hbx y1; have vy2 := keepCell hbx y2; have vy3 := keepCell hbx y3; have vy4 := keepCell hbx y4)))
        all_goals go_wp2_with fail
        all_goals go_meet
        all_goals first
          | exact ⟨_, rfl, hbx.size, by go_simp, by go_simp, bnext hbx (below1 _ _)⟩
          | exact ⟨_, rfl, Nat.le_refl _, (setTwo t0 t1).1, (setTwo t0 t1).2, (hbx.setCell (Nat.le_refl _) _).setCell (Nat.le_refl _) _⟩
          | exact ⟨_, rfl, hbw.size, (setTwo z0 z1).1, (setTwo z0 z1).2, (hbx.setCell hbw.size _).setCell hbw.size _⟩
      case rest =>
        obtain ⟨g, rfl, hg, g0, g1, hbc⟩ := hcut
        replace q0 := keepCell hbc q0
        replace q1 := keepCell hbc q1
        have f1 := fun o => ((BR.out.below HBX.out).below hbc).free o
        have HBC := Lib.hid (bnext HBX.out hbc)
        clear hbc c0 c1 c2 c3 c4 sa0 y0 y1 y2 y3 y4
        cases X with
        | none =>
          have g0' : wc.cell? ⟨g, 0, none⟩ = some (.int .i64 0) := g0
          clear g0
          go_wp2_with fail
          go_roundw
          case rel => exact ⟨j + 1, by omega, by go_num, HWj, HBC⟩
          case measure => simp [intOf]; omega
        | some x =>
          obtain ⟨kx, sx⟩ := x
          have hRv : R = some (kx, sx) := HWj.out
          subst hRv
          have h1k := HKX.out kx sx rfl
          have e0 : (kx == 0) = false := by rw [beq_eq_false_iff_ne]; omega
          have e1 : (kx != 0) = true := by simp [bne, e0]
          have e2 : ¬ kx = 0 := by omega
          have g0' : wc.cell? ⟨g, 0, none⟩ = some (.int .i64 kx) := g0
          have g1' : wc.cell? ⟨g, 1, none⟩ = some (.string sx) := g1
          clear g0 g1 h1k
          go_wp2_with fail
          have st := setTwo (v0 := .int .i64 kx) (v1 := .string sx) q0 q1
          have s0 := st.1
          have s1 := st.2
          clear st
          exact bodyPost_ret (v := .agg #[.int .i64 kx, .string sx]) (by simp [results, Tryz.results39, go_sem, s0, s1]) rfl ⟨rfl, ((bnext HW3.out HBC.out).setCell (by simp; omega) _).setCell (by simp; omega) _⟩
    · have hj' : j = n := by omega
      subst hj'
      have hlj : ¬ (j : Int) < (j : Int) := by omega
      have hw9 := HWj.out
      rw [show pmsWhy (a.params.drop j) (b.params.drop j) = none by rw [← HLA.out]; exact pmsWhy_end, orR_none] at hw9
      have HR9 := Lib.hid hw9
      have sa1 := keepCell HB.out ka1
      have sa2 := keepCell HB.out ka2
      have sa3 := keepCell HB.out ka3
      have sa4 := keepCell HB.out ka4
      have sa5 := keepCell HB.out ka5
      have sb1 := keepCell HB.out kb1
      have sb2 := keepCell HB.out kb2
      have sb3 := keepCell HB.out kb3
      have sb4 := keepCell HB.out kb4
      have sb5 := keepCell HB.out kb5
      obtain ⟨Y, hY⟩ : ∃ Y, Ty.why 4 a.res b.res = Y := ⟨_, rfl⟩
      have HX := Lib.hid hY
      rw [hY] at CW YOK
      have CR' := Lib.hid (fun W h1 h2 h3 => (CR.out W h1 h2 h3).mono fun e w' h => (show RsnPost Y W e w' by rw [← hY]; exact h))
      clear hw9 HWj hY CR sa0 sb0 CP CV KOK
      cases Y with
      | some x =>
        obtain ⟨kx, sx⟩ := x
        have hRv : R = some (kx, sArr ++ sx) := by
          have h8 := HR9.out
          rw [Fn.whyR, HX.out] at h8
          exact h8
        subst hRv
        have h1k := YOK.out kx sx rfl
        have e0 : (kx == 0) = false := by rw [beq_eq_false_iff_ne]; omega
        have e2 : ¬ kx = 0 := by omega
        have C1 := Lib.hid (fun W h1 h2 h3 => (CR'.out W h1 h2 h3).mono fun e w' h => (show e = .returned (.agg #[.int .i64 kx, .string sx]) ∧ Below W.heap.size W w' from h))
        have C2 : Hid (∀ W : World, Calls Tryz.prog 60 #[.agg #[.int .i64 kx, .string sx], .string sArr] W fun e w' => e = .returned (.agg #[.int .i64 kx, .string (sArr ++ sx)]) ∧ Below W.heap.size W w') := Lib.hid (fun W => CW.out W)
        have HS : Hid (sArr = ⟨#[45, 62]⟩) := Lib.hid rfl
        obtain ⟨P, hP⟩ : ∃ P, sArr ++ sx = P := ⟨_, rfl⟩
        rw [hP] at C2
        have HPP := Lib.hid hP
        unfold sArr at C2
        clear HR9 HX CR' CW YOK h1k hP
        go_wp2_with fail
        go_at_call 32
        refine (C1.out _ (HRA.out.on HBw.out) (HRB.out.on HBw.out) (HT.out.keep HBw.out)).mono ?_
        rintro e w4 ⟨rfl, hb4⟩
        have HB4 := Lib.hid hb4
        clear hb4
        go_wp2_with fail
        go_at_call 60
        refine (C2.out _).mono ?_
        rintro e w5 ⟨rfl, hb5⟩
        have hb45 := bnext HB4.out hb5
        replace q0 := keepCell hb45 q0
        replace q1 := keepCell hb45 q1
        have hz5 : w.heap.size + 1 + 1 < w5.heap.size := World.block_lt_of_cell? w5 _ q0
        have f5 : ∀ o, w5.frozen? ⟨w.heap.size + 1 + 1, o, none⟩ = false := fun o => ((BR.out.below HB.out).below hb45).free o
        have HB5 := Lib.hid (bnext HBw.out hb45)
        clear hb5 hb45 f1 brr
        have q0a := fun o => keepCell (below1 w5 o) q0
        have q1a := fun o => keepCell (below1 w5 o) q1
        go_wp2_with fail
        have st := setTwo (v0 := .int .i64 kx) (v1 := .string P) q0 q1
        have s0 := fun o => keepCell (below1 _ o) st.1
        have s1 := fun o => keepCell (below1 _ o) st.2
        clear st
        exact bodyPost_ret (v := .agg #[.int .i64 kx, .string P]) (by simp [results, Tryz.results39, go_sem, s0, s1]) rfl ⟨by rw [← HPP.out]; rfl, Below.alloc ((HB5.out.setCell (by simp; omega) _).setCell (by simp; omega) _) (by simp; omega) _⟩
      | none =>
        have C1 := Lib.hid (fun W h1 h2 h3 => (CR'.out W h1 h2 h3).mono fun e w' h => (show e = .returned (.agg #[.int .i64 0, .string ⟨#[]⟩]) ∧ Below W.heap.size W w' from h))
        have C2 : Hid (∀ W : World, Calls Tryz.prog 60 #[.agg #[.int .i64 0, .string ⟨#[]⟩], .string ⟨#[45, 62]⟩] W fun e w' => e = .returned (.agg #[.int .i64 0, .string ⟨#[]⟩]) ∧ Below W.heap.size W w') := Lib.hid (fun W => CW.out W)
        have hR8 : R = if a.async = true ∧ b.async = false then some (8, ⟨#[]⟩) else none := by
          have h8 := HR9.out
          rw [Fn.whyR, HX.out] at h8
          exact h8
        have HR8 := Lib.hid hR8
        clear HR9 HX CR' CW YOK hR8
        go_wp2_with fail
        go_at_call 32
        refine (C1.out _ (HRA.out.on HBw.out) (HRB.out.on HBw.out) (HT.out.keep HBw.out)).mono ?_
        rintro e w4 ⟨rfl, hb4⟩
        have HB4 := Lib.hid hb4
        clear hb4
        go_wp2_with fail
        go_at_call 60
        refine (C2.out _).mono ?_
        rintro e w5 ⟨rfl, hb5⟩
        have hb45 := bnext HB4.out hb5
        replace q0 := keepCell hb45 q0
        replace q1 := keepCell hb45 q1
        replace sa5 := keepCell hb45 sa5
        replace sb5 := keepCell hb45 sb5
        have hz5 : w.heap.size + 1 + 1 < w5.heap.size := World.block_lt_of_cell? w5 _ q0
        have f5 : ∀ o, w5.frozen? ⟨w.heap.size + 1 + 1, o, none⟩ = false := fun o => ((BR.out.below HB.out).below hb45).free o
        have HB5 := Lib.hid (bnext HBw.out hb45)
        clear hb5 hb45 f1 brr
        have q0a := fun o => keepCell (below1 w5 o) q0
        have q1a := fun o => keepCell (below1 w5 o) q1
        have sa5a := fun o => keepCell (below1 w5 o) sa5
        have sb5a := fun o => keepCell (below1 w5 o) sb5
        by_cases hq : a.async = true ∧ b.async = false
        · have hRv : R = some (8, ⟨#[]⟩) := by rw [HR8.out, if_pos hq]
          subst hRv
          rw [hq.1] at sa5a
          rw [hq.2] at sb5a
          clear HR8 hq
          go_wp2_with fail
          have st := setTwo (v0 := .int .i64 8) (v1 := .string ⟨#[]⟩) q0 q1
          have s0 := fun o => keepCell (below1 _ o) st.1
          have s1 := fun o => keepCell (below1 _ o) st.2
          clear st
          exact bodyPost_ret (v := .agg #[.int .i64 8, .string ⟨#[]⟩]) (by simp [results, Tryz.results39, go_sem, s0, s1]) rfl ⟨rfl, Below.alloc ((HB5.out.setCell (by simp; omega) _).setCell (by simp; omega) _) (by simp; omega) _⟩
        · have hRv : R = none := by rw [HR8.out, if_neg hq]
          subst hRv
          clear HR8
          cases ha : a.async with
          | false =>
            rw [ha] at sa5a
            go_wp2_with fail
            have st := setTwo (v0 := .int .i64 0) (v1 := .string ⟨#[]⟩) q0 q1
            have s0 := fun o => keepCell (below1 _ o) st.1
            have s1 := fun o => keepCell (below1 _ o) st.2
            clear st
            exact bodyPost_ret (v := .agg #[.int .i64 0, .string ⟨#[]⟩]) (by simp [results, Tryz.results39, go_sem, s0, s1]) rfl ⟨rfl, Below.alloc ((HB5.out.setCell (by simp; omega) _).setCell (by simp; omega) _) (by simp; omega) _⟩
          | true =>
            have hb : b.async = true := by
              cases h9 : b.async with
              | true => rfl
              | false => exact absurd ⟨ha, h9⟩ hq
            rw [ha] at sa5a
            rw [hb] at sb5a
            go_wp2_with fail
            have st := setTwo (v0 := .int .i64 0) (v1 := .string ⟨#[]⟩) q0 q1
            have s0 := fun o => keepCell (below1 _ o) st.1
            have s1 := fun o => keepCell (below1 _ o) st.2
            clear st
            exact bodyPost_ret (v := .agg #[.int .i64 0, .string ⟨#[]⟩]) (by simp [results, Tryz.results39, go_sem, s0, s1]) rfl ⟨rfl, Below.alloc ((HB5.out.setCell (by simp; omega) _).setCell (by simp; omega) _) (by simp; omega) _⟩
end Go.Proofs.YtifchfecfkdjlaaGreatDoor

