/-
  Walks of copying and comparing types' trees: the trees themselves.
-/
import Derived.Test.YtlmmbheamicdaaaDoorTyW2
import Derived.Laws.IdiomCopy
namespace Go.Proofs.YtlmmbheamicdaaaDoor
open Go.ChangeShapes Go.WideShapes Go.ChangeAt Go.RowKit Go.Deep

theorem Ty.len_le {T : Ty} (h : T.wt ≤ 1048576) : T.labels.length ≤ 1048576 ∧ T.kids.length ≤ 1048576 ∧ (∀ (i : Nat) (t : Ty), T.kids[i]? = some t → t.wt ≤ 1048576) ∧ T.name.size ≤ 1048576 ∧ ∀ s ∈ T.labels, s.size ≤ 1048576 := by
  have h1 := T.wt_eq
  have h2 := sumSz_nonneg T.labels
  have h3 := Ty.wts_nonneg T.kids
  refine ⟨by omega, by omega, fun i t ht => ?_, by omega, fun s hs => ?_⟩
  · have h4 := Ty.wts_take ht
    have h5 := Ty.wts_take_le T.kids (i + 1)
    have h6 := Ty.wts_nonneg (T.kids.take i)
    omega
  · obtain ⟨i, hi⟩ := List.getElem?_of_mem hs
    have := sumSz_mem hi
    omega

theorem Ty.RowAt.low {w : World} {lo lo' : Nat} {ks : List Ty} {B : Option Addr} (h : Ty.RowAt w lo ks B) (hl : lo' ≤ lo) : Ty.RowAt w lo' ks B := fun hp => by
  obtain ⟨b, o, hb, hlo, hr⟩ := h hp
  refine ⟨b, o, hb, by omega, fun i t ht => ?_⟩
  obtain ⟨A', B', ca, cb, hc⟩ := hr i t ht
  exact ⟨A', B', ca, cb, hc.kind, hc.name, hc.labels, hc.kids, hc.tree.low hl⟩
theorem Ty.At.of_row {w : World} {lo : Nat} {T : Ty} {A B : Option Addr} (h1 : Strs w lo T.labels A) (h2 : Ty.RowAt w lo T.kids B) : Ty.At w lo T A B := Ty.At.mk' h1 fun hp => by
  obtain ⟨b, o, hb, hlo, hr⟩ := h2 hp
  refine ⟨b, o, hb, hlo, fun i t ht => ?_⟩
  rw [Nat.mul_comm 4 i]
  exact hr i t ht

/-- Four cells of a block, stored one behind the other. -/
theorem four_set (w : World) (b : Nat) (v0 v1 v2 v3 : Value) (h : ∀ j, j < 4 → (w.cell? ⟨b, j, none⟩).isSome = true) :
    ((((w.setCell ⟨b, 0, none⟩ v0).setCell ⟨b, 1, none⟩ v1).setCell ⟨b, 2, none⟩ v2).setCell ⟨b, 3, none⟩ v3).cell? ⟨b, 0, none⟩ = some v0 ∧
    ((((w.setCell ⟨b, 0, none⟩ v0).setCell ⟨b, 1, none⟩ v1).setCell ⟨b, 2, none⟩ v2).setCell ⟨b, 3, none⟩ v3).cell? ⟨b, 1, none⟩ = some v1 ∧
    ((((w.setCell ⟨b, 0, none⟩ v0).setCell ⟨b, 1, none⟩ v1).setCell ⟨b, 2, none⟩ v2).setCell ⟨b, 3, none⟩ v3).cell? ⟨b, 2, none⟩ = some v2 ∧
    ((((w.setCell ⟨b, 0, none⟩ v0).setCell ⟨b, 1, none⟩ v1).setCell ⟨b, 2, none⟩ v2).setCell ⟨b, 3, none⟩ v3).cell? ⟨b, 3, none⟩ = some v3 := by
  have k := World.cell?_setCells_in b [v0, v1, v2, v3] 0 w (fun j hj => by rw [Nat.zero_add]; exact h j hj)
  exact ⟨k 0 (by simp), k 1 (by simp), k 2 (by simp), k 3 (by simp)⟩

set_option maxRecDepth 100000 in
theorem toType_any (T : Ty) (hT : T.wt ≤ 1048576) : ToTy T := by
  induction T using Ty.kidInd with
  | h T ih =>
    intro A B ca cb lo w h
    obtain ⟨q1, q2, q3, _, _⟩ := Ty.len_le hT
    have CS : Hid (∀ W : World, Strs W lo T.labels A → Calls Tryd.prog 27 #[.slice A T.labels.length ca] W fun e w' => e = .returned (.slice (some ⟨W.heap.size, 0, none⟩) T.labels.length T.labels.length) ∧ Strs w' W.heap.size T.labels (some ⟨W.heap.size, 0, none⟩) ∧ Below W.heap.size W w') := Lib.hid (fun W hW => toStringS_any T.labels A ca q1 lo W hW)
    have CK : Hid (∀ W : World, Ty.RowAt W lo T.kids B → Calls Tryd.prog 28 #[.slice B T.kids.length cb] W fun e w' => e = .returned (.slice (some ⟨W.heap.size, 0, none⟩) T.kids.length T.kids.length) ∧ Ty.RowAt w' W.heap.size T.kids (some ⟨W.heap.size, 0, none⟩) ∧ Below W.heap.size W w') := Lib.hid (fun W hW => toTypeS_of T.kids q2 (fun i t ht => ih i t ht (q3 i t ht)) B cb lo W hW)
    have HS := Lib.hid h.strs
    have HR := Lib.hid h.rowAt
    clear ih h q3 hT
    go_enter Tryd.func13, Tryd.ntmps13
    go_wp2_with (first
      | (go_at_call 27; (with_reducible refine (CS.out _ (HS.out.below (below3 _ _ _ _))).mono ?_); rintro e w2 ⟨rfl, hs2, hb2⟩; obtain ⟨hc2, hf2⟩ := bcell hb2; have d0 := keepCell (a := ⟨w.heap.size + 1 + 1, 0, none⟩) (v := .int .i64 T.kind) hb2 (by go_simp); have d1 := keepCell (a := ⟨w.heap.size + 1 + 1, 1, none⟩) (v := .string T.name) hb2 (by go_simp); have d2 := keepCell (a := ⟨w.heap.size + 1 + 1, 2, none⟩) (v := .slice none 0 0) hb2 (by go_simp); have d3 := keepCell (a := ⟨w.heap.size + 1 + 1, 3, none⟩) (v := .slice none 0 0) hb2 (by go_simp); have r0 := keepCell (a := ⟨w.heap.size + 1, 0, none⟩) (v := .int .i64 0) hb2 (by go_simp); have r1 := keepCell (a := ⟨w.heap.size + 1, 1, none⟩) (v := .string ⟨#[]⟩) hb2 (by go_simp); have r2 := keepCell (a := ⟨w.heap.size + 1, 2, none⟩) (v := .slice none 0 0) hb2 (by go_simp); have r3 := keepCell (a := ⟨w.heap.size + 1, 3, none⟩) (v := .slice none 0 0) hb2 (by go_simp); have a3 := keepCell (a := ⟨w.heap.size, 3, none⟩) (v := .slice B T.kids.length cb) hb2 (by go_simp); have hB2 := Lib.hid (bnext (below3 _ _ _ _) hb2); have HS2 : Hid (Strs w2 (w.heap.size + 1 + 1 + 1) T.labels (some ⟨w.heap.size + 1 + 1 + 1, 0, none⟩)) := Lib.hid (by simpa using hs2); have hz2 : w.heap.size + 1 + 1 < w2.heap.size := (by have h9 := hb2.size; simp at h9; omega); have g2 : ∀ o, w2.frozen? ⟨w.heap.size + 1, o, none⟩ = false := (fun o => (hf2 _ _ (by first | (simp; done) | (simp; omega))).trans (by go_simp)); have h2 : ∀ o, w2.frozen? ⟨w.heap.size + 1 + 1, o, none⟩ = false := (fun o => (hf2 _ _ (by first | (simp; done) | (simp; omega))).trans (by go_simp)); clear hs2 hb2 hc2)
      | (go_at_call 28; (with_reducible refine (CK.out _ (HR.out.below (hB2.out.setCell (by simp; omega) _))).mono ?_); rintro e w3 ⟨rfl, hr3, hb3⟩; obtain ⟨hc3, hf3⟩ := bcell hb3; have e0 := keepCell (a := ⟨w.heap.size + 1 + 1, 0, none⟩) (v := .int .i64 T.kind) hb3 (by go_simp); have e1 := keepCell (a := ⟨w.heap.size + 1 + 1, 1, none⟩) (v := .string T.name) hb3 (by go_simp); have e2 := keepCell (a := ⟨w.heap.size + 1 + 1, 2, none⟩) (v := .slice (some ⟨w.heap.size + 1 + 1 + 1, 0, none⟩) T.labels.length T.labels.length) hb3 (by go_simp); have e3 := keepCell (a := ⟨w.heap.size + 1 + 1, 3, none⟩) (v := .slice none 0 0) hb3 (by go_simp); have s0 := keepCell (a := ⟨w.heap.size + 1, 0, none⟩) (v := .int .i64 0) hb3 (by go_simp); have s1 := keepCell (a := ⟨w.heap.size + 1, 1, none⟩) (v := .string ⟨#[]⟩) hb3 (by go_simp); have s2 := keepCell (a := ⟨w.heap.size + 1, 2, none⟩) (v := .slice none 0 0) hb3 (by go_simp); have s3 := keepCell (a := ⟨w.heap.size + 1, 3, none⟩) (v := .slice none 0 0) hb3 (by go_simp); have HR3 : Hid (Ty.RowAt w3 w2.heap.size T.kids (some ⟨w2.heap.size, 0, none⟩)) := Lib.hid (by simpa using hr3); have HB3 := Lib.hid hb3; have hz3 : w.heap.size + 1 + 1 < w3.heap.size := (by have h9 := hb3.size; simp at h9; omega); have g3 : ∀ o, w3.frozen? ⟨w.heap.size + 1, o, none⟩ = false := (fun o => (hf3 _ _ (by first | (simp; done) | (simp; omega))).trans (by go_simp)); have h3 : ∀ o, w3.frozen? ⟨w.heap.size + 1 + 1, o, none⟩ = false := (fun o => (hf3 _ _ (by first | (simp; done) | (simp; omega))).trans (by go_simp)); clear hr3 hb3 hc3 hf3 hf2 d0 d1 d2 d3 r0 r1 r2 r3))
    obtain ⟨k0, k1, k2, k3⟩ := four_set (w3.setCell ⟨w.heap.size + 1 + 1, 3, none⟩ (.slice (some ⟨w2.heap.size, 0, none⟩) T.kids.length T.kids.length)) (w.heap.size + 1) (.int .i64 T.kind) (.string T.name) (.slice (some ⟨w.heap.size + 1 + 1 + 1, 0, none⟩) T.labels.length T.labels.length) (.slice (some ⟨w2.heap.size, 0, none⟩) T.kids.length T.kids.length) (fun j hj => by
      have h4 : j = 0 ∨ j = 1 ∨ j = 2 ∨ j = 3 := by omega
      rcases h4 with rfl | rfl | rfl | rfl <;> simp [World.cell?_setCell_other, s0, s1, s2, s3])
    refine bodyPost_ret (v := .agg #[.int .i64 T.kind, .string T.name, .slice (some ⟨w.heap.size + 1 + 1 + 1, 0, none⟩) T.labels.length T.labels.length, .slice (some ⟨w2.heap.size, 0, none⟩) T.kids.length T.kids.length]) (by simp [results, Tryd.results13, go_sem, k0, k1, k2, k3]) rfl ?_
    have hzz : w.heap.size ≤ w2.heap.size := by omega
    refine ⟨_, _, rfl, Ty.At.of_row ?_ ?_, ?_⟩
    · refine Strs.low (lo := w.heap.size + 1 + 1 + 1) ?_ (by omega)
      exact (((HS2.out.keep (KeptFrom.setCell (by first | (simp; done) | (simp; omega)) _)).below HB3.out).keep (KeptFrom.setCell (by first | (simp; done) | (simp; omega)) _)).keep ((((KeptFrom.setCell (by first | (simp; done) | (simp; omega)) _).trans (KeptFrom.setCell (by first | (simp; done) | (simp; omega)) _)).trans (KeptFrom.setCell (by first | (simp; done) | (simp; omega)) _)).trans (KeptFrom.setCell (by first | (simp; done) | (simp; omega)) _))
    · refine Ty.RowAt.low (lo := w2.heap.size) ?_ hzz
      exact (HR3.out.keep (KeptFrom.setCell (by first | (simp; done) | (simp; omega)) _)).keep ((((KeptFrom.setCell (by first | (simp; done) | (simp; omega)) _).trans (KeptFrom.setCell (by first | (simp; done) | (simp; omega)) _)).trans (KeptFrom.setCell (by first | (simp; done) | (simp; omega)) _)).trans (KeptFrom.setCell (by first | (simp; done) | (simp; omega)) _))
    · exact (((((bnext (hB2.out.setCell (by first | (simp; done) | (simp; omega)) _) HB3.out).setCell (by first | (simp; done) | (simp; omega)) _).setCell (by first | (simp; done) | (simp; omega)) _).setCell (by first | (simp; done) | (simp; omega)) _).setCell (by first | (simp; done) | (simp; omega)) _).setCell (by first | (simp; done) | (simp; omega)) _
end Go.Proofs.YtlmmbheamicdaaaDoor
