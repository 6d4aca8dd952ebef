/-
  The walk of copying a type's tree: the copy owns its memory.
-/
import Derived.Test.YtifchfecfkdjlaaGreatDoorTyOwnW
namespace Go.Proofs.YtifchfecfkdjlaaGreatDoor
open Go.ChangeShapes Go.WideShapes Go.ChangeAt Go.RowKit Go.Deep

set_option maxRecDepth 100000 in
theorem toType_own (T : Ty) (hT : T.wt ≤ 1048576) : ToOwn T := by
  induction T using Ty.kidInd with
  | h T ih =>
    intro A B ca cb lo w h
    obtain ⟨q1, q2, q3, _, _⟩ := Ty.len_le hT
    have CS : Hid (∀ W : World, Strs W lo T.labels A → Calls Tryz.prog 26 #[.slice A T.labels.length ca] W fun e w' => e = .returned (.slice (some ⟨W.heap.size, 0, none⟩) T.labels.length T.labels.length) ∧ StrsOwn w' T.labels (some ⟨W.heap.size, 0, none⟩) [W.heap.size] ∧ Below W.heap.size W w') := Lib.hid (fun W hW => toStringS_own T.labels A ca q1 lo W hW)
    have CK : Hid (∀ W : World, Ty.RowAt W lo T.kids B → Calls Tryz.prog 27 #[.slice B T.kids.length cb] W fun e w' => e = .returned (.slice (some ⟨W.heap.size, 0, none⟩) T.kids.length T.kids.length) ∧ (∃ bs, Ty.RowsOwn w' T.kids (some ⟨W.heap.size, 0, none⟩) bs ∧ bs.Nodup ∧ ∀ b ∈ bs, W.heap.size ≤ b ∧ b < w'.heap.size) ∧ Below W.heap.size W w') := Lib.hid (fun W hW => toTypeS_own_of T.kids q2 (fun i t ht => ih i t ht (q3 i t ht)) B cb lo W hW)
    have HS := Lib.hid h.strs
    have HR := Lib.hid h.rowAt
    clear ih h q3 hT
    go_enter Tryz.func9, Tryz.ntmps9
    go_wp2_with (first
      | (go_at_call 26; (with_reducible refine (CS.out _ (HS.out.below (below3 _ _ _ _))).mono ?_); rintro e w2 ⟨rfl, hs2, hb2⟩; obtain ⟨hc2, hf2⟩ := bcell hb2; have d0 := keepCell (a := ⟨w.heap.size + 1 + 1, 0, none⟩) (v := .int .i64 T.kind) hb2 (by go_simp); have d1 := keepCell (a := ⟨w.heap.size + 1 + 1, 1, none⟩) (v := .string T.name) hb2 (by go_simp); have d2 := keepCell (a := ⟨w.heap.size + 1 + 1, 2, none⟩) (v := .slice none 0 0) hb2 (by go_simp); have d3 := keepCell (a := ⟨w.heap.size + 1 + 1, 3, none⟩) (v := .slice none 0 0) hb2 (by go_simp); have r0 := keepCell (a := ⟨w.heap.size + 1, 0, none⟩) (v := .int .i64 0) hb2 (by go_simp); have r1 := keepCell (a := ⟨w.heap.size + 1, 1, none⟩) (v := .string ⟨#[]⟩) hb2 (by go_simp); have r2 := keepCell (a := ⟨w.heap.size + 1, 2, none⟩) (v := .slice none 0 0) hb2 (by go_simp); have r3 := keepCell (a := ⟨w.heap.size + 1, 3, none⟩) (v := .slice none 0 0) hb2 (by go_simp); have a3 := keepCell (a := ⟨w.heap.size, 3, none⟩) (v := .slice B T.kids.length cb) hb2 (by go_simp); have hB2 := Lib.hid (bnext (below3 _ _ _ _) hb2); have HS2 : Hid (StrsOwn w2 T.labels (some ⟨w.heap.size + 1 + 1 + 1, 0, none⟩) [w.heap.size + 1 + 1 + 1]) := Lib.hid (by simpa using hs2); have hz2 : w.heap.size + 1 + 1 < w2.heap.size := (by have h9 := hb2.size; simp at h9; omega); have g2 : ∀ o, w2.frozen? ⟨w.heap.size + 1, o, none⟩ = false := (fun o => (hf2 _ _ (by first | (simp; done) | (simp; omega))).trans (by go_simp)); have h2 : ∀ o, w2.frozen? ⟨w.heap.size + 1 + 1, o, none⟩ = false := (fun o => (hf2 _ _ (by first | (simp; done) | (simp; omega))).trans (by go_simp)); clear hs2 hb2 hc2)
      | (go_at_call 27; (with_reducible refine (CK.out _ (HR.out.below (hB2.out.setCell (by simp; omega) _))).mono ?_); rintro e w3 ⟨rfl, hr3, hb3⟩; obtain ⟨hc3, hf3⟩ := bcell hb3; have e0 := keepCell (a := ⟨w.heap.size + 1 + 1, 0, none⟩) (v := .int .i64 T.kind) hb3 (by go_simp); have e1 := keepCell (a := ⟨w.heap.size + 1 + 1, 1, none⟩) (v := .string T.name) hb3 (by go_simp); have e2 := keepCell (a := ⟨w.heap.size + 1 + 1, 2, none⟩) (v := .slice (some ⟨w.heap.size + 1 + 1 + 1, 0, none⟩) T.labels.length T.labels.length) hb3 (by go_simp); have e3 := keepCell (a := ⟨w.heap.size + 1 + 1, 3, none⟩) (v := .slice none 0 0) hb3 (by go_simp); have s0 := keepCell (a := ⟨w.heap.size + 1, 0, none⟩) (v := .int .i64 0) hb3 (by go_simp); have s1 := keepCell (a := ⟨w.heap.size + 1, 1, none⟩) (v := .string ⟨#[]⟩) hb3 (by go_simp); have s2 := keepCell (a := ⟨w.heap.size + 1, 2, none⟩) (v := .slice none 0 0) hb3 (by go_simp); have s3 := keepCell (a := ⟨w.heap.size + 1, 3, none⟩) (v := .slice none 0 0) hb3 (by go_simp); have HR3 : Hid (∃ bs, Ty.RowsOwn w3 T.kids (some ⟨w2.heap.size, 0, none⟩) bs ∧ bs.Nodup ∧ ∀ b ∈ bs, w2.heap.size ≤ b ∧ b < w3.heap.size) := Lib.hid (by obtain ⟨bs9, x1, x2, x3⟩ := hr3; exact ⟨bs9, by simpa using x1, x2, fun b hb => by simpa using x3 b hb⟩); have HB3 := Lib.hid hb3; have hz3 : w.heap.size + 1 + 1 < w3.heap.size := (by have h9 := hb3.size; simp at h9; omega); have g3 : ∀ o, w3.frozen? ⟨w.heap.size + 1, o, none⟩ = false := (fun o => (hf3 _ _ (by first | (simp; done) | (simp; omega))).trans (by go_simp)); have h3 : ∀ o, w3.frozen? ⟨w.heap.size + 1 + 1, o, none⟩ = false := (fun o => (hf3 _ _ (by first | (simp; done) | (simp; omega))).trans (by go_simp)); clear hr3 hb3 hc3 hf3 hf2 d0 d1 d2 d3 r0 r1 r2 r3))
    obtain ⟨k0, k1, k2, k3⟩ := four_set (w3.setCell ⟨w.heap.size + 1 + 1, 3, none⟩ (.slice (some ⟨w2.heap.size, 0, none⟩) T.kids.length T.kids.length)) (w.heap.size + 1) (.int .i64 T.kind) (.string T.name) (.slice (some ⟨w.heap.size + 1 + 1 + 1, 0, none⟩) T.labels.length T.labels.length) (.slice (some ⟨w2.heap.size, 0, none⟩) T.kids.length T.kids.length) (fun j hj => by
      have h4 : j = 0 ∨ j = 1 ∨ j = 2 ∨ j = 3 := by omega
      rcases h4 with rfl | rfl | rfl | rfl <;> simp [World.cell?_setCell_other, s0, s1, s2, s3])
    refine bodyPost_ret (v := .agg #[.int .i64 T.kind, .string T.name, .slice (some ⟨w.heap.size + 1 + 1 + 1, 0, none⟩) T.labels.length T.labels.length, .slice (some ⟨w2.heap.size, 0, none⟩) T.kids.length T.kids.length]) (by simp [results, Tryz.results9, go_sem, k0, k1, k2, k3]) rfl ?_
    obtain ⟨bs, hro, hnd, hbs⟩ := HR3.out
    have hzz : w.heap.size + 1 + 1 + 1 < w2.heap.size := by
      rcases HS2.out with ⟨_, h9⟩ | ⟨g9, h8, h9, h10, _⟩
      · cases h9
      · injection h9 with h9
        subst h9
        exact h10.lt
    have hz3' : w2.heap.size ≤ w3.heap.size := by
      have := HB3.out.size
      simpa using this
    have hKF : KeptBut [w.heap.size + 1, w.heap.size + 1 + 1] w3 (((((w3.setCell ⟨w.heap.size + 1 + 1, 3, none⟩ (.slice (some ⟨w2.heap.size, 0, none⟩) T.kids.length T.kids.length)).setCell ⟨w.heap.size + 1, 0, none⟩ (.int .i64 T.kind)).setCell ⟨w.heap.size + 1, 1, none⟩ (.string T.name)).setCell ⟨w.heap.size + 1, 2, none⟩ (.slice (some ⟨w.heap.size + 1 + 1 + 1, 0, none⟩) T.labels.length T.labels.length)).setCell ⟨w.heap.size + 1, 3, none⟩ (.slice (some ⟨w2.heap.size, 0, none⟩) T.kids.length T.kids.length)) :=
      ((((KeptBut.setCell (by simp) _).trans (KeptBut.setCell (by simp) _)).trans (KeptBut.setCell (by simp) _)).trans (KeptBut.setCell (by simp) _)).trans (KeptBut.setCell (by simp) _)
    have hKS : KeptBut [w.heap.size + 1, w.heap.size + 1 + 1] w2 w3 := (KeptBut.setCell (p := ⟨w.heap.size + 1 + 1, 2, none⟩) (by simp) _).trans (KeptBut.of_below HB3.out)
    refine ⟨_, _, [w.heap.size + 1 + 1 + 1] ++ bs, rfl, Ty.own_eq.mpr ⟨_, _, rfl, HS2.out.keep (hKS.trans hKF) (fun b hb hm => by simp at hb hm; omega), ?_⟩, ?_, ?_, ?_⟩
    · rcases hro with ⟨h1, h2⟩ | ⟨g, b3, h1, rfl, h3, h4⟩
      · exact Or.inl ⟨h1, h2⟩
      · have hg := hbs g (by simp)
        have hno : ∀ b ∈ g :: b3, b ∉ [w.heap.size + 1, w.heap.size + 1 + 1] := fun b hb hm => by
          have h5 := (hbs b hb).1
          simp at hm
          omega
        exact Or.inr ⟨g, b3, h1, rfl, hKF.blk (hno g (by simp)) h3, Ty.RowOwn.keep hKF (hno g (by simp)) (fun b hb => hno b (by simp [hb])) h4⟩
    · rw [List.singleton_append, List.nodup_cons]
      exact ⟨fun hm => by have := (hbs _ hm).1; omega, hnd⟩
    · intro b hb
      have hz : (((((w3.setCell ⟨w.heap.size + 1 + 1, 3, none⟩ (.slice (some ⟨w2.heap.size, 0, none⟩) T.kids.length T.kids.length)).setCell ⟨w.heap.size + 1, 0, none⟩ (.int .i64 T.kind)).setCell ⟨w.heap.size + 1, 1, none⟩ (.string T.name)).setCell ⟨w.heap.size + 1, 2, none⟩ (.slice (some ⟨w.heap.size + 1 + 1 + 1, 0, none⟩) T.labels.length T.labels.length)).setCell ⟨w.heap.size + 1, 3, none⟩ (.slice (some ⟨w2.heap.size, 0, none⟩) T.kids.length T.kids.length)).heap.size = w3.heap.size := by simp
      rw [hz]
      rcases List.mem_append.1 hb with hb | hb
      · simp at hb
        omega
      · have := hbs b hb
        omega
    · exact (((((bnext (hB2.out.setCell (by first | (simp; done) | (simp; omega)) _) HB3.out).setCell (by first | (simp; done) | (simp; omega)) _).setCell (by first | (simp; done) | (simp; omega)) _).setCell (by first | (simp; done) | (simp; omega)) _).setCell (by first | (simp; done) | (simp; omega)) _).setCell (by first | (simp; done) | (simp; omega)) _
end Go.Proofs.YtifchfecfkdjlaaGreatDoor
