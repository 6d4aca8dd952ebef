/-
  The bare form of a type's tree, and that a tree which owns its memory lies there in that form. No condition.
-/
import Derived.Test.YtlmmbheamicdaaaTyMark
namespace Go.Proofs.Ytlmmbheamicdaaa
open Go.ChangeShapes Go.WideShapes Go.ChangeAt Go.RowKit Go.Deep

mutual
def Ty.form : Ty → Fm | .mk _ _ ls ks => .mk ls.length (Ty.forms ks)
def Ty.forms : List Ty → List Fm | [] => [] | t :: ts => t.form :: Ty.forms ts
end
theorem Ty.form_labels (T : Ty) : T.form.labels = T.labels.length := by
  cases T
  rw [Ty.form]
  rfl
theorem Ty.forms_length : ∀ ks : List Ty, (Ty.forms ks).length = ks.length
  | [] => by simp [Ty.forms]
  | t :: ts => by simp [Ty.forms, Ty.forms_length ts]
theorem Ty.form_kids (T : Ty) : T.form.kids.length = T.kids.length := by
  cases T with
  | mk k n l ks =>
    rw [Ty.form]
    exact Ty.forms_length ks
theorem StrsOwn.form {w : World} {S : Nat → Prop} {ls : List ByteArray} {A : Option Addr} {bs : List Nat} (h : StrsOwn w ls A bs) (hs : ∀ b ∈ bs, S b) : StrsS w S ls.length A := fun hp => by
  rcases h with ⟨h, _⟩ | ⟨g, h1, h2, h3, h4⟩
  · rw [h] at hp
    simp at hp
  · exact ⟨g, 0, h1, hs g (by simp [h2]), h3, fun i hi => ⟨_, by rw [Nat.zero_add]; exact h4 i _ (List.getElem?_eq_getElem hi)⟩⟩
mutual
theorem Ty.Own.form {w : World} {S : Nat → Prop} : ∀ {T : Ty} {A B : Option Addr} {bs : List Nat}, (∀ b ∈ bs, S b) → Ty.Own w T A B bs → Fm.At w S T.form A B
  | .mk k n ls ks, A, B, bs, hs, h => by
    unfold Ty.Own at h
    obtain ⟨b1, b2, rfl, h1, h2⟩ := h
    rw [Ty.form]
    unfold Fm.At
    refine ⟨h1.form fun b hb => hs b (by simp [hb]), fun hp => ?_⟩
    rcases h2 with ⟨h2, _⟩ | ⟨g, b3, e1, rfl, e3, e4⟩
    · rw [h2] at hp
      simp [Ty.forms] at hp
    · exact ⟨g, 0, e1, hs g (by simp), e3, Ty.RowOwn.form (fun b hb => hs b (by simp [hb])) e4⟩
theorem Ty.RowOwn.form {w : World} {S : Nat → Prop} : ∀ {ks : List Ty} {g o : Nat} {bs : List Nat}, (∀ b ∈ bs, S b) → Ty.RowOwn w ks g o bs → Fm.Row w S (Ty.forms ks) g o
  | [], g, o, bs, _, _ => by
    rw [Ty.forms]
    unfold Fm.Row
    trivial
  | t :: ts, g, o, bs, hs, h => by
    unfold Ty.RowOwn at h
    obtain ⟨A, B, ca, cb, b1, b2, rfl, ⟨c0, c1, c2, c3⟩, h1, h2⟩ := h
    rw [Ty.forms]
    unfold Fm.Row
    refine ⟨⟨t.kind, t.name, A, B, ca, cb, c0, c1, ?_, ?_, Ty.Own.form (fun b hb => hs b (by simp [hb])) h1⟩, Ty.RowOwn.form (fun b hb => hs b (by simp [hb])) h2⟩
    · rw [Ty.form_labels]
      exact c2
    · rw [Ty.form_kids]
      exact c3
end
mutual
theorem Ty.form_cnt : ∀ T : Ty, (T.form.cnt : Int) ≤ 2 * T.wt
  | .mk k n ls ks => by
    have h1 := Ty.forms_cnt ks
    have h2 := sumSz_nonneg ls
    have h3 := (Ty.mk k n ls ks).wt_eq
    simp only [Ty.name, Ty.labels, Ty.kids] at h3
    rw [Ty.form, Fm.cnt]
    omega
theorem Ty.forms_cnt : ∀ ks : List Ty, (Fm.cnts (Ty.forms ks) : Int) ≤ 2 * ks.length + 2 * Ty.wts ks
  | [] => by simp [Ty.forms, Fm.cnts, Ty.wts]
  | t :: ts => by
    have h1 := Ty.form_cnt t
    have h2 := Ty.forms_cnt ts
    simp only [Ty.forms, Fm.cnts, Ty.wts, List.length_cons]
    omega
end
/-- Marking a tree that owns its memory. -/
theorem markType_own (T : Ty) (hT : T.wt ≤ 1048576) (A B : Option Addr) (ca cb : Nat) (bs : List Nat) (w : World) (h : Ty.Own w T A B bs) :
    Calls Try.prog 28 #[.agg #[.int .i64 T.kind, .string T.name, .slice A T.labels.length ca, .slice B T.kids.length cb], .int .i64 1] w fun e w' => ∃ m : Nat, e = .returned (.int .i64 m) ∧ Sim w w' ∧ Ks (· ∈ bs) w w' := by
  have h1 := T.form_cnt
  have h := markType_form T.form (· ∈ bs) 1 (by omega) (by omega) T.kind T.name A B ca cb w (h.form fun b hb => hb)
  rw [Ty.form_labels, Ty.form_kids] at h
  exact h.mono fun _ _ ⟨a, b, c⟩ => ⟨_, a, b, c⟩
end Go.Proofs.Ytlmmbheamicdaaa
