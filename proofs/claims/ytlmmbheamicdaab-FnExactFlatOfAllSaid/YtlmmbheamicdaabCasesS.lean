/-
  The cases of a type: both sides' walks.
-/
import Derived.Test.YtlmmbheamicdaabTyIn
namespace Go.Proofs.Ytlmmbheamicdaab
open Go.ChangeShapes Go.WideShapes Go.ChangeAt Go.RowKit Go.Deep

theorem okKid {T t : Ty} (h : T.Ok) {i : Nat} (ht : T.kids[i]? = some t) : t.Ok := by
  refine ⟨?_, Ty.sounds_get ((Ty.sound_eq T).mp h.2).2 ht⟩
  have := Ty.fits_kid h.1 ht
  unfold Ty.fits at *
  omega
/-- The type that holds nothing. -/
def unitTy : Ty := .mk 1 ⟨#[]⟩ [] []
/-- The cases of a type. -/
def Ty.cases (T : Ty) : List Ty := if T.kind = 13 then unitTy :: T.kids else if T.kind = 14 ∨ T.kind = 17 then T.kids else []
theorem unit_at (w : World) (lo : Nat) : Ty.At w lo unitTy none none := Ty.At.mk' (fun hp => absurd hp (by simp [unitTy, Ty.labels])) (fun hp => absurd hp (by simp [unitTy, Ty.kids]))

set_option maxHeartbeats 2000000 in
set_option maxRecDepth 100000 in
theorem specCases_any (T : Ty) (ho : T.Ok) (A B : Option Addr) (ca cb lo : Nat) (w : World) (hat : Ty.At w lo T A B) :
    Calls Try.prog 30 #[.agg #[.int .i64 T.kind, .string T.name, .slice A T.labels.length ca, .slice B T.kids.length cb]] w fun e w' => ∃ (R : Option Addr) (c : Nat), e = .returned (.slice R T.cases.length c) ∧ Ty.RowAt w' lo T.cases R ∧ Below w.heap.size w w' := by
  have HB := ((Ty.sound_eq T).1 ho.2).1.2
  have HR := Lib.hid hat.rowAt
  by_cases e13 : T.kind = 13
  · have ec : T.cases = unitTy :: T.kids := by unfold Ty.cases; rw [if_pos e13]
    have hl : T.kids.length = 1 := by
      unfold BodyOk at HB
      rw [if_pos (Or.inr e13)] at HB
      exact HB.1
    rw [ec, show (unitTy :: T.kids).length = 2 by rw [List.length_cons, hl]]
    obtain ⟨b, o, t, A', B', ca', cb', rfl, hlo, htk, hc⟩ := HR.out.at_ (by omega : 0 < T.kids.length)
    have HC := Lib.hid hc.tree
    obtain ⟨c0, c1, c2, c3, _⟩ := hc
    have hli : (0 : Int) < (T.kids.length : Int) := by omega
    have lb : b < w.heap.size := World.block_lt_of_cell? w _ c0
    have HTK := Lib.hid htk
    have HL := Lib.hid hl
    have hle : (T.kids.length : Int) = 1 := by omega
    simp only [Nat.zero_mul, Nat.add_zero] at c0 c1 c2 c3
    clear HB htk hl ho hat
    go_enter Try.func30, Try.ntmps30
    go_wp2_with fail
    go_ret
    refine ⟨_, _, rfl, fun _ => ⟨w.heap.size + 1, 0, rfl, by omega, fun i x hx => ?_⟩, below2 _ _ _⟩
    cases i with
    | zero =>
      simp at hx
      subst hx
      refine ⟨none, none, 0, 0, ?_, ?_, ?_, ?_, unit_at _ _⟩ <;> (simp [unitTy, Ty.kind, Ty.name, Ty.labels, Ty.kids]; try go_simp)
    | succ i =>
      have hi : i = 0 := by
        have h1 := (List.getElem?_eq_some_iff.1 hx).1
        rw [List.length_cons, HL.out] at h1
        omega
      subst hi
      have hxt : x = t := by
        have h1 := HTK.out
        rw [List.getElem?_cons_succ] at hx
        rw [h1] at hx
        exact (Option.some.inj hx).symm
      subst hxt
      refine ⟨A', B', ca', cb', ?_, ?_, ?_, ?_, HC.out.below (below2 _ _ _)⟩ <;> go_simp
  · by_cases e14 : T.kind = 14 ∨ T.kind = 17
    · have ec : T.cases = T.kids := by unfold Ty.cases; rw [if_neg e13, if_pos e14]
      rw [ec]
      clear ec HB ho
      rcases e14 with e14 | e14
      · go_enter Try.func30, Try.ntmps30
        go_wp2_with fail
        go_ret
        exact ⟨_, _, rfl, HR.out.below (below1 _ _), below1 _ _⟩
      · go_enter Try.func30, Try.ntmps30
        go_wp2_with fail
        go_ret
        exact ⟨_, _, rfl, HR.out.below (below1 _ _), below1 _ _⟩
    · have ec : T.cases = [] := by unfold Ty.cases; rw [if_neg e13, if_neg e14]
      rw [ec]
      have f1 : ¬ T.kind = 14 := fun h => e14 (Or.inl h)
      have f2 : ¬ T.kind = 17 := fun h => e14 (Or.inr h)
      clear ec HB ho e14
      go_enter Try.func30, Try.ntmps30
      go_wp2_with fail
      go_ret
      exact ⟨_, _, rfl, fun hp => absurd hp (by simp), below1 _ _⟩
end Go.Proofs.Ytlmmbheamicdaab
