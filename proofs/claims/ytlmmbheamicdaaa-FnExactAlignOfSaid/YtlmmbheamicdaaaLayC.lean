/-
  The cases of a type: both sides' walks.
-/
import Derived.Test.YtlmmbheamicdaaaLayI
namespace Go.Proofs.Ytlmmbheamicdaaa
open Go.ChangeShapes Go.WideShapes Go.ChangeAt Go.RowKit Go.Deep

theorem okKid {T t : Ty} (h : T.Ok) {i : Nat} (ht : T.kids[i]? = some t) : t.Ok := by
  refine ⟨?_, Ty.sounds_get ((Ty.sound_eq T).mp h.2).2 ht⟩
  have := Ty.fits_kid h.1 ht
  unfold Ty.fits at *
  omega
/-- The type that holds nothing. -/
def unitTy : Ty := .mk 1 ⟨#[]⟩ [] []
theorem unit_lay : unitTy.lay = (0, 1) := by
  rw [Ty.lay_eq]
  have e : unitTy.kind = 1 := rfl
  rw [e]
  simp [numSz]
theorem unit_size : unitTy.size = 1 := by
  rw [Ty.size_eq]
  rfl
theorem Ty.Ok.layOk {T : Ty} (h : T.Ok) : LayOk T := h.lay
/-- The cases of a type. -/
def Ty.cases (T : Ty) : List Ty := if T.kind = 13 then unitTy :: T.kids else if T.kind = 14 ∨ T.kind = 17 then T.kids else []
theorem most_cases {T : Ty} (h : T.kind = 13 ∨ T.kind = 14 ∨ T.kind = 17) : Ty.layMost 0 1 T.cases = Ty.layMost 0 1 T.kids := by
  unfold Ty.cases
  by_cases e : T.kind = 13
  · rw [if_pos e, Ty.layMost_cons, unit_lay]
    rfl
  · rw [if_neg e, if_pos (by omega)]
theorem unit_at (w : World) (lo : Nat) : Ty.At w lo unitTy none none := Ty.At.mk' (fun hp => absurd hp (by simp [unitTy, Ty.labels])) (fun hp => absurd hp (by simp [unitTy, Ty.kids]))

set_option maxHeartbeats 2000000 in
set_option maxRecDepth 100000 in
theorem specCases_any (T : Ty) (ho : T.Ok) (A B : Option Addr) (ca cb lo : Nat) (w : World) (hat : Ty.At w lo T A B) :
    Calls Try.prog 71 #[.agg #[.int .i64 T.kind, .string T.name, .slice A T.labels.length ca, .slice B T.kids.length cb]] w fun e w' => ∃ (R : Option Addr) (c : Nat), e = .returned (.slice R T.cases.length c) ∧ Ty.RowAt w' lo T.cases R ∧ Below w.heap.size w w' := by
  have HB := ((Ty.sound_eq T).1 ho.2).1.2
  have HR := Lib.hid hat.rowAt
  by_cases e13 : T.kind = 13
  · have ec : T.cases = unitTy :: T.kids := by unfold Ty.cases; rw [if_pos e13]
    have hl : T.kids.length = 1 := by
      unfold BodyOk at HB
      rw [if_pos (Or.inr e13)] at HB
      exact HB.1
    rw [ec, show (unitTy :: T.kids).length = 2 by rw [List.length_cons, hl]]
    obtain ⟨b, o, t, A', B', ca', cb', rfl, hlo, htk, hc⟩ := HR.out.at_ (by omega : 0 < T.kids.length)
    have HC := Lib.hid hc.tree
    obtain ⟨c0, c1, c2, c3, _⟩ := hc
    have hli : (0 : Int) < (T.kids.length : Int) := by omega
    have lb : b < w.heap.size := World.block_lt_of_cell? w _ c0
    have HTK := Lib.hid htk
    have HL := Lib.hid hl
    have hle : (T.kids.length : Int) = 1 := by omega
    simp only [Nat.zero_mul, Nat.add_zero] at c0 c1 c2 c3
    clear HB htk hl ho hat
    go_enter Try.func71, Try.ntmps71
    go_wp2_with fail
    go_ret
    refine ⟨_, _, rfl, fun _ => ⟨w.heap.size + 1, 0, rfl, by omega, fun i x hx => ?_⟩, below2 _ _ _⟩
    cases i with
    | zero =>
      simp at hx
      subst hx
      refine ⟨none, none, 0, 0, ?_, ?_, ?_, ?_, unit_at _ _⟩ <;> (simp [unitTy, Ty.kind, Ty.name, Ty.labels, Ty.kids]; try go_simp)
    | succ i =>
      have hi : i = 0 := by
        have h1 := (List.getElem?_eq_some_iff.1 hx).1
        rw [List.length_cons, HL.out] at h1
        omega
      subst hi
      have hxt : x = t := by
        have h1 := HTK.out
        rw [List.getElem?_cons_succ] at hx
        rw [h1] at hx
        exact (Option.some.inj hx).symm
      subst hxt
      refine ⟨A', B', ca', cb', ?_, ?_, ?_, ?_, HC.out.below (below2 _ _ _)⟩ <;> go_simp
  · by_cases e14 : T.kind = 14 ∨ T.kind = 17
    · have ec : T.cases = T.kids := by unfold Ty.cases; rw [if_neg e13, if_pos e14]
      rw [ec]
      clear ec HB ho
      rcases e14 with e14 | e14
      · go_enter Try.func71, Try.ntmps71
        go_wp2_with fail
        go_ret
        exact ⟨_, _, rfl, HR.out.below (below1 _ _), below1 _ _⟩
      · go_enter Try.func71, Try.ntmps71
        go_wp2_with fail
        go_ret
        exact ⟨_, _, rfl, HR.out.below (below1 _ _), below1 _ _⟩
    · have ec : T.cases = [] := by unfold Ty.cases; rw [if_neg e13, if_neg e14]
      rw [ec]
      have f1 : ¬ T.kind = 14 := fun h => e14 (Or.inl h)
      have f2 : ¬ T.kind = 17 := fun h => e14 (Or.inr h)
      clear ec HB ho e14
      go_enter Try.func71, Try.ntmps71
      go_wp2_with fail
      go_ret
      exact ⟨_, _, rfl, fun hp => absurd hp (by simp), below1 _ _⟩
set_option maxHeartbeats 2000000 in
set_option maxRecDepth 100000 in
theorem implCases_any (T : Ty) (ho : T.Ok) (A B : Option Addr) (ca cb lo : Nat) (w : World) (hat : Ty.At w lo T A B) :
    Calls Try.prog 87 #[.agg #[.int .i64 T.kind, .string T.name, .slice A T.labels.length ca, .slice B T.kids.length cb]] w fun e w' => ∃ (R : Option Addr) (c : Nat), e = .returned (.slice R T.cases.length c) ∧ Ty.RowAt w' lo T.cases R ∧ Below w.heap.size w w' := by
  have HB := ((Ty.sound_eq T).1 ho.2).1.2
  have HR := Lib.hid hat.rowAt
  by_cases e13 : T.kind = 13
  · have ec : T.cases = unitTy :: T.kids := by unfold Ty.cases; rw [if_pos e13]
    have hl : T.kids.length = 1 := by
      unfold BodyOk at HB
      rw [if_pos (Or.inr e13)] at HB
      exact HB.1
    rw [ec, show (unitTy :: T.kids).length = 2 by rw [List.length_cons, hl]]
    obtain ⟨b, o, t, A', B', ca', cb', rfl, hlo, htk, hc⟩ := HR.out.at_ (by omega : 0 < T.kids.length)
    have HC := Lib.hid hc.tree
    obtain ⟨c0, c1, c2, c3, _⟩ := hc
    have hli : (0 : Int) < (T.kids.length : Int) := by omega
    have lb : b < w.heap.size := World.block_lt_of_cell? w _ c0
    have HTK := Lib.hid htk
    have HL := Lib.hid hl
    have hle : (T.kids.length : Int) = 1 := by omega
    simp only [Nat.zero_mul, Nat.add_zero] at c0 c1 c2 c3
    clear HB htk hl ho hat
    go_enter Try.func87, Try.ntmps87
    go_wp2_with fail
    go_ret
    refine ⟨_, _, rfl, fun _ => ⟨w.heap.size + 1, 0, rfl, by omega, fun i x hx => ?_⟩, below2 _ _ _⟩
    cases i with
    | zero =>
      simp at hx
      subst hx
      refine ⟨none, none, 0, 0, ?_, ?_, ?_, ?_, unit_at _ _⟩ <;> (simp [unitTy, Ty.kind, Ty.name, Ty.labels, Ty.kids]; try go_simp)
    | succ i =>
      have hi : i = 0 := by
        have h1 := (List.getElem?_eq_some_iff.1 hx).1
        rw [List.length_cons, HL.out] at h1
        omega
      subst hi
      have hxt : x = t := by
        have h1 := HTK.out
        rw [List.getElem?_cons_succ] at hx
        rw [h1] at hx
        exact (Option.some.inj hx).symm
      subst hxt
      refine ⟨A', B', ca', cb', ?_, ?_, ?_, ?_, HC.out.below (below2 _ _ _)⟩ <;> go_simp
  · by_cases e14 : T.kind = 14 ∨ T.kind = 17
    · have ec : T.cases = T.kids := by unfold Ty.cases; rw [if_neg e13, if_pos e14]
      rw [ec]
      clear ec HB ho
      rcases e14 with e14 | e14
      · go_enter Try.func87, Try.ntmps87
        go_wp2_with fail
        go_ret
        exact ⟨_, _, rfl, HR.out.below (below1 _ _), below1 _ _⟩
      · go_enter Try.func87, Try.ntmps87
        go_wp2_with fail
        go_ret
        exact ⟨_, _, rfl, HR.out.below (below1 _ _), below1 _ _⟩
    · have ec : T.cases = [] := by unfold Ty.cases; rw [if_neg e13, if_neg e14]
      rw [ec]
      have f1 : ¬ T.kind = 14 := fun h => e14 (Or.inl h)
      have f2 : ¬ T.kind = 17 := fun h => e14 (Or.inr h)
      clear ec HB ho e14
      go_enter Try.func87, Try.ntmps87
      go_wp2_with fail
      go_ret
      exact ⟨_, _, rfl, fun hp => absurd hp (by simp), below1 _ _⟩
theorem flags2_any (n : Nat) (h : 8 < (n : Int)) (w : World) :
    Calls Try.prog 89 #[.int .i64 n] w fun e w' => e = .returned (.int .i64 2) ∧ Below w.heap.size w w' := by
  go_enter Try.func89, Try.ntmps89
  go_wp2_with fail
  go_ret
  exact ⟨rfl, Below.refl _ _⟩
theorem flags1_any (n : Nat) (h : ¬ 8 < (n : Int)) (w : World) :
    Calls Try.prog 89 #[.int .i64 n] w fun e w' => e = .returned (.int .i64 1) ∧ Below w.heap.size w w' := by
  go_enter Try.func89, Try.ntmps89
  go_wp2_with fail
  go_ret
  exact ⟨rfl, Below.refl _ _⟩
end Go.Proofs.Ytlmmbheamicdaaa
