/-
  Walks of the model's l03Has and l03Size.
-/
import Derived.Test.YtlmmbheamicdaaaDoorTyW4
import Derived.Test.YtlmmbheamicdaaaDoorIn
namespace Go.Proofs.YtlmmbheamicdaaaDoor
open Go.ChangeShapes Go.WideShapes Go.ChangeAt Go.RowKit Go.Deep

theorem In_any (n l h : Int) (w : World) :
    Calls Tryd.prog 39 #[.int .i64 n, .int .i64 l, .int .i64 h] w fun e w' => e = .returned (.bool (decide (l ≤ n) && decide (n ≤ h))) ∧ w = w' := by
  by_cases h1 : l ≤ n ∧ n ≤ h
  · refine (l00In_yes n l h w h1.1 h1.2).mono ?_
    rintro e w' ⟨rfl, rfl⟩
    simp [h1.1, h1.2]
  · refine (l00In_no n l h w (by omega)).mono ?_
    rintro e w' ⟨rfl, rfl⟩
    refine ⟨ret_bool ?_, rfl⟩
    by_cases h2 : l ≤ n
    · simp [show ¬ n ≤ h by omega]
    · simp [h2]

/-- The kinds from one to another. -/
def inB (l h : Int) : Int → Bool := fun k => decide (l ≤ k) && decide (k ≤ h)

def HasTy (l h : Int) (T : Ty) : Prop := ∀ (A B : Option Addr) (ca cb lo : Nat) (w : World), Ty.At w lo T A B →
  Calls Tryd.prog 24 #[.agg #[.int .i64 T.kind, .string T.name, .slice A T.labels.length ca, .slice B T.kids.length cb], .int .i64 l, .int .i64 h] w fun e w' => e = .returned (.bool (T.has (inB l h))) ∧ Below w.heap.size w w'

theorem l03Has_any (l h : Int) (T : Ty) (hT : T.wt ≤ 1048576) : HasTy l h T := by
  induction T using Ty.kidInd with
  | h T ih =>
    intro A B ca cb lo w hat
    obtain ⟨q1, q2, q3, _, _⟩ := Ty.len_le hT
    have IH : Hid (∀ (i : Nat) (t : Ty), T.kids[i]? = some t → HasTy l h t) := Lib.hid (fun i t ht => ih i t ht (q3 i t ht))
    have HR := Lib.hid hat.rowAt
    have HE := Lib.hid (Ty.has_eq (inB l h) T)
    have C : Hid (∀ W : World, Calls Tryd.prog 39 #[.int .i64 T.kind, .int .i64 l, .int .i64 h] W fun e w' => e = .returned (.bool (inB l h T.kind)) ∧ W = w') := Lib.hid (fun W => In_any T.kind l h W)
    clear ih hat q3 hT
    obtain ⟨V, hV⟩ : ∃ V, T.has (inB l h) = V := ⟨_, rfl⟩
    rw [hV] at HE
    rw [hV]
    clear hV
    cases hk : inB l h T.kind with
    | true =>
      rw [hk] at C
      have HK := Lib.hid hk
      clear hk
      go_enter Tryd.func24, Tryd.ntmps24
      go_wp2_with (go_at_call 39; (with_reducible refine (C.out _).mono ?_); rintro e w2 ⟨rfl, rfl⟩)
      go_ret
      exact ⟨ret_bool (by have := HE.out; rw [HK.out] at this; simpa using this.symm), below1 _ _⟩
    | false =>
      rw [hk] at C
      have HK := Lib.hid hk
      clear hk
      go_enter Tryd.func24, Tryd.ntmps24
      go_wp2_with (go_at_call 39; (with_reducible refine (C.out _).mono ?_); rintro e w2 ⟨rfl, rfl⟩)
      clear C
      go_loopw [7] (fun i wr => ∃ k : Nat, k ≤ T.kids.length ∧ i = .int .i64 k ∧ Hid (Ty.hass (inB l h) (T.kids.take k) = false) ∧ wr.cell? ⟨w.heap.size, 3, none⟩ = some (.slice B T.kids.length cb) ∧ Below w.heap.size w wr) (fun i _ => T.kids.length - (intOf i).toNat)
      case atStart => exact ⟨0, Nat.zero_le _, rfl, by simp [Hid, Ty.hass], by go_simp, below1 _ _⟩
      case round =>
        obtain ⟨k, hk, rfl, hno, hbox, hbel⟩ := hrel
        by_cases hlt : k < T.kids.length
        · obtain ⟨b, o, t, A', B', ca', cb', rfl, _, htk, hc⟩ := (HR.out.below hbel).at_ hlt
          have C := Lib.hid (IH.out k t htk A' B' ca' cb' lo wr hc.tree)
          have HS := Lib.hid (Ty.hass_take (p := inB l h) htk)
          obtain ⟨c0, c1, c2, c3, _⟩ := hc
          have HB := Lib.hid hbel
          have HX := Lib.hid hbox
          clear htk hbel
          cases hv : t.has (inB l h) with
          | true =>
            rw [hv] at C HS
            clear hv
            go_wp2_with (go_at_call 24; (with_reducible refine C.out.mono ?_); rintro e w2 ⟨rfl, hb2⟩; have HB2 := Lib.hid hb2; clear hb2)
            go_ret
            refine ⟨ret_bool ?_, bnext HB.out HB2.out⟩
            have h1 := Ty.hass_of_take (p := inB l h) (ks := T.kids) (i := k + 1) (by rw [HS.out]; simp)
            rw [HE.out, h1]
            simp
          | false =>
            rw [hv] at C HS
            clear hv
            go_wp2_with (go_at_call 24; (with_reducible refine C.out.mono ?_); rintro e w2 ⟨rfl, hb2⟩; have HB2 := Lib.hid hb2; clear hb2)
            go_roundw
            case rel => exact ⟨k + 1, by omega, by go_num, by have h1 := hno.out; have h2 := HS.out; rw [h1] at h2; exact h2, keepCell HB2.out HX.out, bnext HB.out HB2.out⟩
            case measure => simp [intOf]; omega
        · have hk' : k = T.kids.length := by omega
          have HB := Lib.hid hbel
          clear hbel
          go_wp2
          go_ret
          refine ⟨ret_bool ?_, HB.out⟩
          have h1 := hno.out
          rw [hk', List.take_length] at h1
          rw [HE.out, HK.out, h1]
          rfl
end Go.Proofs.YtlmmbheamicdaaaDoor
