/-
  The walks of the program's mentions, isUnit and slices.ContainsFunc with it.
-/
import Derived.Test.YtlmmbheamicdaaaDoorTyShapeP
namespace Go.Proofs.YtlmmbheamicdaaaDoor
open Go.ChangeShapes Go.WideShapes Go.ChangeAt Go.RowKit Go.Deep

def MenTy (c : Int) (T : Ty) : Prop := ∀ (A B : Option Addr) (ca cb lo : Nat) (w : World), Ty.At w lo T A B →
  Calls Tryd.prog 30 #[.agg #[.int .i64 T.kind, .string T.name, .slice A T.labels.length ca, .slice B T.kids.length cb], .int .i64 c] w fun e w' => e = .returned (.bool (T.has (inB c c))) ∧ Below w.heap.size w w'

theorem inB_one (c k : Int) : inB c c k = (k == c) := by
  unfold inB
  by_cases h : k = c
  · subst h
    simp
  · rw [show (k == c) = false by rw [beq_eq_false_iff_ne]; exact h]
    simp
    omega

theorem mentions_any (c : Int) (T : Ty) (hT : T.wt ≤ 1048576) : MenTy c T := by
  induction T using Ty.kidInd with
  | h T ih =>
    intro A B ca cb lo w hat
    obtain ⟨q1, q2, q3, _, _⟩ := Ty.len_le hT
    have IH : Hid (∀ (i : Nat) (t : Ty), T.kids[i]? = some t → MenTy c t) := Lib.hid (fun i t ht => ih i t ht (q3 i t ht))
    have HR := Lib.hid hat.rowAt
    have HE := Lib.hid (Ty.has_eq (inB c c) T)
    have hk1 := inB_one c T.kind
    clear ih hat q3 hT
    obtain ⟨V, hV⟩ : ∃ V, T.has (inB c c) = V := ⟨_, rfl⟩
    rw [hV] at HE
    rw [hV]
    clear hV
    cases hk : T.kind == c with
    | true =>
      rw [hk] at hk1
      have HK := Lib.hid hk1
      clear hk1
      go_enter Tryd.func30, Tryd.ntmps30
      go_wp2
      go_ret
      exact ⟨ret_bool (by have := HE.out; rw [HK.out] at this; simpa using this.symm), below1 _ _⟩
    | false =>
      rw [hk] at hk1
      have HK := Lib.hid hk1
      clear hk1
      go_enter Tryd.func30, Tryd.ntmps30
      go_wp2_with fail
      go_loopw [14] (fun i wr => ∃ k : Nat, k ≤ T.kids.length ∧ i = .int .i64 k ∧ Hid (Ty.hass (inB c c) (T.kids.take k) = false) ∧ Below w.heap.size w wr) (fun i _ => T.kids.length - (intOf i).toNat)
      case atStart => exact ⟨0, Nat.zero_le _, rfl, by simp [Hid, Ty.hass], below1 _ _⟩
      case round =>
        obtain ⟨k, hk, rfl, hno, hbel⟩ := hrel
        by_cases hlt : k < T.kids.length
        · obtain ⟨b, o, t, A', B', ca', cb', rfl, _, htk, hc⟩ := (HR.out.below hbel).at_ hlt
          have C : Hid (∀ W : World, Ty.At W lo t A' B' → Calls Tryd.prog 30 #[.agg #[.int .i64 t.kind, .string t.name, .slice A' t.labels.length ca', .slice B' t.kids.length cb'], .int .i64 c] W fun e w' => e = .returned (.bool (t.has (inB c c))) ∧ Below W.heap.size W w') := Lib.hid (fun W hW => IH.out k t htk A' B' ca' cb' lo W hW)
          have HTR := Lib.hid hc.tree
          have HS := Lib.hid (Ty.hass_take (p := inB c c) htk)
          obtain ⟨c0, c1, c2, c3, _⟩ := hc
          have lb : b < wr.heap.size := World.block_lt_of_cell? wr _ c0
          have HB := Lib.hid hbel
          clear htk hbel
          cases hv : t.has (inB c c) with
          | true =>
            rw [hv] at C HS
            clear hv
            go_wp2_with (go_at_call 30; (with_reducible refine (C.out _ (HTR.out.below (below1 _ _))).mono ?_); rintro e w2 ⟨rfl, hb2⟩; have HB2 := Lib.hid (bnext (below1 _ _) hb2); clear hb2)
            go_ret
            refine ⟨ret_bool ?_, bnext HB.out HB2.out⟩
            have h1 := Ty.hass_of_take (p := inB c c) (ks := T.kids) (i := k + 1) (by rw [HS.out]; simp)
            rw [HE.out, h1]
            simp
          | false =>
            rw [hv] at C HS
            clear hv
            go_wp2_with (go_at_call 30; (with_reducible refine (C.out _ (HTR.out.below (below1 _ _))).mono ?_); rintro e w2 ⟨rfl, hb2⟩; have HB2 := Lib.hid (bnext (below1 _ _) hb2); clear hb2)
            go_roundw
            case rel => exact ⟨k + 1, by omega, by go_num, by have h1 := hno.out; have h2 := HS.out; rw [h1] at h2; exact h2, bnext HB.out HB2.out⟩
            case measure => simp [intOf]; omega
        · have hk' : k = T.kids.length := by omega
          have HB := Lib.hid hbel
          clear hbel
          go_wp2
          go_ret
          refine ⟨ret_bool ?_, HB.out⟩
          have h1 := hno.out
          rw [hk', List.take_length] at h1
          rw [HE.out, HK.out, h1]
          rfl

theorem isUnit_any (k : Int) (n : ByteArray) (A B : Option Addr) (l m ca cb : Nat) (w : World) :
    Calls Tryd.prog 16 #[.agg #[.int .i64 k, .string n, .slice A l ca, .slice B m cb]] w fun e w' => e = .returned (.bool (k == 1)) ∧ Below w.heap.size w w' := by
  go_enter Tryd.func16, Tryd.ntmps16
  go_wp2
  go_ret
  exact ⟨rfl, below1 _ _⟩

/-- What IndexFunc leaves: a place or -1. -/
def IdxPost (p : Prop) (w : World) (e : Ending) (w' : World) : Prop := ∃ v : Int, e = .returned (.int .i64 v) ∧ -1 ≤ v ∧ (0 ≤ v ↔ p) ∧ Below w.heap.size w w'
theorem idxUnit_any (ks : List Ty) (hl : ks.length ≤ 1048576) (B : Option Addr) (cb lo : Nat) (w : World) (h : Ty.RowAt w lo ks B) :
    Calls Tryd.prog 92 #[.slice B ks.length cb, .func (.func 16) #[] #[]] w (IdxPost (UnitIn ks ks.length) w) := by
  have HR := Lib.hid h
  clear h
  go_enter Tryd.func92, Tryd.ntmps92
  go_wp2_with fail
  go_loopw [8] (fun i wr => ∃ k : Nat, k ≤ ks.length ∧ i = .int .i64 k ∧ Hid (¬ UnitIn ks k) ∧ Below w.heap.size w wr) (fun i _ => ks.length - (intOf i).toNat)
  case atStart => exact ⟨0, Nat.zero_le _, rfl, (fun ⟨i, u, hi, _⟩ => by omega), Below.refl _ _⟩
  case round =>
    obtain ⟨k, hk, rfl, hno, hbel⟩ := hrel
    by_cases hlt : k < ks.length
    · obtain ⟨b, o, t, A', B', ca', cb', rfl, _, htk, hc⟩ := (HR.out.below hbel).at_ hlt
      have C := Lib.hid (fun W => isUnit_any t.kind t.name A' B' t.labels.length t.kids.length ca' cb' W)
      obtain ⟨c0, c1, c2, c3, _⟩ := hc
      have HT := Lib.hid htk
      have HB := Lib.hid hbel
      clear htk hbel
      by_cases h1 : t.kind = 1
      · rw [show (t.kind == 1) = true by rw [beq_iff_eq]; exact h1] at C
        have H1 := Lib.hid h1
        clear h1
        go_wp2_with (go_at_call 16; (with_reducible refine (C.out _).mono ?_); rintro e w2 ⟨rfl, hb2⟩; have HB2 := Lib.hid hb2; clear hb2)
        go_ret
        exact ⟨k, rfl, by omega, ⟨fun _ => ⟨k, t, hlt, HT.out, H1.out⟩, fun _ => by omega⟩, bnext HB.out HB2.out⟩
      · rw [show (t.kind == 1) = false by rw [beq_eq_false_iff_ne]; exact h1] at C
        have H1 := Lib.hid h1
        clear h1
        go_wp2_with (go_at_call 16; (with_reducible refine (C.out _).mono ?_); rintro e w2 ⟨rfl, hb2⟩; have HB2 := Lib.hid hb2; clear hb2)
        go_roundw
        case rel => exact ⟨k + 1, by omega, by go_num, UnitIn.no_step hno.out HT.out H1.out, bnext HB.out HB2.out⟩
        case measure => simp [intOf]; omega
    · have hk' : k = ks.length := by omega
      have HB := Lib.hid hbel
      clear hbel
      go_wp2
      go_ret
      exact ⟨-1, rfl, by omega, ⟨(fun h => by omega), (fun h => absurd (by rw [hk']; exact h) hno.out)⟩, HB.out⟩

theorem contUnit_any (ks : List Ty) (hl : ks.length ≤ 1048576) (B : Option Addr) (cb lo : Nat) (w : World) (h : Ty.RowAt w lo ks B) :
    Calls Tryd.prog 91 #[.slice B ks.length cb, .func (.func 16) #[] #[]] w (SaysB (UnitIn ks ks.length) w) := by
  have C := Lib.hid (idxUnit_any ks hl B cb lo w h)
  clear h
  go_enter Tryd.func91, Tryd.ntmps91
  go_wp2_with (go_at_call 92; (with_reducible refine C.out.mono ?_); rintro e w2 ⟨v, rfl, hv1, hv, hb2⟩; have HV := Lib.hid hv; have HB2 := Lib.hid hb2; clear hv hb2)
  go_ret
  exact ⟨decide (0 ≤ v), rfl, by rw [decide_eq_true_iff]; exact HV.out, HB2.out⟩
end Go.Proofs.YtlmmbheamicdaaaDoor
