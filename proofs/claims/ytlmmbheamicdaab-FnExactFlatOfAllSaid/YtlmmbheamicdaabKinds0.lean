/-
  Rows of flat kinds: both sides' look whether each is a kind. No condition.
-/
import Derived.Test.YtlmmbheamicdaabI60
import Derived.Test.YtlmmbheamicdaabIn
namespace Go.Proofs.Ytlmmbheamicdaab
open Go.ChangeShapes Go.WideShapes Go.ChangeAt Go.RowKit Go.Deep

def isK (n : Int) : Prop := n = 1 ∨ n = 2
/-- All are kinds. -/
def KOk (P : List Int) : Prop := ∀ (i : Nat) (n : Int), P[i]? = some n → isK n
def BadK (P : List Int) (k : Nat) : Prop := ∃ (i : Nat) (n : Int), i < k ∧ P[i]? = some n ∧ ¬ isK n
theorem BadK.no_step {P : List Int} {k : Nat} {n : Int} (h : ¬ BadK P k) (hn : P[k]? = some n) (ho : isK n) : ¬ BadK P (k + 1) := fun ⟨i, u, hi, hu, hno⟩ => by
  by_cases e : i = k
  · subst e
    rw [hn] at hu
    cases hu
    exact hno ho
  · exact h ⟨i, u, by omega, hu, hno⟩
theorem KOk.iff {P : List Int} : KOk P ↔ ¬ BadK P P.length :=
  ⟨fun h ⟨i, n, _, hn, hno⟩ => hno (h i n hn), fun h i n hn => Classical.byContradiction fun hno => h ⟨i, n, (List.getElem?_eq_some_iff.1 hn).1, hn, hno⟩⟩
theorem BadK.all {P : List Int} {k : Nat} (h : BadK P k) : ¬ KOk P := fun ho => by
  obtain ⟨i, n, _, hn, hno⟩ := h
  exact hno (ho i n hn)

theorem notKind_any (n : Int) (w : World) :
    Calls Try.prog 71 #[.int .i64 n] w fun e w' => ∃ v : Bool, e = .returned (.bool v) ∧ (v = true ↔ ¬ isK n) ∧ w = w' := by
  by_cases h1 : n = 1
  · subst h1
    go_enter Try.func71, Try.ntmps71
    go_wp2
    go_ret
    exact ⟨false, rfl, iff6F (by simp [isK]), rfl⟩
  · by_cases h2 : n = 2
    · subst h2
      go_enter Try.func71, Try.ntmps71
      go_wp2
      go_ret
      exact ⟨false, rfl, iff6F (by simp [isK]), rfl⟩
    · have hk : ¬ isK n := by unfold isK; omega
      have e1 : (n == 1) = false := by rw [beq_eq_false_iff_ne]; omega
      have e2 : (n == 2) = false := by rw [beq_eq_false_iff_ne]; omega
      have HK := Lib.hid hk
      clear hk
      go_enter Try.func71, Try.ntmps71
      go_wp2
      go_ret
      exact ⟨true, by first | rfl | simp [h1, h2], iff6T HK.out, rfl⟩
def Idx6 (p : Prop) (w : World) (e : Ending) (w' : World) : Prop := ∃ v : Int, e = .returned (.int .i64 v) ∧ -1 ≤ v ∧ (0 ≤ v ↔ p) ∧ Below w.heap.size w w'

set_option maxHeartbeats 1000000 in
theorem idxKind_any (P : List Int) (hl : P.length ≤ 1048576) (R : Option Addr) (c : Nat) (w : World) (h : Row6 w P R) :
    Calls Try.prog 72 #[.slice R P.length c, .func (.func 71) #[] #[]] w (Idx6 (BadK P P.length) w) := by
  have HR := Lib.hid h
  clear h
  go_enter Try.func72, Try.ntmps72
  go_wp2_with fail
  go_loopw [8] (fun i wr => ∃ k : Nat, k ≤ P.length ∧ i = .int .i64 k ∧ Hid (¬ BadK P k) ∧ Below w.heap.size w wr) (fun i _ => P.length - (intOf i).toNat)
  case atStart => exact ⟨0, Nat.zero_le _, rfl, (fun ⟨i, u, hi, _⟩ => by omega), Below.refl _ _⟩
  case round =>
    obtain ⟨k, hk, rfl, hno, hbel⟩ := hrel
    by_cases hlt : k < P.length
    · obtain ⟨b, o, n, rfl, hnk, hc⟩ := (HR.out.below hbel).at_ hlt
      have C := Lib.hid (fun W => notKind_any n W)
      have HN := Lib.hid hnk
      have HB := Lib.hid hbel
      clear hnk hbel
      by_cases h1 : isK n
      · have C := Lib.hid (fun W => (C.out W).mono (R' := fun e w' => e = .returned (.bool false) ∧ W = w') fun _ _ ⟨v, e1, hv, e2⟩ => ⟨by
          cases v with
          | false => exact e1
          | true => exact absurd h1 (hv.mp rfl), e2⟩)
        have H1 := Lib.hid h1
        clear h1
        go_wp2_with (go_at_call 71; (with_reducible refine (C.out _).mono ?_); rintro e w2 ⟨rfl, rfl⟩)
        go_roundw
        case rel => exact ⟨k + 1, by omega, by go_num, BadK.no_step hno.out HN.out H1.out, HB.out⟩
        case measure => simp [intOf]; omega
      · have C := Lib.hid (fun W => (C.out W).mono (R' := fun e w' => e = .returned (.bool true) ∧ W = w') fun _ _ ⟨v, e1, hv, e2⟩ => ⟨by rw [e1, hv.mpr h1], e2⟩)
        have H1 := Lib.hid h1
        clear h1
        go_wp2_with (go_at_call 71; (with_reducible refine (C.out _).mono ?_); rintro e w2 ⟨rfl, rfl⟩)
        go_ret
        exact ⟨k, rfl, by omega, ⟨fun _ => ⟨k, n, hlt, HN.out, H1.out⟩, fun _ => by omega⟩, HB.out⟩
    · have hk' : k = P.length := by omega
      have HB := Lib.hid hbel
      clear hbel
      go_wp2
      go_ret
      exact ⟨-1, rfl, by omega, ⟨(fun h => by omega), (fun h => absurd (by rw [hk']; exact h) hno.out)⟩, HB.out⟩
theorem contKind_any (P : List Int) (hl : P.length ≤ 1048576) (R : Option Addr) (c : Nat) (w : World) (h : Row6 w P R) :
    Calls Try.prog 70 #[.slice R P.length c, .func (.func 71) #[] #[]] w (Says6 (BadK P P.length) w) := by
  have C := Lib.hid (idxKind_any P hl R c w h)
  clear h
  go_enter Try.func70, Try.ntmps70
  go_wp2_with (go_at_call 72; (with_reducible refine C.out.mono ?_); rintro e w2 ⟨v, rfl, hv1, hv, hb2⟩; have HV := Lib.hid hv; have HB2 := Lib.hid hb2; clear hv hb2)
  go_ret
  exact ⟨decide (0 ≤ v), rfl, by rw [decide_eq_true_iff]; exact HV.out, HB2.out⟩
theorem implKindsOk_any (P : List Int) (hl : P.length ≤ 1048576) (R : Option Addr) (c : Nat) (w : World) (h : Row6 w P R) :
    Calls Try.prog 68 #[.slice R P.length c] w (Says6 (KOk P) w) := by
  have C := contKind_any P hl R c w h
  clear h
  by_cases hb : BadK P P.length
  · have C := Lib.hid (C.mono fun _ _ j => j.yes hb)
    have H1 := Lib.hid hb.all
    clear hb
    go_enter Try.func68, Try.ntmps68
    go_wp2_with fail
    go_at_call 70
    refine C.out.mono ?_
    rintro e w2 ⟨rfl, hb2⟩
    have HB2 := Lib.hid hb2
    clear hb2
    go_wp2_with fail
    go_ret
    exact ⟨false, rfl, iff6F H1.out, HB2.out⟩
  · have C := Lib.hid (C.mono fun _ _ j => j.no hb)
    have H1 := Lib.hid (KOk.iff.mpr hb)
    clear hb
    go_enter Try.func68, Try.ntmps68
    go_wp2_with fail
    go_at_call 70
    refine C.out.mono ?_
    rintro e w2 ⟨rfl, hb2⟩
    have HB2 := Lib.hid hb2
    clear hb2
    go_wp2_with fail
    go_ret
    exact ⟨true, rfl, iff6T H1.out, HB2.out⟩

theorem says6_same {p : Prop} {v u : Bool} (h : v = true ↔ p) (k : u = true ↔ p) : v = u := Bool.eq_iff_iff.mpr (h.trans k.symm)
end Go.Proofs.Ytlmmbheamicdaab
