/-
  RowOk0, CasesI: in one text.
-/
import Derived.Test.YtlmmbheamicdaabTyIn
import Derived.Test.YtlmmbheamicdaabCasesS
namespace Go.Proofs.Ytlmmbheamicdaab
open Go.ChangeShapes Go.WideShapes Go.ChangeAt Go.RowKit Go.Deep

/-- A number where it holds, and 0 where it doesn't. -/
def SaysInt (p : Prop) (n : Int) (w : World) (e : Ending) (w' : World) : Prop := ∃ v : Int, e = .returned (.int .i64 v) ∧ ((p → v = n) ∧ (¬ p → v = 0)) ∧ Below w.heap.size w w'
theorem saysInt_same {p : Prop} {n : Int} {v u : Int} (h : (p → v = n) ∧ (¬ p → v = 0)) (k : (p → u = n) ∧ (¬ p → u = 0)) : v = u := by
  by_cases hp : p
  · rw [h.1 hp, k.1 hp]
  · rw [h.2 hp, k.2 hp]
/-- All are right, and not too many. -/
def RowOk (ks : List Ty) : Prop := ks.length ≤ 24 ∧ ∀ (i : Nat) (t : Ty), ks[i]? = some t → t.Ok
def BadTo (ks : List Ty) (k : Nat) : Prop := ∃ (i : Nat) (t : Ty), i < k ∧ ks[i]? = some t ∧ ¬ t.Ok
theorem BadTo.no_step {ks : List Ty} {k : Nat} {t : Ty} (h : ¬ BadTo ks k) (ht : ks[k]? = some t) (ho : t.Ok) : ¬ BadTo ks (k + 1) := fun ⟨i, u, hi, hu, hno⟩ => by
  by_cases e : i = k
  · subst e
    rw [ht] at hu
    cases hu
    exact hno ho
  · exact h ⟨i, u, by omega, hu, hno⟩
theorem RowOk.iff {ks : List Ty} (hl : ks.length ≤ 24) : RowOk ks ↔ ¬ BadTo ks ks.length :=
  ⟨fun h ⟨i, t, _, ht, hno⟩ => hno (h.2 i t ht), fun h => ⟨hl, fun i t ht => Classical.byContradiction fun hno => h ⟨i, t, (List.getElem?_eq_some_iff.1 ht).1, ht, hno⟩⟩⟩
theorem wt_in {ks : List Ty} (h : (ks.length : Int) + Ty.wts ks ≤ 1048576) : ks.length ≤ 1048576 ∧ ∀ (i : Nat) (t : Ty), ks[i]? = some t → t.wt ≤ 1048576 := by
  have h3 := Ty.wts_nonneg ks
  refine ⟨by omega, fun i t ht => ?_⟩
  have h4 := Ty.wts_take ht
  have h5 := Ty.wts_take_le ks (i + 1)
  have h6 := Ty.wts_nonneg (ks.take i)
  omega
theorem notType_any (T : Ty) (lo : Nat) (hT : T.wt ≤ 1048576) (A B : Option Addr) (ca cb : Nat) (w : World) (hat : Ty.At w lo T A B) (hm : MaxC w) :
    Calls Try.prog 50 #[.agg #[.int .i64 T.kind, .string T.name, .slice A T.labels.length ca, .slice B T.kids.length cb]] w (SaysB (¬ T.Ok) w) := by
  have C := Lib.hid (implTypeOk_any T lo hT A B ca cb (w.alloc (.cells #[.int .i64 T.kind, .string T.name, .slice A T.labels.length ca, .slice B T.kids.length cb] 30)) (hat.below (below1 _ _)) (hm.keep (below1 _ _)))
  clear hat hm hT
  go_enter Try.func50, Try.ntmps50
  go_wp2_with fail
  go_at_call 32
  refine C.out.mono ?_
  rintro e w2 ⟨v, rfl, hv, hb2⟩
  have HV := Lib.hid hv
  have HB2 := Lib.hid (bnext (below1 _ _) hb2)
  clear hv hb2
  cases v with
  | false =>
    have H1 : Hid (¬ T.Ok) := Lib.hid (fun h => by have := HV.out.mpr h; cases this)
    clear HV
    go_wp2_with fail
    go_ret
    exact ⟨true, rfl, iffT H1.out, HB2.out⟩
  | true =>
    have H1 : Hid T.Ok := Lib.hid (HV.out.mp rfl)
    clear HV
    go_wp2_with fail
    go_ret
    exact ⟨false, rfl, iffF (fun h => h H1.out), HB2.out⟩

set_option maxHeartbeats 1000000 in
theorem idxNot_any (ks : List Ty) (hl : ks.length ≤ 1048576) (hw : ∀ (i : Nat) (t : Ty), ks[i]? = some t → t.wt ≤ 1048576) (B : Option Addr) (cb lo : Nat) (w : World) (h : Ty.RowAt w lo ks B) (hm : MaxC w) :
    Calls Try.prog 59 #[.slice B ks.length cb, .func (.func 50) #[] #[]] w (IdxPost (BadTo ks ks.length) w) := by
  have HR := Lib.hid h
  have HM := Lib.hid hm
  have HW := Lib.hid hw
  clear h hm hw
  go_enter Try.func59, Try.ntmps59
  go_wp2_with fail
  go_loopw [8] (fun i wr => ∃ k : Nat, k ≤ ks.length ∧ i = .int .i64 k ∧ Hid (¬ BadTo ks k) ∧ Below w.heap.size w wr) (fun i _ => ks.length - (intOf i).toNat)
  case atStart => exact ⟨0, Nat.zero_le _, rfl, (fun ⟨i, u, hi, _⟩ => by omega), Below.refl _ _⟩
  case round =>
    obtain ⟨k, hk, rfl, hno, hbel⟩ := hrel
    by_cases hlt : k < ks.length
    · obtain ⟨b, o, t, A', B', ca', cb', rfl, _, htk, hc⟩ := (HR.out.below hbel).at_ hlt
      have C := notType_any t lo (HW.out k t htk) A' B' ca' cb' wr hc.tree (HM.out.keep hbel)
      obtain ⟨c0, c1, c2, c3, _⟩ := hc
      have HT := Lib.hid htk
      have HB := Lib.hid hbel
      clear htk hbel
      by_cases h1 : ¬ t.Ok
      · have C := Lib.hid (C.mono fun _ _ j => j.yes h1)
        have H1 := Lib.hid h1
        clear h1
        go_wp2_with (go_at_call 50; (with_reducible refine C.out.mono ?_); rintro e w2 ⟨rfl, hb2⟩; have HB2 := Lib.hid hb2; clear hb2)
        go_ret
        exact ⟨k, rfl, by omega, ⟨fun _ => ⟨k, t, hlt, HT.out, H1.out⟩, fun _ => by omega⟩, bnext HB.out HB2.out⟩
      · have C := Lib.hid (C.mono fun _ _ j => j.no h1)
        have H1 := Lib.hid (Classical.not_not.mp h1)
        clear h1
        go_wp2_with (go_at_call 50; (with_reducible refine C.out.mono ?_); rintro e w2 ⟨rfl, hb2⟩; have HB2 := Lib.hid hb2; clear hb2)
        go_roundw
        case rel => exact ⟨k + 1, by omega, by go_num, BadTo.no_step hno.out HT.out H1.out, bnext HB.out HB2.out⟩
        case measure => simp [intOf]; omega
    · have hk' : k = ks.length := by omega
      have HB := Lib.hid hbel
      clear hbel
      go_wp2
      go_ret
      exact ⟨-1, rfl, by omega, ⟨(fun h => by omega), (fun h => absurd (by rw [hk']; exact h) hno.out)⟩, HB.out⟩
theorem contNot_any (ks : List Ty) (hl : ks.length ≤ 1048576) (hw : ∀ (i : Nat) (t : Ty), ks[i]? = some t → t.wt ≤ 1048576) (B : Option Addr) (cb lo : Nat) (w : World) (h : Ty.RowAt w lo ks B) (hm : MaxC w) :
    Calls Try.prog 49 #[.slice B ks.length cb, .func (.func 50) #[] #[]] w (SaysB (BadTo ks ks.length) w) := by
  have C := Lib.hid (idxNot_any ks hl hw B cb lo w h hm)
  clear h hm
  go_enter Try.func49, Try.ntmps49
  go_wp2_with (go_at_call 59; (with_reducible refine C.out.mono ?_); rintro e w2 ⟨v, rfl, hv1, hv, hb2⟩; have HV := Lib.hid hv; have HB2 := Lib.hid hb2; clear hv hb2)
  go_ret
  exact ⟨decide (0 ≤ v), rfl, by rw [decide_eq_true_iff]; exact HV.out, HB2.out⟩
theorem rowOk_any (ks : List Ty) (hl : ks.length ≤ 1048576) (hw : ∀ (i : Nat) (t : Ty), ks[i]? = some t → t.wt ≤ 1048576) (B : Option Addr) (cb lo : Nat) (w : World) (h : Ty.RowAt w lo ks B) (hm : MaxC w) :
    Calls Try.prog 42 #[.slice B ks.length cb] w (SaysB (RowOk ks) w) := by
  have C := contNot_any ks hl hw B cb lo w h hm
  clear h hm
  by_cases h24 : ks.length ≤ 24
  · have HI := Lib.hid (RowOk.iff h24)
    have h24i : (ks.length : Int) ≤ 24 := by omega
    by_cases hb : BadTo ks ks.length
    · have C := Lib.hid (C.mono fun _ _ j => j.yes hb)
      have H1 := Lib.hid hb
      clear hb
      go_enter Try.func42, Try.ntmps42
      go_wp2_with fail
      go_at_call 49
      refine C.out.mono ?_
      rintro e w2 ⟨rfl, hb2⟩
      have HB2 := Lib.hid hb2
      clear hb2
      go_wp2_with fail
      go_ret
      exact ⟨false, rfl, iffF (fun h => HI.out.mp h H1.out), HB2.out⟩
    · have C := Lib.hid (C.mono fun _ _ j => j.no hb)
      have H1 := Lib.hid hb
      clear hb
      go_enter Try.func42, Try.ntmps42
      go_wp2_with fail
      go_at_call 49
      refine C.out.mono ?_
      rintro e w2 ⟨rfl, hb2⟩
      have HB2 := Lib.hid hb2
      clear hb2
      go_wp2_with fail
      go_ret
      exact ⟨true, rfl, iffT (HI.out.mpr H1.out), HB2.out⟩
  · have HN : Hid (¬ RowOk ks) := Lib.hid (fun h => h24 h.1)
    have h24i : ¬ (ks.length : Int) ≤ 24 := by omega
    clear h24 C
    go_enter Try.func42, Try.ntmps42
    go_wp2_with fail
    go_ret
    exact ⟨false, rfl, iffF HN.out, Below.refl _ _⟩

set_option maxHeartbeats 1000000 in
theorem l09Ok_any (ks : List Ty) (hl : ks.length ≤ 1048576) (hw : ∀ (i : Nat) (t : Ty), ks[i]? = some t → t.wt ≤ 1048576) (B : Option Addr) (cb lo : Nat) (w : World) (h : Ty.RowAt w lo ks B) :
    Calls Try.prog 39 #[.slice B ks.length cb] w (SaysB (RowOk ks) w) := by
  have HR := Lib.hid h
  have HW := Lib.hid hw
  have HI := Lib.hid (fun h => @RowOk.iff ks h)
  clear h hw
  go_enter Try.func39, Try.ntmps39
  go_wp2_with fail
  go_loopw [3] (fun i wr => ∃ k : Nat, k ≤ ks.length ∧ k ≤ 25 ∧ i = .int .i64 k ∧ Hid (¬ BadTo ks k) ∧ Below w.heap.size w wr) (fun i _ => ks.length - (intOf i).toNat)
  case atStart => exact ⟨0, Nat.zero_le _, by omega, rfl, (fun ⟨i, u, hi, _⟩ => by omega), Below.refl _ _⟩
  case round =>
    obtain ⟨k, hk, hk25, rfl, hno, hbel⟩ := hrel
    by_cases hlt : k < ks.length
    · have hli : (k : Int) < (ks.length : Int) := by omega
      by_cases h24 : k ≤ 24
      · have h24i : (k : Int) ≤ 24 := by omega
        obtain ⟨b, o, t, A', B', ca', cb', rfl, _, htk, hc⟩ := (HR.out.below hbel).at_ hlt
        have C := specTypeOk_any t (HW.out k t htk) A' B' ca' cb' lo wr hc.tree
        obtain ⟨c0, c1, c2, c3, _⟩ := hc
        have HT := Lib.hid htk
        have HB := Lib.hid hbel
        clear htk hbel
        by_cases h1 : t.Ok
        · have C := Lib.hid (C.mono fun _ _ j => j.yes h1)
          have H1 := Lib.hid h1
          clear h1
          go_wp2_with fail
          go_at_call 28
          refine C.out.mono ?_
          rintro e w2 ⟨rfl, hb2⟩
          have HB2 := Lib.hid (bnext HB.out hb2)
          clear hb2
          go_wp2_with fail
          go_roundw
          case rel => exact ⟨k + 1, by omega, by omega, by go_num, BadTo.no_step hno.out HT.out H1.out, HB2.out⟩
          case measure => simp [intOf]; omega
        · have C := Lib.hid (C.mono fun _ _ j => j.no h1)
          have H1 := Lib.hid h1
          clear h1
          go_wp2_with fail
          go_at_call 28
          refine C.out.mono ?_
          rintro e w2 ⟨rfl, hb2⟩
          have HB2 := Lib.hid (bnext HB.out hb2)
          clear hb2
          go_wp2_with fail
          go_ret
          exact ⟨false, rfl, iffF (fun h => H1.out (h.2 k t HT.out)), HB2.out⟩
      · have h24i : ¬ (k : Int) ≤ 24 := by omega
        have hl24 : ¬ (ks.length : Int) ≤ 24 := by omega
        have HB := Lib.hid hbel
        clear hbel
        go_wp2_with fail
        go_ret
        exact ⟨false, by first | rfl | exact ret_bool (decide_eq_false (by omega)), iffF (fun h => by have := h.1; omega), HB.out⟩
    · have hli : ¬ (k : Int) < (ks.length : Int) := by omega
      have hk' : k = ks.length := by omega
      have HB := Lib.hid hbel
      clear hbel
      by_cases h24 : ks.length ≤ 24
      · have h24i : (ks.length : Int) ≤ 24 := by omega
        have H1 := Lib.hid ((HI.out h24).mpr (by rw [← hk']; exact hno.out))
        go_wp2_with fail
        go_ret
        exact ⟨true, by first | rfl | exact ret_bool (decide_eq_true (by omega)), iffT H1.out, HB.out⟩
      · have h24i : ¬ (ks.length : Int) ≤ 24 := by omega
        go_wp2_with fail
        go_ret
        exact ⟨false, by first | rfl | exact ret_bool (decide_eq_false (by omega)), iffF (fun h => by have := h.1; omega), HB.out⟩

end Go.Proofs.Ytlmmbheamicdaab

namespace Go.Proofs.Ytlmmbheamicdaab
open Go.ChangeShapes Go.WideShapes Go.ChangeAt Go.RowKit Go.Deep

set_option maxHeartbeats 2000000 in
set_option maxRecDepth 100000 in
theorem implCases_any (T : Ty) (ho : T.Ok) (A B : Option Addr) (ca cb lo : Nat) (w : World) (hat : Ty.At w lo T A B) :
    Calls Try.prog 33 #[.agg #[.int .i64 T.kind, .string T.name, .slice A T.labels.length ca, .slice B T.kids.length cb]] w fun e w' => ∃ (R : Option Addr) (c : Nat), e = .returned (.slice R T.cases.length c) ∧ Ty.RowAt w' lo T.cases R ∧ Below w.heap.size w w' := by
  have HB := ((Ty.sound_eq T).1 ho.2).1.2
  have HR := Lib.hid hat.rowAt
  by_cases e13 : T.kind = 13
  · have ec : T.cases = unitTy :: T.kids := by unfold Ty.cases; rw [if_pos e13]
    have hl : T.kids.length = 1 := by
      unfold BodyOk at HB
      rw [if_pos (Or.inr e13)] at HB
      exact HB.1
    rw [ec, show (unitTy :: T.kids).length = 2 by rw [List.length_cons, hl]]
    obtain ⟨b, o, t, A', B', ca', cb', rfl, hlo, htk, hc⟩ := HR.out.at_ (by omega : 0 < T.kids.length)
    have HC := Lib.hid hc.tree
    obtain ⟨c0, c1, c2, c3, _⟩ := hc
    have hli : (0 : Int) < (T.kids.length : Int) := by omega
    have lb : b < w.heap.size := World.block_lt_of_cell? w _ c0
    have HTK := Lib.hid htk
    have HL := Lib.hid hl
    have hle : (T.kids.length : Int) = 1 := by omega
    simp only [Nat.zero_mul, Nat.add_zero] at c0 c1 c2 c3
    clear HB htk hl ho hat
    go_enter Try.func33, Try.ntmps33
    go_wp2_with fail
    go_ret
    refine ⟨_, _, rfl, fun _ => ⟨w.heap.size + 1, 0, rfl, by omega, fun i x hx => ?_⟩, below2 _ _ _⟩
    cases i with
    | zero =>
      simp at hx
      subst hx
      refine ⟨none, none, 0, 0, ?_, ?_, ?_, ?_, unit_at _ _⟩ <;> (simp [unitTy, Ty.kind, Ty.name, Ty.labels, Ty.kids]; try go_simp)
    | succ i =>
      have hi : i = 0 := by
        have h1 := (List.getElem?_eq_some_iff.1 hx).1
        rw [List.length_cons, HL.out] at h1
        omega
      subst hi
      have hxt : x = t := by
        have h1 := HTK.out
        rw [List.getElem?_cons_succ] at hx
        rw [h1] at hx
        exact (Option.some.inj hx).symm
      subst hxt
      refine ⟨A', B', ca', cb', ?_, ?_, ?_, ?_, HC.out.below (below2 _ _ _)⟩ <;> go_simp
  · by_cases e14 : T.kind = 14 ∨ T.kind = 17
    · have ec : T.cases = T.kids := by unfold Ty.cases; rw [if_neg e13, if_pos e14]
      rw [ec]
      clear ec HB ho
      rcases e14 with e14 | e14
      · go_enter Try.func33, Try.ntmps33
        go_wp2_with fail
        go_ret
        exact ⟨_, _, rfl, HR.out.below (below1 _ _), below1 _ _⟩
      · go_enter Try.func33, Try.ntmps33
        go_wp2_with fail
        go_ret
        exact ⟨_, _, rfl, HR.out.below (below1 _ _), below1 _ _⟩
    · have ec : T.cases = [] := by unfold Ty.cases; rw [if_neg e13, if_neg e14]
      rw [ec]
      have f1 : ¬ T.kind = 14 := fun h => e14 (Or.inl h)
      have f2 : ¬ T.kind = 17 := fun h => e14 (Or.inr h)
      clear ec HB ho e14
      go_enter Try.func33, Try.ntmps33
      go_wp2_with fail
      go_ret
      exact ⟨_, _, rfl, fun hp => absurd hp (by simp), below1 _ _⟩
end Go.Proofs.Ytlmmbheamicdaab

