/-
  The walks of both HasHandles.
-/
import Derived.Test.YtlmmbheamicdaaaTyIn
namespace Go.Proofs.Ytlmmbheamicdaaa
open Go.ChangeShapes Go.WideShapes Go.ChangeAt Go.RowKit Go.Deep

/-- A valid type with a handle in it. -/
def HandleIn (T : Ty) : Prop := T.Ok ∧ T.has (inB 20 21) = true

theorem specHandle_any (T : Ty) (hT : T.wt ≤ 1048576) (A B : Option Addr) (ca cb lo : Nat) (w : World) (hat : Ty.At w lo T A B) :
    Calls Try.prog 21 #[.agg #[.int .i64 T.kind, .string T.name, .slice A T.labels.length ca, .slice B T.kids.length cb]] w (SaysB (HandleIn T) w) := by
  have CO := fun W h => l03Ok_any T hT A B ca cb lo W h
  have CH := Lib.hid (fun W h => l03Has_any 20 21 T hT A B ca cb lo W h)
  have HA := Lib.hid hat
  clear hat hT
  by_cases ho : T.Ok
  · have CO' := Lib.hid (fun W h => (CO W h).mono fun _ _ k => k.yes ho)
    have HO := Lib.hid ho
    clear ho CO
    go_enter Try.func21, Try.ntmps21
    go_wp2_with fail
    go_at_call 51
    refine (CO'.out _ (HA.out.below (below1 _ _))).mono ?_
    rintro e w2 ⟨rfl, hb2⟩
    have k0 := keepCell (a := ⟨w.heap.size, 0, none⟩) (v := .int .i64 T.kind) hb2 (by go_simp)
    have k1 := keepCell (a := ⟨w.heap.size, 1, none⟩) (v := .string T.name) hb2 (by go_simp)
    have k2 := keepCell (a := ⟨w.heap.size, 2, none⟩) (v := .slice A T.labels.length ca) hb2 (by go_simp)
    have k3 := keepCell (a := ⟨w.heap.size, 3, none⟩) (v := .slice B T.kids.length cb) hb2 (by go_simp)
    have HB2 := Lib.hid (bnext (below1 _ _) hb2)
    clear hb2
    go_wp2_with fail
    go_at_call 56
    refine (CH.out _ (HA.out.below HB2.out)).mono ?_
    rintro e w3 ⟨rfl, hb3⟩
    have HB3 := Lib.hid (bnext HB2.out hb3)
    clear hb3
    go_wp2_with fail
    go_ret
    exact ⟨_, rfl, ⟨fun h => ⟨HO.out, h⟩, fun h => h.2⟩, HB3.out⟩
  · have CO' := Lib.hid (fun W h => (CO W h).mono fun _ _ k => k.no ho)
    have HO := Lib.hid ho
    clear ho CO
    go_enter Try.func21, Try.ntmps21
    go_wp2_with fail
    go_at_call 51
    refine (CO'.out _ (HA.out.below (below1 _ _))).mono ?_
    rintro e w2 ⟨rfl, hb2⟩
    have HB2 := Lib.hid (bnext (below1 _ _) hb2)
    clear hb2
    go_wp2_with fail
    go_ret
    exact ⟨false, rfl, iffF (fun h => HO.out h.1), HB2.out⟩

theorem isHandle_any (k : Int) (n : ByteArray) (A B : Option Addr) (l m ca cb : Nat) (w : World) :
    Calls Try.prog 58 #[.agg #[.int .i64 k, .string n, .slice A l ca, .slice B m cb]] w fun e w' => e = .returned (.bool (inB 20 21 k)) ∧ Below w.heap.size w w' := by
  by_cases h1 : k = 20
  · subst h1
    go_enter Try.func58, Try.ntmps58
    go_wp2
    go_ret
    exact ⟨rfl, below1 _ _⟩
  · by_cases h2 : k = 21
    · subst h2
      go_enter Try.func58, Try.ntmps58
      go_wp2
      go_ret
      exact ⟨rfl, below1 _ _⟩
    · have e1 : (k == 20) = false := by rw [beq_eq_false_iff_ne]; exact h1
      have e2 : (k == 21) = false := by rw [beq_eq_false_iff_ne]; exact h2
      have e3 : inB 20 21 k = false := by
        unfold inB
        rw [Bool.and_eq_false_iff, decide_eq_false_iff_not, decide_eq_false_iff_not]
        omega
      rw [e3]
      clear e3
      go_enter Try.func58, Try.ntmps58
      go_wp2
      go_ret
      exact ⟨rfl, below1 _ _⟩

mutual
theorem Ty.has_parts (p : Int → Bool) : ∀ T : Ty, T.has p = true ↔ ∃ x ∈ T.parts, p x.kind = true
  | .mk k n l ks => by
    rw [Ty.has, Ty.parts, Bool.or_eq_true, Ty.hass_parts p ks]
    simp [Ty.kind]
theorem Ty.hass_parts (p : Int → Bool) : ∀ ks : List Ty, Ty.hass p ks = true ↔ ∃ x ∈ Ty.partss ks, p x.kind = true
  | [] => by simp [Ty.hass, Ty.partss]
  | t :: ts => by
    rw [Ty.hass, Ty.partss, Bool.or_eq_true, Ty.has_parts p t, Ty.hass_parts p ts]
    simp only [List.mem_append]
    constructor
    · rintro (⟨x, h1, h2⟩ | ⟨x, h1, h2⟩)
      · exact ⟨x, Or.inl h1, h2⟩
      · exact ⟨x, Or.inr h1, h2⟩
    · rintro ⟨x, h1 | h1, h2⟩
      · exact Or.inl ⟨x, h1, h2⟩
      · exact Or.inr ⟨x, h1, h2⟩
end

/-- Some of the first so many is a handle. -/
def HandTo (tvs : List TV) (n : Nat) : Prop := ∃ (i : Nat) (x : TV), i < n ∧ tvs[i]? = some x ∧ inB 20 21 x.t.kind = true
theorem HandTo.no_step {tvs : List TV} {k : Nat} {x : TV} (h : ¬ HandTo tvs k) (hx : tvs[k]? = some x) (h1 : inB 20 21 x.t.kind = false) : ¬ HandTo tvs (k + 1) := fun ⟨i, y, hi, hy, hk⟩ => by
  by_cases e : i = k
  · subst e
    rw [hx] at hy
    cases hy
    rw [h1] at hk
    cases hk
  · exact h ⟨i, y, by omega, hy, hk⟩

def TVRow (w : World) (g : Nat) (tvs : List TV) : Prop := ∀ (i : Nat) (x : TV), tvs[i]? = some x → w.cell? ⟨g, i * 4, none⟩ = some (.int .i64 x.t.kind) ∧ w.cell? ⟨g, i * 4 + 1, none⟩ = some (.string x.t.name) ∧ w.cell? ⟨g, i * 4 + 2, none⟩ = some (.slice x.A x.t.labels.length x.ca) ∧ w.cell? ⟨g, i * 4 + 3, none⟩ = some (.slice x.B x.t.kids.length x.cb)

theorem idxHandle_any (tvs : List TV) (hl : tvs.length ≤ 24) (g cap : Nat) (w : World) (h : TVRow w g tvs) :
    Calls Try.prog 80 #[.slice (some ⟨g, 0, none⟩) tvs.length cap, .func (.func 58) #[] #[]] w (IdxPost (HandTo tvs tvs.length) w) := by
  have HR := Lib.hid h
  clear h
  go_enter Try.func80, Try.ntmps80
  go_wp2_with fail
  go_loopw [8] (fun i wr => ∃ k : Nat, k ≤ tvs.length ∧ i = .int .i64 k ∧ Hid (¬ HandTo tvs k) ∧ Below w.heap.size w wr) (fun i _ => tvs.length - (intOf i).toNat)
  case atStart => exact ⟨0, Nat.zero_le _, rfl, (fun ⟨i, u, hi, _⟩ => by omega), Below.refl _ _⟩
  case round =>
    obtain ⟨k, hk, rfl, hno, hbel⟩ := hrel
    by_cases hlt : k < tvs.length
    · obtain ⟨x, hx⟩ : ∃ x, tvs[k]? = some x := ⟨_, List.getElem?_eq_getElem hlt⟩
      obtain ⟨a0, a1, a2, a3⟩ := HR.out k x hx
      have c0 := keepCell hbel a0
      have c1 := keepCell hbel a1
      have c2 := keepCell hbel a2
      have c3 := keepCell hbel a3
      have C := Lib.hid (fun W => isHandle_any x.t.kind x.t.name x.A x.B x.t.labels.length x.t.kids.length x.ca x.cb W)
      have HT := Lib.hid hx
      have HB := Lib.hid hbel
      clear hx hbel a0 a1 a2 a3
      cases hv : inB 20 21 x.t.kind with
      | true =>
        rw [hv] at C
        have HV := Lib.hid hv
        clear hv
        go_wp2_with (go_at_call 58; (with_reducible refine (C.out _).mono ?_); rintro e w2 ⟨rfl, hb2⟩; have HB2 := Lib.hid hb2; clear hb2)
        go_ret
        exact ⟨k, rfl, by omega, ⟨fun _ => ⟨k, x, hlt, HT.out, HV.out⟩, fun _ => by omega⟩, bnext HB.out HB2.out⟩
      | false =>
        rw [hv] at C
        have HV := Lib.hid hv
        clear hv
        go_wp2_with (go_at_call 58; (with_reducible refine (C.out _).mono ?_); rintro e w2 ⟨rfl, hb2⟩; have HB2 := Lib.hid hb2; clear hb2)
        go_roundw
        case rel => exact ⟨k + 1, by omega, by go_num, HandTo.no_step hno.out HT.out HV.out, bnext HB.out HB2.out⟩
        case measure => simp [intOf]; omega
    · have hk' : k = tvs.length := by omega
      have HB := Lib.hid hbel
      clear hbel
      go_wp2
      go_ret
      exact ⟨-1, rfl, by omega, ⟨(fun h => by omega), (fun h => absurd (by rw [hk']; exact h) hno.out)⟩, HB.out⟩
theorem idxHandle_none (w : World) :
    Calls Try.prog 80 #[.slice none 0 0, .func (.func 58) #[] #[]] w fun e w' => e = .returned (.int .i64 (-1)) ∧ Below w.heap.size w w' := by
  go_enter Try.func80, Try.ntmps80
  go_wp2_with fail
  go_loopw [8] (fun i wr => i = .int .i64 0 ∧ Below w.heap.size w wr) (fun _ _ => 0)
  case atStart => exact ⟨rfl, Below.refl _ _⟩
  case round =>
    obtain ⟨rfl, hbel⟩ := hrel
    have HB := Lib.hid hbel
    clear hbel
    go_wp2
    go_ret
    exact ⟨rfl, HB.out⟩
theorem contHandle_any (tvs : List TV) (hl : tvs.length ≤ 24) (g cap : Nat) (w : World) (h : TVRow w g tvs) :
    Calls Try.prog 57 #[.slice (some ⟨g, 0, none⟩) tvs.length cap, .func (.func 58) #[] #[]] w (SaysB (HandTo tvs tvs.length) w) := by
  have C := Lib.hid (idxHandle_any tvs hl g cap w h)
  clear h
  go_enter Try.func57, Try.ntmps57
  go_wp2_with (go_at_call 80; (with_reducible refine C.out.mono ?_); rintro e w2 ⟨v, rfl, hv1, hv, hb2⟩; have HV := Lib.hid hv; have HB2 := Lib.hid hb2; clear hv hb2)
  go_ret
  exact ⟨decide (0 ≤ v), rfl, by rw [decide_eq_true_iff]; exact HV.out, HB2.out⟩
theorem contHandle_none (w : World) :
    Calls Try.prog 57 #[.slice none 0 0, .func (.func 58) #[] #[]] w fun e w' => e = .returned (.bool false) ∧ Below w.heap.size w w' := by
  have C := Lib.hid (idxHandle_none w)
  go_enter Try.func57, Try.ntmps57
  go_wp2_with (go_at_call 80; (with_reducible refine C.out.mono ?_); rintro e w2 ⟨rfl, hb2⟩; have HB2 := Lib.hid hb2; clear hb2)
  go_ret
  exact ⟨rfl, HB2.out⟩

theorem hand_parts {T : Ty} {w : World} {lo : Nat} {tvs : List TV} (h : PartsAt w lo T.parts tvs) : HandTo tvs tvs.length ↔ T.has (inB 20 21) = true := by
  rw [Ty.has_parts, ← h.1]
  constructor
  · rintro ⟨i, x, _, hx, hk⟩
    exact ⟨x.t, List.mem_map_of_mem (List.mem_of_getElem? hx), hk⟩
  · rintro ⟨y, hy, hk⟩
    obtain ⟨x, hx, rfl⟩ := List.mem_map.1 hy
    obtain ⟨i, hi⟩ := List.getElem?_of_mem hx
    exact ⟨i, x, (List.getElem?_eq_some_iff.1 hi).1, hi, hk⟩

theorem implHandle_any (T : Ty) (lo : Nat) (hT : T.wt ≤ 1048576) (A B : Option Addr) (ca cb : Nat) (w : World) (hat : Ty.At w lo T A B) (hm : MaxC w) :
    Calls Try.prog 22 #[.agg #[.int .i64 T.kind, .string T.name, .slice A T.labels.length ca, .slice B T.kids.length cb]] w (SaysB (HandleIn T) w) := by
  have C := partsIn_any T lo hT A B ca cb (w.alloc (.cells #[.int .i64 T.kind, .string T.name, .slice A T.labels.length ca, .slice B T.kids.length cb] 30)) (hat.below (below1 _ _)) (hm.keep (below1 _ _))
  clear hat hm hT
  by_cases ho : T.Ok
  · have C' := Lib.hid (C.mono fun _ _ h => h.1 ho)
    have HO := Lib.hid ho
    have hs : T.size ≤ 24 := ho.1.2
    clear C ho
    go_enter Try.func22, Try.ntmps22
    go_wp2_with fail
    go_at_call 55
    refine C'.out.mono ?_
    rintro e w2 ⟨g, cap, tvs, rfl, _, hrow, hpat, hb⟩
    have HB := Lib.hid (bnext (below1 _ _) hb)
    have HP := Lib.hid (hand_parts hpat)
    have hlen : T.size = tvs.length := by rw [← T.parts_length, ← hpat.1, List.length_map]
    rw [hlen] at hs
    rw [hlen]
    have CC := Lib.hid (contHandle_any tvs hs g cap w2 hrow)
    clear hb C' hpat hlen hrow
    go_wp2_with fail
    go_at_call 57
    refine CC.out.mono ?_
    rintro e w3 ⟨v, rfl, hv, hb3⟩
    have HB3 := Lib.hid (bnext HB.out hb3)
    have HV := Lib.hid hv
    clear hb3 hv CC
    go_wp2_with fail
    go_ret
    exact ⟨v, rfl, ⟨fun h => ⟨HO.out, HP.out.mp (HV.out.mp h)⟩, fun h => HV.out.mpr (HP.out.mpr h.2)⟩, HB3.out⟩
  · have C' := Lib.hid (C.mono fun _ _ h => h.2 ho)
    have HO := Lib.hid ho
    clear C ho
    go_enter Try.func22, Try.ntmps22
    go_wp2_with fail
    go_at_call 55
    refine C'.out.mono ?_
    rintro e w2 ⟨rfl, hb⟩
    have HB := Lib.hid (bnext (below1 _ _) hb)
    clear hb C'
    go_wp2_with fail
    go_at_call 57
    refine (contHandle_none _).mono ?_
    rintro e w3 ⟨rfl, hb3⟩
    have HB3 := Lib.hid (bnext HB.out hb3)
    clear hb3
    go_wp2_with fail
    go_ret
    exact ⟨false, rfl, iffF (fun h => HO.out h.1), HB3.out⟩
end Go.Proofs.Ytlmmbheamicdaaa
