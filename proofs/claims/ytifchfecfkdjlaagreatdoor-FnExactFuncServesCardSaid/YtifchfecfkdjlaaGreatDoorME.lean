/-
  TyShapeP, TyImpl1, TyDist, Places, RowGen: in one text.
-/
import Derived.Test.YtifchfecfkdjlaaGreatDoorMD
import Derived.Maps.OwnSet
import Derived.Carry
import Derived.Test.YtifchfecfkdjlaaGreatDoorMB
import Derived.Test.YtifchfecfkdjlaaGreatDoorMA
import Derived.Laws.IdiomCopy
namespace Go.Proofs.YtifchfecfkdjlaaGreatDoor
open Go.ChangeShapes Go.WideShapes Go.ChangeAt Go.RowKit Go.Deep

def IsRes (k : Int) : Prop := k = 20 ∨ k = 21
def IsLab (k : Int) : Prop := 16 ≤ k ∧ k ≤ 19
def HeadOk (T : Ty) : Prop := (IsRes T.kind → nmB T.name = true) ∧ (¬ IsRes T.kind → T.name.size = 0) ∧ (IsLab T.kind → LabelsOk T.labels) ∧ (¬ IsLab T.kind → T.labels.length = 0)
def BodyOk (T : Ty) : Prop :=
  if T.kind = 12 ∨ T.kind = 13 then T.kids.length = 1 ∧ ¬ UnitIn T.kids T.kids.length
  else if T.kind = 22 ∨ T.kind = 23 then T.kids.length = 1 ∧ ∀ t, T.kids[0]? = some t → t.has (inB 21 21) = false
  else if T.kind = 14 then T.kids.length = 2
  else if T.kind = 15 then (1 ≤ T.kids.length ∧ T.kids.length ≤ 6) ∧ ¬ UnitIn T.kids T.kids.length
  else if T.kind = 16 then T.kids.length = T.labels.length ∧ ¬ UnitIn T.kids T.kids.length
  else if T.kind = 17 then T.kids.length = T.labels.length
  else (1 ≤ T.kind ∧ T.kind ≤ 23) ∧ T.kids.length = 0
/-- A type's own fields are as the table asks. -/
def ShapeOk (T : Ty) : Prop := HeadOk T ∧ BodyOk T

theorem Ty.kid0 {T : Ty} (h : T.kids.length = 1) (p : Int → Bool) : (∀ t, T.kids[0]? = some t → t.has p = true) ∨ ∀ t, T.kids[0]? = some t → t.has p = false := by
  have h0 : T.kids[0]? = some (T.kids[0]'(by omega)) := List.getElem?_eq_getElem (by omega)
  cases hv : (T.kids[0]'(by omega)).has p with
  | true => exact Or.inl fun t ht => by rw [h0] at ht; cases ht; exact hv
  | false => exact Or.inr fun t ht => by rw [h0] at ht; cases ht; exact hv
end Go.Proofs.YtifchfecfkdjlaaGreatDoor

namespace Go.Proofs.YtifchfecfkdjlaaGreatDoor
open Go.ChangeShapes Go.WideShapes Go.ChangeAt Go.RowKit Go.Deep

def MenTy (c : Int) (T : Ty) : Prop := ∀ (A B : Option Addr) (ca cb lo : Nat) (w : World), Ty.At w lo T A B →
  Calls Tryz.prog 80 #[.agg #[.int .i64 T.kind, .string T.name, .slice A T.labels.length ca, .slice B T.kids.length cb], .int .i64 c] w fun e w' => e = .returned (.bool (T.has (inB c c))) ∧ Below w.heap.size w w'

theorem inB_one (c k : Int) : inB c c k = (k == c) := by
  unfold inB
  by_cases h : k = c
  · subst h
    simp
  · rw [show (k == c) = false by rw [beq_eq_false_iff_ne]; exact h]
    simp
    omega

theorem mentions_any (c : Int) (T : Ty) (hT : T.wt ≤ 1048576) : MenTy c T := by
  induction T using Ty.kidInd with
  | h T ih =>
    intro A B ca cb lo w hat
    obtain ⟨q1, q2, q3, _, _⟩ := Ty.len_le hT
    have IH : Hid (∀ (i : Nat) (t : Ty), T.kids[i]? = some t → MenTy c t) := Lib.hid (fun i t ht => ih i t ht (q3 i t ht))
    have HR := Lib.hid hat.rowAt
    have HE := Lib.hid (Ty.has_eq (inB c c) T)
    have hk1 := inB_one c T.kind
    clear ih hat q3 hT
    obtain ⟨V, hV⟩ : ∃ V, T.has (inB c c) = V := ⟨_, rfl⟩
    rw [hV] at HE
    rw [hV]
    clear hV
    cases hk : T.kind == c with
    | true =>
      rw [hk] at hk1
      have HK := Lib.hid hk1
      clear hk1
      go_enter Tryz.func80, Tryz.ntmps80
      go_wp2
      go_ret
      exact ⟨ret_bool (by have := HE.out; rw [HK.out] at this; simpa using this.symm), below1 _ _⟩
    | false =>
      rw [hk] at hk1
      have HK := Lib.hid hk1
      clear hk1
      go_enter Tryz.func80, Tryz.ntmps80
      go_wp2_with fail
      go_loopw [14] (fun i wr => ∃ k : Nat, k ≤ T.kids.length ∧ i = .int .i64 k ∧ Hid (Ty.hass (inB c c) (T.kids.take k) = false) ∧ Below w.heap.size w wr) (fun i _ => T.kids.length - (intOf i).toNat)
      case atStart => exact ⟨0, Nat.zero_le _, rfl, by simp [Hid, Ty.hass], below1 _ _⟩
      case round =>
        obtain ⟨k, hk, rfl, hno, hbel⟩ := hrel
        by_cases hlt : k < T.kids.length
        · obtain ⟨b, o, t, A', B', ca', cb', rfl, _, htk, hc⟩ := (HR.out.below hbel).at_ hlt
          have C : Hid (∀ W : World, Ty.At W lo t A' B' → Calls Tryz.prog 80 #[.agg #[.int .i64 t.kind, .string t.name, .slice A' t.labels.length ca', .slice B' t.kids.length cb'], .int .i64 c] W fun e w' => e = .returned (.bool (t.has (inB c c))) ∧ Below W.heap.size W w') := Lib.hid (fun W hW => IH.out k t htk A' B' ca' cb' lo W hW)
          have HTR := Lib.hid hc.tree
          have HS := Lib.hid (Ty.hass_take (p := inB c c) htk)
          obtain ⟨c0, c1, c2, c3, _⟩ := hc
          have lb : b < wr.heap.size := World.block_lt_of_cell? wr _ c0
          have HB := Lib.hid hbel
          clear htk hbel
          cases hv : t.has (inB c c) with
          | true =>
            rw [hv] at C HS
            clear hv
            go_wp2_with (go_at_call 80; (with_reducible refine (C.out _ (HTR.out.below (below1 _ _))).mono ?_); rintro e w2 ⟨rfl, hb2⟩; have HB2 := Lib.hid (bnext (below1 _ _) hb2); clear hb2)
            go_ret
            refine ⟨ret_bool ?_, bnext HB.out HB2.out⟩
            have h1 := Ty.hass_of_take (p := inB c c) (ks := T.kids) (i := k + 1) (by rw [HS.out]; simp)
            rw [HE.out, h1]
            simp
          | false =>
            rw [hv] at C HS
            clear hv
            go_wp2_with (go_at_call 80; (with_reducible refine (C.out _ (HTR.out.below (below1 _ _))).mono ?_); rintro e w2 ⟨rfl, hb2⟩; have HB2 := Lib.hid (bnext (below1 _ _) hb2); clear hb2)
            go_roundw
            case rel => exact ⟨k + 1, by omega, by go_num, by have h1 := hno.out; have h2 := HS.out; rw [h1] at h2; exact h2, bnext HB.out HB2.out⟩
            case measure => simp [intOf]; omega
        · have hk' : k = T.kids.length := by omega
          have HB := Lib.hid hbel
          clear hbel
          go_wp2
          go_ret
          refine ⟨ret_bool ?_, HB.out⟩
          have h1 := hno.out
          rw [hk', List.take_length] at h1
          rw [HE.out, HK.out, h1]
          rfl

theorem isUnit_any (k : Int) (n : ByteArray) (A B : Option Addr) (l m ca cb : Nat) (w : World) :
    Calls Tryz.prog 56 #[.agg #[.int .i64 k, .string n, .slice A l ca, .slice B m cb]] w fun e w' => e = .returned (.bool (k == 1)) ∧ Below w.heap.size w w' := by
  go_enter Tryz.func56, Tryz.ntmps56
  go_wp2
  go_ret
  exact ⟨rfl, below1 _ _⟩

/-- What IndexFunc leaves: a place or -1. -/
def IdxPost (p : Prop) (w : World) (e : Ending) (w' : World) : Prop := ∃ v : Int, e = .returned (.int .i64 v) ∧ -1 ≤ v ∧ (0 ≤ v ↔ p) ∧ Below w.heap.size w w'
theorem idxUnit_any (ks : List Ty) (hl : ks.length ≤ 1048576) (B : Option Addr) (cb lo : Nat) (w : World) (h : Ty.RowAt w lo ks B) :
    Calls Tryz.prog 155 #[.slice B ks.length cb, .func (.func 56) #[] #[]] w (IdxPost (UnitIn ks ks.length) w) := by
  have HR := Lib.hid h
  clear h
  go_enter Tryz.func155, Tryz.ntmps155
  go_wp2_with fail
  go_loopw [8] (fun i wr => ∃ k : Nat, k ≤ ks.length ∧ i = .int .i64 k ∧ Hid (¬ UnitIn ks k) ∧ Below w.heap.size w wr) (fun i _ => ks.length - (intOf i).toNat)
  case atStart => exact ⟨0, Nat.zero_le _, rfl, (fun ⟨i, u, hi, _⟩ => by omega), Below.refl _ _⟩
  case round =>
    obtain ⟨k, hk, rfl, hno, hbel⟩ := hrel
    by_cases hlt : k < ks.length
    · obtain ⟨b, o, t, A', B', ca', cb', rfl, _, htk, hc⟩ := (HR.out.below hbel).at_ hlt
      have C := Lib.hid (fun W => isUnit_any t.kind t.name A' B' t.labels.length t.kids.length ca' cb' W)
      obtain ⟨c0, c1, c2, c3, _⟩ := hc
      have HT := Lib.hid htk
      have HB := Lib.hid hbel
      clear htk hbel
      by_cases h1 : t.kind = 1
      · rw [show (t.kind == 1) = true by rw [beq_iff_eq]; exact h1] at C
        have H1 := Lib.hid h1
        clear h1
        go_wp2_with (go_at_call 56; (with_reducible refine (C.out _).mono ?_); rintro e w2 ⟨rfl, hb2⟩; have HB2 := Lib.hid hb2; clear hb2)
        go_ret
        exact ⟨k, rfl, by omega, ⟨fun _ => ⟨k, t, hlt, HT.out, H1.out⟩, fun _ => by omega⟩, bnext HB.out HB2.out⟩
      · rw [show (t.kind == 1) = false by rw [beq_eq_false_iff_ne]; exact h1] at C
        have H1 := Lib.hid h1
        clear h1
        go_wp2_with (go_at_call 56; (with_reducible refine (C.out _).mono ?_); rintro e w2 ⟨rfl, hb2⟩; have HB2 := Lib.hid hb2; clear hb2)
        go_roundw
        case rel => exact ⟨k + 1, by omega, by go_num, UnitIn.no_step hno.out HT.out H1.out, bnext HB.out HB2.out⟩
        case measure => simp [intOf]; omega
    · have hk' : k = ks.length := by omega
      have HB := Lib.hid hbel
      clear hbel
      go_wp2
      go_ret
      exact ⟨-1, rfl, by omega, ⟨(fun h => by omega), (fun h => absurd (by rw [hk']; exact h) hno.out)⟩, HB.out⟩

theorem contUnit_any (ks : List Ty) (hl : ks.length ≤ 1048576) (B : Option Addr) (cb lo : Nat) (w : World) (h : Ty.RowAt w lo ks B) :
    Calls Tryz.prog 154 #[.slice B ks.length cb, .func (.func 56) #[] #[]] w (SaysB (UnitIn ks ks.length) w) := by
  have C := Lib.hid (idxUnit_any ks hl B cb lo w h)
  clear h
  go_enter Tryz.func154, Tryz.ntmps154
  go_wp2_with (go_at_call 155; (with_reducible refine C.out.mono ?_); rintro e w2 ⟨v, rfl, hv1, hv, hb2⟩; have HV := Lib.hid hv; have HB2 := Lib.hid hb2; clear hv hb2)
  go_ret
  exact ⟨decide (0 ≤ v), rfl, by rw [decide_eq_true_iff]; exact HV.out, HB2.out⟩
end Go.Proofs.YtifchfecfkdjlaaGreatDoor

namespace Go.Proofs.YtifchfecfkdjlaaGreatDoor
open Go.ChangeShapes Go.WideShapes Go.ChangeAt Go.RowKit Go.Deep Go.Maps

theorem keyed9 : Keyed Tryz.prog 9 := string_keyed Tryz.underlying9
theorem zeroBool (w : World) : (zeroValue 4).run Tryz.prog w = .ok (.bool false) w := by kernel_rfl
theorem plainElem_bool_inv {H : Type} {P : Program} {e : TypeId} (he : P.underlying e = some .bool) {v : Value} {z : DataW H × List MemPlace} (h : plainElem P e v = some z) : ∃ b, v = .bool b ∧ z = (.lit (.bool b), []) := by
  unfold plainElem at h
  rw [he] at h
  cases v <;> simp at h
  subst h
  exact ⟨_, rfl, rfl⟩

/-- The set holds the first so many. -/
def SeenTo (D : DataW Unit) (ls : List ByteArray) (k : Nat) : Prop := IsMap D ∧ ∀ s : ByteArray, ∃ b : Bool, D.atKey (.string s.data.toList) (.lit (.bool false)) = .lit (.bool b) ∧ (b = true ↔ ∃ j, j < k ∧ ls[j]? = some s)
theorem SeenTo.start (ls : List ByteArray) : SeenTo (.map []) ls 0 := ⟨isMap_empty, fun s => ⟨false, rfl, ⟨(fun e => by cases e), (fun ⟨j, hj, _⟩ => by omega)⟩⟩⟩
theorem data_inj {a b : ByteArray} (h : a.data.toList = b.data.toList) : a = b := ByteArray.ext (Array.toList_inj.mp h)
theorem SeenTo.put {D : DataW Unit} {ls : List ByteArray} {k : Nat} {s : ByteArray} (h : SeenTo D ls k) (hs : ls[k]? = some s) : SeenTo (D.put (.string s.data.toList) (.lit (.bool true))) ls (k + 1) := by
  refine ⟨h.1.put _ _, fun t => ?_⟩
  by_cases e : t = s
  · subst e
    exact ⟨true, atKey_put_same h.1 (by trivial) _ _, ⟨fun _ => ⟨k, by omega, hs⟩, fun _ => rfl⟩⟩
  · obtain ⟨b, h1, h2⟩ := h.2 t
    refine ⟨b, ?_, ?_⟩
    · rw [atKey_put_other (by intro e2; injection e2 with e3; exact e (data_inj e3))]
      exact h1
    · rw [h2]
      constructor
      · rintro ⟨j, hj, hl⟩
        exact ⟨j, by omega, hl⟩
      · rintro ⟨j, hj, hl⟩
        by_cases ej : j = k
        · subst ej
          rw [hs] at hl
          exact absurd (Option.some.inj hl).symm e
        · exact ⟨j, by omega, hl⟩

theorem grown_of_below {w w' : World} (h : Below w.heap.size w w') : w.grownBy w' none := ⟨h.os, h.tape, h.output, h.size, fun i hi _ => h.block i hi⟩

/-- What is looked up. -/
theorem seen_at {w : World} {b n : Nat} {D : DataW Unit} {ls : List ByteArray} {k : Nat} (hown : w.ownsMap Tryz.prog 9 (plainElem Tryz.prog 4) b n D) (hs : SeenTo D ls k) (s : ByteArray) (hsz : s.size ≤ maxLen) :
    ∃ v : Bool, (Instr.lookup 115 (.map (some b)) (.string s) false).run Tryz.prog w = .ok (.bool v) w ∧ (v = true ↔ ∃ j, j < k ∧ ls[j]? = some s) := by
  obtain ⟨v, ps, hrun, hv⟩ := hown.lookup keyed9 Tryz.underlying115 (zeroBool w) (plainElem_bool Tryz.underlying4 false) (WideMaps.keyOf_string_mk Tryz.underlying9 hsz)
  obtain ⟨x, h1, h2⟩ := hs.2 s
  obtain ⟨y, rfl, hz⟩ := plainElem_bool_inv Tryz.underlying4 hv
  rw [h1] at hz
  injection hz with hz
  injection hz with hz
  injection hz with hz
  subst hz
  exact ⟨x, hrun, h2⟩

/-- No two of the first so many are alike. -/
def DistTo (ls : List ByteArray) (n : Nat) : Prop := ∀ (i : Nat) (s : ByteArray), i < n → ls[i]? = some s → ∀ (j : Nat) (t : ByteArray), j < i → ls[j]? = some t → t ≠ s
theorem DistTo.step {ls : List ByteArray} {k : Nat} {s : ByteArray} (h : DistTo ls k) (hs : ls[k]? = some s) (ha : NotAmong ls k s) : DistTo ls (k + 1) := fun i u hi hu => by
  by_cases e : i = k
  · subst e
    rw [hs] at hu
    cases hu
    exact ha
  · exact h i u (by omega) hu
/-- One of the first so many is no name. -/
def BadN (ls : List ByteArray) (k : Nat) : Prop := ∃ (i : Nat) (s : ByteArray), i < k ∧ ls[i]? = some s ∧ nmB s = false
theorem BadN.no_step {ls : List ByteArray} {k : Nat} {s : ByteArray} (h : ¬ BadN ls k) (hs : ls[k]? = some s) (ho : nmB s = true) : ¬ BadN ls (k + 1) := fun ⟨i, u, hi, hu, hno⟩ => by
  by_cases e : i = k
  · subst e
    rw [hs] at hu
    cases hu
    rw [ho] at hno
    cases hno
  · exact h ⟨i, u, by omega, hu, hno⟩
theorem Names.of_dist {ls : List ByteArray} (h : ¬ BadN ls ls.length) : Names ls ↔ DistTo ls ls.length :=
  ⟨fun hn i s hi hs => (hn i s hi hs).2, fun hd i s hi hs => ⟨by
    cases hv : nmB s with
    | true => rfl
    | false => exact absurd ⟨i, s, hi, hs, hv⟩ h, hd i s hi hs⟩⟩
theorem Names.not_bad {ls : List ByteArray} (h : BadN ls ls.length) : ¬ Names ls := fun hn => by
  obtain ⟨i, s, hi, hs, hv⟩ := h
  rw [(hn i s hi hs).1] at hv
  cases hv

theorem notName_any (s : ByteArray) (hs : s.size ≤ 1048576) (w : World) (hm : MaxC w) :
    Calls Tryz.prog 82 #[.string s] w fun e w' => e = .returned (.bool (!nmB s)) ∧ Below w.heap.size w w' := by
  have C := Lib.hid (nmB_impl s hs w hm)
  generalize nmB s = v at *
  clear hs hm
  go_enter Tryz.func82, Tryz.ntmps82
  go_wp2_with (go_at_call 92; (with_reducible refine C.out.mono ?_); rintro e w2 ⟨rfl, hb2⟩; have HB2 := Lib.hid hb2; clear hb2)
  go_ret
  exact ⟨rfl, HB2.out⟩

/-- An index, or none. -/
def IdxS (p : Prop) (w : World) (e : Ending) (w' : World) : Prop := ∃ v : Int, e = .returned (.int .i64 v) ∧ -1 ≤ v ∧ (0 ≤ v ↔ p) ∧ Below w.heap.size w w'

set_option maxHeartbeats 1000000 in
theorem idxName_any (ls : List ByteArray) (hls : ∀ s ∈ ls, s.size ≤ 1048576) (hl : ls.length ≤ 1048576) (A : Option Addr) (ca lo : Nat) (w : World) (h : Strs w lo ls A) (hm : MaxC w) :
    Calls Tryz.prog 91 #[.slice A ls.length ca, .func (.func 82) #[] #[]] w (IdxS (BadN ls ls.length) w) := by
  have H := Lib.hid h
  have HL := Lib.hid hls
  have HM := Lib.hid hm
  clear h hls hm
  go_enter Tryz.func91, Tryz.ntmps91
  go_wp2_with fail
  go_loopw [8] (fun i wr => ∃ k : Nat, k ≤ ls.length ∧ i = .int .i64 k ∧ Hid (¬ BadN ls k) ∧ Below w.heap.size w wr) (fun i _ => ls.length - (intOf i).toNat)
  case atStart => exact ⟨0, Nat.zero_le _, rfl, (fun ⟨i, u, hi, _⟩ => by omega), Below.refl _ _⟩
  case round =>
    obtain ⟨k, hk, rfl, hno, hbel⟩ := hrel
    by_cases hlt : k < ls.length
    · obtain ⟨b, o, s, rfl, _, hsk, hc⟩ := (H.out.below hbel).at_ hlt
      have C := Lib.hid (notName_any s (HL.out s (List.mem_of_getElem? hsk)) wr (HM.out.keep hbel))
      have HS := Lib.hid hsk
      have HB := Lib.hid hbel
      clear hsk hbel
      cases hv : nmB s with
      | true =>
        rw [hv] at C
        have HV := Lib.hid hv
        clear hv
        go_wp2_with (go_at_call 82; (with_reducible refine C.out.mono ?_); rintro e w2 ⟨rfl, hb2⟩; have HB2 := Lib.hid hb2; clear hb2)
        go_roundw
        case rel => exact ⟨k + 1, by omega, by go_num, BadN.no_step hno.out HS.out HV.out, bnext HB.out HB2.out⟩
        case measure => simp [intOf]; omega
      | false =>
        rw [hv] at C
        have HV := Lib.hid hv
        clear hv
        go_wp2_with (go_at_call 82; (with_reducible refine C.out.mono ?_); rintro e w2 ⟨rfl, hb2⟩; have HB2 := Lib.hid hb2; clear hb2)
        go_ret
        exact ⟨k, rfl, by omega, ⟨fun _ => ⟨k, s, hlt, HS.out, HV.out⟩, fun _ => by omega⟩, bnext HB.out HB2.out⟩
    · have hk' : k = ls.length := by omega
      have HB := Lib.hid hbel
      clear hbel
      go_wp2
      go_ret
      exact ⟨-1, rfl, by omega, ⟨(fun h => by omega), (fun h => absurd (by rw [hk']; exact h) hno.out)⟩, HB.out⟩
theorem contName_any (ls : List ByteArray) (hls : ∀ s ∈ ls, s.size ≤ 1048576) (hl : ls.length ≤ 1048576) (A : Option Addr) (ca lo : Nat) (w : World) (h : Strs w lo ls A) (hm : MaxC w) :
    Calls Tryz.prog 81 #[.slice A ls.length ca, .func (.func 82) #[] #[]] w (SaysB (BadN ls ls.length) w) := by
  have C := Lib.hid (idxName_any ls hls hl A ca lo w h hm)
  clear h hm
  go_enter Tryz.func81, Tryz.ntmps81
  go_wp2_with (go_at_call 91; (with_reducible refine C.out.mono ?_); rintro e w2 ⟨v, rfl, hv1, hv, hb2⟩; have HV := Lib.hid hv; have HB2 := Lib.hid hb2; clear hv hb2)
  go_ret
  exact ⟨decide (0 ≤ v), rfl, by rw [decide_eq_true_iff]; exact HV.out, HB2.out⟩

set_option maxHeartbeats 1000000 in
theorem areDistinct_any (ls : List ByteArray) (hls : ∀ s ∈ ls, s.size ≤ 1048576) (hl : ls.length ≤ 1048576) (A : Option Addr) (ca lo : Nat) (w : World) (h : Strs w lo ls A) :
    Calls Tryz.prog 83 #[.slice A ls.length ca] w (SaysB (DistTo ls ls.length) w) := by
  have H := Lib.hid h
  have HL := Lib.hid hls
  clear h hls
  have hmm := @run_makeMap Tryz.prog
  go_enter Tryz.func83, Tryz.ntmps83
  go_wp2_with fail
  go_loopw [9] (fun i wr => ∃ k : Nat, k ≤ ls.length ∧ i = .int .i64 k ∧ Hid (DistTo ls k) ∧ (∃ D : DataW Unit, Hid (SeenTo D ls k) ∧ Hid (wr.ownsMap Tryz.prog 9 (plainElem Tryz.prog 4) w.heap.size k D)) ∧ Below w.heap.size w wr) (fun i _ => ls.length - (intOf i).toNat)
  case atStart => exact ⟨0, Nat.zero_le _, rfl, (fun i u hi => by omega), ⟨_, SeenTo.start ls, World.ownsMap_made _ _ _ _⟩, (Below.refl _ _).alloc (Nat.le_refl _) _⟩
  case round =>
    obtain ⟨k, hk, rfl, hno, ⟨D, hseen, hown⟩, hbel⟩ := hrel
    clear hmm
    by_cases hlt : k < ls.length
    · obtain ⟨b, o, s, rfl, _, hsk, hc⟩ := (H.out.below hbel).at_ hlt
      have hsz := HL.out s (List.mem_of_getElem? hsk)
      have HS := Lib.hid hsk
      have HB := Lib.hid hbel
      have hsm : s.size ≤ maxLen := by unfold maxLen; omega
      have HSM := Lib.hid hsm
      have hbl := hown.out.lt
      clear hsk hsm hbel
      obtain ⟨v, hrun, hv⟩ := seen_at hown.out hseen.out s HSM.out
      have HO := Lib.hid hown.out
      have HW := Lib.hid hv
      clear hv
      cases v with
      | true =>
        go_wp2_with fail
        go_ret
        refine ⟨false, rfl, iffF (fun hh => ?_), HB.out⟩
        obtain ⟨j, hj, hjs⟩ := HW.out.mp trivial
        exact hh k s hlt HS.out j s hj hjs rfl
      | false =>
        go_wp2_with (at_mapUpdate; refine wpList_mapUpdate_own _ rfl _ _ _ 115 rfl 9 4 keyed9 Tryz.underlying115 _ w.heap.size k _ rfl HO.out (by unfold maxLen; omega) _ _ _ rfl rfl (WideMaps.keyOf_string_mk Tryz.underlying9 HSM.out) _ [] (plainElem_bool Tryz.underlying4 true) ?_; intro w3 hown3 hgrow3; have HO3 := Lib.hid hown3; have HG3 := Lib.hid hgrow3; clear hown3 hgrow3)
        go_roundw
        case rel => exact ⟨k + 1, by omega, by go_num, DistTo.step hno.out HS.out (fun j t hj ht e => by subst e; have h9 := HW.out.mpr ⟨j, hj, ht⟩; first | exact h9 | cases h9), ⟨_, hseen.out.put HS.out, HO3.out⟩, HB.out.grown HG3.out (by have := HB.out.size; omega) (fun j hj => by cases hj; exact Nat.le_refl _)⟩
        case measure => simp [intOf]; omega
    · have hk' : k = ls.length := by omega
      have HB := Lib.hid hbel
      clear hbel
      go_wp2
      go_ret
      exact ⟨true, rfl, iffT (by rw [← hk']; exact hno.out), HB.out⟩

theorem distinct_any (ls : List ByteArray) (hls : ∀ s ∈ ls, s.size ≤ 1048576) (hl : ls.length ≤ 1048576) (A : Option Addr) (ca lo : Nat) (w : World) (h : Strs w lo ls A) (hm : MaxC w) :
    Calls Tryz.prog 57 #[.slice A ls.length ca] w (SaysB (Names ls) w) := by
  have C := contName_any ls hls hl A ca lo w h hm
  have CD := Lib.hid (fun W hb => areDistinct_any ls hls hl A ca lo W (h.below hb))
  clear h hm
  by_cases hb : BadN ls ls.length
  · have C := Lib.hid (C.mono (R' := fun e w' => e = .returned (.bool true) ∧ Below w.heap.size w w') fun _ _ ⟨v, e1, hv, e2⟩ => ⟨by rw [e1, hv.mpr hb], e2⟩)
    have H1 := Lib.hid (Names.not_bad hb)
    clear hb CD
    go_enter Tryz.func57, Tryz.ntmps57
    go_wp2_with (go_at_call 81; (with_reducible refine C.out.mono ?_); rintro e w2 ⟨rfl, hb2⟩; have HB2 := Lib.hid hb2; clear hb2)
    go_ret
    exact ⟨false, rfl, iffF H1.out, HB2.out⟩
  · have C := Lib.hid (C.mono (R' := fun e w' => e = .returned (.bool false) ∧ Below w.heap.size w w') fun _ _ ⟨v, e1, hv, e2⟩ => ⟨by
      cases v with
      | false => exact e1
      | true => exact absurd (hv.mp rfl) hb, e2⟩)
    have H1 := Lib.hid (Names.of_dist hb)
    clear hb
    go_enter Tryz.func57, Tryz.ntmps57
    go_wp2_with (first
      | (go_at_call 81; (with_reducible refine C.out.mono ?_); rintro e w2 ⟨rfl, hb2⟩; have HB2 := Lib.hid hb2; clear hb2)
      | (go_at_call 83; (with_reducible refine (CD.out _ HB2.out).mono ?_); rintro e w3 ⟨v, rfl, hv, hb3⟩; have HV := Lib.hid hv; have HB3 := Lib.hid hb3; clear hv hb3))
    go_ret
    exact ⟨v, rfl, HV.out.trans H1.out.symm, bnext HB2.out HB3.out⟩
end Go.Proofs.YtifchfecfkdjlaaGreatDoor

namespace Go.Proofs.YtifchfecfkdjlaaGreatDoor
open Go.ChangeShapes Go.WideShapes Go.ChangeAt Go.RowKit Go.Deep Go.Maps

theorem zeroInt (w : World) : (zeroValue 3).run Tryz.prog w = .ok (.int .i64 0) w := by kernel_rfl

/-- No two alike. -/
def Apart (ls : List ByteArray) : Prop := ∀ (i j : Nat) (s : ByteArray), i < j → ls[i]? = some s → ls[j]? ≠ some s
theorem Names.apart {ls : List ByteArray} (h : Names ls) : Apart ls := fun i j s hij hi hj =>
  (h j s (List.getElem?_eq_some_iff.1 hj).1 hj).2 i s hij hi rfl

/-- The map holds the places of the first so many. -/
def PlacedTo (D : DataW Unit) (ls : List ByteArray) (k : Nat) : Prop := IsMap D ∧ (∀ (i : Nat) (s : ByteArray), i < k → ls[i]? = some s → Maps.has D (.string s.data.toList) = true ∧ D.atKey (.string s.data.toList) (.lit (.int .i64 0)) = .lit (.int .i64 i)) ∧
  ∀ s : ByteArray, (∀ i : Nat, i < k → ls[i]? ≠ some s) → Maps.has D (.string s.data.toList) = false
theorem PlacedTo.start (ls : List ByteArray) : PlacedTo (.map []) ls 0 := ⟨isMap_empty, fun i s hi => by omega, fun s _ => rfl⟩
theorem PlacedTo.put {D : DataW Unit} {ls : List ByteArray} {k : Nat} {s : ByteArray} (ha : Apart ls) (h : PlacedTo D ls k) (hs : ls[k]? = some s) : PlacedTo (D.put (.string s.data.toList) (.lit (.int .i64 k))) ls (k + 1) := by
  refine ⟨h.1.put _ _, fun i t hi ht => ?_, fun t ht => ?_⟩
  · by_cases e : i = k
    · subst e
      rw [hs] at ht
      cases ht
      exact ⟨has_put_same h.1 (by trivial) _, atKey_put_same h.1 (by trivial) _ _⟩
    · have hik : i < k := by omega
      have hne : (Lit.string t.data.toList) ≠ (Lit.string s.data.toList) := fun e2 => by
        injection e2 with e3
        rw [data_inj e3] at ht
        exact ha i k s hik ht hs
      rw [has_put_other hne, atKey_put_other hne]
      exact h.2.1 i t hik ht
  · have hne : (Lit.string t.data.toList) ≠ (Lit.string s.data.toList) := fun e2 => by
      injection e2 with e3
      have e4 := data_inj e3
      subst e4
      exact ht k (by omega) hs
    rw [has_put_other hne]
    exact h.2.2 t fun i hi => ht i (by omega)
/-- A map of the places. -/
def Placed (w : World) (m : Nat) (ls : List ByteArray) : Prop := ∃ D : DataW Unit, w.ownsMap Tryz.prog 9 (plainElem Tryz.prog 3) m ls.length D ∧ PlacedTo D ls ls.length
theorem Placed.below {w w' : World} {m : Nat} {ls : List ByteArray} (h : Placed w m ls) (hb : Below w.heap.size w w') : Placed w' m ls := by
  obtain ⟨D, h1, h2⟩ := h
  exact ⟨D, h1.kept (grown_of_below hb) (by simp), h2⟩
theorem Placed.lt {w : World} {m : Nat} {ls : List ByteArray} (h : Placed w m ls) : m < w.heap.size := by
  obtain ⟨D, h1, _⟩ := h
  exact h1.lt
set_option maxRecDepth 100000 in
theorem Placed.yes {w : World} {m : Nat} {ls : List ByteArray} (h : Placed w m ls) {s : ByteArray} (hsz : s.size ≤ maxLen) {i : Nat} (hp : place s ls = some i) :
    (Instr.lookup 111 (.map (some m)) (.string s) true).run Tryz.prog w = .ok (.tuple #[.int .i64 i, .bool true]) w := by
  obtain ⟨D, h1, h2⟩ := h
  obtain ⟨v, ps, hrun, hv⟩ := h1.look_ok keyed9 Tryz.underlying111 (zeroInt w) (plainElem_int Tryz.underlying3 (WalkArith.wf_i64 (by omega))) (WideMaps.keyOf_string_mk Tryz.underlying9 hsz)
  obtain ⟨g1, g2⟩ := h2.2.1 i s (place_lt hp) (place_some hp)
  obtain ⟨c, rfl, hc, _⟩ := plainElem_int_inv Tryz.underlying3 hv
  have hc' := congrArg Prod.fst hc
  rw [hrun, g1]
  simp only at hc'
  rw [g2] at hc'
  injection hc' with hc'
  injection hc' with _ hc'
  rw [hc']
set_option maxRecDepth 100000 in
theorem Placed.no {w : World} {m : Nat} {ls : List ByteArray} (h : Placed w m ls) {s : ByteArray} (hsz : s.size ≤ maxLen) (hp : place s ls = none) :
    (Instr.lookup 111 (.map (some m)) (.string s) true).run Tryz.prog w = .ok (.tuple #[.int .i64 0, .bool false]) w := by
  obtain ⟨D, h1, h2⟩ := h
  obtain ⟨v, ps, hrun, hv⟩ := h1.look_ok keyed9 Tryz.underlying111 (zeroInt w) (plainElem_int Tryz.underlying3 (WalkArith.wf_i64 (by omega))) (WideMaps.keyOf_string_mk Tryz.underlying9 hsz)
  have g1 := h2.2.2 s fun i _ => place_none hp i
  have g2 := atKey_of_not_has g1 (.lit (.int .i64 0))
  obtain ⟨c, rfl, hc, _⟩ := plainElem_int_inv Tryz.underlying3 hv
  have hc' := congrArg Prod.fst hc
  rw [hrun, g1]
  simp only at hc'
  rw [g2] at hc'
  injection hc' with hc'
  injection hc' with _ hc'
  rw [← hc']

def PlPost (ls : List ByteArray) (w : World) (e : Ending) (w' : World) : Prop := ∃ m : Nat, e = .returned (.map (some m)) ∧ Placed w' m ls ∧ Below w.heap.size w w'

set_option maxHeartbeats 1000000 in
theorem places_any (ls : List ByteArray) (hls : ∀ s ∈ ls, s.size ≤ 1048576) (hl : ls.length ≤ 1048576) (ha : Apart ls) (A : Option Addr) (ca lo : Nat) (w : World) (h : Strs w lo ls A) :
    Calls Tryz.prog 89 #[.slice A ls.length ca] w (PlPost ls w) := by
  have H := Lib.hid h
  have HL := Lib.hid hls
  have HA := Lib.hid ha
  clear h hls ha
  have hmm := @run_makeMap Tryz.prog
  go_enter Tryz.func89, Tryz.ntmps89
  go_wp2_with fail
  go_loopw [9] (fun i wr => ∃ k : Nat, k ≤ ls.length ∧ i = .int .i64 k ∧ (∃ D : DataW Unit, Hid (PlacedTo D ls k) ∧ Hid (wr.ownsMap Tryz.prog 9 (plainElem Tryz.prog 3) w.heap.size k D)) ∧ Below w.heap.size w wr) (fun i _ => ls.length - (intOf i).toNat)
  case atStart => exact ⟨0, Nat.zero_le _, rfl, ⟨_, PlacedTo.start ls, World.ownsMap_made _ _ _ _⟩, (Below.refl _ _).alloc (Nat.le_refl _) _⟩
  case round =>
    obtain ⟨k, hk, rfl, ⟨D, hseen, hown⟩, hbel⟩ := hrel
    clear hmm
    by_cases hlt : k < ls.length
    · obtain ⟨b, o, s, rfl, _, hsk, hc⟩ := (H.out.below hbel).at_ hlt
      have hsz := HL.out s (List.mem_of_getElem? hsk)
      have HS := Lib.hid hsk
      have HB := Lib.hid hbel
      have hsm : s.size ≤ maxLen := by unfold maxLen; omega
      have HSM := Lib.hid hsm
      have hbl := hown.out.lt
      have HO := Lib.hid hown.out
      clear hsk hsm hbel hown
      go_wp2_with (at_mapUpdate; refine wpList_mapUpdate_own _ rfl _ _ _ 111 rfl 9 3 keyed9 Tryz.underlying111 _ w.heap.size k _ rfl HO.out (by unfold maxLen; omega) _ _ _ rfl rfl (WideMaps.keyOf_string_mk Tryz.underlying9 HSM.out) _ [] (plainElem_int Tryz.underlying3 (WalkArith.wf_i64 (by omega))) ?_; intro w3 hown3 hgrow3; have HO3 := Lib.hid hown3; have HG3 := Lib.hid hgrow3; clear hown3 hgrow3)
      go_roundw
      case rel => exact ⟨k + 1, by omega, by go_num, ⟨_, hseen.out.put HA.out HS.out, HO3.out⟩, HB.out.grown HG3.out (by have := HB.out.size; omega) (fun j hj => by cases hj; exact Nat.le_refl _)⟩
      case measure => simp [intOf]; omega
    · have hk' : k = ls.length := by omega
      have HB := Lib.hid hbel
      clear hbel
      go_wp2
      go_ret
      refine ⟨_, rfl, ⟨D, ?_, ?_⟩, HB.out⟩
      · have h9 := hown.out
        rw [hk'] at h9
        exact h9
      · have h9 := hseen.out
        rw [hk'] at h9
        exact h9
end Go.Proofs.YtifchfecfkdjlaaGreatDoor

namespace Go.Proofs.YtifchfecfkdjlaaGreatDoor
open Go.ChangeShapes Go.WideShapes Go.ChangeAt Go.RowKit Go.Deep

def RowGen {α : Type} (E : World → Nat → (Nat → Value) → α → Prop) (ty : TypeId) (wd g n k : Nat) (xs : List α) (wr : World) : Prop :=
  ∃ f : Nat → Value, wr.rowIs g ty (n * wd) f ∧ ∀ (j : Nat) (x : α), j < k → xs[j]? = some x → E wr (g + 1) (fun i => if i < wd then f (j * wd + i) else undef) x

theorem KeptFrom.setCells {lo b : Nat} (hb : b < lo) : ∀ (vs : List Value) (o : Nat) (w : World), KeptFrom lo w (w.setCells b o vs)
  | [], _, _ => ⟨fun _ _ _ h => h, fun _ h => h⟩
  | v :: vs, o, _ => (KeptFrom.setCell (p := ⟨b, o, none⟩) hb v).trans (KeptFrom.setCells hb vs (o + 1) _)
theorem rowIs_setCells {g : Nat} {ty : TypeId} {N : Nat} : ∀ (vs : List Value) (o : Nat) (w : World) (f : Nat → Value), w.rowIs g ty N f → (w.setCells g o vs).rowIs g ty N (fun j => if o ≤ j ∧ j < o + vs.length then vs.getD (j - o) undef else f j)
  | [], o, w, f, h => h.congr fun j _ => by
    have : ¬ (o ≤ j ∧ j < o + ([] : List Value).length) := by simp only [List.length_nil]; omega
    rw [if_neg this]
  | v :: vs, o, w, f, h => (rowIs_setCells vs (o + 1) _ _ (h.set o v)).congr fun j _ => by
    by_cases e : j = o
    · subst e
      have h1 : ¬ (j + 1 ≤ j ∧ j < j + 1 + vs.length) := by omega
      have h2 : j ≤ j ∧ j < j + (v :: vs).length := by simp
      rw [if_neg h1, if_pos h2]
      simp
    · by_cases h1 : o + 1 ≤ j ∧ j < o + 1 + vs.length
      · have h2 : o ≤ j ∧ j < o + (v :: vs).length := by simp only [List.length_cons]; omega
        rw [if_pos h1, if_pos h2]
        obtain ⟨m, rfl⟩ : ∃ m, j = o + 1 + m := ⟨j - (o + 1), by omega⟩
        have e1 : o + 1 + m - (o + 1) = m := by omega
        have e2 : o + 1 + m - o = m + 1 := by omega
        rw [e1, e2, List.getD_cons_succ]
      · have h2 : ¬ (o ≤ j ∧ j < o + (v :: vs).length) := by simp only [List.length_cons]; omega
        rw [if_neg h1, if_neg h2, if_neg e]

section
variable {α : Type} {E : World → Nat → (Nat → Value) → α → Prop} {ty : TypeId} {wd g n k : Nat} {xs : List α}
theorem RowGen.lt {wr : World} (h : RowGen E ty wd g n k xs wr) : g < wr.heap.size := by
  obtain ⟨f, hr, _⟩ := h
  exact hr.lt
theorem RowGen.below {wr w2 : World} (h : RowGen E ty wd g n k xs wr) (hE : ∀ {w w' : World} {lo : Nat} {f : Nat → Value} {x : α}, KeptFrom lo w w' → E w lo f x → E w' lo f x) (hb : Below wr.heap.size wr w2) : RowGen E ty wd g n k xs w2 := by
  obtain ⟨f, hr, hf⟩ := h
  exact ⟨f, hr.of_block (hb.block _ hr.lt), fun j x hj hx => hE (KeptFrom.below hb _) (hf j x hj hx)⟩
theorem RowGen.cells {wr : World} (h : RowGen E ty wd g n k xs wr) (hk : k < n) (j : Nat) (hj : j < wd) : ∃ v, wr.cell? ⟨g, k * wd + j, none⟩ = some v := by
  obtain ⟨f, hr, _⟩ := h
  have h1 : (k + 1) * wd ≤ n * wd := Nat.mul_le_mul_right wd hk
  rw [Nat.add_mul, Nat.one_mul] at h1
  exact ⟨_, hr.cell (by omega)⟩
theorem RowGen.free {wr : World} (h : RowGen E ty wd g n k xs wr) (i : Nat) : wr.frozen? ⟨g, i, none⟩ = false := by
  obtain ⟨f, hr, _⟩ := h
  exact hr.frozen i
theorem RowGen.start {w0 : World} {c : Array Value} (hc : c.size = n * wd) : RowGen E ty wd w0.heap.size n 0 xs (w0.alloc (.cells c ty)) := by
  refine ⟨fun i => (c[i]?).getD undef, ?_, fun j x hj _ => by omega⟩
  rw [← hc]
  exact World.rowIs_alloc _ _ _ _ fun i hi => by simp [hi]
/-- One element's cells are stored. -/
theorem RowGen.step (hE : ∀ {w w' : World} {lo : Nat} {f : Nat → Value} {x : α}, KeptFrom lo w w' → E w lo f x → E w' lo f x) {w2 : World} (h : RowGen E ty wd g n k xs w2) {x : α} (hx : xs[k]? = some x) (vs : List Value) (hvs : vs.length = wd)
    (hel : E w2 (g + 1) (fun i => vs.getD i undef) x) : RowGen E ty wd g n (k + 1) xs (w2.setCells g (k * wd) vs) := by
  obtain ⟨f, hr, hf⟩ := h
  refine ⟨_, rowIs_setCells vs (k * wd) w2 f hr, fun j y hj hy => ?_⟩
  by_cases e : j = k
  · subst e
    obtain rfl : x = y := by
      rw [hx] at hy
      exact Option.some.inj hy
    have hfe : (fun i => if i < wd then (if j * wd ≤ j * wd + i ∧ j * wd + i < j * wd + vs.length then vs.getD (j * wd + i - j * wd) undef else f (j * wd + i)) else undef) = fun i => vs.getD i undef := by
      funext i
      by_cases hi : i < wd
      · rw [if_pos hi, if_pos (by omega), Nat.add_sub_cancel_left]
      · rw [if_neg hi, List.getD_eq_getElem?_getD, List.getElem?_eq_none (by omega)]
        rfl
    rw [hfe]
    exact hE (KeptFrom.setCells (by omega) vs _ _) hel
  · have hjk : (j + 1) * wd ≤ k * wd := Nat.mul_le_mul_right wd (by omega)
    rw [Nat.add_mul, Nat.one_mul] at hjk
    have hfe : (fun i => if i < wd then (if k * wd ≤ j * wd + i ∧ j * wd + i < k * wd + vs.length then vs.getD (j * wd + i - k * wd) undef else f (j * wd + i)) else undef) = fun i => if i < wd then f (j * wd + i) else undef := by
      funext i
      by_cases hi : i < wd
      · rw [if_pos hi, if_pos hi, if_neg (by omega)]
      · rw [if_neg hi, if_neg hi]
    rw [hfe]
    exact hE (KeptFrom.setCells (by omega) vs _ _) (hf j y (by omega) hy)
end

/-- Cells of a block, stored one behind the other. -/
theorem sets_in (w : World) (b : Nat) (vs : List Value) (h : ∀ j, j < vs.length → (w.cell? ⟨b, j, none⟩).isSome = true) : ∀ j (hj : j < vs.length), (w.setCells b 0 vs).cell? ⟨b, j, none⟩ = some vs[j] := fun j hj => by
  have k := World.cell?_setCells_in b vs 0 w (fun j hj => by rw [Nat.zero_add]; exact h j hj) j hj
  rw [Nat.zero_add] at k
  exact k

/-- make, elements of several cells. -/
theorem make_row (W : World) (st et : TypeId) (wd : Nat) (zs : Array Value) (hu : Tryz.prog.underlying st = some (.slice et)) (hinfo : (Tryz.prog.info? et).map (fun i => (i.zero, i.size, decide (i.bytes ≤ 4096))) = some (some (.agg zs), wd, true)) (n : Nat) (hn : n ≤ 1048576) :
    (Instr.makeSlice st (.int .i64 (n : Int)) (.int .i64 (n : Int))).run Tryz.prog W = .ok (.slice (some ⟨W.heap.size, 0, none⟩) n n) (W.alloc (.cells (madeCells zs (n * wd)) et)) := by
  obtain ⟨i0, hi0, hzz⟩ := Option.map_eq_some_iff.1 hinfo
  simp only [Prod.mk.injEq, decide_eq_true_eq] at hzz
  obtain ⟨hz0, hz1, hz2⟩ := hzz
  have hb : (i0.bytes : Int) * (n : Int) ≤ 281474976710656 := by
    have : i0.bytes * n ≤ 4096 * 1048576 := Nat.mul_le_mul hz2 hn
    have h2 : ((i0.bytes * n : Nat) : Int) ≤ ((4096 * 1048576 : Nat) : Int) := Int.ofNat_le.2 this
    rw [Int.natCast_mul] at h2
    omega
  rw [run_make W st et i0 _ hu hi0 hz0 .i64 .i64 (n : Int) (n : Int) (by omega) (by omega) hb (by omega), hz1]
  simp [Value.cells]
end Go.Proofs.YtifchfecfkdjlaaGreatDoor

