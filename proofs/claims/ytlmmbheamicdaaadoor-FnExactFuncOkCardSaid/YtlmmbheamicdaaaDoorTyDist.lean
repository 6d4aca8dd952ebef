/-
  The walk of the program's distinctNames: each is a name (slices.ContainsFunc), and no two are alike (a set of those seen so far).
-/
import Derived.Test.YtlmmbheamicdaaaDoorTyImpl1
import Derived.Maps.OwnSet
import Derived.Carry
namespace Go.Proofs.YtlmmbheamicdaaaDoor
open Go.ChangeShapes Go.WideShapes Go.ChangeAt Go.RowKit Go.Deep Go.Maps

theorem keyed9 : Keyed Tryd.prog 9 := string_keyed Tryd.underlying9
theorem zeroBool (w : World) : (zeroValue 4).run Tryd.prog w = .ok (.bool false) w := by kernel_rfl
theorem plainElem_bool_inv {H : Type} {P : Program} {e : TypeId} (he : P.underlying e = some .bool) {v : Value} {z : DataW H × List MemPlace} (h : plainElem P e v = some z) : ∃ b, v = .bool b ∧ z = (.lit (.bool b), []) := by
  unfold plainElem at h
  rw [he] at h
  cases v <;> simp at h
  subst h
  exact ⟨_, rfl, rfl⟩

/-- The set holds the first so many. -/
def SeenTo (D : DataW Unit) (ls : List ByteArray) (k : Nat) : Prop := IsMap D ∧ ∀ s : ByteArray, ∃ b : Bool, D.atKey (.string s.data.toList) (.lit (.bool false)) = .lit (.bool b) ∧ (b = true ↔ ∃ j, j < k ∧ ls[j]? = some s)
theorem SeenTo.start (ls : List ByteArray) : SeenTo (.map []) ls 0 := ⟨isMap_empty, fun s => ⟨false, rfl, ⟨(fun e => by cases e), (fun ⟨j, hj, _⟩ => by omega)⟩⟩⟩
theorem data_inj {a b : ByteArray} (h : a.data.toList = b.data.toList) : a = b := ByteArray.ext (Array.toList_inj.mp h)
theorem SeenTo.put {D : DataW Unit} {ls : List ByteArray} {k : Nat} {s : ByteArray} (h : SeenTo D ls k) (hs : ls[k]? = some s) : SeenTo (D.put (.string s.data.toList) (.lit (.bool true))) ls (k + 1) := by
  refine ⟨h.1.put _ _, fun t => ?_⟩
  by_cases e : t = s
  · subst e
    exact ⟨true, atKey_put_same h.1 (by trivial) _ _, ⟨fun _ => ⟨k, by omega, hs⟩, fun _ => rfl⟩⟩
  · obtain ⟨b, h1, h2⟩ := h.2 t
    refine ⟨b, ?_, ?_⟩
    · rw [atKey_put_other (by intro e2; injection e2 with e3; exact e (data_inj e3))]
      exact h1
    · rw [h2]
      constructor
      · rintro ⟨j, hj, hl⟩
        exact ⟨j, by omega, hl⟩
      · rintro ⟨j, hj, hl⟩
        by_cases ej : j = k
        · subst ej
          rw [hs] at hl
          exact absurd (Option.some.inj hl).symm e
        · exact ⟨j, by omega, hl⟩

theorem grown_of_below {w w' : World} (h : Below w.heap.size w w') : w.grownBy w' none := ⟨h.os, h.tape, h.output, h.size, fun i hi _ => h.block i hi⟩

/-- What is looked up. -/
theorem seen_at {w : World} {b n : Nat} {D : DataW Unit} {ls : List ByteArray} {k : Nat} (hown : w.ownsMap Tryd.prog 9 (plainElem Tryd.prog 4) b n D) (hs : SeenTo D ls k) (s : ByteArray) (hsz : s.size ≤ maxLen) :
    ∃ v : Bool, (Instr.lookup 76 (.map (some b)) (.string s) false).run Tryd.prog w = .ok (.bool v) w ∧ (v = true ↔ ∃ j, j < k ∧ ls[j]? = some s) := by
  obtain ⟨v, ps, hrun, hv⟩ := hown.lookup keyed9 Tryd.underlying76 (zeroBool w) (plainElem_bool Tryd.underlying4 false) (WideMaps.keyOf_string_mk Tryd.underlying9 hsz)
  obtain ⟨x, h1, h2⟩ := hs.2 s
  obtain ⟨y, rfl, hz⟩ := plainElem_bool_inv Tryd.underlying4 hv
  rw [h1] at hz
  injection hz with hz
  injection hz with hz
  injection hz with hz
  subst hz
  exact ⟨x, hrun, h2⟩

/-- No two of the first so many are alike. -/
def DistTo (ls : List ByteArray) (n : Nat) : Prop := ∀ (i : Nat) (s : ByteArray), i < n → ls[i]? = some s → ∀ (j : Nat) (t : ByteArray), j < i → ls[j]? = some t → t ≠ s
theorem DistTo.step {ls : List ByteArray} {k : Nat} {s : ByteArray} (h : DistTo ls k) (hs : ls[k]? = some s) (ha : NotAmong ls k s) : DistTo ls (k + 1) := fun i u hi hu => by
  by_cases e : i = k
  · subst e
    rw [hs] at hu
    cases hu
    exact ha
  · exact h i u (by omega) hu
/-- One of the first so many is no name. -/
def BadN (ls : List ByteArray) (k : Nat) : Prop := ∃ (i : Nat) (s : ByteArray), i < k ∧ ls[i]? = some s ∧ nmB s = false
theorem BadN.no_step {ls : List ByteArray} {k : Nat} {s : ByteArray} (h : ¬ BadN ls k) (hs : ls[k]? = some s) (ho : nmB s = true) : ¬ BadN ls (k + 1) := fun ⟨i, u, hi, hu, hno⟩ => by
  by_cases e : i = k
  · subst e
    rw [hs] at hu
    cases hu
    rw [ho] at hno
    cases hno
  · exact h ⟨i, u, by omega, hu, hno⟩
theorem Names.of_dist {ls : List ByteArray} (h : ¬ BadN ls ls.length) : Names ls ↔ DistTo ls ls.length :=
  ⟨fun hn i s hi hs => (hn i s hi hs).2, fun hd i s hi hs => ⟨by
    cases hv : nmB s with
    | true => rfl
    | false => exact absurd ⟨i, s, hi, hs, hv⟩ h, hd i s hi hs⟩⟩
theorem Names.not_bad {ls : List ByteArray} (h : BadN ls ls.length) : ¬ Names ls := fun hn => by
  obtain ⟨i, s, hi, hs, hv⟩ := h
  rw [(hn i s hi hs).1] at hv
  cases hv

theorem notName_any (s : ByteArray) (hs : s.size ≤ 1048576) (w : World) (hm : MaxC w) :
    Calls Tryd.prog 32 #[.string s] w fun e w' => e = .returned (.bool (!nmB s)) ∧ Below w.heap.size w w' := by
  have C := Lib.hid (nmB_impl s hs w hm)
  generalize nmB s = v at *
  clear hs hm
  go_enter Tryd.func32, Tryd.ntmps32
  go_wp2_with (go_at_call 43; (with_reducible refine C.out.mono ?_); rintro e w2 ⟨rfl, hb2⟩; have HB2 := Lib.hid hb2; clear hb2)
  go_ret
  exact ⟨rfl, HB2.out⟩

/-- An index, or none. -/
def IdxS (p : Prop) (w : World) (e : Ending) (w' : World) : Prop := ∃ v : Int, e = .returned (.int .i64 v) ∧ -1 ≤ v ∧ (0 ≤ v ↔ p) ∧ Below w.heap.size w w'

set_option maxHeartbeats 1000000 in
theorem idxName_any (ls : List ByteArray) (hls : ∀ s ∈ ls, s.size ≤ 1048576) (hl : ls.length ≤ 1048576) (A : Option Addr) (ca lo : Nat) (w : World) (h : Strs w lo ls A) (hm : MaxC w) :
    Calls Tryd.prog 42 #[.slice A ls.length ca, .func (.func 32) #[] #[]] w (IdxS (BadN ls ls.length) w) := by
  have H := Lib.hid h
  have HL := Lib.hid hls
  have HM := Lib.hid hm
  clear h hls hm
  go_enter Tryd.func42, Tryd.ntmps42
  go_wp2_with fail
  go_loopw [8] (fun i wr => ∃ k : Nat, k ≤ ls.length ∧ i = .int .i64 k ∧ Hid (¬ BadN ls k) ∧ Below w.heap.size w wr) (fun i _ => ls.length - (intOf i).toNat)
  case atStart => exact ⟨0, Nat.zero_le _, rfl, (fun ⟨i, u, hi, _⟩ => by omega), Below.refl _ _⟩
  case round =>
    obtain ⟨k, hk, rfl, hno, hbel⟩ := hrel
    by_cases hlt : k < ls.length
    · obtain ⟨b, o, s, rfl, _, hsk, hc⟩ := (H.out.below hbel).at_ hlt
      have C := Lib.hid (notName_any s (HL.out s (List.mem_of_getElem? hsk)) wr (HM.out.keep hbel))
      have HS := Lib.hid hsk
      have HB := Lib.hid hbel
      clear hsk hbel
      cases hv : nmB s with
      | true =>
        rw [hv] at C
        have HV := Lib.hid hv
        clear hv
        go_wp2_with (go_at_call 32; (with_reducible refine C.out.mono ?_); rintro e w2 ⟨rfl, hb2⟩; have HB2 := Lib.hid hb2; clear hb2)
        go_roundw
        case rel => exact ⟨k + 1, by omega, by go_num, BadN.no_step hno.out HS.out HV.out, bnext HB.out HB2.out⟩
        case measure => simp [intOf]; omega
      | false =>
        rw [hv] at C
        have HV := Lib.hid hv
        clear hv
        go_wp2_with (go_at_call 32; (with_reducible refine C.out.mono ?_); rintro e w2 ⟨rfl, hb2⟩; have HB2 := Lib.hid hb2; clear hb2)
        go_ret
        exact ⟨k, rfl, by omega, ⟨fun _ => ⟨k, s, hlt, HS.out, HV.out⟩, fun _ => by omega⟩, bnext HB.out HB2.out⟩
    · have hk' : k = ls.length := by omega
      have HB := Lib.hid hbel
      clear hbel
      go_wp2
      go_ret
      exact ⟨-1, rfl, by omega, ⟨(fun h => by omega), (fun h => absurd (by rw [hk']; exact h) hno.out)⟩, HB.out⟩
theorem contName_any (ls : List ByteArray) (hls : ∀ s ∈ ls, s.size ≤ 1048576) (hl : ls.length ≤ 1048576) (A : Option Addr) (ca lo : Nat) (w : World) (h : Strs w lo ls A) (hm : MaxC w) :
    Calls Tryd.prog 31 #[.slice A ls.length ca, .func (.func 32) #[] #[]] w (SaysB (BadN ls ls.length) w) := by
  have C := Lib.hid (idxName_any ls hls hl A ca lo w h hm)
  clear h hm
  go_enter Tryd.func31, Tryd.ntmps31
  go_wp2_with (go_at_call 42; (with_reducible refine C.out.mono ?_); rintro e w2 ⟨v, rfl, hv1, hv, hb2⟩; have HV := Lib.hid hv; have HB2 := Lib.hid hb2; clear hv hb2)
  go_ret
  exact ⟨decide (0 ≤ v), rfl, by rw [decide_eq_true_iff]; exact HV.out, HB2.out⟩

set_option maxHeartbeats 1000000 in
theorem areDistinct_any (ls : List ByteArray) (hls : ∀ s ∈ ls, s.size ≤ 1048576) (hl : ls.length ≤ 1048576) (A : Option Addr) (ca lo : Nat) (w : World) (h : Strs w lo ls A) :
    Calls Tryd.prog 33 #[.slice A ls.length ca] w (SaysB (DistTo ls ls.length) w) := by
  have H := Lib.hid h
  have HL := Lib.hid hls
  clear h hls
  have hmm := @run_makeMap Tryd.prog
  go_enter Tryd.func33, Tryd.ntmps33
  go_wp2_with fail
  go_loopw [9] (fun i wr => ∃ k : Nat, k ≤ ls.length ∧ i = .int .i64 k ∧ Hid (DistTo ls k) ∧ (∃ D : DataW Unit, Hid (SeenTo D ls k) ∧ Hid (wr.ownsMap Tryd.prog 9 (plainElem Tryd.prog 4) w.heap.size k D)) ∧ Below w.heap.size w wr) (fun i _ => ls.length - (intOf i).toNat)
  case atStart => exact ⟨0, Nat.zero_le _, rfl, (fun i u hi => by omega), ⟨_, SeenTo.start ls, World.ownsMap_made _ _ _ _⟩, (Below.refl _ _).alloc (Nat.le_refl _) _⟩
  case round =>
    obtain ⟨k, hk, rfl, hno, ⟨D, hseen, hown⟩, hbel⟩ := hrel
    clear hmm
    by_cases hlt : k < ls.length
    · obtain ⟨b, o, s, rfl, _, hsk, hc⟩ := (H.out.below hbel).at_ hlt
      have hsz := HL.out s (List.mem_of_getElem? hsk)
      have HS := Lib.hid hsk
      have HB := Lib.hid hbel
      have hsm : s.size ≤ maxLen := by unfold maxLen; omega
      have HSM := Lib.hid hsm
      have hbl := hown.out.lt
      clear hsk hsm hbel
      obtain ⟨v, hrun, hv⟩ := seen_at hown.out hseen.out s HSM.out
      have HO := Lib.hid hown.out
      have HW := Lib.hid hv
      clear hv
      cases v with
      | true =>
        go_wp2_with fail
        go_ret
        refine ⟨false, rfl, iffF (fun hh => ?_), HB.out⟩
        obtain ⟨j, hj, hjs⟩ := HW.out.mp trivial
        exact hh k s hlt HS.out j s hj hjs rfl
      | false =>
        go_wp2_with (at_mapUpdate; refine wpList_mapUpdate_own _ rfl _ _ _ 76 rfl 9 4 keyed9 Tryd.underlying76 _ w.heap.size k _ rfl HO.out (by unfold maxLen; omega) _ _ _ rfl rfl (WideMaps.keyOf_string_mk Tryd.underlying9 HSM.out) _ [] (plainElem_bool Tryd.underlying4 true) ?_; intro w3 hown3 hgrow3; have HO3 := Lib.hid hown3; have HG3 := Lib.hid hgrow3; clear hown3 hgrow3)
        go_roundw
        case rel => exact ⟨k + 1, by omega, by go_num, DistTo.step hno.out HS.out (fun j t hj ht e => by subst e; have h9 := HW.out.mpr ⟨j, hj, ht⟩; first | exact h9 | cases h9), ⟨_, hseen.out.put HS.out, HO3.out⟩, HB.out.grown HG3.out (by have := HB.out.size; omega) (fun j hj => by cases hj; exact Nat.le_refl _)⟩
        case measure => simp [intOf]; omega
    · have hk' : k = ls.length := by omega
      have HB := Lib.hid hbel
      clear hbel
      go_wp2
      go_ret
      exact ⟨true, rfl, iffT (by rw [← hk']; exact hno.out), HB.out⟩

theorem distinct_any (ls : List ByteArray) (hls : ∀ s ∈ ls, s.size ≤ 1048576) (hl : ls.length ≤ 1048576) (A : Option Addr) (ca lo : Nat) (w : World) (h : Strs w lo ls A) (hm : MaxC w) :
    Calls Tryd.prog 17 #[.slice A ls.length ca] w (SaysB (Names ls) w) := by
  have C := contName_any ls hls hl A ca lo w h hm
  have CD := Lib.hid (fun W hb => areDistinct_any ls hls hl A ca lo W (h.below hb))
  clear h hm
  by_cases hb : BadN ls ls.length
  · have C := Lib.hid (C.mono (R' := fun e w' => e = .returned (.bool true) ∧ Below w.heap.size w w') fun _ _ ⟨v, e1, hv, e2⟩ => ⟨by rw [e1, hv.mpr hb], e2⟩)
    have H1 := Lib.hid (Names.not_bad hb)
    clear hb CD
    go_enter Tryd.func17, Tryd.ntmps17
    go_wp2_with (go_at_call 31; (with_reducible refine C.out.mono ?_); rintro e w2 ⟨rfl, hb2⟩; have HB2 := Lib.hid hb2; clear hb2)
    go_ret
    exact ⟨false, rfl, iffF H1.out, HB2.out⟩
  · have C := Lib.hid (C.mono (R' := fun e w' => e = .returned (.bool false) ∧ Below w.heap.size w w') fun _ _ ⟨v, e1, hv, e2⟩ => ⟨by
      cases v with
      | false => exact e1
      | true => exact absurd (hv.mp rfl) hb, e2⟩)
    have H1 := Lib.hid (Names.of_dist hb)
    clear hb
    go_enter Tryd.func17, Tryd.ntmps17
    go_wp2_with (first
      | (go_at_call 31; (with_reducible refine C.out.mono ?_); rintro e w2 ⟨rfl, hb2⟩; have HB2 := Lib.hid hb2; clear hb2)
      | (go_at_call 33; (with_reducible refine (CD.out _ HB2.out).mono ?_); rintro e w3 ⟨v, rfl, hv, hb3⟩; have HV := Lib.hid hv; have HB3 := Lib.hid hb3; clear hv hb3))
    go_ret
    exact ⟨v, rfl, HV.out.trans H1.out.symm, bnext HB2.out HB3.out⟩
end Go.Proofs.YtlmmbheamicdaaaDoor
