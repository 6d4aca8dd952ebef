/-
  What a name is, as both say; the walks of the model's l03Labels and l03Units.
-/
import Derived.Test.YtlmmbheamicdaaaDoorTySize
import Derived.Test.YtlmmbheamicdaaaDoorNameB
namespace Go.Proofs.YtlmmbheamicdaaaDoor
open Go.ChangeShapes Go.WideShapes Go.ChangeAt Go.RowKit Go.Deep

/-- Whether a string is a name, as both programs say. -/
noncomputable def nmB (s : ByteArray) : Bool := if h : s.size ≤ 1048576 then (if s.size = 0 then false else Classical.choose (name_both s h)) else false
theorem nmB_empty (s : ByteArray) (h : s.size = 0) : nmB s = false := by
  unfold nmB
  rw [dif_pos (by omega), if_pos h]
theorem nmB_spec (s : ByteArray) (h : s.size ≤ 1048576) (w : World) : Calls Tryd.prog 25 #[.string s] w fun e w' => e = .returned (.bool (nmB s)) ∧ w = w' := by
  by_cases h0 : s.size = 0
  · rw [nmB_empty s h0]
    exact specName_short s h0 w
  · unfold nmB
    rw [dif_pos h, if_neg h0]
    exact (Classical.choose_spec (name_both s h)).1 w
theorem name_nil {s : ByteArray} (h : s.size = 0) : s = ⟨#[]⟩ := ByteArray.ext (Array.eq_empty_of_size_eq_zero h)
theorem nmB_impl (s : ByteArray) (h : s.size ≤ 1048576) (w : World) (hm : MaxC w) : Calls Tryd.prog 43 #[.string s] w fun e w' => e = .returned (.bool (nmB s)) ∧ Below w.heap.size w w' := by
  by_cases h0 : s.size = 0
  · rw [nmB_empty s h0, name_nil h0]
    exact implName_empty w
  · unfold nmB
    rw [dif_pos h, if_neg h0]
    exact (Classical.choose_spec (name_both s h)).2 w hm

theorem iffF {p : Prop} (h : ¬ p) : (false = true ↔ p) := ⟨(fun e => by cases e), fun e => absurd e h⟩
theorem iffT {p : Prop} (h : p) : (true = true ↔ p) := ⟨fun _ => h, fun _ => rfl⟩
theorem text_ne {a b : ByteArray} (h : a ≠ b) : (a.toList == b.toList) = false := by
  rw [beq_eq_false_iff_ne]
  intro e
  apply h
  apply ByteArray.ext
  apply Array.toList_inj.mp
  rw [← ByteArray.toList_eq, ← ByteArray.toList_eq]
  exact e

/-- Names, no two equal. -/
def NamesTo (ls : List ByteArray) (n : Nat) : Prop := ∀ (i : Nat) (s : ByteArray), i < n → ls[i]? = some s → nmB s = true ∧ ∀ (j : Nat) (t : ByteArray), j < i → ls[j]? = some t → t ≠ s
def Names (ls : List ByteArray) : Prop := NamesTo ls ls.length
def LabelsOk (ls : List ByteArray) : Prop := 1 ≤ ls.length ∧ ls.length ≤ 16 ∧ Names ls
/-- None of the first so many is s. -/
def NotAmong (ls : List ByteArray) (n : Nat) (s : ByteArray) : Prop := ∀ (j : Nat) (t : ByteArray), j < n → ls[j]? = some t → t ≠ s
theorem NotAmong.step {ls : List ByteArray} {k : Nat} {s t : ByteArray} (h : NotAmong ls k s) (ht : ls[k]? = some t) (hne : t ≠ s) : NotAmong ls (k + 1) s := fun j u hj hu => by
  by_cases e : j = k
  · subst e
    rw [ht] at hu
    cases hu
    exact hne
  · exact h j u (by omega) hu
theorem NamesTo.step {ls : List ByteArray} {k : Nat} {s : ByteArray} (h : NamesTo ls k) (hs : ls[k]? = some s) (hn : nmB s = true) (ha : NotAmong ls k s) : NamesTo ls (k + 1) := fun i u hi hu => by
  by_cases e : i = k
  · subst e
    rw [hs] at hu
    cases hu
    exact ⟨hn, ha⟩
  · exact h i u (by omega) hu

/-- A bool that says whether something holds; the world drawn on. -/
def SaysN (p : Prop) (w : World) (e : Ending) (w' : World) : Prop := ∃ v : Bool, e = .returned (.bool v) ∧ (v = true ↔ p) ∧ ∃ n, w' = w.drewN n
/-- A bool that says whether something holds; new memory alone has turned. -/
def SaysB (p : Prop) (w : World) (e : Ending) (w' : World) : Prop := ∃ v : Bool, e = .returned (.bool v) ∧ (v = true ↔ p) ∧ Below w.heap.size w w'

theorem SaysN.yes {p : Prop} (h : p) {w : World} {e : Ending} {w' : World} (k : SaysN p w e w') : e = .returned (.bool true) ∧ ∃ n, w' = w.drewN n := by
  obtain ⟨v, rfl, hv, hn⟩ := k
  rw [hv.mpr h]
  exact ⟨rfl, hn⟩
theorem SaysN.no {p : Prop} (h : ¬ p) {w : World} {e : Ending} {w' : World} (k : SaysN p w e w') : e = .returned (.bool false) ∧ ∃ n, w' = w.drewN n := by
  obtain ⟨v, rfl, hv, hn⟩ := k
  cases v with
  | false => exact ⟨rfl, hn⟩
  | true => exact absurd (hv.mp rfl) h
theorem SaysB.yes {p : Prop} (h : p) {w : World} {e : Ending} {w' : World} (k : SaysB p w e w') : e = .returned (.bool true) ∧ Below w.heap.size w w' := by
  obtain ⟨v, rfl, hv, hn⟩ := k
  rw [hv.mpr h]
  exact ⟨rfl, hn⟩
theorem SaysB.no {p : Prop} (h : ¬ p) {w : World} {e : Ending} {w' : World} (k : SaysB p w e w') : e = .returned (.bool false) ∧ Below w.heap.size w w' := by
  obtain ⟨v, rfl, hv, hn⟩ := k
  cases v with
  | false => exact ⟨rfl, hn⟩
  | true => exact absurd (hv.mp rfl) h

theorem l03Labels_any (ls : List ByteArray) (hls : ∀ s ∈ ls, s.size ≤ 1048576) (hl : ls.length ≤ 1048576) (A : Option Addr) (ca lo : Nat) (w : World) (h : Strs w lo ls A) :
    Calls Tryd.prog 48 #[.slice A ls.length ca] w (SaysN (LabelsOk ls) w) := by
  by_cases h1 : ls.length < 1 ∨ 16 < ls.length
  · have H := Lib.hid h1
    clear h
    by_cases h2 : ls.length < 1
    · clear h1
      go_enter Tryd.func48, Tryd.ntmps48
      go_wp2
      go_ret
      exact ⟨false, rfl, iffF (fun hh => by have := hh.1; omega), 0, rfl⟩
    · have h3 : (16 : Int) < (ls.length : Int) := by omega
      have h4 : ¬ (ls.length : Int) < 1 := by omega
      clear h1 h2
      go_enter Tryd.func48, Tryd.ntmps48
      go_wp2
      go_ret
      exact ⟨false, rfl, iffF (fun hh => by have := hh.2.1; omega), 0, rfl⟩
  · have g1 : 1 ≤ ls.length := by omega
    have g2 : ls.length ≤ 16 := by omega
    have h3 : ¬ (16 : Int) < (ls.length : Int) := by omega
    have h4 : ¬ (ls.length : Int) < 1 := by omega
    have H := Lib.hid h
    have HL := Lib.hid hls
    clear h h1 hls
    go_enter Tryd.func48, Tryd.ntmps48
    go_wp2
    go_loopw [3] (fun i wr => ∃ k : Nat, k ≤ ls.length ∧ i = .int .i64 k ∧ Hid (NamesTo ls k) ∧ ∃ n, wr = w.drewN n) (fun i _ => ls.length - (intOf i).toNat)
    case atStart => exact ⟨0, Nat.zero_le _, rfl, fun i u hi => by omega, 0, rfl⟩
    case round =>
      obtain ⟨k, hk, rfl, hno, n, rfl⟩ := hrel
      by_cases hlt : k < ls.length
      · obtain ⟨b, o, s, rfl, _, hsk, hc⟩ := H.out.at_ hlt
        have hsz := HL.out s (List.mem_of_getElem? hsk)
        have C := Lib.hid (fun W => nmB_spec s hsz W)
        have HS := Lib.hid hsk
        have hli : (k : Int) < (ls.length : Int) := by omega
        clear hsk
        cases hv : nmB s with
        | false =>
          rw [hv] at C
          have HV := Lib.hid hv
          clear hv
          go_wp2_with (go_at_call 25; (with_reducible refine (C.out _).mono ?_); rintro e w2 ⟨rfl, rfl⟩)
          go_ret
          exact ⟨false, rfl, iffF (fun hh => by have h9 := (hh.2.2 k s hlt HS.out).1; rw [HV.out] at h9; cases h9), _, rfl⟩
        | true =>
          rw [hv] at C
          have HV := Lib.hid hv
          clear hv
          go_wp2_with (go_at_call 25; (with_reducible refine (C.out _).mono ?_); rintro e w2 ⟨rfl, rfl⟩)
          go_loopw [4] (fun j wx => ∃ m : Nat, m ≤ k ∧ j = .int .i64 m ∧ Hid (NotAmong ls m s) ∧ ∃ n, wx = w.drewN n) (fun j _ => k - (intOf j).toNat)
          case atStart => exact ⟨0, Nat.zero_le _, rfl, fun i u hi => by omega, n, rfl⟩
          case round =>
            obtain ⟨m, hm, rfl, hna, n2, rfl⟩ := hrel
            by_cases hlt2 : m < k
            · obtain ⟨b2, o2, t, eA, _, htk, hc2⟩ := H.out.at_ (k := m) (by omega)
              obtain ⟨rfl, rfl⟩ : b = b2 ∧ o = o2 := by
                injection eA with e1
                injection e1 with e2 e3
                exact ⟨e2, e3⟩
              have HT := Lib.hid htk
              have hli2 : (m : Int) < (ls.length : Int) := by omega
              clear htk eA
              by_cases heq : t = s
              · have HE := Lib.hid heq
                have e2 : (t.toList == s.toList) = true := by rw [heq, beq_iff_eq]
                clear heq
                go_wp2_with fail
                go_quiet (fail)
                go_wp2_with fail
                go_ret
                exact ⟨false, rfl, iffF (fun hh => (hh.2.2 k s hlt HS.out).2 m t hlt2 HT.out HE.out), _, World.drewN_drewN _ _ _⟩
              · have HE := Lib.hid heq
                have e2 := text_ne heq
                clear heq
                go_wp2_with fail
                go_quiet (fail)
                go_wp2_with fail
                go_roundw
                case rel => exact ⟨m + 1, by omega, by go_num, hna.out.step HT.out HE.out, _, rfl⟩
                case measure => simp [intOf]; omega
            · have hm' : m = k := by omega
              go_wp2
              go_roundw
              case rel => exact ⟨k + 1, by omega, by go_num, NamesTo.step hno.out HS.out HV.out (by rw [← hm']; exact hna.out), _, rfl⟩
              case measure => simp [intOf]; omega
      · have hk' : k = ls.length := by omega
        go_wp2
        go_ret
        exact ⟨true, rfl, iffT ⟨g1, g2, by unfold Names; rw [← hk']; exact hno.out⟩, _, rfl⟩

/-- A kid is the unit type. -/
def UnitIn (ks : List Ty) (n : Nat) : Prop := ∃ (i : Nat) (t : Ty), i < n ∧ ks[i]? = some t ∧ t.kind = 1
theorem UnitIn.no_step {ks : List Ty} {k : Nat} {t : Ty} (h : ¬ UnitIn ks k) (ht : ks[k]? = some t) (hn : t.kind ≠ 1) : ¬ UnitIn ks (k + 1) := fun ⟨i, u, hi, hu, h1⟩ => by
  by_cases e : i = k
  · subst e
    rw [ht] at hu
    cases hu
    exact hn h1
  · exact h ⟨i, u, by omega, hu, h1⟩

theorem l03Units_any (T : Ty) (hl : T.kids.length ≤ 1048576) (A B : Option Addr) (ca cb lo : Nat) (w : World) (h : Ty.RowAt w lo T.kids B) :
    Calls Tryd.prog 49 #[.agg #[.int .i64 T.kind, .string T.name, .slice A T.labels.length ca, .slice B T.kids.length cb]] w (SaysB (UnitIn T.kids T.kids.length) w) := by
  have HR := Lib.hid h
  clear h
  go_enter Tryd.func49, Tryd.ntmps49
  go_wp2
  go_loopw [3] (fun i wr => ∃ k : Nat, k ≤ T.kids.length ∧ i = .int .i64 k ∧ Hid (¬ UnitIn T.kids k) ∧ wr.cell? ⟨w.heap.size, 3, none⟩ = some (.slice B T.kids.length cb) ∧ Below w.heap.size w wr) (fun i _ => T.kids.length - (intOf i).toNat)
  case atStart => exact ⟨0, Nat.zero_le _, rfl, (fun ⟨i, u, hi, _⟩ => by omega), by go_simp, below1 _ _⟩
  case round =>
    obtain ⟨k, hk, rfl, hno, hbox, hbel⟩ := hrel
    by_cases hlt : k < T.kids.length
    · obtain ⟨b, o, t, A', B', ca', cb', rfl, _, htk, hc⟩ := (HR.out.below hbel).at_ hlt
      obtain ⟨c0, _, _, _, _⟩ := hc
      have HT := Lib.hid htk
      have HB := Lib.hid hbel
      clear htk hbel
      by_cases h1 : t.kind = 1
      · have e1 : (t.kind == 1) = true := by rw [beq_iff_eq]; exact h1
        have H1 := Lib.hid h1
        clear h1
        go_wp2
        go_ret
        exact ⟨true, rfl, iffT ⟨k, t, hlt, HT.out, H1.out⟩, HB.out⟩
      · have e1 : (t.kind == 1) = false := by rw [beq_eq_false_iff_ne]; exact h1
        have H1 := Lib.hid h1
        clear h1
        go_wp2
        go_roundw
        case rel => exact ⟨k + 1, by omega, by go_num, UnitIn.no_step hno.out HT.out H1.out, hbox, HB.out⟩
        case measure => simp [intOf]; omega
    · have hk' : k = T.kids.length := by omega
      have HB := Lib.hid hbel
      clear hbel
      go_wp2
      go_ret
      exact ⟨false, rfl, iffF (by rw [← hk']; exact hno.out), HB.out⟩
end Go.Proofs.YtlmmbheamicdaaaDoor
