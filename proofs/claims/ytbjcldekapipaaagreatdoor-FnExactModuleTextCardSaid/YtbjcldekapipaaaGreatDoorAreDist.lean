/-
  The walk of the program's areDistinct: a set of the texts seen so far.
-/
import Derived.Test.YtbjcldekapipaaaGreatDoorShape15
import Derived.Test.YtbjcldekapipaaaGreatDoorSays
import Derived.Maps.OwnSet
import Derived.Carry
namespace Go.Proofs.YtbjcldekapipaaaGreatDoor
open Go.ChangeShapes Go.WideShapes Go.ChangeAt Go.RowKit Go.Deep Go.Maps

theorem keyed9 : Keyed Tryz.prog 9 := string_keyed Tryz.underlying9
theorem zeroBool (w : World) : (zeroValue 4).run Tryz.prog w = .ok (.bool false) w := by kernel_rfl
theorem plainElem_bool_inv {H : Type} {P : Program} {e : TypeId} (he : P.underlying e = some .bool) {v : Value} {z : DataW H × List MemPlace} (h : plainElem P e v = some z) : ∃ b, v = .bool b ∧ z = (.lit (.bool b), []) := by
  unfold plainElem at h
  rw [he] at h
  cases v <;> simp at h
  subst h
  exact ⟨_, rfl, rfl⟩

/-- The set holds the first so many. -/
def SeenTo (D : DataW Unit) (ls : List ByteArray) (k : Nat) : Prop := IsMap D ∧ ∀ s : ByteArray, ∃ b : Bool, D.atKey (.string s.data.toList) (.lit (.bool false)) = .lit (.bool b) ∧ (b = true ↔ ∃ j, j < k ∧ ls[j]? = some s)
theorem SeenTo.start (ls : List ByteArray) : SeenTo (.map []) ls 0 := ⟨isMap_empty, fun s => ⟨false, rfl, ⟨(fun e => by cases e), (fun ⟨j, hj, _⟩ => by omega)⟩⟩⟩
theorem data_inj {a b : ByteArray} (h : a.data.toList = b.data.toList) : a = b := ByteArray.ext (Array.toList_inj.mp h)
theorem SeenTo.put {D : DataW Unit} {ls : List ByteArray} {k : Nat} {s : ByteArray} (h : SeenTo D ls k) (hs : ls[k]? = some s) : SeenTo (D.put (.string s.data.toList) (.lit (.bool true))) ls (k + 1) := by
  refine ⟨h.1.put _ _, fun t => ?_⟩
  by_cases e : t = s
  · subst e
    exact ⟨true, atKey_put_same h.1 (by trivial) _ _, ⟨fun _ => ⟨k, by omega, hs⟩, fun _ => rfl⟩⟩
  · obtain ⟨b, h1, h2⟩ := h.2 t
    refine ⟨b, ?_, ?_⟩
    · rw [atKey_put_other (by intro e2; injection e2 with e3; exact e (data_inj e3))]
      exact h1
    · rw [h2]
      constructor
      · rintro ⟨j, hj, hl⟩
        exact ⟨j, by omega, hl⟩
      · rintro ⟨j, hj, hl⟩
        by_cases ej : j = k
        · subst ej
          rw [hs] at hl
          exact absurd (Option.some.inj hl).symm e
        · exact ⟨j, by omega, hl⟩

theorem grown_of_below {w w' : World} (h : Below w.heap.size w w') : w.grownBy w' none := ⟨h.os, h.tape, h.output, h.size, fun i hi _ => h.block i hi⟩

/-- What is looked up. -/
theorem seen_at {w : World} {b n : Nat} {D : DataW Unit} {ls : List ByteArray} {k : Nat} (hown : w.ownsMap Tryz.prog 9 (plainElem Tryz.prog 4) b n D) (hs : SeenTo D ls k) (s : ByteArray) (hsz : s.size ≤ maxLen) :
    ∃ v : Bool, (Instr.lookup 142 (.map (some b)) (.string s) false).run Tryz.prog w = .ok (.bool v) w ∧ (v = true ↔ ∃ j, j < k ∧ ls[j]? = some s) := by
  obtain ⟨v, ps, hrun, hv⟩ := hown.lookup keyed9 Tryz.underlying142 (zeroBool w) (plainElem_bool Tryz.underlying4 false) (WideMaps.keyOf_string_mk Tryz.underlying9 hsz)
  obtain ⟨x, h1, h2⟩ := hs.2 s
  obtain ⟨y, rfl, hz⟩ := plainElem_bool_inv Tryz.underlying4 hv
  rw [h1] at hz
  injection hz with hz
  injection hz with hz
  injection hz with hz
  subst hz
  exact ⟨x, hrun, h2⟩

set_option maxHeartbeats 1000000 in
theorem areDistinct_any (ls : List ByteArray) (hls : ∀ s ∈ ls, s.size ≤ 1048576) (hl : ls.length ≤ 1048576) (A : Option Addr) (ca lo : Nat) (w : World) (h : Strs w lo ls A) :
    Calls Tryz.prog 62 #[.slice A ls.length ca] w (SaysM (DistTo ls ls.length) w) := by
  have H := Lib.hid h
  have HL := Lib.hid hls
  clear h hls
  have hmm := @run_makeMap Tryz.prog
  go_enter Tryz.func62, Tryz.ntmps62
  go_wp2_with fail
  go_loopw [9] (fun i wr => ∃ k : Nat, k ≤ ls.length ∧ i = .int .i64 k ∧ Hid (DistTo ls k) ∧ (∃ D : DataW Unit, Hid (SeenTo D ls k) ∧ Hid (wr.ownsMap Tryz.prog 9 (plainElem Tryz.prog 4) w.heap.size k D)) ∧ Below w.heap.size w wr) (fun i _ => ls.length - (intOf i).toNat)
  case atStart => exact ⟨0, Nat.zero_le _, rfl, (fun i u hi => by omega), ⟨_, SeenTo.start ls, World.ownsMap_made _ _ _ _⟩, (Below.refl _ _).alloc (Nat.le_refl _) _⟩
  case round =>
    obtain ⟨k, hk, rfl, hno, ⟨D, hseen, hown⟩, hbel⟩ := hrel
    clear hmm
    by_cases hlt : k < ls.length
    · obtain ⟨b, o, s, rfl, _, hsk, hc⟩ := (H.out.below hbel).at_ hlt
      have hsz := HL.out s (List.mem_of_getElem? hsk)
      have HS := Lib.hid hsk
      have HB := Lib.hid hbel
      have hsm : s.size ≤ maxLen := by unfold maxLen; omega
      have HSM := Lib.hid hsm
      have hbl := hown.out.lt
      clear hsk hsm hbel
      obtain ⟨v, hrun, hv⟩ := seen_at hown.out hseen.out s HSM.out
      have HO := Lib.hid hown.out
      have HW := Lib.hid hv
      clear hv
      cases v with
      | true =>
        go_wp2_with fail
        go_ret
        refine ⟨false, rfl, iffM_F (fun hh => ?_), HB.out⟩
        obtain ⟨j, hj, hjs⟩ := HW.out.mp trivial
        exact hh k s hlt HS.out j s hj hjs rfl
      | false =>
        go_wp2_with (at_mapUpdate; refine wpList_mapUpdate_own _ rfl _ _ _ 142 rfl 9 4 keyed9 Tryz.underlying142 _ w.heap.size k _ rfl HO.out (by unfold maxLen; omega) _ _ _ rfl rfl (WideMaps.keyOf_string_mk Tryz.underlying9 HSM.out) _ [] (plainElem_bool Tryz.underlying4 true) ?_; intro w3 hown3 hgrow3; have HO3 := Lib.hid hown3; have HG3 := Lib.hid hgrow3; clear hown3 hgrow3)
        go_roundw
        case rel => exact ⟨k + 1, by omega, by go_num, DistTo.step hno.out HS.out (fun j t hj ht e => by subst e; have h9 := HW.out.mpr ⟨j, hj, ht⟩; first | exact h9 | cases h9), ⟨_, hseen.out.put HS.out, HO3.out⟩, HB.out.grown HG3.out (by have := HB.out.size; omega) (fun j hj => by cases hj; exact Nat.le_refl _)⟩
        case measure => simp [intOf]; omega
    · have hk' : k = ls.length := by omega
      have HB := Lib.hid hbel
      clear hbel
      go_wp2
      go_ret
      exact ⟨true, rfl, iffM_T (by rw [← hk']; exact hno.out), HB.out⟩

end Go.Proofs.YtbjcldekapipaaaGreatDoor
