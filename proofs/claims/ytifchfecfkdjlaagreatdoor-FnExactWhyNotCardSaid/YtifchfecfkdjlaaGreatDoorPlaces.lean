/-
  The walk of the program's placesOf: a map of each label's place.
-/
import Derived.Test.YtifchfecfkdjlaaGreatDoorWhyP
import Derived.Test.YtifchfecfkdjlaaGreatDoorTyDist
namespace Go.Proofs.YtifchfecfkdjlaaGreatDoor
open Go.ChangeShapes Go.WideShapes Go.ChangeAt Go.RowKit Go.Deep Go.Maps

theorem zeroInt (w : World) : (zeroValue 3).run Tryz.prog w = .ok (.int .i64 0) w := by kernel_rfl

/-- No two alike. -/
def Apart (ls : List ByteArray) : Prop := ∀ (i j : Nat) (s : ByteArray), i < j → ls[i]? = some s → ls[j]? ≠ some s
theorem Names.apart {ls : List ByteArray} (h : Names ls) : Apart ls := fun i j s hij hi hj =>
  (h j s (List.getElem?_eq_some_iff.1 hj).1 hj).2 i s hij hi rfl

/-- The map holds the places of the first so many. -/
def PlacedTo (D : DataW Unit) (ls : List ByteArray) (k : Nat) : Prop := IsMap D ∧ (∀ (i : Nat) (s : ByteArray), i < k → ls[i]? = some s → Maps.has D (.string s.data.toList) = true ∧ D.atKey (.string s.data.toList) (.lit (.int .i64 0)) = .lit (.int .i64 i)) ∧
  ∀ s : ByteArray, (∀ i : Nat, i < k → ls[i]? ≠ some s) → Maps.has D (.string s.data.toList) = false
theorem PlacedTo.start (ls : List ByteArray) : PlacedTo (.map []) ls 0 := ⟨isMap_empty, fun i s hi => by omega, fun s _ => rfl⟩
theorem PlacedTo.put {D : DataW Unit} {ls : List ByteArray} {k : Nat} {s : ByteArray} (ha : Apart ls) (h : PlacedTo D ls k) (hs : ls[k]? = some s) : PlacedTo (D.put (.string s.data.toList) (.lit (.int .i64 k))) ls (k + 1) := by
  refine ⟨h.1.put _ _, fun i t hi ht => ?_, fun t ht => ?_⟩
  · by_cases e : i = k
    · subst e
      rw [hs] at ht
      cases ht
      exact ⟨has_put_same h.1 (by trivial) _, atKey_put_same h.1 (by trivial) _ _⟩
    · have hik : i < k := by omega
      have hne : (Lit.string t.data.toList) ≠ (Lit.string s.data.toList) := fun e2 => by
        injection e2 with e3
        rw [data_inj e3] at ht
        exact ha i k s hik ht hs
      rw [has_put_other hne, atKey_put_other hne]
      exact h.2.1 i t hik ht
  · have hne : (Lit.string t.data.toList) ≠ (Lit.string s.data.toList) := fun e2 => by
      injection e2 with e3
      have e4 := data_inj e3
      subst e4
      exact ht k (by omega) hs
    rw [has_put_other hne]
    exact h.2.2 t fun i hi => ht i (by omega)
/-- A map of the places. -/
def Placed (w : World) (m : Nat) (ls : List ByteArray) : Prop := ∃ D : DataW Unit, w.ownsMap Tryz.prog 9 (plainElem Tryz.prog 3) m ls.length D ∧ PlacedTo D ls ls.length
theorem Placed.below {w w' : World} {m : Nat} {ls : List ByteArray} (h : Placed w m ls) (hb : Below w.heap.size w w') : Placed w' m ls := by
  obtain ⟨D, h1, h2⟩ := h
  exact ⟨D, h1.kept (grown_of_below hb) (by simp), h2⟩
theorem Placed.lt {w : World} {m : Nat} {ls : List ByteArray} (h : Placed w m ls) : m < w.heap.size := by
  obtain ⟨D, h1, _⟩ := h
  exact h1.lt
set_option maxRecDepth 100000 in
theorem Placed.yes {w : World} {m : Nat} {ls : List ByteArray} (h : Placed w m ls) {s : ByteArray} (hsz : s.size ≤ maxLen) {i : Nat} (hp : place s ls = some i) :
    (Instr.lookup 111 (.map (some m)) (.string s) true).run Tryz.prog w = .ok (.tuple #[.int .i64 i, .bool true]) w := by
  obtain ⟨D, h1, h2⟩ := h
  obtain ⟨v, ps, hrun, hv⟩ := h1.look_ok keyed9 Tryz.underlying111 (zeroInt w) (plainElem_int Tryz.underlying3 (WalkArith.wf_i64 (by omega))) (WideMaps.keyOf_string_mk Tryz.underlying9 hsz)
  obtain ⟨g1, g2⟩ := h2.2.1 i s (place_lt hp) (place_some hp)
  obtain ⟨c, rfl, hc, _⟩ := plainElem_int_inv Tryz.underlying3 hv
  have hc' := congrArg Prod.fst hc
  rw [hrun, g1]
  simp only at hc'
  rw [g2] at hc'
  injection hc' with hc'
  injection hc' with _ hc'
  rw [hc']
set_option maxRecDepth 100000 in
theorem Placed.no {w : World} {m : Nat} {ls : List ByteArray} (h : Placed w m ls) {s : ByteArray} (hsz : s.size ≤ maxLen) (hp : place s ls = none) :
    (Instr.lookup 111 (.map (some m)) (.string s) true).run Tryz.prog w = .ok (.tuple #[.int .i64 0, .bool false]) w := by
  obtain ⟨D, h1, h2⟩ := h
  obtain ⟨v, ps, hrun, hv⟩ := h1.look_ok keyed9 Tryz.underlying111 (zeroInt w) (plainElem_int Tryz.underlying3 (WalkArith.wf_i64 (by omega))) (WideMaps.keyOf_string_mk Tryz.underlying9 hsz)
  have g1 := h2.2.2 s fun i _ => place_none hp i
  have g2 := atKey_of_not_has g1 (.lit (.int .i64 0))
  obtain ⟨c, rfl, hc, _⟩ := plainElem_int_inv Tryz.underlying3 hv
  have hc' := congrArg Prod.fst hc
  rw [hrun, g1]
  simp only at hc'
  rw [g2] at hc'
  injection hc' with hc'
  injection hc' with _ hc'
  rw [← hc']

def PlPost (ls : List ByteArray) (w : World) (e : Ending) (w' : World) : Prop := ∃ m : Nat, e = .returned (.map (some m)) ∧ Placed w' m ls ∧ Below w.heap.size w w'

set_option maxHeartbeats 1000000 in
theorem places_any (ls : List ByteArray) (hls : ∀ s ∈ ls, s.size ≤ 1048576) (hl : ls.length ≤ 1048576) (ha : Apart ls) (A : Option Addr) (ca lo : Nat) (w : World) (h : Strs w lo ls A) :
    Calls Tryz.prog 89 #[.slice A ls.length ca] w (PlPost ls w) := by
  have H := Lib.hid h
  have HL := Lib.hid hls
  have HA := Lib.hid ha
  clear h hls ha
  have hmm := @run_makeMap Tryz.prog
  go_enter Tryz.func89, Tryz.ntmps89
  go_wp2_with fail
  go_loopw [9] (fun i wr => ∃ k : Nat, k ≤ ls.length ∧ i = .int .i64 k ∧ (∃ D : DataW Unit, Hid (PlacedTo D ls k) ∧ Hid (wr.ownsMap Tryz.prog 9 (plainElem Tryz.prog 3) w.heap.size k D)) ∧ Below w.heap.size w wr) (fun i _ => ls.length - (intOf i).toNat)
  case atStart => exact ⟨0, Nat.zero_le _, rfl, ⟨_, PlacedTo.start ls, World.ownsMap_made _ _ _ _⟩, (Below.refl _ _).alloc (Nat.le_refl _) _⟩
  case round =>
    obtain ⟨k, hk, rfl, ⟨D, hseen, hown⟩, hbel⟩ := hrel
    clear hmm
    by_cases hlt : k < ls.length
    · obtain ⟨b, o, s, rfl, _, hsk, hc⟩ := (H.out.below hbel).at_ hlt
      have hsz := HL.out s (List.mem_of_getElem? hsk)
      have HS := Lib.hid hsk
      have HB := Lib.hid hbel
      have hsm : s.size ≤ maxLen := by unfold maxLen; omega
      have HSM := Lib.hid hsm
      have hbl := hown.out.lt
      have HO := Lib.hid hown.out
      clear hsk hsm hbel hown
      go_wp2_with (at_mapUpdate; refine wpList_mapUpdate_own _ rfl _ _ _ 111 rfl 9 3 keyed9 Tryz.underlying111 _ w.heap.size k _ rfl HO.out (by unfold maxLen; omega) _ _ _ rfl rfl (WideMaps.keyOf_string_mk Tryz.underlying9 HSM.out) _ [] (plainElem_int Tryz.underlying3 (WalkArith.wf_i64 (by omega))) ?_; intro w3 hown3 hgrow3; have HO3 := Lib.hid hown3; have HG3 := Lib.hid hgrow3; clear hown3 hgrow3)
      go_roundw
      case rel => exact ⟨k + 1, by omega, by go_num, ⟨_, hseen.out.put HA.out HS.out, HO3.out⟩, HB.out.grown HG3.out (by have := HB.out.size; omega) (fun j hj => by cases hj; exact Nat.le_refl _)⟩
      case measure => simp [intOf]; omega
    · have hk' : k = ls.length := by omega
      have HB := Lib.hid hbel
      clear hbel
      go_wp2
      go_ret
      refine ⟨_, rfl, ⟨D, ?_, ?_⟩, HB.out⟩
      · have h9 := hown.out
        rw [hk'] at h9
        exact h9
      · have h9 := hseen.out
        rw [hk'] at h9
        exact h9
end Go.Proofs.YtifchfecfkdjlaaGreatDoor
