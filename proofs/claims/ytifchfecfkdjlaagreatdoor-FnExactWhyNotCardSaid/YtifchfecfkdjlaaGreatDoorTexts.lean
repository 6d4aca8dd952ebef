/-
  The walks of comparing two lists of strings: the model's l03Texts and slices.Equal.
-/
import Derived.Test.YtifchfecfkdjlaaGreatDoorTyOwnT
import Derived.Test.YtifchfecfkdjlaaGreatDoorTyName
namespace Go.Proofs.YtifchfecfkdjlaaGreatDoor
open Go.ChangeShapes Go.WideShapes Go.ChangeAt Go.RowKit Go.Deep

def SameUpto (xs ys : List ByteArray) (k : Nat) : Prop := ∀ (i : Nat), i < k → xs[i]? = ys[i]?
theorem SameUpto.step {xs ys : List ByteArray} {k : Nat} {s t : ByteArray} (h : SameUpto xs ys k) (hs : xs[k]? = some s) (ht : ys[k]? = some t) (e : s = t) : SameUpto xs ys (k + 1) := fun i hi => by
  by_cases e2 : i = k
  · subst e2
    rw [hs, ht, e]
  · exact h i (by omega)
theorem SameUpto.eq {xs ys : List ByteArray} (hl : xs.length = ys.length) (h : SameUpto xs ys xs.length) : xs = ys := by
  apply List.ext_getElem?
  intro i
  by_cases hi : i < xs.length
  · exact h i hi
  · rw [List.getElem?_eq_none (by omega), List.getElem?_eq_none (by omega)]

/-- An answer; the world has drawn. -/
def SaysD (p : Prop) (w : World) (e : Ending) (w' : World) : Prop := ∃ v : Bool, e = .returned (.bool v) ∧ (v = true ↔ p) ∧ ∃ n, w' = w.drewN n

theorem l03Texts_any (xs ys : List ByteArray) (hx : xs.length ≤ 1048576) (_ : ys.length ≤ 1048576) (A B : Option Addr) (ca cb lo lo' : Nat) (w : World) (h : Strs w lo xs A) (h' : Strs w lo' ys B) :
    Calls Tryz.prog 86 #[.slice A xs.length ca, .slice B ys.length cb] w (SaysD (xs = ys) w) := by
  have H := Lib.hid h
  have H' := Lib.hid h'
  clear h h'
  by_cases hl : xs.length = ys.length
  · rw [← hl]
    have HL := Lib.hid hl
    clear hl
    go_enter Tryz.func86, Tryz.ntmps86
    go_wp2_with fail
    go_loopw [5] (fun i wr => ∃ k : Nat, k ≤ xs.length ∧ i = .int .i64 k ∧ Hid (SameUpto xs ys k) ∧ ∃ n, wr = w.drewN n) (fun i _ => xs.length - (intOf i).toNat)
    case atStart => exact ⟨0, Nat.zero_le _, rfl, (fun i hi => by omega), 0, rfl⟩
    case round =>
      obtain ⟨k, hk, rfl, hno, n, rfl⟩ := hrel
      by_cases hlt : k < xs.length
      · obtain ⟨b, o, s, rfl, _, hsk, hc⟩ := H.out.at_ hlt
        obtain ⟨b', o', t, rfl, _, htk, hc'⟩ := H'.out.at_ (k := k) (by have := HL.out; omega)
        have HS := Lib.hid hsk
        have HT := Lib.hid htk
        have hli : (k : Int) < (xs.length : Int) := by omega
        clear hsk htk
        by_cases he : s = t
        · have HE := Lib.hid he
          have e1 : (s.toList == t.toList) = true := by rw [he, beq_iff_eq]
          clear he
          go_wp2_with fail
          go_quiet (fail)
          go_wp2_with fail
          go_roundw
          case rel => exact ⟨k + 1, by omega, by go_num, hno.out.step HS.out HT.out HE.out, _, rfl⟩
          case measure => simp [intOf]; omega
        · have HE := Lib.hid he
          have e1 := text_ne he
          clear he
          go_wp2_with fail
          go_quiet (fail)
          go_wp2_with fail
          go_ret
          exact ⟨false, rfl, iffF (fun h => by have h1 := HS.out; rw [h, HT.out] at h1; exact HE.out (Option.some.inj h1).symm), _, World.drewN_drewN _ _ _⟩
      · have hk' : k = xs.length := by omega
        go_wp2
        go_ret
        exact ⟨true, rfl, iffT (SameUpto.eq HL.out (by rw [← hk']; exact hno.out)), _, rfl⟩
  · have hl2 : ((xs.length : Int) == (ys.length : Int)) = false := by rw [beq_eq_false_iff_ne]; omega
    have HL := Lib.hid hl
    clear hl
    go_enter Tryz.func86, Tryz.ntmps86
    go_wp2_with fail
    go_ret
    exact ⟨false, rfl, iffF (fun h => HL.out (by rw [h])), 0, rfl⟩

theorem sliEqual_any (xs ys : List ByteArray) (hx : xs.length ≤ 1048576) (_ : ys.length ≤ 1048576) (A B : Option Addr) (ca cb lo lo' : Nat) (w : World) (h : Strs w lo xs A) (h' : Strs w lo' ys B) :
    Calls Tryz.prog 100 #[.slice A xs.length ca, .slice B ys.length cb] w (SaysD (xs = ys) w) := by
  have H := Lib.hid h
  have H' := Lib.hid h'
  clear h h'
  by_cases hl : xs.length = ys.length
  · rw [← hl]
    have HL := Lib.hid hl
    clear hl
    go_enter Tryz.func100, Tryz.ntmps100
    go_wp2_with fail
    go_loopw [13] (fun i wr => ∃ k : Nat, k ≤ xs.length ∧ i = .int .i64 k ∧ Hid (SameUpto xs ys k) ∧ ∃ n, wr = w.drewN n) (fun i _ => xs.length - (intOf i).toNat)
    case atStart => exact ⟨0, Nat.zero_le _, rfl, (fun i hi => by omega), 0, rfl⟩
    case round =>
      obtain ⟨k, hk, rfl, hno, n, rfl⟩ := hrel
      by_cases hlt : k < xs.length
      · obtain ⟨b, o, s, rfl, _, hsk, hc⟩ := H.out.at_ hlt
        obtain ⟨b', o', t, rfl, _, htk, hc'⟩ := H'.out.at_ (k := k) (by have := HL.out; omega)
        have HS := Lib.hid hsk
        have HT := Lib.hid htk
        have hli : (k : Int) < (xs.length : Int) := by omega
        clear hsk htk
        by_cases he : s = t
        · have HE := Lib.hid he
          have e1 : (s.toList == t.toList) = true := by rw [he, beq_iff_eq]
          clear he
          go_wp2_with fail
          go_quiet (fail)
          go_wp2_with fail
          go_roundw
          case rel => exact ⟨k + 1, by omega, by go_num, hno.out.step HS.out HT.out HE.out, _, rfl⟩
          case measure => simp [intOf]; omega
        · have HE := Lib.hid he
          have e1 := text_ne he
          clear he
          go_wp2_with fail
          go_quiet (fail)
          go_wp2_with fail
          go_ret
          exact ⟨false, rfl, iffF (fun h => by have h1 := HS.out; rw [h, HT.out] at h1; exact HE.out (Option.some.inj h1).symm), _, World.drewN_drewN _ _ _⟩
      · have hk' : k = xs.length := by omega
        go_wp2
        go_ret
        exact ⟨true, rfl, iffT (SameUpto.eq HL.out (by rw [← hk']; exact hno.out)), _, rfl⟩
  · have hl2 : ((xs.length : Int) == (ys.length : Int)) = false := by rw [beq_eq_false_iff_ne]; omega
    have HL := Lib.hid hl
    clear hl
    go_enter Tryz.func100, Tryz.ntmps100
    go_wp2_with fail
    go_ret
    exact ⟨false, rfl, iffF (fun h => HL.out (by rw [h])), 0, rfl⟩
end Go.Proofs.YtifchfecfkdjlaaGreatDoor
