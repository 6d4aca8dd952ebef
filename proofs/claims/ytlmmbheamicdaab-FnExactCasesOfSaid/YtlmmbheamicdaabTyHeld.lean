/-
  The walks of asking a marked tree: every mark is found.
-/
import Derived.Test.YtlmmbheamicdaabTyMD
import Derived.Test.YtlmmbheamicdaabTyW3
import Derived.Deep.RegionHeld3
namespace Go.Proofs.Ytlmmbheamicdaab
open Go.ChangeShapes Go.WideShapes Go.ChangeAt Go.RowKit Go.Deep

theorem Ty.kind_mk (k : Int) (n : ByteArray) (l : List ByteArray) (ks : List Ty) : (Ty.mk k n l ks).kind = k := rfl
theorem Ty.name_mk (k : Int) (n : ByteArray) (l : List ByteArray) (ks : List Ty) : (Ty.mk k n l ks).name = n := rfl
theorem Ty.labels_mk (k : Int) (n : ByteArray) (l : List ByteArray) (ks : List Ty) : (Ty.mk k n l ks).labels = l := rfl
theorem Ty.kids_mk (k : Int) (n : ByteArray) (l : List ByteArray) (ks : List Ty) : (Ty.mk k n l ks).kids = ks := rfl
def HeldAt (ks : List Ty) : Prop := ∀ (k : Nat), 1 ≤ k → k + Ty.mcs ks ≤ 1099511627776 → ∀ (B : Option Addr) (cb lo : Nat) (w : World), Ty.RowAt w lo (Ty.mkds ks k) B →
  Calls Try.prog 15 #[.slice B ks.length cb, .int .i64 k] w fun e w' => e = .returned (.int .i64 ((k + Ty.mcs ks : Nat) : Int)) ∧ Below w.heap.size w w'

set_option maxHeartbeats 4000000 in
set_option maxRecDepth 100000 in
theorem heldTypeS_any_of (ks : List Ty) (ih : ∀ (i : Nat) (u : Ty), ks[i]? = some u → HeldAt u.kids) : HeldAt ks := by
  intro k h0 h1 B cb lo w h
  have H := Lib.hid h
  have IH := Lib.hid ih
  have hlk := Ty.len_mcs ks
  have HL : ks.length ≤ 1099511627776 := by omega
  have H1 := Lib.hid h1
  clear ih h h1 hlk
  go_enter Try.func15, Try.ntmps15
  go_wp2_with fail
  go_loopw [1, 5] (fun x i wr => ∃ j : Nat, j ≤ ks.length ∧ i = .int .i64 j ∧ x = .int .i64 ((k + Ty.mcs (ks.take j) : Nat) : Int) ∧ Below w.heap.size w wr) (fun _ i _ => ks.length - (intOf i).toNat)
  case atStart => exact ⟨0, Nat.zero_le _, rfl, by simp [Ty.mcs], Below.refl _ _⟩
  case round =>
    obtain ⟨j, hj, rfl, rfl, hbel⟩ := hrel
    by_cases hlt : j < ks.length
    · obtain ⟨u, hu⟩ : ∃ u, ks[j]? = some u := ⟨_, List.getElem?_eq_getElem hlt⟩
      obtain ⟨b, o, t, A1, B1, ca1, cb1, rfl, _, htk, hc⟩ := (H.out.below hbel).at_ (k := j) (by rw [Ty.mkds_length]; exact hlt)
      rw [Ty.mkds_get hu] at htk
      obtain rfl := Option.some.inj htk
      have g1 := Ty.mcs_get hu
      have g2 := Ty.mcs_take hu
      have g3 := Ty.mcs_take_le ks (j + 1)
      have g5 := H1.out
      have g6 := u.mc_eq
      obtain ⟨m, hm⟩ : ∃ m, k + Ty.mcs (ks.take j) = m := ⟨_, rfl⟩
      rw [hm] at hc
      rw [Ty.mkd_eq] at hc
      obtain ⟨c0, c1, c2, c3, htree⟩ := hc
      have hst := htree.strs
      have hrw := htree.rowAt
      rw [Ty.kind_mk] at c0
      rw [Ty.name_mk] at c1
      rw [Ty.labels_mk, mts_length] at c2
      rw [Ty.kids_mk, Ty.mkds_length] at c3
      rw [Ty.labels_mk] at hst
      rw [Ty.kids_mk] at hrw
      have C1 : Hid (∀ a : Nat, Calls Try.prog 37 #[.int .i64 ((m : Int) + 1)] (wr.drewN a) fun e w' => e = .returned (.string (mt (m + 1))) ∧ Below wr.heap.size (wr.drewN a) w') := Lib.hid (fun a => by
        have := markText_any (m + 1) (by omega) (by omega) (wr.drewN a)
        rw [show ((m + 1 : Nat) : Int) = (m : Int) + 1 by omega] at this
        exact this)
      have C2 : Hid (∀ W : World, Strs W lo (mts (m + 1 + 1) u.labels.length) A1 → Calls Try.prog 38 #[.slice A1 u.labels.length ca1, .int .i64 ((m : Int) + 1 + 1)] W fun e w' => e = .returned (.int .i64 ((m + 1 + 1 + u.labels.length : Nat) : Int)) ∧ Below W.heap.size W w') := Lib.hid (fun W hW => by
        have := heldStringS_any u.labels.length A1 ca1 (m + 1 + 1) (by omega) (by omega) lo W hW
        rw [show ((m + 1 + 1 : Nat) : Int) = (m : Int) + 1 + 1 by omega] at this
        exact this)
      have C3 : Hid (∀ W : World, Ty.RowAt W lo (Ty.mkds u.kids (m + 1 + 1 + u.labels.length)) B1 → Calls Try.prog 15 #[.slice B1 u.kids.length cb1, .int .i64 ((m + 1 + 1 + u.labels.length : Nat) : Int)] W fun e w' => e = .returned (.int .i64 ((m + 1 + 1 + u.labels.length + Ty.mcs u.kids : Nat) : Int)) ∧ Below W.heap.size W w') := Lib.hid (fun W hW => IH.out j u hu (m + 1 + 1 + u.labels.length) (by omega) (by omega) B1 cb1 lo W hW)
      have hlj : (j : Int) < (ks.length : Int) := by omega
      have HB := Lib.hid hbel
      have HM := Lib.hid hm
      have HT := Lib.hid g2
      have HU := Lib.hid g6
      have HST := Lib.hid hst
      have HRW := Lib.hid hrw
      have hm1 : (m : Int) ≤ 1099511627776 := by omega
      have hm0 : (0 : Int) ≤ (m : Int) := by omega
      have hu1 : u.labels.length ≤ 1099511627776 := by omega
      have hu2 : m + 1 + 1 + u.labels.length + Ty.mcs u.kids ≤ 1099511627776 := by omega
      rw [hm]
      clear hm g1 g2 g3 g5 g6 hst hrw htree hu htk hbel
      go_wp2_with fail
      go_region_held3 (fun w' => w'.cell? ⟨b, o + j * 4 + 1, none⟩ = some (.string (mt (m + 1))) ∧ w'.cell? ⟨b, o + j * 4 + 2, none⟩ = some (.slice A1 u.labels.length ca1) ∧ w'.cell? ⟨b, o + j * 4 + 3, none⟩ = some (.slice B1 u.kids.length cb1) ∧ Below wr.heap.size wr w')
        (first | assumption | (exact (Below.refl _ _).drew) | (exact ⟨c1, c2, c3, (Below.refl _ _).drew⟩) | (refine ⟨?_, ?_, ?_, ?_⟩ <;> assumption))
        (first | (go_at_call 37; refine (C1.out 1).mono ?_; rintro e wx ⟨rfl, hbx⟩; have hbw : Below wr.heap.size wr wx := (Below.refl wr.heap.size wr).drew.trans hbx; have p1 := keepCell hbw c1; have p2 := keepCell hbw c2; have p3 := keepCell hbw c3))
      go_wp2_with fail
      have hbq : Below wr.heap.size wr wx := hbw
      have p3' := Lib.hid p3
      have HBQ := Lib.hid hbq
      clear hbq c0 c1 c2 c3 C1
      go_at_call 38
      refine (C2.out _ (HST.out.below HBQ.out)).mono ?_
      rintro e w3 ⟨rfl, hb3⟩
      have q3 := keepCell hb3 p3'.out
      have HB3 := Lib.hid (bnext HBQ.out hb3)
      have hz3 : ¬ ((m + 1 + 1 + u.labels.length : Nat) : Int) < 0 := by omega
      clear hb3 C2
      go_wp2_with fail
      go_at_call 15
      refine (C3.out _ (HRW.out.below HB3.out)).mono ?_
      rintro e w4 ⟨rfl, hb4⟩
      have HB4 := Lib.hid (bnext HB3.out hb4)
      have hz4 : ¬ ((m + 1 + 1 + u.labels.length + Ty.mcs u.kids : Nat) : Int) < 0 := by omega
      clear hb4 C3
      go_wp2_with fail
      go_roundw
      case rel =>
        refine ⟨j + 1, by omega, by go_num, ?_, bnext HB.out HB4.out⟩
        have := HM.out
        have := HT.out
        have := HU.out
        congr 1
        omega
      case measure => simp [intOf]; omega
    · have e9 : j = ks.length := by omega
      subst e9
      have HB := Lib.hid hbel
      clear hbel
      rw [List.take_length]
      go_wp2_with fail
      go_ret
      exact ⟨rfl, HB.out⟩
theorem heldTypeS_kids (T : Ty) : HeldAt T.kids := by
  induction T using Ty.kidInd with
  | h T ih => exact heldTypeS_any_of T.kids ih
theorem heldTypeS_rows (ks : List Ty) : HeldAt ks := heldTypeS_any_of ks fun _ u _ => heldTypeS_kids u
end Go.Proofs.Ytlmmbheamicdaab
