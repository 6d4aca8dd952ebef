/-
  The walks of both Transcode and of the law FnExactTranscode.
-/
import Derived.Test.YthdnklhaagofhaaDoorDecJ
namespace Go.Proofs.YthdnklhaagofhaaDoor
open Go.ChangeShapes Go.WideShapes Go.ChangeAt Go.RowKit Go.Deep
set_option maxRecDepth 100000

/-- What both answer. -/
def tranA (p q : Int) (b : ByteArray) : ByteArray × Int :=
  if (1 ≤ p ∧ p ≤ 3) ∧ (1 ≤ q ∧ q ≤ 3) then (if (decP p b (candS p b)).2 = 0 then encV q (decP p b (candS p b)).1 else (⟨#[]⟩, (decP p b (candS p b)).2)) else (⟨#[]⟩, 1)
theorem decP_ok {enc : Int} {b c : ByteArray} (h : (decP enc b c).2 = 0) : TxtOk (decP enc b c).1 := by
  unfold decP at h ⊢
  split at h
  · rename_i k
    rw [if_pos k]
    exact k.1
  · cases h

set_option maxHeartbeats 1000000 in
theorem implTran_in (p q : Int) (hp : 1 ≤ p ∧ p ≤ 3) (hq : 1 ≤ q ∧ q ≤ 3) (b : ByteArray) (w : World) (hT : Tabs w) : Calls Tryd.prog 24 #[.int .i64 p, .int .i64 q, .string b] w (RetSN (tranA p q b) w) := by
  unfold tranA
  rw [if_pos ⟨hp, hq⟩]
  have HT := Lib.hid hT
  have CP := Lib.hid (fun W => implEnc_yes p hp.1 hp.2 W)
  have CQ := Lib.hid (fun W => implEnc_yes q hq.1 hq.2 W)
  have CD := Lib.hid (fun W hT => decI_in p hp.1 hp.2 b W hT)
  have hok := decP_ok (enc := p) (b := b) (c := candS p b)
  obtain ⟨D, hD⟩ : ∃ D, decP p b (candS p b) = D := ⟨_, rfl⟩
  rw [hD] at CD hok ⊢
  obtain ⟨C, r⟩ := D
  by_cases h0 : r = 0
  · subst h0
    have ht : TxtOk C := hok rfl
    have CE := Lib.hid (fun W hT => implEnc_in q hq.1 hq.2 C ht W hT)
    rw [if_pos rfl]
    show Calls _ _ _ _ (RetSN (encV q C) w)
    generalize encV q C = V at *
    obtain ⟨V1, V2⟩ := V
    clear hD hok ht hp hq hT
    go_enter Tryd.func24, Tryd.ntmps24
    go_wp2_with fail
    go_at_call 61
    refine (CP.out _).mono ?_
    rintro e w2 ⟨rfl, rfl⟩
    go_wp2_with fail
    go_at_call 61
    refine (CQ.out _).mono ?_
    rintro e w3 ⟨rfl, rfl⟩
    go_wp2_with fail
    go_at_call 25
    refine (CD.out _ HT.out).mono ?_
    rintro e w4 ⟨rfl, hb4⟩
    have HB4 := Lib.hid hb4
    clear hb4
    go_wp2_with fail
    go_at_call 27
    refine (CE.out _ (HT.out.keep HB4.out)).mono ?_
    rintro e w5 ⟨rfl, hb5⟩
    have HB5 := Lib.hid (next6 HB4.out hb5)
    clear hb5
    go_wp2_with fail
    go_ret2
    exact ⟨rfl, HB5.out⟩
  · have hr : (r == 0) = false := by
      rw [beq_eq_false_iff_ne]
      exact h0
    rw [if_neg h0]
    clear hD hok hp hq hT h0
    go_enter Tryd.func24, Tryd.ntmps24
    go_wp2_with fail
    go_at_call 61
    refine (CP.out _).mono ?_
    rintro e w2 ⟨rfl, rfl⟩
    go_wp2_with fail
    go_at_call 61
    refine (CQ.out _).mono ?_
    rintro e w3 ⟨rfl, rfl⟩
    go_wp2_with fail
    go_at_call 25
    refine (CD.out _ HT.out).mono ?_
    rintro e w4 ⟨rfl, hb4⟩
    have HB4 := Lib.hid hb4
    clear hb4
    go_wp2_with fail
    go_ret2
    exact ⟨rfl, HB4.out⟩
set_option maxHeartbeats 1000000 in
theorem implTran_no (p q : Int) (h : ¬ ((1 ≤ p ∧ p ≤ 3) ∧ (1 ≤ q ∧ q ≤ 3))) (b : ByteArray) (w : World) : Calls Tryd.prog 24 #[.int .i64 p, .int .i64 q, .string b] w (RetSN (tranA p q b) w) := by
  unfold tranA
  rw [if_neg h]
  by_cases hp : 1 ≤ p ∧ p ≤ 3
  · have CP := Lib.hid (fun W => implEnc_yes p hp.1 hp.2 W)
    have CQ := Lib.hid (fun W => implEnc_no q (by omega) W)
    clear h hp
    go_enter Tryd.func24, Tryd.ntmps24
    go_wp2_with fail
    go_at_call 61
    refine (CP.out _).mono ?_
    rintro e w2 ⟨rfl, rfl⟩
    go_wp2_with fail
    go_at_call 61
    refine (CQ.out _).mono ?_
    rintro e w3 ⟨rfl, rfl⟩
    go_wp2_with fail
    go_ret2
    exact ⟨rfl, Below.refl _ _⟩
  · have CP := Lib.hid (fun W => implEnc_no p (by omega) W)
    clear h hp
    go_enter Tryd.func24, Tryd.ntmps24
    go_wp2_with fail
    go_at_call 61
    refine (CP.out _).mono ?_
    rintro e w2 ⟨rfl, rfl⟩
    go_wp2_with fail
    go_ret2
    exact ⟨rfl, Below.refl _ _⟩
theorem implTran_any (p q : Int) (b : ByteArray) (w : World) (hT : Tabs w) : Calls Tryd.prog 24 #[.int .i64 p, .int .i64 q, .string b] w (RetSN (tranA p q b) w) := by
  by_cases h : (1 ≤ p ∧ p ≤ 3) ∧ (1 ≤ q ∧ q ≤ 3)
  · exact implTran_in p q h.1 h.2 b w hT
  · exact implTran_no p q h b w
end Go.Proofs.YthdnklhaagofhaaDoor
