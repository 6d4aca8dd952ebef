/-
  The walks of both Transcode and of the law FnExactTranscode.
-/
import Derived.Test.YtmnkkpahbmcekaaDoorDecJ
namespace Go.Proofs.YtmnkkpahbmcekaaDoor
open Go.ChangeShapes Go.WideShapes Go.ChangeAt Go.RowKit Go.Deep

/-- What both answer. -/
def tranA (p q : Int) (b : ByteArray) : ByteArray × Int :=
  if (1 ≤ p ∧ p ≤ 3) ∧ (1 ≤ q ∧ q ≤ 3) then (if (decP p b (candS p b)).2 = 0 then encV q (decP p b (candS p b)).1 else (⟨#[]⟩, (decP p b (candS p b)).2)) else (⟨#[]⟩, 1)
theorem decP_ok {enc : Int} {b c : ByteArray} (h : (decP enc b c).2 = 0) : TxtOk (decP enc b c).1 := by
  unfold decP at h ⊢
  split at h
  · rename_i k
    rw [if_pos k]
    exact k.1
  · cases h

set_option maxHeartbeats 1000000 in
theorem specTran_in (p q : Int) (hp : 1 ≤ p ∧ p ≤ 3) (hq : 1 ≤ q ∧ q ≤ 3) (b : ByteArray) (hs : b.size ≤ 1048576) (w : World) : Calls Tryd.prog 23 #[.int .i64 p, .int .i64 q, .string b] w (RetSN (tranA p q b) w) := by
  unfold tranA
  rw [if_pos ⟨hp, hq⟩]
  have CP := Lib.hid (fun W => specEnc_yes p hp.1 hp.2 W)
  have CQ := Lib.hid (fun W => specEnc_yes q hq.1 hq.2 W)
  have CD := Lib.hid (fun W => decS_any p hp.1 hp.2 b hs W)
  have hok := decP_ok (enc := p) (b := b) (c := candS p b)
  obtain ⟨D, hD⟩ : ∃ D, decP p b (candS p b) = D := ⟨_, rfl⟩
  rw [hD] at CD hok ⊢
  obtain ⟨C, r⟩ := D
  by_cases h0 : r = 0
  · subst h0
    have ht : TxtOk C := hok rfl
    have CE := Lib.hid (fun W => encS_any q hq.1 hq.2 C ht W)
    rw [if_pos rfl]
    show Calls _ _ _ _ (RetSN (encV q C) w)
    generalize encV q C = V at *
    obtain ⟨V1, V2⟩ := V
    clear hD hok ht hp hq
    go_enter Tryd.func23, Tryd.ntmps23
    go_wp2_with fail
    go_at_call 30
    refine (CP.out _).mono ?_
    rintro e w2 ⟨rfl, rfl⟩
    go_wp2_with fail
    go_at_call 30
    refine (CQ.out _).mono ?_
    rintro e w3 ⟨rfl, rfl⟩
    go_wp2_with fail
    go_at_call 35
    refine (CD.out _).mono ?_
    rintro e w4 ⟨rfl, hb4⟩
    have HB4 := Lib.hid hb4
    clear hb4
    go_wp2_with fail
    go_at_call 32
    refine (CE.out _).mono ?_
    rintro e w5 ⟨rfl, hb5⟩
    have HB5 := Lib.hid (next6 HB4.out hb5)
    clear hb5
    go_wp2_with fail
    go_ret2
    exact ⟨rfl, HB5.out⟩
  · have hr : (r == 0) = false := by
      rw [beq_eq_false_iff_ne]
      exact h0
    rw [if_neg h0]
    clear hD hok hp hq h0
    go_enter Tryd.func23, Tryd.ntmps23
    go_wp2_with fail
    go_at_call 30
    refine (CP.out _).mono ?_
    rintro e w2 ⟨rfl, rfl⟩
    go_wp2_with fail
    go_at_call 30
    refine (CQ.out _).mono ?_
    rintro e w3 ⟨rfl, rfl⟩
    go_wp2_with fail
    go_at_call 35
    refine (CD.out _).mono ?_
    rintro e w4 ⟨rfl, hb4⟩
    have HB4 := Lib.hid hb4
    clear hb4
    go_wp2_with fail
    go_ret2
    exact ⟨rfl, HB4.out⟩
set_option maxHeartbeats 1000000 in
theorem specTran_no (p q : Int) (h : ¬ ((1 ≤ p ∧ p ≤ 3) ∧ (1 ≤ q ∧ q ≤ 3))) (b : ByteArray) (w : World) : Calls Tryd.prog 23 #[.int .i64 p, .int .i64 q, .string b] w (RetSN (tranA p q b) w) := by
  unfold tranA
  rw [if_neg h]
  by_cases hp : 1 ≤ p ∧ p ≤ 3
  · have CP := Lib.hid (fun W => specEnc_yes p hp.1 hp.2 W)
    have CQ := Lib.hid (fun W => specEnc_no q (by omega) W)
    clear h hp
    go_enter Tryd.func23, Tryd.ntmps23
    go_wp2_with fail
    go_at_call 30
    refine (CP.out _).mono ?_
    rintro e w2 ⟨rfl, rfl⟩
    go_wp2_with fail
    go_at_call 30
    refine (CQ.out _).mono ?_
    rintro e w3 ⟨rfl, rfl⟩
    go_wp2_with fail
    go_ret2
    exact ⟨rfl, Below.refl _ _⟩
  · have CP := Lib.hid (fun W => specEnc_no p (by omega) W)
    clear h hp
    go_enter Tryd.func23, Tryd.ntmps23
    go_wp2_with fail
    go_at_call 30
    refine (CP.out _).mono ?_
    rintro e w2 ⟨rfl, rfl⟩
    go_wp2_with fail
    go_ret2
    exact ⟨rfl, Below.refl _ _⟩

set_option maxHeartbeats 1000000 in
theorem implTran_in (p q : Int) (hp : 1 ≤ p ∧ p ≤ 3) (hq : 1 ≤ q ∧ q ≤ 3) (b : ByteArray) (w : World) (hT : Tabs w) : Calls Tryd.prog 24 #[.int .i64 p, .int .i64 q, .string b] w (RetSN (tranA p q b) w) := by
  unfold tranA
  rw [if_pos ⟨hp, hq⟩]
  have HT := Lib.hid hT
  have CP := Lib.hid (fun W => implEnc_yes p hp.1 hp.2 W)
  have CQ := Lib.hid (fun W => implEnc_yes q hq.1 hq.2 W)
  have CD := Lib.hid (fun W hT => decI_in p hp.1 hp.2 b W hT)
  have hok := decP_ok (enc := p) (b := b) (c := candS p b)
  obtain ⟨D, hD⟩ : ∃ D, decP p b (candS p b) = D := ⟨_, rfl⟩
  rw [hD] at CD hok ⊢
  obtain ⟨C, r⟩ := D
  by_cases h0 : r = 0
  · subst h0
    have ht : TxtOk C := hok rfl
    have CE := Lib.hid (fun W hT => implEnc_in q hq.1 hq.2 C ht W hT)
    rw [if_pos rfl]
    show Calls _ _ _ _ (RetSN (encV q C) w)
    generalize encV q C = V at *
    obtain ⟨V1, V2⟩ := V
    clear hD hok ht hp hq hT
    go_enter Tryd.func24, Tryd.ntmps24
    go_wp2_with fail
    go_at_call 33
    refine (CP.out _).mono ?_
    rintro e w2 ⟨rfl, rfl⟩
    go_wp2_with fail
    go_at_call 33
    refine (CQ.out _).mono ?_
    rintro e w3 ⟨rfl, rfl⟩
    go_wp2_with fail
    go_at_call 20
    refine (CD.out _ HT.out).mono ?_
    rintro e w4 ⟨rfl, hb4⟩
    have HB4 := Lib.hid hb4
    clear hb4
    go_wp2_with fail
    go_at_call 18
    refine (CE.out _ (HT.out.keep HB4.out)).mono ?_
    rintro e w5 ⟨rfl, hb5⟩
    have HB5 := Lib.hid (next6 HB4.out hb5)
    clear hb5
    go_wp2_with fail
    go_ret2
    exact ⟨rfl, HB5.out⟩
  · have hr : (r == 0) = false := by
      rw [beq_eq_false_iff_ne]
      exact h0
    rw [if_neg h0]
    clear hD hok hp hq hT h0
    go_enter Tryd.func24, Tryd.ntmps24
    go_wp2_with fail
    go_at_call 33
    refine (CP.out _).mono ?_
    rintro e w2 ⟨rfl, rfl⟩
    go_wp2_with fail
    go_at_call 33
    refine (CQ.out _).mono ?_
    rintro e w3 ⟨rfl, rfl⟩
    go_wp2_with fail
    go_at_call 20
    refine (CD.out _ HT.out).mono ?_
    rintro e w4 ⟨rfl, hb4⟩
    have HB4 := Lib.hid hb4
    clear hb4
    go_wp2_with fail
    go_ret2
    exact ⟨rfl, HB4.out⟩
set_option maxHeartbeats 1000000 in
theorem implTran_no (p q : Int) (h : ¬ ((1 ≤ p ∧ p ≤ 3) ∧ (1 ≤ q ∧ q ≤ 3))) (b : ByteArray) (w : World) : Calls Tryd.prog 24 #[.int .i64 p, .int .i64 q, .string b] w (RetSN (tranA p q b) w) := by
  unfold tranA
  rw [if_neg h]
  by_cases hp : 1 ≤ p ∧ p ≤ 3
  · have CP := Lib.hid (fun W => implEnc_yes p hp.1 hp.2 W)
    have CQ := Lib.hid (fun W => implEnc_no q (by omega) W)
    clear h hp
    go_enter Tryd.func24, Tryd.ntmps24
    go_wp2_with fail
    go_at_call 33
    refine (CP.out _).mono ?_
    rintro e w2 ⟨rfl, rfl⟩
    go_wp2_with fail
    go_at_call 33
    refine (CQ.out _).mono ?_
    rintro e w3 ⟨rfl, rfl⟩
    go_wp2_with fail
    go_ret2
    exact ⟨rfl, Below.refl _ _⟩
  · have CP := Lib.hid (fun W => implEnc_no p (by omega) W)
    clear h hp
    go_enter Tryd.func24, Tryd.ntmps24
    go_wp2_with fail
    go_at_call 33
    refine (CP.out _).mono ?_
    rintro e w2 ⟨rfl, rfl⟩
    go_wp2_with fail
    go_ret2
    exact ⟨rfl, Below.refl _ _⟩
theorem specTran_any (p q : Int) (b : ByteArray) (hs : b.size ≤ 1048576) (w : World) : Calls Tryd.prog 23 #[.int .i64 p, .int .i64 q, .string b] w (RetSN (tranA p q b) w) := by
  by_cases h : (1 ≤ p ∧ p ≤ 3) ∧ (1 ≤ q ∧ q ≤ 3)
  · exact specTran_in p q h.1 h.2 b hs w
  · exact specTran_no p q h b w
theorem implTran_any (p q : Int) (b : ByteArray) (w : World) (hT : Tabs w) : Calls Tryd.prog 24 #[.int .i64 p, .int .i64 q, .string b] w (RetSN (tranA p q b) w) := by
  by_cases h : (1 ≤ p ∧ p ≤ 3) ∧ (1 ≤ q ∧ q ≤ 3)
  · exact implTran_in p q h.1 h.2 b w hT
  · exact implTran_no p q h b w
set_option maxHeartbeats 1000000 in
theorem fnExactTranscodeLaw (p q : Int) (s : ByteArray) (w : World) (hT : Tabs w) :
    Calls Tryd.prog 8 #[.int .i64 p, .int .i64 q, .string s] w fun e w' => e = .returned (.bool true) ∧ Below w.heap.size w w' := by
  by_cases h20 : s.size ≤ 1048576
  · have h20i : ¬ (1048576 : Int) < (s.size : Int) := by omega
    have CS := Lib.hid (fun W => specTran_any p q s h20 W)
    have CI := Lib.hid (fun W hT => implTran_any p q s W hT)
    have HT := Lib.hid hT
    generalize tranA p q s = V at *
    obtain ⟨V1, V2⟩ := V
    clear hT h20
    go_enter Tryd.func8, Tryd.ntmps8
    go_wp2_with fail
    go_at_call 23
    refine (CS.out _).mono ?_
    rintro e w2 ⟨rfl, hb2⟩
    have HB2 := Lib.hid hb2
    clear hb2
    go_wp2_with fail
    go_at_call 24
    refine (CI.out _ (HT.out.keep HB2.out)).mono ?_
    rintro e w3 ⟨rfl, hb3⟩
    have HB3 := Lib.hid (next6 HB2.out hb3)
    clear hb3
    go_wp2_with fail
    go_ret
    exact ⟨rfl, HB3.out⟩
  · have h20i : (1048576 : Int) < (s.size : Int) := by omega
    clear h20 hT
    go_enter Tryd.func8, Tryd.ntmps8
    go_wp2_with fail
    go_ret
    exact ⟨rfl, Below.refl _ _⟩
end Go.Proofs.YtmnkkpahbmcekaaDoor
