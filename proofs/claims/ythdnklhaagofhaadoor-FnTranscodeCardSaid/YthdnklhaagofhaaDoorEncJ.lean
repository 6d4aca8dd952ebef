/-
  The walk of the program's Encode; the decoder's tables are a hypothesis on the world.
-/
import Derived.Test.YthdnklhaagofhaaDoorEncI
namespace Go.Proofs.YthdnklhaagofhaaDoor
open Go.ChangeShapes Go.WideShapes Go.ChangeAt Go.RowKit Go.Deep
set_option maxRecDepth 100000

theorem codecFn (u : Int) (f g : Value) (W : World) : (Instr.field 112 (.agg #[.int .i64 u, f, g]) 1).run Tryd.prog W = .ok f W := by
  simp [Instr.field, run_underlying Tryd.underlying112, go_sem, asAgg, Result.andThen]
theorem implTextOk_yes (s : ByteArray) (h : TxtOk s) (w : World) (hT : Tabs w) :
    Calls Tryd.prog 65 #[.string s] w fun e w' => e = .returned (.bool true) ∧ Below w.heap.size w w' := by
  have C := implTextOk_short s h.1 w hT
  rw [h.2] at C
  exact C
theorem implTextOk_no (s : ByteArray) (hs : s.size ≤ 1048576) (h : ¬ TxtOk s) (w : World) (hT : Tabs w) :
    Calls Tryd.prog 65 #[.string s] w fun e w' => e = .returned (.bool false) ∧ Below w.heap.size w w' := by
  by_cases hz : s.size ≤ 24
  · have hv : Lib.validD s.data.toList = false := by
      rw [Bool.eq_false_iff]
      intro hv
      exact h ⟨hz, hv⟩
    have C := implTextOk_short s hz w hT
    rw [hv] at C
    exact C
  · exact implTextOk_long s (by omega) hs w

set_option maxHeartbeats 2000000 in
theorem implEnc_1 (s : ByteArray) (h : TxtOk s) (w : World) (hT : Tabs w) : Calls Tryd.prog 27 #[.int .i64 1, .string s] w (RetSN (s, 0) w) := by
  have CE := Lib.hid (fun W => implEnc_yes 1 (by decide) (by decide) W)
  have CT := Lib.hid (fun W hT => implTextOk_yes s h W hT)
  have CC := Lib.hid (fun W => codecOf_1 W)
  unfold CodecPost fnV at CC
  have hfn := codecFn 1 (.func (.func 96) #[] #[]) (.func (.func 97) #[] #[])
  have CV := Lib.hid (fun W => conv_pts s h.1 W)
  have hback := (back_text s h.2).2
  have HT := Lib.hid hT
  have hl := ptsOf_len s
  have h24 := h.1
  have hP24 : (ptsOf s).length ≤ 24 := by omega
  have CU := Lib.hid (fun R c W hR => toUtf8_any (ptsOf s) R c W hR)
  have CV : Hid (∀ W, ∃ (b c : Nat) (w' : World), (convert 9 108 (.string s)).run Tryd.prog W = .ok (.slice (some ⟨b, 0, none⟩) (ptsOf s).length c) w' ∧ Row32 w' (ptsOf s) (some ⟨b, 0, none⟩) ∧ Below W.heap.size W w') := CV
  rw [show runesBytes (ptsOf s) = s from hback] at CU
  clear hT h hl h24 hback
  generalize ptsOf s = P at *
  go_enter Tryd.func27, Tryd.ntmps27
  go_wp2_with fail
  go_at_call 61
  refine (CE.out _).mono ?_
  rintro e w2 ⟨rfl, rfl⟩
  go_wp2_with fail
  go_at_call 65
  refine (CT.out _ HT.out).mono ?_
  rintro e w3 ⟨rfl, hb3⟩
  have HB3 := Lib.hid hb3
  clear hb3
  go_wp2_with fail
  go_at_call 62
  refine (CC.out _).mono ?_
  rintro e w4 ⟨rfl, hb4⟩
  have HB4 := Lib.hid (next6 HB3.out hb4)
  obtain ⟨b, c, w5, hcv, hrow, hb5⟩ := CV.out w4
  have HR := Lib.hid hrow
  have HB5 := Lib.hid (next6 HB4.out hb5)
  clear hb4 hrow hb5
  go_wp2_with fail
  go_at_call 96
  refine (CU.out _ _ _ HR.out).mono ?_
  rintro e w6 ⟨rfl, hb6⟩
  have HB6 := Lib.hid (next6 HB5.out hb6)
  clear hb6
  go_wp2_with fail
  go_ret2
  exact ⟨rfl, HB6.out⟩
set_option maxHeartbeats 2000000 in
theorem implEnc_2 (s : ByteArray) (h : TxtOk s) (w : World) (hT : Tabs w) : Calls Tryd.prog 27 #[.int .i64 2, .string s] w (RetSN (wideB (ptsOf s), 0) w) := by
  have CE := Lib.hid (fun W => implEnc_yes 2 (by decide) (by decide) W)
  have CT := Lib.hid (fun W hT => implTextOk_yes s h W hT)
  have CC := Lib.hid (fun W => codecOf_2 W)
  unfold CodecPost fnV at CC
  have hfn := codecFn 2 (.func (.func 98) #[] #[]) (.func (.func 99) #[] #[])
  have CV := Lib.hid (fun W => conv_pts s h.1 W)
  have hA := ptsOf_ch h
  have HT := Lib.hid hT
  have hl := ptsOf_len s
  have h24 := h.1
  have hP24 : (ptsOf s).length ≤ 24 := by omega
  have CU := Lib.hid (fun R c W hR => toUtf16_any (ptsOf s) hP24 hA R c W hR)
  have CV : Hid (∀ W, ∃ (b c : Nat) (w' : World), (convert 9 108 (.string s)).run Tryd.prog W = .ok (.slice (some ⟨b, 0, none⟩) (ptsOf s).length c) w' ∧ Row32 w' (ptsOf s) (some ⟨b, 0, none⟩) ∧ Below W.heap.size W w') := CV
  clear hT h hl h24
  generalize ptsOf s = P at *
  go_enter Tryd.func27, Tryd.ntmps27
  go_wp2_with fail
  go_at_call 61
  refine (CE.out _).mono ?_
  rintro e w2 ⟨rfl, rfl⟩
  go_wp2_with fail
  go_at_call 65
  refine (CT.out _ HT.out).mono ?_
  rintro e w3 ⟨rfl, hb3⟩
  have HB3 := Lib.hid hb3
  clear hb3
  go_wp2_with fail
  go_at_call 62
  refine (CC.out _).mono ?_
  rintro e w4 ⟨rfl, hb4⟩
  have HB4 := Lib.hid (next6 HB3.out hb4)
  obtain ⟨b, c, w5, hcv, hrow, hb5⟩ := CV.out w4
  have HR := Lib.hid hrow
  have HB5 := Lib.hid (next6 HB4.out hb5)
  clear hb4 hrow hb5
  go_wp2_with fail
  go_at_call 98
  refine (CU.out _ _ _ HR.out).mono ?_
  rintro e w6 ⟨rfl, hb6⟩
  have HB6 := Lib.hid (next6 HB5.out hb6)
  clear hb6
  go_wp2_with fail
  go_ret2
  exact ⟨rfl, HB6.out⟩
set_option maxHeartbeats 2000000 in
theorem implEnc_3 (s : ByteArray) (h : TxtOk s) (hL : Latin (ptsOf s)) (w : World) (hT : Tabs w) : Calls Tryd.prog 27 #[.int .i64 3, .string s] w (RetSN (strOfNums (ptsOf s), 0) w) := by
  have CE := Lib.hid (fun W => implEnc_yes 3 (by decide) (by decide) W)
  have CT := Lib.hid (fun W hT => implTextOk_yes s h W hT)
  have CC := Lib.hid (fun W => codecOf_3 W)
  unfold CodecPost fnV at CC
  have hfn := codecFn 1 (.func (.func 100) #[] #[]) (.func (.func 101) #[] #[])
  have CV := Lib.hid (fun W => conv_pts s h.1 W)
  have hA := ptsOf_ch h
  have HT := Lib.hid hT
  have hl := ptsOf_len s
  have h24 := h.1
  have hP24 : (ptsOf s).length ≤ 24 := by omega
  have CU := Lib.hid (fun R c W hR => toLatin_any (ptsOf s) hP24 hA R c W hR)
  have CV : Hid (∀ W, ∃ (b c : Nat) (w' : World), (convert 9 108 (.string s)).run Tryd.prog W = .ok (.slice (some ⟨b, 0, none⟩) (ptsOf s).length c) w' ∧ Row32 w' (ptsOf s) (some ⟨b, 0, none⟩) ∧ Below W.heap.size W w') := CV
  rw [if_pos hL, decide_eq_true hL] at CU
  clear hL hT h hl h24
  generalize ptsOf s = P at *
  go_enter Tryd.func27, Tryd.ntmps27
  go_wp2_with fail
  go_at_call 61
  refine (CE.out _).mono ?_
  rintro e w2 ⟨rfl, rfl⟩
  go_wp2_with fail
  go_at_call 65
  refine (CT.out _ HT.out).mono ?_
  rintro e w3 ⟨rfl, hb3⟩
  have HB3 := Lib.hid hb3
  clear hb3
  go_wp2_with fail
  go_at_call 62
  refine (CC.out _).mono ?_
  rintro e w4 ⟨rfl, hb4⟩
  have HB4 := Lib.hid (next6 HB3.out hb4)
  obtain ⟨b, c, w5, hcv, hrow, hb5⟩ := CV.out w4
  have HR := Lib.hid hrow
  have HB5 := Lib.hid (next6 HB4.out hb5)
  clear hb4 hrow hb5
  go_wp2_with fail
  go_at_call 100
  refine (CU.out _ _ _ HR.out).mono ?_
  rintro e w6 ⟨rfl, hb6⟩
  have HB6 := Lib.hid (next6 HB5.out hb6)
  clear hb6
  go_wp2_with fail
  go_ret2
  exact ⟨rfl, HB6.out⟩
set_option maxHeartbeats 2000000 in
theorem implEnc_4 (s : ByteArray) (h : TxtOk s) (hL : ¬ Latin (ptsOf s)) (w : World) (hT : Tabs w) : Calls Tryd.prog 27 #[.int .i64 3, .string s] w (RetSN (⟨#[]⟩, 19) w) := by
  have CE := Lib.hid (fun W => implEnc_yes 3 (by decide) (by decide) W)
  have CT := Lib.hid (fun W hT => implTextOk_yes s h W hT)
  have CC := Lib.hid (fun W => codecOf_3 W)
  unfold CodecPost fnV at CC
  have hfn := codecFn 1 (.func (.func 100) #[] #[]) (.func (.func 101) #[] #[])
  have CV := Lib.hid (fun W => conv_pts s h.1 W)
  have hA := ptsOf_ch h
  have HT := Lib.hid hT
  have hl := ptsOf_len s
  have h24 := h.1
  have hP24 : (ptsOf s).length ≤ 24 := by omega
  have CU := Lib.hid (fun R c W hR => toLatin_any (ptsOf s) hP24 hA R c W hR)
  have CV : Hid (∀ W, ∃ (b c : Nat) (w' : World), (convert 9 108 (.string s)).run Tryd.prog W = .ok (.slice (some ⟨b, 0, none⟩) (ptsOf s).length c) w' ∧ Row32 w' (ptsOf s) (some ⟨b, 0, none⟩) ∧ Below W.heap.size W w') := CV
  rw [if_neg hL, decide_eq_false hL] at CU
  clear hL hT h hl h24
  generalize ptsOf s = P at *
  go_enter Tryd.func27, Tryd.ntmps27
  go_wp2_with fail
  go_at_call 61
  refine (CE.out _).mono ?_
  rintro e w2 ⟨rfl, rfl⟩
  go_wp2_with fail
  go_at_call 65
  refine (CT.out _ HT.out).mono ?_
  rintro e w3 ⟨rfl, hb3⟩
  have HB3 := Lib.hid hb3
  clear hb3
  go_wp2_with fail
  go_at_call 62
  refine (CC.out _).mono ?_
  rintro e w4 ⟨rfl, hb4⟩
  have HB4 := Lib.hid (next6 HB3.out hb4)
  obtain ⟨b, c, w5, hcv, hrow, hb5⟩ := CV.out w4
  have HR := Lib.hid hrow
  have HB5 := Lib.hid (next6 HB4.out hb5)
  clear hb4 hrow hb5
  go_wp2_with fail
  go_at_call 100
  refine (CU.out _ _ _ HR.out).mono ?_
  rintro e w6 ⟨rfl, hb6⟩
  have HB6 := Lib.hid (next6 HB5.out hb6)
  clear hb6
  go_wp2_with fail
  go_ret2
  exact ⟨rfl, HB6.out⟩
theorem implEnc_in (enc : Int) (h0 : 1 ≤ enc) (h1 : enc ≤ 3) (s : ByteArray) (h : TxtOk s) (w : World) (hT : Tabs w) : Calls Tryd.prog 27 #[.int .i64 enc, .string s] w (RetSN (encV enc s) w) := by
  have h2 : enc = 1 ∨ enc = 2 ∨ enc = 3 := by omega
  unfold encV
  rcases h2 with rfl | rfl | rfl
  · exact implEnc_1 s h w hT
  · exact implEnc_2 s h w hT
  · by_cases hL : Latin (ptsOf s)
    · rw [if_pos hL]
      exact implEnc_3 s h hL w hT
    · rw [if_neg hL]
      exact implEnc_4 s h hL w hT
theorem implEnc_any (enc : Int) (s : ByteArray) (hs : s.size ≤ 1048576) (w : World) (hT : Tabs w) : Calls Tryd.prog 27 #[.int .i64 enc, .string s] w (RetSN (encA enc s) w) := by
  unfold encA
  by_cases he : 1 ≤ enc ∧ enc ≤ 3
  · by_cases ht : TxtOk s
    · rw [if_pos ⟨he, ht⟩]
      exact implEnc_in enc he.1 he.2 s ht w hT
    · rw [if_neg (fun h => ht h.2)]
      have CE := Lib.hid (fun W => implEnc_yes enc he.1 he.2 W)
      have CT := Lib.hid (fun W hT => implTextOk_no s hs ht W hT)
      have HT := Lib.hid hT
      clear he ht hT
      go_enter Tryd.func27, Tryd.ntmps27
      go_wp2_with fail
      go_at_call 61
      refine (CE.out _).mono ?_
      rintro e w2 ⟨rfl, rfl⟩
      go_wp2_with fail
      go_at_call 65
      refine (CT.out _ HT.out).mono ?_
      rintro e w3 ⟨rfl, hb3⟩
      have HB3 := Lib.hid hb3
      clear hb3
      go_wp2_with fail
      go_ret2
      exact ⟨rfl, HB3.out⟩
  · rw [if_neg (fun h => he h.1)]
    have CE := Lib.hid (fun W => implEnc_no enc (by omega) W)
    clear he hT
    go_enter Tryd.func27, Tryd.ntmps27
    go_wp2_with fail
    go_at_call 61
    refine (CE.out _).mono ?_
    rintro e w2 ⟨rfl, rfl⟩
    go_wp2_with fail
    go_ret2
    exact ⟨rfl, Below.refl _ _⟩
end Go.Proofs.YthdnklhaagofhaaDoor
