/-
  The walks of the model's l11Encode and Encode.
-/
import Derived.Test.YthdnklhaagofhaaDoorEncW
import Derived.Test.YthdnklhaagofhaaDoorEncOk
namespace Go.Proofs.YthdnklhaagofhaaDoor
open Go.ChangeShapes Go.WideShapes Go.ChangeAt Go.RowKit Go.Deep

/-- A text that may be encoded. -/
def TxtOk (s : ByteArray) : Prop := s.size ≤ 24 ∧ Lib.validD s.data.toList = true
instance (s : ByteArray) : Decidable (TxtOk s) := by unfold TxtOk; infer_instance
/-- A text's code points. -/
def ptsOf (s : ByteArray) : List Int := ptsD s.size s.data.toList
/-- What both answer of a text that may be encoded. -/
def encV (enc : Int) (s : ByteArray) : ByteArray × Int :=
  if enc = 1 then (s, 0) else if enc = 2 then (wideB (ptsOf s), 0) else if Latin (ptsOf s) then (strOfNums (ptsOf s), 0) else (⟨#[]⟩, 19)
/-- A text and a number, and nothing of the caller's changed. -/
def RetSN (p : ByteArray × Int) (w : World) (e : Ending) (w' : World) : Prop := e = .returned (.tuple #[.string p.1, .int .i64 p.2]) ∧ Below w.heap.size w w'
theorem ptsOf_len (s : ByteArray) : (ptsOf s).length ≤ s.size := ptsD_len _ _
theorem ptsOf_ch {s : ByteArray} (h : TxtOk s) : AllCh (ptsOf s) := (back_text s h.2).1
theorem specPts (s : ByteArray) (h : TxtOk s) (w : World) : Calls Tryd.prog 162 #[.string s] w (AnsP (ptsOf s) w) :=
  (ptsS_any s h.1 w).mono fun _ _ j => j.1 h.2
theorem specTextOk_yes (s : ByteArray) (h : TxtOk s) (w : World) :
    Calls Tryd.prog 137 #[.string s] w fun e w' => e = .returned (.bool true) ∧ Below w.heap.size w w' := by
  have C := Lib.hid (fun W => specPts s h W)
  have h2 : ¬ 24 < s.size := by have := h.1; omega
  clear h
  generalize ptsOf s = P at *
  go_enter Tryd.func137, Tryd.ntmps137
  go_wp2_with fail
  go_at_call 162
  refine (C.out _).mono ?_
  rintro e wx ⟨R, c, g, rfl, _, _, _, hb⟩
  have HB := Lib.hid hb
  clear hb
  go_wp2_with fail
  go_ret
  exact ⟨rfl, HB.out⟩
theorem specTextOk_no (s : ByteArray) (h : ¬ TxtOk s) (w : World) :
    Calls Tryd.prog 137 #[.string s] w fun e w' => e = .returned (.bool false) ∧ Below w.heap.size w w' := by
  by_cases hz : s.size ≤ 24
  · have hv : Lib.validD s.data.toList = false := by
      rw [Bool.eq_false_iff]
      intro hv
      exact h ⟨hz, hv⟩
    have C := Lib.hid (fun W => (ptsS_any s hz W).mono fun e w' j => j.2 hv)
    have h2 : ¬ 24 < s.size := by omega
    clear h hv
    go_enter Tryd.func137, Tryd.ntmps137
    go_wp2_with fail
    go_at_call 162
    refine (C.out _).mono ?_
    rintro e wx ⟨R, c, rfl, hb⟩
    have HB := Lib.hid hb
    clear hb
    go_wp2_with fail
    go_ret
    exact ⟨rfl, HB.out⟩
  · have h2 : 24 < s.size := by omega
    clear h hz
    go_enter Tryd.func137, Tryd.ntmps137
    go_wp2_with fail
    go_ret
    exact ⟨rfl, Below.refl _ _⟩

theorem encS_1 (s : ByteArray) (w : World) : Calls Tryd.prog 138 #[.int .i64 1, .string s] w (RetSN (s, 0) w) := by
  go_enter Tryd.func138, Tryd.ntmps138
  go_wp2_with fail
  go_ret2
  exact ⟨rfl, Below.refl _ _⟩

set_option maxHeartbeats 2000000 in
theorem encS_2 (s : ByteArray) (h : TxtOk s) (w : World) : Calls Tryd.prog 138 #[.int .i64 2, .string s] w (RetSN (wideB (ptsOf s), 0) w) := by
  have C := Lib.hid (fun W => specPts s h W)
  have hl := ptsOf_len s
  have h24 := h.1
  have hA := ptsOf_ch h
  have hP24 : (ptsOf s).length ≤ 24 := by omega
  clear h h24 hl
  generalize ptsOf s = P at *
  go_enter Tryd.func138, Tryd.ntmps138
  go_wp2_with fail
  go_at_call 162
  refine (C.out _).mono ?_
  rintro e wx ⟨R, c, g, rfl, _, _, ho, hb⟩
  have H := Lib.hid ho.row
  have HBX := Lib.hid hb
  clear hb ho C
  go_wp2_with fail
  go_loopw [8, 9] (fun s i wr => ∃ k : Nat, k ≤ P.length ∧ i = .int .i64 k ∧ (∃ T : ByteArray, s = .string T ∧ Hid (T = wideB (P.take k)) ∧ T.size ≤ 4 * k) ∧ Hid (Below wx.heap.size wx wr)) (fun _ i _ => P.length - (intOf i).toNat)
  case atStart => exact ⟨0, Nat.zero_le _, rfl, ⟨⟨#[]⟩, rfl, by rw [List.take_zero]; rfl, by show 0 ≤ 4 * 0; omega⟩, Below.refl _ _⟩
  case round =>
    obtain ⟨k, hk, rfl, ⟨T, rfl, hT, hTz⟩, hB⟩ := hrel
    by_cases hlt : k < P.length
    · have hlti : (k : Int) < (P.length : Int) := by omega
      obtain ⟨b, o, n, rfl, hn, hc⟩ := (H.out.below hB.out).at_ hlt
      have hnb := chB hA hn
      have HT2 : Hid (T ++ pairB n = wideB (P.take (k + 1))) := Lib.hid (by rw [wideB_take hn, ← hT.out])
      have CX := Lib.hid (fun W => pair_any n hnb.1 hnb.2 W)
      have hsz := pairB_size n
      generalize pairB n = U at *
      have hsz1 : ¬ 9223372036854775807 < T.size + U.size := by omega
      have HSZ := Lib.hid (show (T ++ U).size = T.size + U.size from ByteArray.size_append)
      clear hn hT
      go_wp2_with fail
      go_at_call 163
      refine (CX.out _).mono ?_
      rintro e w2 ⟨rfl, hb2⟩
      have HB2 := Lib.hid (next6 hB.out hb2)
      clear hb2
      go_wp2_with fail
      go_roundw
      case rel => exact ⟨k + 1, by omega, by go_num, ⟨T ++ U, rfl, HT2, by rw [HSZ.out]; omega⟩, HB2⟩
      case measure => simp [intOf]; omega
    · have hk' : k = P.length := by omega
      have hlti : ¬ (k : Int) < (P.length : Int) := by omega
      have hT' : T = wideB P := by have := hT.out; rwa [hk', List.take_length] at this
      subst hT'
      clear hT
      go_wp2_with fail
      go_ret2
      exact ⟨rfl, next6 HBX.out hB.out⟩

set_option maxHeartbeats 2000000 in
theorem encS_3 (s : ByteArray) (h : TxtOk s) (w : World) : Calls Tryd.prog 138 #[.int .i64 3, .string s] w (RetSN (if Latin (ptsOf s) then (strOfNums (ptsOf s), 0) else (⟨#[]⟩, 19)) w) := by
  have C := Lib.hid (fun W => specPts s h W)
  have hl := ptsOf_len s
  have h24 := h.1
  have hA := ptsOf_ch h
  have hP24 : (ptsOf s).length ≤ 24 := by omega
  clear h h24 hl
  generalize ptsOf s = P at *
  obtain ⟨V, hV⟩ : ∃ V, (if Latin P then (strOfNums P, (0 : Int)) else (⟨#[]⟩, 19)) = V := ⟨_, rfl⟩
  rw [hV]
  have HV := Lib.hid hV
  clear hV
  go_enter Tryd.func138, Tryd.ntmps138
  go_wp2_with fail
  go_at_call 162
  refine (C.out _).mono ?_
  rintro e wx ⟨R, c, g, rfl, _, _, ho, hb⟩
  have H := Lib.hid ho.row
  have HBX := Lib.hid hb
  clear hb ho C
  go_wp2_with fail
  go_loopw [8, 9] (fun s i wr => ∃ k : Nat, k ≤ P.length ∧ i = .int .i64 k ∧ (∃ T : ByteArray, s = .string T ∧ Hid (T = strOfNums (P.take k)) ∧ T.size = k) ∧ Hid (Latin (P.take k)) ∧ Hid (Below wx.heap.size wx wr)) (fun _ i _ => P.length - (intOf i).toNat)
  case atStart => exact ⟨0, Nat.zero_le _, rfl, ⟨⟨#[]⟩, rfl, by rw [List.take_zero]; rfl, rfl⟩, (fun n hn => by simp at hn), Below.refl _ _⟩
  case round =>
    obtain ⟨k, hk, rfl, ⟨T, rfl, hT, hTz⟩, hL, hB⟩ := hrel
    by_cases hlt : k < P.length
    · have hlti : (k : Int) < (P.length : Int) := by omega
      obtain ⟨b, o, n, rfl, hn, hc⟩ := (H.out.below hB.out).at_ hlt
      have hnb := chB hA hn
      by_cases h255 : n ≤ 255
      · have h255i : ¬ 255 < n := by omega
        have hw := u8_8 hnb.1 h255
        have HT2 : Hid (T ++ strOfNums [n] = strOfNums (P.take (k + 1))) := Lib.hid (by rw [strOfNums_take hn, ← hT.out])
        have HL2 : Hid (Latin (P.take (k + 1))) := Lib.hid (by
          rw [take_snoc7 hn]
          intro x hx
          rcases List.mem_append.1 hx with hx | hx
          · exact hL.out x hx
          · obtain rfl : x = n := by simpa using hx
            exact h255)
        have hcv := run_convert_bytes_arg (P := Tryd.prog) (wr.alloc (.cells #[.int .u8 n] 5)) 22 5 Tryd.underlying22 Tryd.underlying5 wr.heap.size 0 1 1 [n] rfl (fun i hi => by
          obtain rfl : i = 0 := by omega
          simp) 9 Tryd.underlying9
        have hsz : (strOfNums [n]).size = 1 := by rw [strOfNums_size]; rfl
        generalize strOfNums [n] = U at *
        have hsz1 : ¬ 9223372036854775807 < T.size + U.size := by omega
        have HSZ := Lib.hid (show (T ++ U).size = T.size + U.size from ByteArray.size_append)
        have HB2 : Hid (Below wx.heap.size wx (wr.alloc (.cells #[.int .u8 n] 5))) := Lib.hid (hB.out.alloc hB.out.size _)
        clear hn hT
        go_wp2_with fail
        go_roundw
        case rel => exact ⟨k + 1, by omega, by go_num, ⟨T ++ U, rfl, HT2, by rw [HSZ.out]; omega⟩, HL2, HB2⟩
        case measure => simp [intOf]; omega
      · have h255i : 255 < n := by omega
        have hVn : V = (⟨#[]⟩, 19) := by
          rw [← HV.out, if_neg (fun hL => h255 (hL n (List.mem_of_getElem? hn)))]
        subst hVn
        clear hn hT
        go_wp2_with fail
        go_ret2
        exact ⟨rfl, next6 HBX.out hB.out⟩
    · have hk' : k = P.length := by omega
      have hlti : ¬ (k : Int) < (P.length : Int) := by omega
      have hT' : T = strOfNums P := by have := hT.out; rwa [hk', List.take_length] at this
      have hL' : Latin P := by have := hL.out; rwa [hk', List.take_length] at this
      have hVn : V = (strOfNums P, 0) := by rw [← HV.out, if_pos hL']
      subst hT'
      subst hVn
      clear hT
      go_wp2_with fail
      go_ret2
      exact ⟨rfl, next6 HBX.out hB.out⟩
theorem encS_any (enc : Int) (h0 : 1 ≤ enc) (h1 : enc ≤ 3) (s : ByteArray) (h : TxtOk s) (w : World) : Calls Tryd.prog 138 #[.int .i64 enc, .string s] w (RetSN (encV enc s) w) := by
  have h2 : enc = 1 ∨ enc = 2 ∨ enc = 3 := by omega
  unfold encV
  rcases h2 with rfl | rfl | rfl
  · exact encS_1 s w
  · exact encS_2 s h w
  · exact encS_3 s h w

/-- What both answer. -/
def encA (enc : Int) (s : ByteArray) : ByteArray × Int := if (1 ≤ enc ∧ enc ≤ 3) ∧ TxtOk s then encV enc s else (⟨#[]⟩, 1)
theorem specEnc_any (enc : Int) (s : ByteArray) (w : World) : Calls Tryd.prog 94 #[.int .i64 enc, .string s] w (RetSN (encA enc s) w) := by
  unfold encA
  by_cases he : 1 ≤ enc ∧ enc ≤ 3
  · have CE := Lib.hid (fun W => specEnc_yes enc he.1 he.2 W)
    by_cases ht : TxtOk s
    · rw [if_pos ⟨he, ht⟩]
      have CT := Lib.hid (fun W => specTextOk_yes s ht W)
      have CC := Lib.hid (fun W => encS_any enc he.1 he.2 s ht W)
      generalize encV enc s = V at *
      obtain ⟨V1, V2⟩ := V
      clear he ht
      go_enter Tryd.func94, Tryd.ntmps94
      go_wp2_with fail
      go_at_call 136
      refine (CE.out _).mono ?_
      rintro e w2 ⟨rfl, rfl⟩
      go_wp2_with fail
      go_at_call 137
      refine (CT.out _).mono ?_
      rintro e w3 ⟨rfl, hb3⟩
      have HB3 := Lib.hid hb3
      clear hb3
      go_wp2_with fail
      go_at_call 138
      refine (CC.out _).mono ?_
      rintro e w4 ⟨rfl, hb4⟩
      have HB4 := Lib.hid (next6 HB3.out hb4)
      clear hb4
      go_wp2_with fail
      go_ret2
      exact ⟨rfl, HB4.out⟩
    · rw [if_neg (fun h => ht h.2)]
      have CT := Lib.hid (fun W => specTextOk_no s ht W)
      clear he ht
      go_enter Tryd.func94, Tryd.ntmps94
      go_wp2_with fail
      go_at_call 136
      refine (CE.out _).mono ?_
      rintro e w2 ⟨rfl, rfl⟩
      go_wp2_with fail
      go_at_call 137
      refine (CT.out _).mono ?_
      rintro e w3 ⟨rfl, hb3⟩
      have HB3 := Lib.hid hb3
      clear hb3
      go_wp2_with fail
      go_ret2
      exact ⟨rfl, HB3.out⟩
  · rw [if_neg (fun h => he h.1)]
    have CE := Lib.hid (fun W => specEnc_no enc (by omega) W)
    clear he
    go_enter Tryd.func94, Tryd.ntmps94
    go_wp2_with fail
    go_at_call 136
    refine (CE.out _).mono ?_
    rintro e w2 ⟨rfl, rfl⟩
    go_wp2_with fail
    go_ret2
    exact ⟨rfl, Below.refl _ _⟩
end Go.Proofs.YthdnklhaagofhaaDoor
