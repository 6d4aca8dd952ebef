/-
  The walks of the model's l11Decode and Decode.
-/
import Derived.Test.YtmnkkpahbmcekaaDoorDecW
namespace Go.Proofs.YtmnkkpahbmcekaaDoor
open Go.ChangeShapes Go.WideShapes Go.ChangeAt Go.RowKit Go.Deep

instance (n : Int) : Decidable (ChI n) := by unfold ChI; infer_instance
instance (P : List Int) : Decidable (AllCh P) := by unfold AllCh; infer_instance
instance (P : List Int) : Decidable (TxOk P) := by unfold TxOk; infer_instance
theorem txOk_pts {s : ByteArray} (h : TxtOk s) : TxOk (ptsOf s) := by
  have h1 := (back_text s h.2).2
  have h2 := ptsOf_len s
  have h3 := h.1
  refine ⟨by omega, ptsOf_ch h, ?_⟩
  rw [show runesBytes (ptsOf s) = s from h1]
  exact h3
theorem txtOk_of {P : List Int} (h : TxOk P) : TxtOk (runesBytes P) := ⟨h.2.2, valid_enc h.2.1⟩
theorem back_pts {s : ByteArray} (h : TxtOk s) : runesBytes (ptsOf s) = s := (back_text s h.2).2
theorem decP_yes {enc : Int} {b c : ByteArray} (h : TxtOk c) (hv : encV enc c = (b, 0)) : decP enc b c = (c, 0) := by
  unfold decP
  rw [if_pos ⟨h, hv⟩]
theorem decP_no {enc : Int} {b c : ByteArray} (hv : encV enc c ≠ (b, 0)) : decP enc b c = (⟨#[]⟩, 19) := by
  unfold decP
  rw [if_neg (fun h => hv h.2)]
theorem decP_bad {enc : Int} {b c : ByteArray} (h : ¬ TxtOk c) : decP enc b c = (⟨#[]⟩, 19) := by
  unfold decP
  rw [if_neg (fun h2 => h h2.1)]
theorem list_ne {a b : ByteArray} (h : ¬ a = b) : (a.toList == b.toList) = false := by
  rw [beq_eq_false_iff_ne, ByteArray.toList_eq, ByteArray.toList_eq]
  exact fun e => h (ByteArray.ext (Array.toList_inj.mp e))
theorem bad_255 : ¬ TxtOk ⟨#[255]⟩ := by
  unfold TxtOk
  decide +kernel
theorem textOk_some (b : ByteArray) : ∃ v : Bool, Hid (∀ w : World, Calls Tryd.prog 31 #[.string b] w fun e w' => e = .returned (.bool v) ∧ Below w.heap.size w w') := by
  by_cases h : TxtOk b
  · exact ⟨true, fun w => specTextOk_yes b h w⟩
  · exact ⟨false, fun w => specTextOk_no b h w⟩

set_option maxHeartbeats 1000000 in
theorem decS_1 (b : ByteArray) (w : World) : Calls Tryd.prog 35 #[.int .i64 1, .string b] w (RetSN (decP 1 b b) w) := by
  by_cases h : TxtOk b
  · rw [decP_yes h rfl]
    have CT := Lib.hid (fun W => specTextOk_yes b h W)
    have CE := Lib.hid (fun W => encS_1 b W)
    clear h
    go_enter Tryd.func35, Tryd.ntmps35
    go_wp2_with fail
    go_at_call 31
    refine (CT.out _).mono ?_
    rintro e w2 ⟨rfl, hb2⟩
    have HB2 := Lib.hid hb2
    clear hb2
    go_wp2_with fail
    go_at_call 32
    refine (CE.out _).mono ?_
    rintro e w3 ⟨rfl, hb3⟩
    have HB3 := Lib.hid (next6 HB2.out hb3)
    clear hb3
    go_wp2_with fail
    go_ret2
    exact ⟨rfl, HB3.out⟩
  · rw [decP_bad h]
    have CT := Lib.hid (fun W => specTextOk_no b h W)
    clear h
    go_enter Tryd.func35, Tryd.ntmps35
    go_wp2_with fail
    go_at_call 31
    refine (CT.out _).mono ?_
    rintro e w2 ⟨rfl, hb2⟩
    have HB2 := Lib.hid hb2
    clear hb2
    go_wp2_with fail
    go_ret2
    exact ⟨rfl, HB2.out⟩

set_option maxHeartbeats 2000000 in
theorem decS_2 (b : ByteArray) (hs : b.size ≤ 1048576) (w : World) : Calls Tryd.prog 35 #[.int .i64 2, .string b] w (RetSN (decP 2 b (if TxOk (wideS 25 (nums b)) then runesBytes (wideS 25 (nums b)) else ⟨#[255]⟩)) w) := by
  obtain ⟨v, CT⟩ := textOk_some b
  have CW := Lib.hid (fun W => wide_any b hs W)
  have hl : (wideS 25 (nums b)).length ≤ 1048576 := by
    have := wideS_len 25 (nums b)
    omega
  generalize wideS 25 (nums b) = P at *
  by_cases ho : TxOk P
  · rw [if_pos ho]
    have CX := Lib.hid (fun R c W h => (specTextOf_any P hl R c W h).mono fun e w' j => And.intro (j.1 ho) j.2.2)
    have ht := txtOk_of ho
    have CE := fun W => encS_any 2 (by decide) (by decide) (runesBytes P) ht W
    obtain ⟨V, hV⟩ : ∃ V, encV 2 (runesBytes P) = V := ⟨_, rfl⟩
    rw [hV] at CE
    have CE := Lib.hid CE
    obtain ⟨D, hD⟩ : ∃ D, decP 2 b (runesBytes P) = D := ⟨_, rfl⟩
    have hD1 : V = (b, 0) → D = (runesBytes P, 0) := fun h => by rw [← hD, decP_yes ht (hV.trans h)]
    have hD2 : V ≠ (b, 0) → D = (⟨#[]⟩, 19) := fun h => by rw [← hD, decP_no (fun h2 => h (hV.symm.trans h2))]
    rw [hD]
    clear hV hD ht ho hl
    generalize runesBytes P = C at *
    obtain ⟨V1, V2⟩ := V
    by_cases h2 : V2 = 0
    · subst h2
      by_cases h1 : V1 = b
      · subst h1
        obtain rfl := hD1 rfl
        clear hD1 hD2
        go_enter Tryd.func35, Tryd.ntmps35
        go_wp2_with fail
        go_at_call 31
        refine (CT.out _).mono ?_
        rintro e w2 ⟨rfl, hb2⟩
        have HB2 := Lib.hid hb2
        clear hb2
        go_wp2_with fail
        go_at_call 48
        refine (CW.out _).mono ?_
        rintro e w3 ⟨R3, c3, g3, rfl, _, _, ho3, hb3⟩
        have HO3 := Lib.hid ho3
        have HB3 := Lib.hid (next6 HB2.out hb3)
        clear hb3 ho3
        go_wp2_with fail
        go_at_call 14
        refine (CX.out _ _ _ HO3.out.row).mono ?_
        rintro e w4 ⟨rfl, hb4⟩
        have HB4 := Lib.hid (next6 HB3.out hb4)
        clear hb4
        go_wp2_with fail
        go_at_call 32
        refine (CE.out _).mono ?_
        rintro e w5 ⟨rfl, hb5⟩
        have HB5 := Lib.hid (next6 HB4.out hb5)
        clear hb5
        go_wp2_with fail
        go_ret2
        exact ⟨rfl, HB5.out⟩
      · obtain rfl := hD2 (fun h => h1 (congrArg Prod.fst h))
        have hne := list_ne h1
        clear hD1 hD2
        go_enter Tryd.func35, Tryd.ntmps35
        go_wp2_with fail
        go_at_call 31
        refine (CT.out _).mono ?_
        rintro e w2 ⟨rfl, hb2⟩
        have HB2 := Lib.hid hb2
        clear hb2
        go_wp2_with fail
        go_at_call 48
        refine (CW.out _).mono ?_
        rintro e w3 ⟨R3, c3, g3, rfl, _, _, ho3, hb3⟩
        have HO3 := Lib.hid ho3
        have HB3 := Lib.hid (next6 HB2.out hb3)
        clear hb3 ho3
        go_wp2_with fail
        go_at_call 14
        refine (CX.out _ _ _ HO3.out.row).mono ?_
        rintro e w4 ⟨rfl, hb4⟩
        have HB4 := Lib.hid (next6 HB3.out hb4)
        clear hb4
        go_wp2_with fail
        go_at_call 32
        refine (CE.out _).mono ?_
        rintro e w5 ⟨rfl, hb5⟩
        have HB5 := Lib.hid (next6 HB4.out hb5)
        clear hb5
        go_wp2_with fail
        go_ret2
        exact ⟨rfl, HB5.out⟩
    · obtain rfl := hD2 (fun h => h2 (congrArg Prod.snd h))
      have hne : (V2 == 0) = false := by
        rw [beq_eq_false_iff_ne]
        exact h2
      clear hD1 hD2
      go_enter Tryd.func35, Tryd.ntmps35
      go_wp2_with fail
      go_at_call 31
      refine (CT.out _).mono ?_
      rintro e w2 ⟨rfl, hb2⟩
      have HB2 := Lib.hid hb2
      clear hb2
      go_wp2_with fail
      go_at_call 48
      refine (CW.out _).mono ?_
      rintro e w3 ⟨R3, c3, g3, rfl, _, _, ho3, hb3⟩
      have HO3 := Lib.hid ho3
      have HB3 := Lib.hid (next6 HB2.out hb3)
      clear hb3 ho3
      go_wp2_with fail
      go_at_call 14
      refine (CX.out _ _ _ HO3.out.row).mono ?_
      rintro e w4 ⟨rfl, hb4⟩
      have HB4 := Lib.hid (next6 HB3.out hb4)
      clear hb4
      go_wp2_with fail
      go_at_call 32
      refine (CE.out _).mono ?_
      rintro e w5 ⟨rfl, hb5⟩
      have HB5 := Lib.hid (next6 HB4.out hb5)
      clear hb5
      go_wp2_with fail
      go_ret2
      exact ⟨rfl, HB5.out⟩
  · rw [if_neg ho, decP_bad bad_255]
    have CX := Lib.hid (fun R c W h => (specTextOf_any P hl R c W h).mono fun e w' j => And.intro (j.2.1 ho) j.2.2)
    clear ho hl
    go_enter Tryd.func35, Tryd.ntmps35
    go_wp2_with fail
    go_at_call 31
    refine (CT.out _).mono ?_
    rintro e w2 ⟨rfl, hb2⟩
    have HB2 := Lib.hid hb2
    clear hb2
    go_wp2_with fail
    go_at_call 48
    refine (CW.out _).mono ?_
    rintro e w3 ⟨R3, c3, g3, rfl, _, _, ho3, hb3⟩
    have HO3 := Lib.hid ho3
    have HB3 := Lib.hid (next6 HB2.out hb3)
    clear hb3 ho3
    go_wp2_with fail
    go_at_call 14
    refine (CX.out _ _ _ HO3.out.row).mono ?_
    rintro e w4 ⟨rfl, hb4⟩
    have HB4 := Lib.hid (next6 HB3.out hb4)
    clear hb4
    go_wp2_with fail
    go_ret2
    exact ⟨rfl, HB4.out⟩

set_option maxHeartbeats 2000000 in
theorem decS_3 (b : ByteArray) (_ : b.size ≤ 1048576) (w : World) : Calls Tryd.prog 35 #[.int .i64 3, .string b] w (RetSN (decP 3 b (if TxOk ((nums b).take 25) then runesBytes ((nums b).take 25) else ⟨#[255]⟩)) w) := by
  obtain ⟨v, CT⟩ := textOk_some b
  have CW := Lib.hid (fun W => narrow_any b W)
  have hl : ((nums b).take 25).length ≤ 1048576 := by
    rw [List.length_take]
    omega
  generalize (nums b).take 25 = P at *
  by_cases ho : TxOk P
  · rw [if_pos ho]
    have CX := Lib.hid (fun R c W h => (specTextOf_any P hl R c W h).mono fun e w' j => And.intro (j.1 ho) j.2.2)
    have ht := txtOk_of ho
    have CE := fun W => encS_any 3 (by decide) (by decide) (runesBytes P) ht W
    obtain ⟨V, hV⟩ : ∃ V, encV 3 (runesBytes P) = V := ⟨_, rfl⟩
    rw [hV] at CE
    have CE := Lib.hid CE
    obtain ⟨D, hD⟩ : ∃ D, decP 3 b (runesBytes P) = D := ⟨_, rfl⟩
    have hD1 : V = (b, 0) → D = (runesBytes P, 0) := fun h => by rw [← hD, decP_yes ht (hV.trans h)]
    have hD2 : V ≠ (b, 0) → D = (⟨#[]⟩, 19) := fun h => by rw [← hD, decP_no (fun h2 => h (hV.symm.trans h2))]
    rw [hD]
    clear hV hD ht ho hl
    generalize runesBytes P = C at *
    obtain ⟨V1, V2⟩ := V
    by_cases h2 : V2 = 0
    · subst h2
      by_cases h1 : V1 = b
      · subst h1
        obtain rfl := hD1 rfl
        clear hD1 hD2
        go_enter Tryd.func35, Tryd.ntmps35
        go_wp2_with fail
        go_at_call 31
        refine (CT.out _).mono ?_
        rintro e w2 ⟨rfl, hb2⟩
        have HB2 := Lib.hid hb2
        clear hb2
        go_wp2_with fail
        go_at_call 49
        refine (CW.out _).mono ?_
        rintro e w3 ⟨R3, c3, g3, rfl, _, _, ho3, hb3⟩
        have HO3 := Lib.hid ho3
        have HB3 := Lib.hid (next6 HB2.out hb3)
        clear hb3 ho3
        go_wp2_with fail
        go_at_call 14
        refine (CX.out _ _ _ HO3.out.row).mono ?_
        rintro e w4 ⟨rfl, hb4⟩
        have HB4 := Lib.hid (next6 HB3.out hb4)
        clear hb4
        go_wp2_with fail
        go_at_call 32
        refine (CE.out _).mono ?_
        rintro e w5 ⟨rfl, hb5⟩
        have HB5 := Lib.hid (next6 HB4.out hb5)
        clear hb5
        go_wp2_with fail
        go_ret2
        exact ⟨rfl, HB5.out⟩
      · obtain rfl := hD2 (fun h => h1 (congrArg Prod.fst h))
        have hne := list_ne h1
        clear hD1 hD2
        go_enter Tryd.func35, Tryd.ntmps35
        go_wp2_with fail
        go_at_call 31
        refine (CT.out _).mono ?_
        rintro e w2 ⟨rfl, hb2⟩
        have HB2 := Lib.hid hb2
        clear hb2
        go_wp2_with fail
        go_at_call 49
        refine (CW.out _).mono ?_
        rintro e w3 ⟨R3, c3, g3, rfl, _, _, ho3, hb3⟩
        have HO3 := Lib.hid ho3
        have HB3 := Lib.hid (next6 HB2.out hb3)
        clear hb3 ho3
        go_wp2_with fail
        go_at_call 14
        refine (CX.out _ _ _ HO3.out.row).mono ?_
        rintro e w4 ⟨rfl, hb4⟩
        have HB4 := Lib.hid (next6 HB3.out hb4)
        clear hb4
        go_wp2_with fail
        go_at_call 32
        refine (CE.out _).mono ?_
        rintro e w5 ⟨rfl, hb5⟩
        have HB5 := Lib.hid (next6 HB4.out hb5)
        clear hb5
        go_wp2_with fail
        go_ret2
        exact ⟨rfl, HB5.out⟩
    · obtain rfl := hD2 (fun h => h2 (congrArg Prod.snd h))
      have hne : (V2 == 0) = false := by
        rw [beq_eq_false_iff_ne]
        exact h2
      clear hD1 hD2
      go_enter Tryd.func35, Tryd.ntmps35
      go_wp2_with fail
      go_at_call 31
      refine (CT.out _).mono ?_
      rintro e w2 ⟨rfl, hb2⟩
      have HB2 := Lib.hid hb2
      clear hb2
      go_wp2_with fail
      go_at_call 49
      refine (CW.out _).mono ?_
      rintro e w3 ⟨R3, c3, g3, rfl, _, _, ho3, hb3⟩
      have HO3 := Lib.hid ho3
      have HB3 := Lib.hid (next6 HB2.out hb3)
      clear hb3 ho3
      go_wp2_with fail
      go_at_call 14
      refine (CX.out _ _ _ HO3.out.row).mono ?_
      rintro e w4 ⟨rfl, hb4⟩
      have HB4 := Lib.hid (next6 HB3.out hb4)
      clear hb4
      go_wp2_with fail
      go_at_call 32
      refine (CE.out _).mono ?_
      rintro e w5 ⟨rfl, hb5⟩
      have HB5 := Lib.hid (next6 HB4.out hb5)
      clear hb5
      go_wp2_with fail
      go_ret2
      exact ⟨rfl, HB5.out⟩
  · rw [if_neg ho, decP_bad bad_255]
    have CX := Lib.hid (fun R c W h => (specTextOf_any P hl R c W h).mono fun e w' j => And.intro (j.2.1 ho) j.2.2)
    clear ho hl
    go_enter Tryd.func35, Tryd.ntmps35
    go_wp2_with fail
    go_at_call 31
    refine (CT.out _).mono ?_
    rintro e w2 ⟨rfl, hb2⟩
    have HB2 := Lib.hid hb2
    clear hb2
    go_wp2_with fail
    go_at_call 49
    refine (CW.out _).mono ?_
    rintro e w3 ⟨R3, c3, g3, rfl, _, _, ho3, hb3⟩
    have HO3 := Lib.hid ho3
    have HB3 := Lib.hid (next6 HB2.out hb3)
    clear hb3 ho3
    go_wp2_with fail
    go_at_call 14
    refine (CX.out _ _ _ HO3.out.row).mono ?_
    rintro e w4 ⟨rfl, hb4⟩
    have HB4 := Lib.hid (next6 HB3.out hb4)
    clear hb4
    go_wp2_with fail
    go_ret2
    exact ⟨rfl, HB4.out⟩

/-- What the model's reading leaves to be tried. -/
def candS (enc : Int) (b : ByteArray) : ByteArray :=
  if enc = 1 then b else if enc = 2 then (if TxOk (wideS 25 (nums b)) then runesBytes (wideS 25 (nums b)) else ⟨#[255]⟩) else (if TxOk ((nums b).take 25) then runesBytes ((nums b).take 25) else ⟨#[255]⟩)
theorem candS_back (enc : Int) (b : ByteArray) (s : ByteArray) (h : TxtOk s) (hv : encV enc s = (b, 0)) : candS enc b = s := by
  have hA := ptsOf_ch h
  have hx := txOk_pts h
  have hl := ptsOf_len s
  have h24 := h.1
  unfold encV at hv
  unfold candS
  split at hv
  · rename_i h1
    rw [if_pos h1]
    exact (congrArg Prod.fst hv).symm
  · rename_i h1
    rw [if_neg h1]
    split at hv
    · rename_i h2
      obtain rfl : wideB (ptsOf s) = b := congrArg Prod.fst hv
      have e : wideS 25 (nums (wideB (ptsOf s))) = ptsOf s := wideS_back _ hA 25 (by omega)
      rw [if_pos h2, e, if_pos hx, back_pts h]
    · rename_i h2
      rw [if_neg h2]
      split at hv
      · rename_i h3
        obtain rfl : strOfNums (ptsOf s) = b := congrArg Prod.fst hv
        have e : nums (strOfNums (ptsOf s)) = ptsOf s := nums_str _ (fun n hn => ⟨by have := hA n hn; unfold ChI at this; omega, h3 n hn⟩)
        rw [e, List.take_of_length_le (by omega), if_pos hx, back_pts h]
      · have := congrArg Prod.snd hv
        cases this
theorem decS_any (enc : Int) (h0 : 1 ≤ enc) (h1 : enc ≤ 3) (b : ByteArray) (hs : b.size ≤ 1048576) (w : World) : Calls Tryd.prog 35 #[.int .i64 enc, .string b] w (RetSN (decP enc b (candS enc b)) w) := by
  have h2 : enc = 1 ∨ enc = 2 ∨ enc = 3 := by omega
  unfold candS
  rcases h2 with rfl | rfl | rfl
  · exact decS_1 b w
  · exact decS_2 b hs w
  · exact decS_3 b hs w
/-- What both Decode answer. -/
def decA (enc : Int) (b : ByteArray) : ByteArray × Int := if 1 ≤ enc ∧ enc ≤ 3 then decP enc b (candS enc b) else (⟨#[]⟩, 1)
theorem specDec_any (enc : Int) (b : ByteArray) (hs : b.size ≤ 1048576) (w : World) : Calls Tryd.prog 19 #[.int .i64 enc, .string b] w (RetSN (decA enc b) w) := by
  unfold decA
  by_cases he : 1 ≤ enc ∧ enc ≤ 3
  · rw [if_pos he]
    have CE := Lib.hid (fun W => specEnc_yes enc he.1 he.2 W)
    have CD := Lib.hid (fun W => decS_any enc he.1 he.2 b hs W)
    generalize decP enc b (candS enc b) = V at *
    obtain ⟨V1, V2⟩ := V
    clear he
    go_enter Tryd.func19, Tryd.ntmps19
    go_wp2_with fail
    go_at_call 30
    refine (CE.out _).mono ?_
    rintro e w2 ⟨rfl, rfl⟩
    go_wp2_with fail
    go_at_call 35
    refine (CD.out _).mono ?_
    rintro e w3 ⟨rfl, hb3⟩
    have HB3 := Lib.hid hb3
    clear hb3
    go_wp2_with fail
    go_ret2
    exact ⟨rfl, HB3.out⟩
  · rw [if_neg he]
    have CE := Lib.hid (fun W => specEnc_no enc (by omega) W)
    clear he
    go_enter Tryd.func19, Tryd.ntmps19
    go_wp2_with fail
    go_at_call 30
    refine (CE.out _).mono ?_
    rintro e w2 ⟨rfl, rfl⟩
    go_wp2_with fail
    go_ret2
    exact ⟨rfl, Below.refl _ _⟩
end Go.Proofs.YtmnkkpahbmcekaaDoor
