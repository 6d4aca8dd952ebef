/-
  The walk of the program's Decode; the decoder's tables are a hypothesis on the world.
-/
import Derived.Test.YthdnklhaagofhaaDoorDecL
import Derived.Test.YthdnklhaagofhaaDoorDecI
import Derived.Test.YthdnklhaagofhaaDoorEncJ
namespace Go.Proofs.YthdnklhaagofhaaDoor
open Go.ChangeShapes Go.WideShapes Go.ChangeAt Go.RowKit Go.Deep
set_option maxRecDepth 100000

theorem codecBack (u : Int) (f g : Value) (W : World) : (Instr.field 112 (.agg #[.int .i64 u, f, g]) 2).run Tryd.prog W = .ok g W := by
  simp [Instr.field, run_underlying Tryd.underlying112, go_sem, asAgg, Result.andThen]
theorem wideI_len : ∀ (f : Nat) (acc l : List Int), (wideI f acc l).length ≤ acc.length + f
  | 0, _, _ => Nat.le_refl _
  | f + 1, acc, l => by
    rw [wideI]
    split
    · have h1 := wideI_len f (stepI acc (val2 l)) (l.drop 2)
      have h2 := stepI_len acc (val2 l)
      omega
    · omega
theorem encA_in3 {enc : Int} (h0 : 1 ≤ enc) (h1 : enc ≤ 3) {b c : ByteArray} : encA enc c = (b, 0) ↔ TxtOk c ∧ encV enc c = (b, 0) := by
  unfold encA
  by_cases h : TxtOk c
  · rw [if_pos ⟨⟨h0, h1⟩, h⟩]
    exact ⟨fun k => ⟨h, k⟩, fun k => k.2⟩
  · rw [if_neg (fun k => h k.2)]
    refine ⟨fun k => ?_, fun k => absurd k.1 h⟩
    have := congrArg Prod.snd k
    cases this

set_option maxHeartbeats 2000000 in
theorem decI_1 (b : ByteArray) (hb24 : b.size ≤ 24) (w : World) (hT : Tabs w) : Calls Tryd.prog 25 #[.int .i64 1, .string b] w (RetSN (decP 1 b (runesBytes (ptsOf b))) w) := by
  have CE := Lib.hid (fun W => implEnc_yes 1 (by decide) (by decide) W)
  have CU := Lib.hid (fun W => implUnit_1 W)
  have CC := Lib.hid (fun W => codecOf_1 W)
  unfold CodecPost fnV at CC
  have hfn := codecBack 1 (.func (.func 96) #[] #[]) (.func (.func 97) #[] #[])
  have CD := Lib.hid (fun W => fromUtf8_any b hb24 W)
  have HT := Lib.hid hT
  have hz : (runesBytes (ptsOf b)).size ≤ 1048576 := by
    have h4 := runesBytes_size_le (ptsOf b)
    have h5 : (ptsOf b).length ≤ 48 := by
      have := ptsOf_len b
      omega
    omega
  have hbi : ¬ (24 : Int) < (b.size : Int) := by omega
  generalize ptsOf b = P at *
  have CX := fun W hT => implEnc_any 1 (runesBytes P) hz W hT
  obtain ⟨V, hV⟩ : ∃ V, encA 1 (runesBytes P) = V := ⟨_, rfl⟩
  rw [hV] at CX
  have CX := Lib.hid CX
  obtain ⟨D, hD⟩ : ∃ D, decP 1 b (runesBytes P) = D := ⟨_, rfl⟩
  have hD1 : V = (b, 0) → D = (runesBytes P, 0) := fun h => by
    have k := (encA_in3 (by decide) (by decide)).mp (hV.trans h)
    rw [← hD, decP_yes k.1 k.2]
  have hD2 : V ≠ (b, 0) → D = (⟨#[]⟩, 19) := fun h => by
    rw [← hD]
    unfold decP
    rw [if_neg (fun k => h (hV.symm.trans ((encA_in3 (by decide) (by decide)).mpr k)))]
  rw [hD]
  clear hV hD hz hT
  unfold RunesPost at CD
  generalize runesBytes P = C at *
  obtain ⟨V1, V2⟩ := V
  by_cases h2 : V2 = 0
  · subst h2
    by_cases h1 : V1 = b
    · subst h1
      obtain rfl := hD1 rfl
      clear hD1 hD2
      go_enter Tryd.func25, Tryd.ntmps25
      go_wp2_with fail
      go_at_call 61
      refine (CE.out _).mono ?_
      rintro e w2 ⟨rfl, rfl⟩
      go_wp2_with fail
      go_at_call 31
      refine (CU.out _).mono ?_
      rintro e w3 ⟨rfl, hb3⟩
      have HB3 := Lib.hid hb3
      clear hb3
      go_wp2_with fail
      go_at_call 62
      refine (CC.out _).mono ?_
      rintro e w4 ⟨rfl, hb4⟩
      have HB4 := Lib.hid (next6 HB3.out hb4)
      clear hb4
      go_wp2_with fail
      go_at_call 97
      refine (CD.out _).mono ?_
      rintro e w5 ⟨R5, n5, c5, rfl, hcv5, hb5⟩
      have hcv := hcv5.out
      have HB5 := Lib.hid (next6 HB4.out hb5)
      clear hb5
      go_wp2_with fail
      go_at_call 27
      refine (CX.out _ (HT.out.keep HB5.out)).mono ?_
      rintro e w6 ⟨rfl, hb6⟩
      have HB6 := Lib.hid (next6 HB5.out hb6)
      clear hb6 hcv
      go_wp2_with fail
      go_ret2
      exact ⟨rfl, HB6.out⟩
    · obtain rfl := hD2 (fun h => h1 (congrArg Prod.fst h))
      have hne := list_ne h1
      clear hD1 hD2
      go_enter Tryd.func25, Tryd.ntmps25
      go_wp2_with fail
      go_at_call 61
      refine (CE.out _).mono ?_
      rintro e w2 ⟨rfl, rfl⟩
      go_wp2_with fail
      go_at_call 31
      refine (CU.out _).mono ?_
      rintro e w3 ⟨rfl, hb3⟩
      have HB3 := Lib.hid hb3
      clear hb3
      go_wp2_with fail
      go_at_call 62
      refine (CC.out _).mono ?_
      rintro e w4 ⟨rfl, hb4⟩
      have HB4 := Lib.hid (next6 HB3.out hb4)
      clear hb4
      go_wp2_with fail
      go_at_call 97
      refine (CD.out _).mono ?_
      rintro e w5 ⟨R5, n5, c5, rfl, hcv5, hb5⟩
      have hcv := hcv5.out
      have HB5 := Lib.hid (next6 HB4.out hb5)
      clear hb5
      go_wp2_with fail
      go_at_call 27
      refine (CX.out _ (HT.out.keep HB5.out)).mono ?_
      rintro e w6 ⟨rfl, hb6⟩
      have HB6 := Lib.hid (next6 HB5.out hb6)
      clear hb6 hcv
      go_wp2_with fail
      go_ret2
      exact ⟨rfl, HB6.out⟩
  · obtain rfl := hD2 (fun h => h2 (congrArg Prod.snd h))
    have hne : (V2 == 0) = false := by
      rw [beq_eq_false_iff_ne]
      exact h2
    clear hD1 hD2
    go_enter Tryd.func25, Tryd.ntmps25
    go_wp2_with fail
    go_at_call 61
    refine (CE.out _).mono ?_
    rintro e w2 ⟨rfl, rfl⟩
    go_wp2_with fail
    go_at_call 31
    refine (CU.out _).mono ?_
    rintro e w3 ⟨rfl, hb3⟩
    have HB3 := Lib.hid hb3
    clear hb3
    go_wp2_with fail
    go_at_call 62
    refine (CC.out _).mono ?_
    rintro e w4 ⟨rfl, hb4⟩
    have HB4 := Lib.hid (next6 HB3.out hb4)
    clear hb4
    go_wp2_with fail
    go_at_call 97
    refine (CD.out _).mono ?_
    rintro e w5 ⟨R5, n5, c5, rfl, hcv5, hb5⟩
    have hcv := hcv5.out
    have HB5 := Lib.hid (next6 HB4.out hb5)
    clear hb5
    go_wp2_with fail
    go_at_call 27
    refine (CX.out _ (HT.out.keep HB5.out)).mono ?_
    rintro e w6 ⟨rfl, hb6⟩
    have HB6 := Lib.hid (next6 HB5.out hb6)
    clear hb6 hcv
    go_wp2_with fail
    go_ret2
    exact ⟨rfl, HB6.out⟩

set_option maxHeartbeats 1000000 in
theorem decIlong_1 (b : ByteArray) (hb24 : 24 < b.size) (w : World) : Calls Tryd.prog 25 #[.int .i64 1, .string b] w (RetSN (⟨#[]⟩, 19) w) := by
  have CE := Lib.hid (fun W => implEnc_yes 1 (by decide) (by decide) W)
  have CU := Lib.hid (fun W => implUnit_1 W)
  have hbi : (24 : Int) < (b.size : Int) := by omega
  go_enter Tryd.func25, Tryd.ntmps25
  go_wp2_with fail
  go_at_call 61
  refine (CE.out _).mono ?_
  rintro e w2 ⟨rfl, rfl⟩
  go_wp2_with fail
  go_at_call 31
  refine (CU.out _).mono ?_
  rintro e w3 ⟨rfl, hb3⟩
  have HB3 := Lib.hid hb3
  clear hb3
  go_wp2_with fail
  go_ret2
  exact ⟨rfl, HB3.out⟩

set_option maxHeartbeats 2000000 in
theorem decI_2 (b : ByteArray) (hb24 : b.size ≤ 48) (w : World) (hT : Tabs w) : Calls Tryd.prog 25 #[.int .i64 2, .string b] w (RetSN (decP 2 b (runesBytes (wideI b.size [] (nums b)))) w) := by
  have CE := Lib.hid (fun W => implEnc_yes 2 (by decide) (by decide) W)
  have CU := Lib.hid (fun W => implUnit_2 W)
  have CC := Lib.hid (fun W => codecOf_2 W)
  unfold CodecPost fnV at CC
  have hfn := codecBack 2 (.func (.func 98) #[] #[]) (.func (.func 99) #[] #[])
  have CD := Lib.hid (fun W => fromUtf16_any b hb24 W)
  have HT := Lib.hid hT
  have hz : (runesBytes (wideI b.size [] (nums b))).size ≤ 1048576 := by
    have h4 := runesBytes_size_le (wideI b.size [] (nums b))
    have h5 : (wideI b.size [] (nums b)).length ≤ 48 := by
      have := wideI_len b.size [] (nums b)
      rw [List.length_nil] at this
      omega
    omega
  have hbi : ¬ (48 : Int) < (b.size : Int) := by omega
  generalize wideI b.size [] (nums b) = P at *
  have CX := fun W hT => implEnc_any 2 (runesBytes P) hz W hT
  obtain ⟨V, hV⟩ : ∃ V, encA 2 (runesBytes P) = V := ⟨_, rfl⟩
  rw [hV] at CX
  have CX := Lib.hid CX
  obtain ⟨D, hD⟩ : ∃ D, decP 2 b (runesBytes P) = D := ⟨_, rfl⟩
  have hD1 : V = (b, 0) → D = (runesBytes P, 0) := fun h => by
    have k := (encA_in3 (by decide) (by decide)).mp (hV.trans h)
    rw [← hD, decP_yes k.1 k.2]
  have hD2 : V ≠ (b, 0) → D = (⟨#[]⟩, 19) := fun h => by
    rw [← hD]
    unfold decP
    rw [if_neg (fun k => h (hV.symm.trans ((encA_in3 (by decide) (by decide)).mpr k)))]
  rw [hD]
  clear hV hD hz hT
  unfold RunesPost at CD
  generalize runesBytes P = C at *
  obtain ⟨V1, V2⟩ := V
  by_cases h2 : V2 = 0
  · subst h2
    by_cases h1 : V1 = b
    · subst h1
      obtain rfl := hD1 rfl
      clear hD1 hD2
      go_enter Tryd.func25, Tryd.ntmps25
      go_wp2_with fail
      go_at_call 61
      refine (CE.out _).mono ?_
      rintro e w2 ⟨rfl, rfl⟩
      go_wp2_with fail
      go_at_call 31
      refine (CU.out _).mono ?_
      rintro e w3 ⟨rfl, hb3⟩
      have HB3 := Lib.hid hb3
      clear hb3
      go_wp2_with fail
      go_at_call 62
      refine (CC.out _).mono ?_
      rintro e w4 ⟨rfl, hb4⟩
      have HB4 := Lib.hid (next6 HB3.out hb4)
      clear hb4
      go_wp2_with fail
      go_at_call 99
      refine (CD.out _).mono ?_
      rintro e w5 ⟨R5, n5, c5, rfl, hcv5, hb5⟩
      have hcv := hcv5.out
      have HB5 := Lib.hid (next6 HB4.out hb5)
      clear hb5
      go_wp2_with fail
      go_at_call 27
      refine (CX.out _ (HT.out.keep HB5.out)).mono ?_
      rintro e w6 ⟨rfl, hb6⟩
      have HB6 := Lib.hid (next6 HB5.out hb6)
      clear hb6 hcv
      go_wp2_with fail
      go_ret2
      exact ⟨rfl, HB6.out⟩
    · obtain rfl := hD2 (fun h => h1 (congrArg Prod.fst h))
      have hne := list_ne h1
      clear hD1 hD2
      go_enter Tryd.func25, Tryd.ntmps25
      go_wp2_with fail
      go_at_call 61
      refine (CE.out _).mono ?_
      rintro e w2 ⟨rfl, rfl⟩
      go_wp2_with fail
      go_at_call 31
      refine (CU.out _).mono ?_
      rintro e w3 ⟨rfl, hb3⟩
      have HB3 := Lib.hid hb3
      clear hb3
      go_wp2_with fail
      go_at_call 62
      refine (CC.out _).mono ?_
      rintro e w4 ⟨rfl, hb4⟩
      have HB4 := Lib.hid (next6 HB3.out hb4)
      clear hb4
      go_wp2_with fail
      go_at_call 99
      refine (CD.out _).mono ?_
      rintro e w5 ⟨R5, n5, c5, rfl, hcv5, hb5⟩
      have hcv := hcv5.out
      have HB5 := Lib.hid (next6 HB4.out hb5)
      clear hb5
      go_wp2_with fail
      go_at_call 27
      refine (CX.out _ (HT.out.keep HB5.out)).mono ?_
      rintro e w6 ⟨rfl, hb6⟩
      have HB6 := Lib.hid (next6 HB5.out hb6)
      clear hb6 hcv
      go_wp2_with fail
      go_ret2
      exact ⟨rfl, HB6.out⟩
  · obtain rfl := hD2 (fun h => h2 (congrArg Prod.snd h))
    have hne : (V2 == 0) = false := by
      rw [beq_eq_false_iff_ne]
      exact h2
    clear hD1 hD2
    go_enter Tryd.func25, Tryd.ntmps25
    go_wp2_with fail
    go_at_call 61
    refine (CE.out _).mono ?_
    rintro e w2 ⟨rfl, rfl⟩
    go_wp2_with fail
    go_at_call 31
    refine (CU.out _).mono ?_
    rintro e w3 ⟨rfl, hb3⟩
    have HB3 := Lib.hid hb3
    clear hb3
    go_wp2_with fail
    go_at_call 62
    refine (CC.out _).mono ?_
    rintro e w4 ⟨rfl, hb4⟩
    have HB4 := Lib.hid (next6 HB3.out hb4)
    clear hb4
    go_wp2_with fail
    go_at_call 99
    refine (CD.out _).mono ?_
    rintro e w5 ⟨R5, n5, c5, rfl, hcv5, hb5⟩
    have hcv := hcv5.out
    have HB5 := Lib.hid (next6 HB4.out hb5)
    clear hb5
    go_wp2_with fail
    go_at_call 27
    refine (CX.out _ (HT.out.keep HB5.out)).mono ?_
    rintro e w6 ⟨rfl, hb6⟩
    have HB6 := Lib.hid (next6 HB5.out hb6)
    clear hb6 hcv
    go_wp2_with fail
    go_ret2
    exact ⟨rfl, HB6.out⟩

set_option maxHeartbeats 1000000 in
theorem decIlong_2 (b : ByteArray) (hb24 : 48 < b.size) (w : World) : Calls Tryd.prog 25 #[.int .i64 2, .string b] w (RetSN (⟨#[]⟩, 19) w) := by
  have CE := Lib.hid (fun W => implEnc_yes 2 (by decide) (by decide) W)
  have CU := Lib.hid (fun W => implUnit_2 W)
  have hbi : (48 : Int) < (b.size : Int) := by omega
  go_enter Tryd.func25, Tryd.ntmps25
  go_wp2_with fail
  go_at_call 61
  refine (CE.out _).mono ?_
  rintro e w2 ⟨rfl, rfl⟩
  go_wp2_with fail
  go_at_call 31
  refine (CU.out _).mono ?_
  rintro e w3 ⟨rfl, hb3⟩
  have HB3 := Lib.hid hb3
  clear hb3
  go_wp2_with fail
  go_ret2
  exact ⟨rfl, HB3.out⟩

set_option maxHeartbeats 2000000 in
theorem decI_3 (b : ByteArray) (hb24 : b.size ≤ 24) (w : World) (hT : Tabs w) : Calls Tryd.prog 25 #[.int .i64 3, .string b] w (RetSN (decP 3 b (runesBytes (nums b))) w) := by
  have CE := Lib.hid (fun W => implEnc_yes 3 (by decide) (by decide) W)
  have CU := Lib.hid (fun W => implUnit_3 W)
  have CC := Lib.hid (fun W => codecOf_3 W)
  unfold CodecPost fnV at CC
  have hfn := codecBack 1 (.func (.func 100) #[] #[]) (.func (.func 101) #[] #[])
  have CD := Lib.hid (fun W => fromLatin_any b hb24 W)
  have HT := Lib.hid hT
  have hz : (runesBytes (nums b)).size ≤ 1048576 := by
    have h4 := runesBytes_size_le (nums b)
    have h5 : (nums b).length ≤ 48 := by
      rw [nums_length]
      omega
    omega
  have hbi : ¬ (24 : Int) < (b.size : Int) := by omega
  generalize nums b = P at *
  have CX := fun W hT => implEnc_any 3 (runesBytes P) hz W hT
  obtain ⟨V, hV⟩ : ∃ V, encA 3 (runesBytes P) = V := ⟨_, rfl⟩
  rw [hV] at CX
  have CX := Lib.hid CX
  obtain ⟨D, hD⟩ : ∃ D, decP 3 b (runesBytes P) = D := ⟨_, rfl⟩
  have hD1 : V = (b, 0) → D = (runesBytes P, 0) := fun h => by
    have k := (encA_in3 (by decide) (by decide)).mp (hV.trans h)
    rw [← hD, decP_yes k.1 k.2]
  have hD2 : V ≠ (b, 0) → D = (⟨#[]⟩, 19) := fun h => by
    rw [← hD]
    unfold decP
    rw [if_neg (fun k => h (hV.symm.trans ((encA_in3 (by decide) (by decide)).mpr k)))]
  rw [hD]
  clear hV hD hz hT
  unfold RunesPost at CD
  generalize runesBytes P = C at *
  obtain ⟨V1, V2⟩ := V
  by_cases h2 : V2 = 0
  · subst h2
    by_cases h1 : V1 = b
    · subst h1
      obtain rfl := hD1 rfl
      clear hD1 hD2
      go_enter Tryd.func25, Tryd.ntmps25
      go_wp2_with fail
      go_at_call 61
      refine (CE.out _).mono ?_
      rintro e w2 ⟨rfl, rfl⟩
      go_wp2_with fail
      go_at_call 31
      refine (CU.out _).mono ?_
      rintro e w3 ⟨rfl, hb3⟩
      have HB3 := Lib.hid hb3
      clear hb3
      go_wp2_with fail
      go_at_call 62
      refine (CC.out _).mono ?_
      rintro e w4 ⟨rfl, hb4⟩
      have HB4 := Lib.hid (next6 HB3.out hb4)
      clear hb4
      go_wp2_with fail
      go_at_call 101
      refine (CD.out _).mono ?_
      rintro e w5 ⟨R5, n5, c5, rfl, hcv5, hb5⟩
      have hcv := hcv5.out
      have HB5 := Lib.hid (next6 HB4.out hb5)
      clear hb5
      go_wp2_with fail
      go_at_call 27
      refine (CX.out _ (HT.out.keep HB5.out)).mono ?_
      rintro e w6 ⟨rfl, hb6⟩
      have HB6 := Lib.hid (next6 HB5.out hb6)
      clear hb6 hcv
      go_wp2_with fail
      go_ret2
      exact ⟨rfl, HB6.out⟩
    · obtain rfl := hD2 (fun h => h1 (congrArg Prod.fst h))
      have hne := list_ne h1
      clear hD1 hD2
      go_enter Tryd.func25, Tryd.ntmps25
      go_wp2_with fail
      go_at_call 61
      refine (CE.out _).mono ?_
      rintro e w2 ⟨rfl, rfl⟩
      go_wp2_with fail
      go_at_call 31
      refine (CU.out _).mono ?_
      rintro e w3 ⟨rfl, hb3⟩
      have HB3 := Lib.hid hb3
      clear hb3
      go_wp2_with fail
      go_at_call 62
      refine (CC.out _).mono ?_
      rintro e w4 ⟨rfl, hb4⟩
      have HB4 := Lib.hid (next6 HB3.out hb4)
      clear hb4
      go_wp2_with fail
      go_at_call 101
      refine (CD.out _).mono ?_
      rintro e w5 ⟨R5, n5, c5, rfl, hcv5, hb5⟩
      have hcv := hcv5.out
      have HB5 := Lib.hid (next6 HB4.out hb5)
      clear hb5
      go_wp2_with fail
      go_at_call 27
      refine (CX.out _ (HT.out.keep HB5.out)).mono ?_
      rintro e w6 ⟨rfl, hb6⟩
      have HB6 := Lib.hid (next6 HB5.out hb6)
      clear hb6 hcv
      go_wp2_with fail
      go_ret2
      exact ⟨rfl, HB6.out⟩
  · obtain rfl := hD2 (fun h => h2 (congrArg Prod.snd h))
    have hne : (V2 == 0) = false := by
      rw [beq_eq_false_iff_ne]
      exact h2
    clear hD1 hD2
    go_enter Tryd.func25, Tryd.ntmps25
    go_wp2_with fail
    go_at_call 61
    refine (CE.out _).mono ?_
    rintro e w2 ⟨rfl, rfl⟩
    go_wp2_with fail
    go_at_call 31
    refine (CU.out _).mono ?_
    rintro e w3 ⟨rfl, hb3⟩
    have HB3 := Lib.hid hb3
    clear hb3
    go_wp2_with fail
    go_at_call 62
    refine (CC.out _).mono ?_
    rintro e w4 ⟨rfl, hb4⟩
    have HB4 := Lib.hid (next6 HB3.out hb4)
    clear hb4
    go_wp2_with fail
    go_at_call 101
    refine (CD.out _).mono ?_
    rintro e w5 ⟨R5, n5, c5, rfl, hcv5, hb5⟩
    have hcv := hcv5.out
    have HB5 := Lib.hid (next6 HB4.out hb5)
    clear hb5
    go_wp2_with fail
    go_at_call 27
    refine (CX.out _ (HT.out.keep HB5.out)).mono ?_
    rintro e w6 ⟨rfl, hb6⟩
    have HB6 := Lib.hid (next6 HB5.out hb6)
    clear hb6 hcv
    go_wp2_with fail
    go_ret2
    exact ⟨rfl, HB6.out⟩

set_option maxHeartbeats 1000000 in
theorem decIlong_3 (b : ByteArray) (hb24 : 24 < b.size) (w : World) : Calls Tryd.prog 25 #[.int .i64 3, .string b] w (RetSN (⟨#[]⟩, 19) w) := by
  have CE := Lib.hid (fun W => implEnc_yes 3 (by decide) (by decide) W)
  have CU := Lib.hid (fun W => implUnit_3 W)
  have hbi : (24 : Int) < (b.size : Int) := by omega
  go_enter Tryd.func25, Tryd.ntmps25
  go_wp2_with fail
  go_at_call 61
  refine (CE.out _).mono ?_
  rintro e w2 ⟨rfl, rfl⟩
  go_wp2_with fail
  go_at_call 31
  refine (CU.out _).mono ?_
  rintro e w3 ⟨rfl, hb3⟩
  have HB3 := Lib.hid hb3
  clear hb3
  go_wp2_with fail
  go_ret2
  exact ⟨rfl, HB3.out⟩

theorem candI_1 (b s : ByteArray) (h : TxtOk s) (hv : encV 1 s = (b, 0)) : runesBytes (ptsOf b) = s := by
  obtain rfl : s = b := congrArg Prod.fst hv
  exact back_pts h
theorem candI_2 (b s : ByteArray) (h : TxtOk s) (hv : encV 2 s = (b, 0)) : runesBytes (wideI b.size [] (nums b)) = s := by
  obtain rfl : wideB (ptsOf s) = b := congrArg Prod.fst hv
  have hA := ptsOf_ch h
  have hk : ∀ P : List Int, AllCh P → 2 * P.length ≤ (nums (wideB P)).length := by
    intro P
    induction P with
    | nil => intro _; exact Nat.zero_le _
    | cons n ns ih =>
      intro hP
      have h1 := ih (fun x hx => hP x (List.mem_cons_of_mem _ hx))
      rw [wideB_cons, List.length_append, List.length_cons]
      by_cases h16 : n < 65536
      · rw [nums_pair1 h16]
        simp only [List.length_cons, List.length_nil]
        omega
      · rw [nums_pair2 h16]
        simp only [List.length_cons, List.length_nil]
        omega
  have h2 := hk _ hA
  rw [nums_length] at h2
  rw [wideI_back _ hA [] (fun k => absurd k.1 (by simp)) _ h2, List.nil_append, back_pts h]
theorem candI_3 (b s : ByteArray) (h : TxtOk s) (hv : encV 3 s = (b, 0)) : runesBytes (nums b) = s := by
  have hA := ptsOf_ch h
  unfold encV at hv
  rw [if_neg (by decide), if_neg (by decide)] at hv
  split at hv
  · rename_i h3
    obtain rfl : strOfNums (ptsOf s) = b := congrArg Prod.fst hv
    rw [nums_str _ (fun n hn => ⟨by have := hA n hn; unfold ChI at this; omega, h3 n hn⟩), back_pts h]
  · have := congrArg Prod.snd hv
    cases this
theorem decI_in (enc : Int) (h0 : 1 ≤ enc) (h1 : enc ≤ 3) (b : ByteArray) (w : World) (hT : Tabs w) : Calls Tryd.prog 25 #[.int .i64 enc, .string b] w (RetSN (decP enc b (candS enc b)) w) := by
  have h2 : enc = 1 ∨ enc = 2 ∨ enc = 3 := by omega
  rcases h2 with rfl | rfl | rfl
  · by_cases hb : b.size ≤ 24
    · rw [decP_same 1 b (candS 1 b) (runesBytes (ptsOf b)) (candS_back 1 b) (candI_1 b)]
      exact decI_1 b hb w hT
    · rw [decP_none 1 b (candS 1 b) (fun s h hv => by have := encV_bound 1 s b h hv; unfold unitI at this; rw [if_neg (by decide)] at this; omega)]
      exact decIlong_1 b (by omega) w
  · by_cases hb : b.size ≤ 48
    · rw [decP_same 2 b (candS 2 b) (runesBytes (wideI b.size [] (nums b))) (candS_back 2 b) (candI_2 b)]
      exact decI_2 b hb w hT
    · rw [decP_none 2 b (candS 2 b) (fun s h hv => by have := encV_bound 2 s b h hv; unfold unitI at this; rw [if_pos rfl] at this; omega)]
      exact decIlong_2 b (by omega) w
  · by_cases hb : b.size ≤ 24
    · rw [decP_same 3 b (candS 3 b) (runesBytes (nums b)) (candS_back 3 b) (candI_3 b)]
      exact decI_3 b hb w hT
    · rw [decP_none 3 b (candS 3 b) (fun s h hv => by have := encV_bound 3 s b h hv; unfold unitI at this; rw [if_neg (by decide)] at this; omega)]
      exact decIlong_3 b (by omega) w
theorem implDec_any (enc : Int) (b : ByteArray) (w : World) (hT : Tabs w) : Calls Tryd.prog 25 #[.int .i64 enc, .string b] w (RetSN (decA enc b) w) := by
  unfold decA
  by_cases he : 1 ≤ enc ∧ enc ≤ 3
  · rw [if_pos he]
    exact decI_in enc he.1 he.2 b w hT
  · rw [if_neg he]
    have CE := Lib.hid (fun W => implEnc_no enc (by omega) W)
    clear he hT
    go_enter Tryd.func25, Tryd.ntmps25
    go_wp2_with fail
    go_at_call 61
    refine (CE.out _).mono ?_
    rintro e w2 ⟨rfl, rfl⟩
    go_wp2_with fail
    go_ret2
    exact ⟨rfl, Below.refl _ _⟩
end Go.Proofs.YthdnklhaagofhaaDoor
