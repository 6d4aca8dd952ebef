/-
  The walks of both UnitsOf and of the law FnExactUnitsOf.
-/
import Derived.Test.YthdnklhaagofhaaDoorEncJ
namespace Go.Proofs.YthdnklhaagofhaaDoor
open Go.ChangeShapes Go.WideShapes Go.ChangeAt Go.RowKit Go.Deep
set_option maxRecDepth 100000

/-- Two numbers. -/
def RetNN (p : Int × Int) (w : World) (e : Ending) (w' : World) : Prop := e = .returned (.tuple #[.int .i64 p.1, .int .i64 p.2]) ∧ Below w.heap.size w w'
theorem wideB_size : ∀ P : List Int, (wideB P).size ≤ 4 * P.length := by
  have h : ∀ (P : List Int) (r : ByteArray), (P.foldl (fun r n => r ++ pairB n) r).size ≤ r.size + 4 * P.length := by
    intro P
    induction P with
    | nil => intro r; simp
    | cons n ns ih =>
      intro r
      have h1 := ih (r ++ pairB n)
      have h2 := pairB_size n
      rw [List.foldl_cons, List.length_cons]
      rw [ByteArray.size_append] at h1
      omega
  intro P
  have := h P ByteArray.empty
  simpa [wideB] using this
theorem encV_size (enc : Int) {s : ByteArray} (h : TxtOk s) : (encV enc s).1.size ≤ 96 := by
  have h1 := ptsOf_len s
  have h2 := h.1
  unfold encV
  split
  · show s.size ≤ 96
    omega
  · split
    · have := wideB_size (ptsOf s)
      show (wideB (ptsOf s)).size ≤ 96
      omega
    · split
      · show (strOfNums (ptsOf s)).size ≤ 96
        rw [strOfNums_size]
        omega
      · show (⟨#[]⟩ : ByteArray).size ≤ 96
        decide
theorem encA_size (enc : Int) (s : ByteArray) : (encA enc s).1.size ≤ 96 := by
  unfold encA
  split
  · rename_i h
    exact encV_size enc h.2
  · show (⟨#[]⟩ : ByteArray).size ≤ 96
    decide
set_option maxHeartbeats 1000000 in
theorem implUnits_1 (s : ByteArray) (hs : s.size ≤ 1048576) (T : ByteArray) (hz : T.size ≤ 96) (hV : encA 1 s = (T, 0)) (w : World) (hT : Tabs w) : Calls Tryd.prog 28 #[.int .i64 1, .string s] w (RetNN ((T.size : Int), 0) w) := by
  have CE := Lib.hid (fun W hT => implEnc_any 1 s hs W hT)
  rw [hV] at CE
  have CU := Lib.hid (fun W => implUnit_1 W)
  have HT := Lib.hid hT
  clear hV hT
  go_enter Tryd.func28, Tryd.ntmps28
  go_wp2_with fail
  go_at_call 27
  refine (CE.out _ HT.out).mono ?_
  rintro e w2 ⟨rfl, hb2⟩
  have HB2 := Lib.hid hb2
  clear hb2
  go_wp2_with fail
  go_at_call 31
  refine (CU.out _).mono ?_
  rintro e w3 ⟨rfl, hb3⟩
  have HB3 := Lib.hid (next6 HB2.out hb3)
  clear hb3
  go_wp2_with fail
  go_ret2
  exact ⟨rfl, HB3.out⟩
set_option maxHeartbeats 1000000 in
theorem implUnits_2 (s : ByteArray) (hs : s.size ≤ 1048576) (T : ByteArray) (hz : T.size ≤ 96) (hV : encA 2 s = (T, 0)) (w : World) (hT : Tabs w) : Calls Tryd.prog 28 #[.int .i64 2, .string s] w (RetNN ((T.size : Int) / 2, 0) w) := by
  have CE := Lib.hid (fun W hT => implEnc_any 2 s hs W hT)
  rw [hV] at CE
  have CU := Lib.hid (fun W => implUnit_2 W)
  have HT := Lib.hid hT
  clear hV hT
  go_enter Tryd.func28, Tryd.ntmps28
  go_wp2_with fail
  go_at_call 27
  refine (CE.out _ HT.out).mono ?_
  rintro e w2 ⟨rfl, hb2⟩
  have HB2 := Lib.hid hb2
  clear hb2
  go_wp2_with fail
  go_at_call 31
  refine (CU.out _).mono ?_
  rintro e w3 ⟨rfl, hb3⟩
  have HB3 := Lib.hid (next6 HB2.out hb3)
  clear hb3
  go_wp2_with fail
  go_ret2
  exact ⟨rfl, HB3.out⟩
set_option maxHeartbeats 1000000 in
theorem implUnits_3 (s : ByteArray) (hs : s.size ≤ 1048576) (T : ByteArray) (hz : T.size ≤ 96) (hV : encA 3 s = (T, 0)) (w : World) (hT : Tabs w) : Calls Tryd.prog 28 #[.int .i64 3, .string s] w (RetNN ((T.size : Int), 0) w) := by
  have CE := Lib.hid (fun W hT => implEnc_any 3 s hs W hT)
  rw [hV] at CE
  have CU := Lib.hid (fun W => implUnit_3 W)
  have HT := Lib.hid hT
  clear hV hT
  go_enter Tryd.func28, Tryd.ntmps28
  go_wp2_with fail
  go_at_call 27
  refine (CE.out _ HT.out).mono ?_
  rintro e w2 ⟨rfl, hb2⟩
  have HB2 := Lib.hid hb2
  clear hb2
  go_wp2_with fail
  go_at_call 31
  refine (CU.out _).mono ?_
  rintro e w3 ⟨rfl, hb3⟩
  have HB3 := Lib.hid (next6 HB2.out hb3)
  clear hb3
  go_wp2_with fail
  go_ret2
  exact ⟨rfl, HB3.out⟩
set_option maxHeartbeats 1000000 in
theorem implUnits_no (enc : Int) (s : ByteArray) (hs : s.size ≤ 1048576) (T : ByteArray) (r : Int) (hr : r ≠ 0) (hV : encA enc s = (T, r)) (w : World) (hT : Tabs w) : Calls Tryd.prog 28 #[.int .i64 enc, .string s] w (RetNN (0, r) w) := by
  have CE := Lib.hid (fun W hT => implEnc_any enc s hs W hT)
  rw [hV] at CE
  have hr2 : (r == 0) = false := by rw [beq_eq_false_iff_ne]; exact hr
  have HT := Lib.hid hT
  clear hV hT
  go_enter Tryd.func28, Tryd.ntmps28
  go_wp2_with fail
  go_at_call 27
  refine (CE.out _ HT.out).mono ?_
  rintro e w2 ⟨rfl, hb2⟩
  have HB2 := Lib.hid hb2
  clear hb2
  go_wp2_with fail
  go_ret2
  exact ⟨rfl, HB2.out⟩
/-- What both answer. -/
def unitsA (enc : Int) (s : ByteArray) : Int × Int := if (encA enc s).2 = 0 then (if enc = 2 then ((encA enc s).1.size : Int) / 2 else ((encA enc s).1.size : Int), 0) else (0, (encA enc s).2)
theorem encA_in {enc : Int} {s : ByteArray} (h : (encA enc s).2 = 0) : enc = 1 ∨ enc = 2 ∨ enc = 3 := by
  unfold encA at h
  split at h
  · rename_i h1
    omega
  · exact absurd h (by decide)
theorem implUnits_any (enc : Int) (s : ByteArray) (hs : s.size ≤ 1048576) (w : World) (hT : Tabs w) : Calls Tryd.prog 28 #[.int .i64 enc, .string s] w (RetNN (unitsA enc s) w) := by
  unfold unitsA
  by_cases h : (encA enc s).2 = 0
  · rw [if_pos h]
    have hz := encA_size enc s
    rcases encA_in h with rfl | rfl | rfl
    · exact implUnits_1 s hs _ hz (Prod.ext rfl h) w hT
    · exact implUnits_2 s hs _ hz (Prod.ext rfl h) w hT
    · exact implUnits_3 s hs _ hz (Prod.ext rfl h) w hT
  · rw [if_neg h]
    exact implUnits_no enc s hs _ _ h rfl w hT
end Go.Proofs.YthdnklhaagofhaaDoor
