/-
  The walks of both FlatOk. No condition.
-/
import Derived.Test.YtmnkkpahbmcekaaKinds
import Derived.Test.YtmnkkpahbmcekaaSmall
namespace Go.Proofs.Ytmnkkpahbmcekaa
open Go.ChangeShapes Go.WideShapes Go.ChangeAt Go.RowKit Go.Deep

def inSm (n : Int) : Prop := 0 ≤ n ∧ n ≤ 4294967295
def BadF (K F : List Int) (j : Nat) : Prop := ∃ (i : Nat) (n : Int), i < j ∧ K[i]? = some 1 ∧ F[i]? = some n ∧ ¬ inSm n
def FOk (K F : List Int) : Prop := KOk K ∧ F.length = K.length ∧ ¬ BadF K F F.length
theorem BadF.no_two {K F : List Int} {k : Nat} (h : ¬ BadF K F k) (hk : K[k]? = some 2) : ¬ BadF K F (k + 1) := fun ⟨i, n, hi, h1, h2, h3⟩ => by
  by_cases e : i = k
  · subst e
    rw [hk] at h1
    cases h1
  · exact h ⟨i, n, by omega, h1, h2, h3⟩
theorem BadF.no_in {K F : List Int} {k : Nat} {n : Int} (h : ¬ BadF K F k) (hk : F[k]? = some n) (ho : inSm n) : ¬ BadF K F (k + 1) := fun ⟨i, m, hi, h1, h2, h3⟩ => by
  by_cases e : i = k
  · subst e
    rw [hk] at h2
    cases h2
    exact h3 ho
  · exact h ⟨i, m, by omega, h1, h2, h3⟩
theorem BadF.mono {K F : List Int} {j k : Nat} (h : BadF K F j) (hk : j ≤ k) : BadF K F k := by
  obtain ⟨i, n, h0, h1⟩ := h
  exact ⟨i, n, by omega, h1⟩


set_option maxHeartbeats 1000000 in
theorem specFlatOk_no (K F : List Int) (hK : K.length ≤ 1048576) (hk : ¬ KOk K) (R R' : Option Addr) (c c' : Nat) (w : World) (h : Row6 w K R) :
    Calls Try.prog 21 #[.slice R K.length c, .slice R' F.length c'] w (Says6 (FOk K F) w) := by
  have C := Lib.hid ((specKindsOk_any K hK R c w h).mono fun _ _ j => j.no hk)
  have HN : Hid (¬ FOk K F) := Lib.hid (fun h => hk h.1)
  clear hk h
  go_enter Try.func21, Try.ntmps21
  go_wp2_with fail
  go_at_call 13
  refine C.out.mono ?_
  rintro e w2 ⟨rfl, hb2⟩
  have HB2 := Lib.hid hb2
  clear hb2
  go_wp2_with fail
  go_ret
  exact ⟨false, rfl, iff6F HN.out, HB2.out⟩
set_option maxHeartbeats 1000000 in
theorem specFlatOk_len (K F : List Int) (hK : K.length ≤ 1048576) (_hF : F.length ≤ 1048576) (hk : KOk K) (hl : F.length ≠ K.length) (R R' : Option Addr) (c c' : Nat) (w : World) (h : Row6 w K R) :
    Calls Try.prog 21 #[.slice R K.length c, .slice R' F.length c'] w (Says6 (FOk K F) w) := by
  have C := Lib.hid ((specKindsOk_any K hK R c w h).mono fun _ _ j => j.yes hk)
  have HN : Hid (¬ FOk K F) := Lib.hid (fun h => hl h.2.1)
  have n1 : ¬ (K.length : Int) = (F.length : Int) := by omega
  have n2 : ¬ (F.length : Int) = (K.length : Int) := by omega
  have n3 : ((K.length : Int) == (F.length : Int)) = false := by rw [beq_eq_false_iff_ne]; exact n1
  have n4 : ((F.length : Int) == (K.length : Int)) = false := by rw [beq_eq_false_iff_ne]; exact n2
  have n5 : ((K.length : Int) != (F.length : Int)) = true := by simp [bne, n3]
  have n6 : ((F.length : Int) != (K.length : Int)) = true := by simp [bne, n4]
  clear hk h hl
  go_enter Try.func21, Try.ntmps21
  go_wp2_with fail
  go_at_call 13
  refine C.out.mono ?_
  rintro e w2 ⟨rfl, hb2⟩
  have HB2 := Lib.hid hb2
  clear hb2
  go_wp2_with fail
  go_ret
  exact ⟨false, by first | rfl | simp_all, iff6F HN.out, HB2.out⟩
set_option maxHeartbeats 1000000 in
theorem specFlatOk_yes (K F : List Int) (n : Nat) (hn : n ≤ 1048576) (hK : K.length = n) (hF : F.length = n) (hk : KOk K) (R R' : Option Addr) (c c' : Nat) (w : World) (h : Row6 w K R) (h' : Row6 w F R') :
    Calls Try.prog 21 #[.slice R n c, .slice R' n c'] w (Says6 (FOk K F) w) := by
  have C := (specKindsOk_any K (by omega) R c w h).mono fun _ _ j => j.yes hk
  rw [hK] at C
  have C := Lib.hid C
  have H := Lib.hid h
  have H' := Lib.hid h'
  have HK := Lib.hid hk
  have HKl := Lib.hid hK
  have HFl := Lib.hid hF
  have HP : Hid (FOk K F ↔ ¬ BadF K F n) := Lib.hid ⟨fun h => by have := h.2.2; rwa [hF] at this, fun h => ⟨hk, by omega, by rw [hF]; exact h⟩⟩
  clear hk h h' hK hF
  go_enter Try.func21, Try.ntmps21
  go_wp2_with fail
  go_at_call 13
  refine C.out.mono ?_
  rintro e w2 ⟨rfl, hb2⟩
  have HB2 := Lib.hid hb2
  clear hb2
  go_wp2_with fail
  go_loopw [5] (fun i wr => ∃ k : Nat, k ≤ n ∧ i = .int .i64 k ∧ Hid (¬ BadF K F k) ∧ Below w.heap.size w wr) (fun i _ => n - (intOf i).toNat)
  case atStart => exact ⟨0, Nat.zero_le _, rfl, (fun ⟨i, u, hi, _⟩ => by omega), HB2.out⟩
  case round =>
    obtain ⟨k, hk, rfl, hno, hbel⟩ := hrel
    by_cases hlt : k < n
    · have hlti : (k : Int) < (n : Int) := by omega
      obtain ⟨b, o, s, rfl, hs, hcs⟩ := (H.out.below hbel).at_ (show k < K.length by have := HKl.out; omega)
      obtain ⟨b', o', x, rfl, hx, hcx⟩ := (H'.out.below hbel).at_ (show k < F.length by have := HFl.out; omega)
      have hks := HK.out k s hs
      have HB := Lib.hid hbel
      have HS := Lib.hid hs
      have HX := Lib.hid hx
      clear hs hx hbel
      rcases hks with rfl | rfl
      · by_cases h1 : inSm x
        · have CC := Lib.hid (fun W => l00In_yes x 0 4294967295 W h1.1 h1.2)
          have H1 := Lib.hid h1
          clear h1
          go_wp2_with fail
          go_at_call 25
          refine (CC.out _).mono ?_
          rintro e w3 ⟨rfl, rfl⟩
          go_wp2_with fail
          go_roundw
          case rel => exact ⟨k + 1, by omega, by go_num, BadF.no_in hno.out HX.out H1.out, HB.out⟩
          case measure => simp [intOf]; omega
        · have CC := Lib.hid (fun W => l00In_no x 0 4294967295 W (by unfold inSm at h1; omega))
          have H1 := Lib.hid h1
          clear h1
          go_wp2_with fail
          go_at_call 25
          refine (CC.out _).mono ?_
          rintro e w3 ⟨rfl, rfl⟩
          go_wp2_with fail
          go_ret
          exact ⟨false, rfl, iff6F (fun h => HP.out.mp h (BadF.mono ⟨k, x, Nat.lt_succ_self k, HS.out, HX.out, H1.out⟩ hlt)), HB.out⟩
      · go_wp2_with fail
        go_roundw
        case rel => exact ⟨k + 1, by omega, by go_num, BadF.no_two hno.out HS.out, HB.out⟩
        case measure => simp [intOf]; omega
    · obtain rfl : k = n := by omega
      have hlti : ¬ (k : Int) < (k : Int) := by omega
      have HB := Lib.hid hbel
      clear hbel
      go_wp2_with fail
      go_ret
      exact ⟨true, rfl, iff6T (HP.out.mpr hno.out), HB.out⟩
theorem specFlatOk_any (K F : List Int) (hK : K.length ≤ 1048576) (hF : F.length ≤ 1048576) (R R' : Option Addr) (c c' : Nat) (w : World) (h : Row6 w K R) (h' : Row6 w F R') :
    Calls Try.prog 21 #[.slice R K.length c, .slice R' F.length c'] w (Says6 (FOk K F) w) := by
  by_cases hk : KOk K
  · by_cases hl : F.length = K.length
    · have := specFlatOk_yes K F K.length hK rfl hl hk R R' c c' w h h'
      rw [hl]
      exact this
    · exact specFlatOk_len K F hK hF hk hl R R' c c' w h
  · exact specFlatOk_no K F hK hk R R' c c' w h

set_option maxHeartbeats 1000000 in
theorem implFlatOk_no (K F : List Int) (hK : K.length ≤ 1048576) (hk : ¬ KOk K) (R R' : Option Addr) (c c' : Nat) (w : World) (h : Row6 w K R) :
    Calls Try.prog 22 #[.slice R K.length c, .slice R' F.length c'] w (Says6 (FOk K F) w) := by
  have C := Lib.hid ((implKindsOk_any K hK R c w h).mono fun _ _ j => j.no hk)
  have HN : Hid (¬ FOk K F) := Lib.hid (fun h => hk h.1)
  clear hk h
  go_enter Try.func22, Try.ntmps22
  go_wp2_with fail
  go_at_call 15
  refine C.out.mono ?_
  rintro e w2 ⟨rfl, hb2⟩
  have HB2 := Lib.hid hb2
  clear hb2
  go_wp2_with fail
  go_ret
  exact ⟨false, rfl, iff6F HN.out, HB2.out⟩
set_option maxHeartbeats 1000000 in
theorem implFlatOk_len (K F : List Int) (hK : K.length ≤ 1048576) (_hF : F.length ≤ 1048576) (hk : KOk K) (hl : F.length ≠ K.length) (R R' : Option Addr) (c c' : Nat) (w : World) (h : Row6 w K R) :
    Calls Try.prog 22 #[.slice R K.length c, .slice R' F.length c'] w (Says6 (FOk K F) w) := by
  have C := Lib.hid ((implKindsOk_any K hK R c w h).mono fun _ _ j => j.yes hk)
  have HN : Hid (¬ FOk K F) := Lib.hid (fun h => hl h.2.1)
  have n1 : ¬ (K.length : Int) = (F.length : Int) := by omega
  have n2 : ¬ (F.length : Int) = (K.length : Int) := by omega
  have n3 : ((K.length : Int) == (F.length : Int)) = false := by rw [beq_eq_false_iff_ne]; exact n1
  have n4 : ((F.length : Int) == (K.length : Int)) = false := by rw [beq_eq_false_iff_ne]; exact n2
  have n5 : ((K.length : Int) != (F.length : Int)) = true := by simp [bne, n3]
  have n6 : ((F.length : Int) != (K.length : Int)) = true := by simp [bne, n4]
  clear hk h hl
  go_enter Try.func22, Try.ntmps22
  go_wp2_with fail
  go_at_call 15
  refine C.out.mono ?_
  rintro e w2 ⟨rfl, hb2⟩
  have HB2 := Lib.hid hb2
  clear hb2
  go_wp2_with fail
  go_ret
  exact ⟨false, by first | rfl | simp_all, iff6F HN.out, HB2.out⟩
set_option maxHeartbeats 1000000 in
theorem implFlatOk_yes (K F : List Int) (n : Nat) (hn : n ≤ 1048576) (hK : K.length = n) (hF : F.length = n) (hk : KOk K) (R R' : Option Addr) (c c' : Nat) (w : World) (h : Row6 w K R) (h' : Row6 w F R') :
    Calls Try.prog 22 #[.slice R n c, .slice R' n c'] w (Says6 (FOk K F) w) := by
  have C := (implKindsOk_any K (by omega) R c w h).mono fun _ _ j => j.yes hk
  rw [hK] at C
  have C := Lib.hid C
  have H := Lib.hid h
  have H' := Lib.hid h'
  have HK := Lib.hid hk
  have HKl := Lib.hid hK
  have HFl := Lib.hid hF
  have HP : Hid (FOk K F ↔ ¬ BadF K F n) := Lib.hid ⟨fun h => by have := h.2.2; rwa [hF] at this, fun h => ⟨hk, by omega, by rw [hF]; exact h⟩⟩
  clear hk h h' hK hF
  go_enter Try.func22, Try.ntmps22
  go_wp2_with fail
  go_at_call 15
  refine C.out.mono ?_
  rintro e w2 ⟨rfl, hb2⟩
  have HB2 := Lib.hid hb2
  clear hb2
  go_wp2_with fail
  go_loopw [19] (fun i wr => ∃ k : Nat, k ≤ n ∧ i = .int .i64 k ∧ Hid (¬ BadF K F k) ∧ Below w.heap.size w wr) (fun i _ => n - (intOf i).toNat)
  case atStart => exact ⟨0, Nat.zero_le _, rfl, (fun ⟨i, u, hi, _⟩ => by omega), HB2.out⟩
  case round =>
    obtain ⟨k, hk, rfl, hno, hbel⟩ := hrel
    by_cases hlt : k < n
    · have hlti : (k : Int) < (n : Int) := by omega
      obtain ⟨b, o, s, rfl, hs, hcs⟩ := (H.out.below hbel).at_ (show k < K.length by have := HKl.out; omega)
      obtain ⟨b', o', x, rfl, hx, hcx⟩ := (H'.out.below hbel).at_ (show k < F.length by have := HFl.out; omega)
      have hks := HK.out k s hs
      have HB := Lib.hid hbel
      have HS := Lib.hid hs
      have HX := Lib.hid hx
      clear hs hx hbel
      rcases hks with rfl | rfl
      · by_cases h1 : inSm x
        · have CC := Lib.hid (fun W => isSmall_yes x h1.1 h1.2 W)
          have H1 := Lib.hid h1
          clear h1
          go_wp2_with fail
          go_at_call 31
          refine (CC.out _).mono ?_
          rintro e w3 ⟨rfl, rfl⟩
          go_wp2_with fail
          go_roundw
          case rel => exact ⟨k + 1, by omega, by go_num, BadF.no_in hno.out HX.out H1.out, HB.out⟩
          case measure => simp [intOf]; omega
        · have CC := Lib.hid (fun W => isSmall_no x (by unfold inSm at h1; omega) W)
          have H1 := Lib.hid h1
          clear h1
          go_wp2_with fail
          go_at_call 31
          refine (CC.out _).mono ?_
          rintro e w3 ⟨rfl, rfl⟩
          go_wp2_with fail
          go_ret
          exact ⟨false, rfl, iff6F (fun h => HP.out.mp h (BadF.mono ⟨k, x, Nat.lt_succ_self k, HS.out, HX.out, H1.out⟩ hlt)), HB.out⟩
      · go_wp2_with fail
        go_roundw
        case rel => exact ⟨k + 1, by omega, by go_num, BadF.no_two hno.out HS.out, HB.out⟩
        case measure => simp [intOf]; omega
    · obtain rfl : k = n := by omega
      have hlti : ¬ (k : Int) < (k : Int) := by omega
      have HB := Lib.hid hbel
      clear hbel
      go_wp2_with fail
      go_ret
      exact ⟨true, rfl, iff6T (HP.out.mpr hno.out), HB.out⟩
theorem implFlatOk_any (K F : List Int) (hK : K.length ≤ 1048576) (hF : F.length ≤ 1048576) (R R' : Option Addr) (c c' : Nat) (w : World) (h : Row6 w K R) (h' : Row6 w F R') :
    Calls Try.prog 22 #[.slice R K.length c, .slice R' F.length c'] w (Says6 (FOk K F) w) := by
  by_cases hk : KOk K
  · by_cases hl : F.length = K.length
    · have := implFlatOk_yes K F K.length hK rfl hl hk R R' c c' w h h'
      rw [hl]
      exact this
    · exact implFlatOk_len K F hK hF hk hl R R' c c' w h
  · exact implFlatOk_no K F hK hk R R' c c' w h
end Go.Proofs.Ytmnkkpahbmcekaa
