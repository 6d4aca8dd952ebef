/-
  The walks of both sides' code units: l11Pair and putUnits.
-/
import Derived.Test.YthdnklhaagofhaaDoorEncP
import Derived.Test.YthdnklhaagofhaaDoorPutFix0
import Derived.Laws.EntriesVeiled
namespace Go.Proofs.YthdnklhaagofhaaDoor
open Go.ChangeShapes Go.WideShapes Go.ChangeAt Go.RowKit Go.Deep

theorem i64_and1023 (n : Int) (h0 : 0 ≤ n) (h1 : n < 1000000000) : bits .and .i64 n 1023 = n % 1024 := bits_mask .i64 62 (by decide) (fun n a b => by have e : (2 : Int) ^ 62 = 4611686018427387904 := (by decide); rw [IntKind.wrap_i64]; omega) 10 (by decide) n h0 (by have e : (2 : Int) ^ 62 = 4611686018427387904 := (by decide); omega)
theorem i32_and1023 (n : Int) (h0 : 0 ≤ n) (h1 : n < 1000000000) : bits .and .i32 n 1023 = n % 1024 := bits_mask .i32 31 (by decide) (fun n a b => by have e : (2 : Int) ^ 31 = 2147483648 := (by decide); rw [IntKind.wrap_i32]; omega) 10 (by decide) n h0 (by have e : (2 : Int) ^ 31 = 2147483648 := (by decide); omega)

set_option maxHeartbeats 1000000 in
theorem pair_1 (n : Int) (_h0 : 0 ≤ n) (h1 : n < 65536) (w : World) :
    Calls Tryd.prog 163 #[.int .i64 n] w fun e w' => e = .returned (.string (strOfNums (fixl n 2))) ∧ Below w.heap.size w w' := by
  have CF := Lib.hid (fun W => specPutFix_any n 2 W (by decide))
  go_enter Tryd.func163, Tryd.ntmps163
  go_wp2_with fail
  go_at_call 181
  refine (CF.out _).mono ?_
  rintro e w2 ⟨rfl, hb2⟩
  have HB2 := Lib.hid hb2
  clear hb2
  go_wp2_with fail
  go_ret
  exact ⟨rfl, HB2.out⟩

set_option maxHeartbeats 1000000 in
theorem pair_2 (n : Int) (h0 : 65536 ≤ n) (h1 : n ≤ 1114111) (w : World) :
    Calls Tryd.prog 163 #[.int .i64 n] w fun e w' => e = .returned (.string (strOfNums (fixl (55296 + (n - 65536) / 1024) 2) ++ strOfNums (fixl (56320 + (n - 65536) % 1024) 2))) ∧ Below w.heap.size w w' := by
  obtain ⟨m, rfl⟩ : ∃ m, n = m + 65536 := ⟨n - 65536, by omega⟩
  have e1 : m + 65536 - 65536 = m := by omega
  rw [e1]
  have hand := i64_and1023 m (by omega) (by omega)
  have CF := Lib.hid (fun n W => specPutFix_any n 2 W (by decide))
  have hz : ∀ n, (strOfNums (fixl n 2)).size = 2 := fun n => by rw [strOfNums_size, fixl_length]
  go_enter Tryd.func163, Tryd.ntmps163
  go_wp2_with fail
  go_at_call 181
  refine (CF.out (55296 + m / 1024) _).mono ?_
  rintro e w2 ⟨rfl, hb2⟩
  have HB2 := Lib.hid hb2
  clear hb2
  go_wp2_with fail
  go_at_call 181
  refine (CF.out (56320 + m % 1024) _).mono ?_
  rintro e w3 ⟨rfl, hb3⟩
  have HB3 := Lib.hid (next6 HB2.out hb3)
  clear hb3
  go_wp2_with fail
  go_ret
  exact ⟨rfl, HB3.out⟩
theorem pair_any (n : Int) (h0 : 0 ≤ n) (h1 : n ≤ 1114111) (w : World) :
    Calls Tryd.prog 163 #[.int .i64 n] w fun e w' => e = .returned (.string (pairB n)) ∧ Below w.heap.size w w' := by
  unfold pairB
  by_cases h : n < 65536
  · rw [if_pos h]
    exact pair_1 n h0 h w
  · rw [if_neg h]
    exact pair_2 n (by omega) h1 w

/-- Code units as bytes. -/
def unitsB (P : List Int) : ByteArray := P.foldl (fun r n => r ++ strOfNums (fixl n 2)) ByteArray.empty
theorem unitsB_take {P : List Int} {k : Nat} {n : Int} (h : P[k]? = some n) : unitsB (P.take (k + 1)) = unitsB (P.take k) ++ strOfNums (fixl n 2) := by
  rw [take_snoc7 h]
  unfold unitsB
  rw [List.foldl_append]
  rfl
set_option maxHeartbeats 1000000 in
theorem units_any (P : List Int) (hl : P.length ≤ 24) (hb : ∀ n ∈ P, 0 ≤ n ∧ n ≤ 1114111) (R : Option Addr) (c : Nat) (w : World) (h : Row32 w P R) :
    Calls Tryd.prog 140 #[.slice R P.length c] w fun e w' => e = .returned (.string (unitsB P)) ∧ Below w.heap.size w w' := by
  have H := Lib.hid h
  have CF := Lib.hid (fun (n : Int) (h0 : 0 ≤ n) (h1 : n ≤ 1114111) W => implPutFix_any n 2 W (by decide) (by omega) (by omega))
  clear h
  go_enter Tryd.func140, Tryd.ntmps140
  go_wp2_with fail
  go_loopw [3, 8] (fun s i wr => ∃ k : Nat, k ≤ P.length ∧ i = .int .i64 k ∧ (∃ T : ByteArray, s = .string T ∧ Hid (T = unitsB (P.take k)) ∧ T.size = 2 * k) ∧ Hid (Below w.heap.size w wr)) (fun _ i _ => P.length - (intOf i).toNat)
  case atStart => exact ⟨0, Nat.zero_le _, rfl, ⟨⟨#[]⟩, rfl, by rw [List.take_zero]; rfl, rfl⟩, Below.refl _ _⟩
  case round =>
    obtain ⟨k, hk, rfl, ⟨T, rfl, hT, hTz⟩, hB⟩ := hrel
    by_cases hlt : k < P.length
    · have hlti : (k : Int) < (P.length : Int) := by omega
      obtain ⟨b, rfl, hc0⟩ := H.out.below hB.out
      have hn : P[k]? = some P[k] := List.getElem?_eq_getElem hlt
      have hc := hc0 k _ hn
      have hnb := hb _ (List.mem_of_getElem? hn)
      have HT2 : Hid (T ++ strOfNums (fixl P[k] 2) = unitsB (P.take (k + 1))) := Lib.hid (by rw [unitsB_take hn, ← hT.out])
      generalize P[k] = n at *
      have hw := i64_32 hnb.1 hnb.2
      have CX := Lib.hid (fun W => CF.out n hnb.1 hnb.2 W)
      have hsz : (strOfNums (fixl n 2)).size = 2 := by rw [strOfNums_size, fixl_length]
      generalize strOfNums (fixl n 2) = U at *
      have hsz1 : ¬ 9223372036854775807 < T.size + U.size := by omega
      have HSZ := Lib.hid (show (T ++ U).size = T.size + U.size from ByteArray.size_append)
      clear hn hc0 hT CF
      go_wp2_with fail
      go_at_call 164
      refine (CX.out _).mono ?_
      rintro e w2 ⟨rfl, hb2⟩
      have HB2 := Lib.hid (next6 hB.out hb2)
      clear hb2
      go_wp2_with fail
      go_roundw
      case rel => exact ⟨k + 1, by omega, by go_num, ⟨T ++ U, rfl, HT2, by rw [HSZ.out]; omega⟩, HB2⟩
      case measure => simp [intOf]; omega
    · have hk' : k = P.length := by omega
      have hlti : ¬ (k : Int) < (P.length : Int) := by omega
      have hT' : T = unitsB P := by have := hT.out; rwa [hk', List.take_length] at this
      subst hT'
      clear hT
      go_wp2_with fail
      go_ret
      exact ⟨rfl, hB.out⟩
end Go.Proofs.YthdnklhaagofhaaDoor
