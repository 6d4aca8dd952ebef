/-
  The walks of the program's encoders and of its Encode.
-/
import Derived.Test.YthdnklhaagofhaaDoorEncS
import Derived.Test.YthdnklhaagofhaaDoorUnitSize
namespace Go.Proofs.YthdnklhaagofhaaDoor
open Go.ChangeShapes Go.WideShapes Go.ChangeAt Go.RowKit Go.Deep
set_option maxRecDepth 100000

/-- A text and a bool. -/
def RetSB (T : ByteArray) (v : Bool) (w : World) (e : Ending) (w' : World) : Prop := e = .returned (.tuple #[.string T, .bool v]) ∧ Below w.heap.size w w'
theorem conv_row32 {w : World} {P : List Int} {R : Option Addr} (h : Row32 w P R) (c : Nat) : (convert 108 9 (.slice R P.length c)).run Tryd.prog w = .ok (.string (runesBytes P)) w := by
  obtain ⟨b, rfl, hc⟩ := h
  have h6 := run_convert_runes (P := Tryd.prog) w 108 9 21 ⟨b, 0, none⟩ P.length c P (Nat.le_refl _) Tryd.underlying108 Tryd.underlying21 Tryd.underlying9 (fun j hj => by
    have hadd : (⟨b, 0, none⟩ : Addr).add j = ⟨b, j, none⟩ := by unfold Addr.add; split <;> simp_all
    rw [hadd, hc j _ (List.getElem?_eq_getElem hj), show P.getD j 0 = P[j] by simp [List.getD, List.getElem?_eq_getElem hj]])
  rw [List.take_length] at h6
  exact h6
theorem toUtf8_any (P : List Int) (R : Option Addr) (c : Nat) (w : World) (h : Row32 w P R) :
    Calls Tryd.prog 96 #[.slice R P.length c] w (RetSB (runesBytes P) true w) := by
  have hcv := conv_row32 h c
  clear h
  go_enter Tryd.func96, Tryd.ntmps96
  go_wp2_with fail
  go_ret2
  exact ⟨rfl, Below.refl _ _⟩

theorem news32 (W : World) (a b : Int) (t : TypeId) : Row32 (W.alloc (.cells #[.int .i32 a, .int .i32 b] t)) [a, b] (some ⟨W.heap.size, 0, none⟩) := ⟨_, rfl, fun i n hn => by
  match i, hn with
  | 0, hn => simp at hn; subst hn; simp
  | 1, hn => simp at hn; subst hn; simp⟩
theorem new32 (W : World) (a : Int) (t : TypeId) : Row32 (W.alloc (.cells #[.int .i32 a] t)) [a] (some ⟨W.heap.size, 0, none⟩) := ⟨_, rfl, fun i n hn => by
  match i, hn with
  | 0, hn => simp at hn; subst hn; simp⟩

set_option maxHeartbeats 2000000 in
theorem toUtf16_any (P : List Int) (hl : P.length ≤ 24) (hA : AllCh P) (R : Option Addr) (c : Nat) (w : World) (h : Row32 w P R) :
    Calls Tryd.prog 98 #[.slice R P.length c] w (RetSB (wideB P) true w) := by
  have H := Lib.hid h
  clear h
  go_enter Tryd.func98, Tryd.ntmps98
  go_wp2_with fail
  go_loopw [4, 10] (fun s i wr => ∃ k : Nat, k ≤ P.length ∧ i = .int .i64 k ∧ (∃ T : ByteArray, s = .string T ∧ Hid (T = wideB (P.take k)) ∧ T.size ≤ 4 * k) ∧ Hid (Below w.heap.size w wr)) (fun _ i _ => P.length - (intOf i).toNat)
  case atStart => exact ⟨0, Nat.zero_le _, rfl, ⟨⟨#[]⟩, rfl, by rw [List.take_zero]; rfl, by show 0 ≤ 4 * 0; omega⟩, Below.refl _ _⟩
  case round =>
    obtain ⟨k, hk, rfl, ⟨T, rfl, hT, hTz⟩, hB⟩ := hrel
    by_cases hlt : k < P.length
    · have hlti : (k : Int) < (P.length : Int) := by omega
      obtain ⟨b, rfl, hc0⟩ := H.out.below hB.out
      have hn : P[k]? = some P[k] := List.getElem?_eq_getElem hlt
      have hc := hc0 k _ hn
      have hnb := chB hA hn
      have HT2 : Hid (T ++ pairB P[k] = wideB (P.take (k + 1))) := Lib.hid (by rw [wideB_take hn, ← hT.out])
      generalize P[k] = n at *
      by_cases h16 : n < 65536
      · have hU : unitsB [n] = pairB n := by
          unfold unitsB pairB
          rw [if_pos h16, List.foldl_cons, List.foldl_nil]
          exact ByteArray.empty_append
        have CU := Lib.hid (fun W c (h : Row32 W [n] _) => units_any [n] (by show 1 ≤ 24; omega) (fun x hx => by
          obtain rfl : x = n := by simpa using hx
          exact hnb) (some ⟨wr.heap.size, 0, none⟩) c W h)
        rw [hU] at CU
        have HN := Lib.hid (new32 wr n)
        have HB2 := Lib.hid (fun t => (hB.out.alloc hB.out.size (.cells #[.int .i32 n] t)))
        have hsz := pairB_size n
        generalize pairB n = U at *
        have hsz1 : ¬ 9223372036854775807 < T.size + U.size := by omega
        have HSZ := Lib.hid (show (T ++ U).size = T.size + U.size from ByteArray.size_append)
        clear hn hc0 hT hU
        go_wp2_with fail
        go_at_call 140
        refine (CU.out _ _ (HN.out _)).mono ?_
        rintro e w2 ⟨rfl, hb2⟩
        have HB3 := Lib.hid (next6 (HB2.out _) hb2)
        clear hb2
        go_wp2_with fail
        go_roundw
        case rel => exact ⟨k + 1, by omega, by go_num, ⟨T ++ U, rfl, HT2, by rw [HSZ.out]; omega⟩, HB3⟩
        case measure => simp [intOf]; omega
      · obtain ⟨m, rfl⟩ : ∃ m, n = m + 65536 := ⟨n - 65536, by omega⟩
        have e1 : m + 65536 - 65536 = m := by omega
        have hand := i32_and1023 m (by omega) (by omega)
        have hU : unitsB [55296 + m / 1024, 56320 + m % 1024] = pairB (m + 65536) := by
          unfold unitsB pairB
          rw [if_neg h16, e1, List.foldl_cons, List.foldl_cons, List.foldl_nil]
          exact congrArg (· ++ _) ByteArray.empty_append
        have CU := Lib.hid (fun W c (h : Row32 W [55296 + m / 1024, 56320 + m % 1024] _) => units_any [55296 + m / 1024, 56320 + m % 1024] (by show 2 ≤ 24; omega) (fun x hx => by
          have h7 : x = 55296 + m / 1024 ∨ x = 56320 + m % 1024 := by simpa using hx
          omega) (some ⟨wr.heap.size, 0, none⟩) c W h)
        rw [hU] at CU
        have HN := Lib.hid (news32 wr (55296 + m / 1024) (56320 + m % 1024))
        have HB2 := Lib.hid (fun t => (hB.out.alloc hB.out.size (.cells #[.int .i32 (55296 + m / 1024), .int .i32 (56320 + m % 1024)] t)))
        have hsz := pairB_size (m + 65536)
        generalize pairB (m + 65536) = U at *
        have hsz1 : ¬ 9223372036854775807 < T.size + U.size := by omega
        have HSZ := Lib.hid (show (T ++ U).size = T.size + U.size from ByteArray.size_append)
        clear hn hc0 hT hU
        go_wp2_with fail
        go_at_call 140
        refine (CU.out _ _ (HN.out _)).mono ?_
        rintro e w2 ⟨rfl, hb2⟩
        have HB3 := Lib.hid (next6 (HB2.out _) hb2)
        clear hb2
        go_wp2_with fail
        go_roundw
        case rel => exact ⟨k + 1, by omega, by go_num, ⟨T ++ U, rfl, HT2, by rw [HSZ.out]; omega⟩, HB3⟩
        case measure => simp [intOf]; omega
    · have hk' : k = P.length := by omega
      have hlti : ¬ (k : Int) < (P.length : Int) := by omega
      have hT' : T = wideB P := by have := hT.out; rwa [hk', List.take_length] at this
      subst hT'
      clear hT
      go_wp2_with fail
      go_ret2
      exact ⟨rfl, hB.out⟩

def num8 (n : Int) : Value := .int .u8 n
/-- A row of bytes of one's own, as a string. -/
theorem conv_bytes {w : World} {base n c : Nat} {xs : List Int} {R : Option Addr} (h : OwnL 5 num8 w base xs R n c) : (convert 22 9 (.slice R n c)).run Tryd.prog w = .ok (.string (strOfNums xs)) w := by
  obtain ⟨hl, hlen, h2⟩ := h
  rcases h2 with ⟨hv, hz⟩ | h2
  · injection hv with h3 h4 h5
    subst h3
    obtain rfl : xs = [] := List.eq_nil_of_length_eq_zero (by omega)
    exact run_convert_bytes_nil w 22 5 Tryd.underlying22 Tryd.underlying5 n c 9 Tryd.underlying9
  · exact run_convert_own (P := Tryd.prog) w 22 5 Tryd.underlying22 Tryd.underlying5 base _ n xs ⟨hlen, Or.inr h2⟩ (by
      obtain ⟨g, cap, cur, hv, _⟩ := h2
      intro e
      rw [hv] at e
      cases e) 9 Tryd.underlying9

set_option maxHeartbeats 2000000 in
theorem toLatin_any (P : List Int) (hl : P.length ≤ 24) (hA : AllCh P) (R : Option Addr) (c : Nat) (w : World) (h : Row32 w P R) :
    Calls Tryd.prog 100 #[.slice R P.length c] w (RetSB (if Latin P then strOfNums P else ⟨#[]⟩) (decide (Latin P)) w) := by
  have H := Lib.hid h
  obtain ⟨i0, hi0, hz0, hz1, hz2⟩ := info_parts Tryd.infoU8
  clear h
  obtain ⟨V, hV⟩ : ∃ V : ByteArray × Bool, ((if Latin P then strOfNums P else ⟨#[]⟩), decide (Latin P)) = V := ⟨_, rfl⟩
  have hV1 : (if Latin P then strOfNums P else ⟨#[]⟩) = V.1 := congrArg Prod.fst hV
  have hV2 : decide (Latin P) = V.2 := congrArg Prod.snd hV
  rw [hV1, hV2]
  have HV1 : Hid (Latin P → V = (strOfNums P, true)) := Lib.hid (fun hL => by rw [← hV, if_pos hL, decide_eq_true hL])
  have HV2 : Hid (¬ Latin P → V = (⟨#[]⟩, false)) := Lib.hid (fun hL => by rw [← hV, if_neg hL, decide_eq_false hL])
  clear hV hV1 hV2
  go_enter Tryd.func100, Tryd.ntmps100
  go_wp2_with fail
  go_loopw [4, 9] (fun v i wr => ∃ k : Nat, k ≤ P.length ∧ i = .int .i64 k ∧ (∃ (R : Option Addr) (c : Nat), v = .slice R k c ∧ Hid (OwnL 5 num8 wr w.heap.size (P.take k) R k c)) ∧ Hid (Latin (P.take k)) ∧ Hid (Below w.heap.size w wr)) (fun _ i _ => P.length - (intOf i).toNat)
  case atStart => exact ⟨0, Nat.zero_le _, rfl, ⟨none, 0, rfl, by rw [List.take_zero]; exact ⟨rfl, World.ownsRow_nil _ _ _ _⟩⟩, (fun n hn => by simp at hn), Below.refl _ _⟩
  case round =>
    obtain ⟨k, hk, rfl, ⟨R3, c3, rfl, HO⟩, hL, hB⟩ := hrel
    by_cases hlt : k < P.length
    · have hlti : (k : Int) < (P.length : Int) := by omega
      obtain ⟨b, rfl, hc0⟩ := H.out.below hB.out
      have hn : P[k]? = some P[k] := List.getElem?_eq_getElem hlt
      have hc := hc0 k _ hn
      have hnb := chB hA hn
      have HTK := Lib.hid (take_snoc7 hn)
      generalize P[k] = n at *
      by_cases h255 : n ≤ 255
      · have h255i : ¬ 255 < n := by omega
        have hw := u8_8 hnb.1 h255
        have HL2 : Hid (Latin (P.take (k + 1))) := Lib.hid (by
          rw [HTK.out]
          intro x hx
          rcases List.mem_append.1 hx with hx | hx
          · exact hL.out x hx
          · obtain rfl : x = n := by simpa using hx
            exact h255)
        have hzi : w.heap.size ≤ wr.heap.size := hB.out.size
        clear hn hc0 hL
        go_wp2_with (at_builtin; refine wpList_append_lies _ rfl _ _ _ rfl w.heap.size 5 i0 _ 1 1 Tryd.underlying22 hi0 hz0 hz1 hz2 rfl (by decide) (.slice R3 k c3) k ((P.take k).map num8) rfl (HO.out.2.alloc _) ⟨wr.heap.size, 0, none⟩ 1 1 [.int .u8 n] rfl rfl (news7 _ _ _) (by simp [Value.oneCell']) (by omega) (by unfold maxLen; omega) (by omega) (by simp; omega) _ rfl ?_; intro g4 cap w4 hown4 hgrow4 hat4 hlt4; have HS4 := Lib.hid (HO.out.snoc (m := n) hB.out hown4 hgrow4); clear hown4 hgrow4 hat4 hlt4)
        go_roundw
        case rel => exact ⟨k + 1, by omega, by go_num, ⟨_, _, rfl, by rw [HTK.out]; exact HS4.out.1⟩, HL2, HS4.out.2⟩
        case measure => simp [intOf]; omega
      · have h255i : 255 < n := by omega
        obtain rfl := HV2.out (fun hL => h255 (hL n (List.mem_of_getElem? hn)))
        clear hn hc0
        go_wp2_with fail
        go_ret2
        exact ⟨rfl, hB.out⟩
    · have hk' : k = P.length := by omega
      subst hk'
      have hlti : ¬ (P.length : Int) < (P.length : Int) := by omega
      have hL' : Latin P := by have := hL.out; rwa [List.take_length] at this
      obtain rfl := HV1.out hL'
      have HO' : OwnL 5 num8 wr w.heap.size P R3 P.length c3 := by
        have := HO.out
        rwa [List.take_length] at this
      have hcv := conv_bytes HO'
      clear HO HO' hL hL'
      go_wp2_with fail
      go_ret2
      exact ⟨rfl, hB.out⟩
end Go.Proofs.YthdnklhaagofhaaDoor
