/-
  The walks of the program's decoders.
-/
import Derived.Test.YthdnklhaagofhaaDoorDecS
import Derived.Test.YthdnklhaagofhaaDoorEncI
namespace Go.Proofs.YthdnklhaagofhaaDoor
open Go.ChangeShapes Go.WideShapes Go.ChangeAt Go.RowKit Go.Deep
set_option maxRecDepth 100000

/-- Runes, as what they are a string of. -/
def RunesPost (P : List Int) (w : World) (e : Ending) (w' : World) : Prop := ∃ (R : Option Addr) (n c : Nat), e = .returned (.slice R n c) ∧ Hid ((convert 108 9 (.slice R n c)).run Tryd.prog w' = .ok (.string (runesBytes P)) w') ∧ Below w.heap.size w w'
theorem conv_pts9 (s : ByteArray) (hs : s.size ≤ 24) (w : World) : ∃ (b c : Nat) (w' : World), (convert 114 108 (.string s)).run Tryd.prog w = .ok (.slice (some ⟨b, 0, none⟩) (ptsD s.size s.data.toList).length c) w' ∧ Row32 w' (ptsD s.size s.data.toList) (some ⟨b, 0, none⟩) ∧ Below w.heap.size w w' := by
  obtain ⟨b, c, w', h1, h2⟩ := conv_pts s hs w
  refine ⟨b, c, w', ?_, h2⟩
  rw [← h1]
  simp [convert, run_underlying Tryd.underlying9, run_underlying Tryd.underlying114]
theorem fromUtf8_any (b : ByteArray) (hs : b.size ≤ 24) (w : World) : Calls Tryd.prog 97 #[.string b] w (RunesPost (ptsOf b) w) := by
  obtain ⟨g, c, w', hcv, hr, hb⟩ : ∃ (g c : Nat) (w' : World), (convert 114 108 (.string b)).run Tryd.prog w = .ok (.slice (some ⟨g, 0, none⟩) (ptsOf b).length c) w' ∧ Row32 w' (ptsOf b) (some ⟨g, 0, none⟩) ∧ Below w.heap.size w w' := conv_pts9 b hs w
  have HC := Lib.hid (conv_row32 hr c)
  have HB := Lib.hid hb
  clear hr hb hs
  generalize ptsOf b = P at *
  go_enter Tryd.func97, Tryd.ntmps97
  go_wp2_with fail
  go_ret
  exact ⟨_, _, _, rfl, HC, HB.out⟩
theorem conv_str8 (b : ByteArray) (w : World) : ∃ (g c : Nat) (w' : World), (convert 114 22 (.string b)).run Tryd.prog w = .ok (.slice (some ⟨g, 0, none⟩) b.size c) w' ∧ (∀ j (h : j < b.size), w'.cell? ⟨g, j, none⟩ = some (.int .u8 (b[j].toNat : Int))) ∧ Below w.heap.size w w' := by
  have h := run_bytes_of_string (P := Tryd.prog) w 114 22 5 b Tryd.underlying114 Tryd.underlying22 Tryd.underlying5
  generalize grownCap w b.size 0 5 = c at *
  refine ⟨w.heap.size, c, _, h, fun j hj => ?_, ⟨rfl, rfl, rfl, Nat.le_of_lt (by show w.heap.size < (w.heap.push _).size; rw [Array.size_push]; omega), fun k hk => by
      show (w.heap.push _)[k]? = w.heap[k]?
      rw [Array.getElem?_push, if_neg (by omega)]⟩⟩
  exact Eq.trans (World.cell?_alloc_mark w.drew _ 5 _ j) (bytesRow_at b c j hj)
theorem post_own {w w' : World} {xs : List Int} {R : Option Addr} {n c base : Nat} (h : OwnL 21 num32 w' base xs R n c) (hb : Below w.heap.size w w') : RunesPost xs w (.returned (.slice R n c)) w' := ⟨R, n, c, rfl, conv_runes h, hb⟩

set_option maxHeartbeats 2000000 in
theorem fromLatin_any (b : ByteArray) (hs : b.size ≤ 24) (w : World) : Calls Tryd.prog 101 #[.string b] w (RunesPost (nums b) w) := by
  obtain ⟨i0, hi0, hz0, hz1, hz2⟩ := info_parts infoI32
  obtain ⟨g, c, w0, hcv, hr, hb⟩ := conv_str8 b w
  have HR := Lib.hid hr
  have HB0 := Lib.hid hb
  clear hr hb
  go_enter Tryd.func101, Tryd.ntmps101
  go_wp2_with fail
  go_loopw [3, 9] (fun v i wr => ∃ k : Nat, k ≤ b.size ∧ i = .int .i64 k ∧ (∃ (R : Option Addr) (c : Nat), v = .slice R k c ∧ Hid (OwnL 21 num32 wr w0.heap.size ((nums b).take k) R k c)) ∧ Hid (Below w0.heap.size w0 wr)) (fun _ i _ => b.size - (intOf i).toNat)
  case atStart => exact ⟨0, Nat.zero_le _, rfl, ⟨none, 0, rfl, by rw [List.take_zero]; exact ⟨rfl, World.ownsRow_nil _ _ _ _⟩⟩, Below.refl _ _⟩
  case round =>
    obtain ⟨k, hk, rfl, ⟨R3, c3, rfl, HO⟩, hB⟩ := hrel
    by_cases hlt : k < b.size
    · have hlti : (k : Int) < (b.size : Int) := by omega
      have HTK := Lib.hid (nums_take_snoc b k hlt)
      have hc := keepCell hB.out (HR.out k hlt)
      have hu0 : 0 ≤ ((b[k].toNat : Nat) : Int) := by omega
      have hu1 : ((b[k].toNat : Nat) : Int) < 256 := by have := b[k].toNat_lt; omega
      generalize ((b[k].toNat : Nat) : Int) = u at *
      have hw := i32_32 hu0 (by omega)
      have hzi : w0.heap.size ≤ wr.heap.size := hB.out.size
      clear hcv
      go_wp2_with (at_builtin; refine wpList_append_lies _ rfl _ _ _ rfl w0.heap.size 21 i0 _ 1 4 Tryd.underlying108 hi0 hz0 hz1 hz2 rfl (by decide) (.slice R3 k c3) k (((nums b).take k).map num32) rfl (HO.out.2.alloc _) ⟨wr.heap.size, 0, none⟩ 1 1 [.int .i32 u] rfl rfl (news7 _ _ _) (by simp [Value.oneCell']) (by omega) (by unfold maxLen; omega) (by omega) (by simp; omega) _ rfl ?_; intro g4 cap w4 hown4 hgrow4 hat4 hlt4; have HS4 := Lib.hid (HO.out.snoc (m := u) hB.out hown4 hgrow4); clear hown4 hgrow4 hat4 hlt4)
      go_roundw
      case rel => exact ⟨k + 1, by omega, by go_num, ⟨_, _, rfl, by rw [HTK.out]; exact HS4.out.1⟩, HS4.out.2⟩
      case measure => simp [intOf]; omega
    · obtain rfl : k = b.size := by omega
      have hlti : ¬ (b.size : Int) < (b.size : Int) := by omega
      have HO' := HO.out
      rw [List.take_of_length_le (by rw [nums_length]; omega)] at HO'
      have HP := Lib.hid (post_own HO' (next6 HB0.out hB.out))
      clear HO HO' hcv
      go_wp2_with fail
      go_ret
      exact HP.out

theorem isHigh_yes (n : Int) (h0 : 55296 ≤ n) (h1 : n < 56320) (w : World) : Calls Tryd.prog 142 #[.int .i32 n] w fun e w' => e = .returned (.bool true) ∧ w = w' := by
  go_enter Tryd.func142, Tryd.ntmps142
  go_wp2_with fail
  go_ret
  exact ⟨rfl, rfl⟩
theorem isHigh_no (n : Int) (h : ¬ (55296 ≤ n ∧ n < 56320)) (w : World) : Calls Tryd.prog 142 #[.int .i32 n] w fun e w' => e = .returned (.bool false) ∧ w = w' := by
  by_cases h0 : 55296 ≤ n
  · have h1 : ¬ n < 56320 := fun h1 => h ⟨h0, h1⟩
    have hd : decide (n < 56320) = false := decide_eq_false h1
    clear h
    go_enter Tryd.func142, Tryd.ntmps142
    go_wp2_with fail
    go_ret
    exact ⟨rfl, rfl⟩
  · have hd : decide (55296 ≤ n) = false := decide_eq_false h0
    clear h
    go_enter Tryd.func142, Tryd.ntmps142
    go_wp2_with fail
    go_ret
    exact ⟨rfl, rfl⟩
theorem isLow_yes (n : Int) (h0 : 56320 ≤ n) (h1 : n < 57344) (w : World) : Calls Tryd.prog 143 #[.int .i32 n] w fun e w' => e = .returned (.bool true) ∧ w = w' := by
  go_enter Tryd.func143, Tryd.ntmps143
  go_wp2_with fail
  go_ret
  exact ⟨rfl, rfl⟩
theorem isLow_no (n : Int) (h : ¬ (56320 ≤ n ∧ n < 57344)) (w : World) : Calls Tryd.prog 143 #[.int .i32 n] w fun e w' => e = .returned (.bool false) ∧ w = w' := by
  by_cases h0 : 56320 ≤ n
  · have h1 : ¬ n < 57344 := fun h1 => h ⟨h0, h1⟩
    have hd : decide (n < 57344) = false := decide_eq_false h1
    clear h
    go_enter Tryd.func143, Tryd.ntmps143
    go_wp2_with fail
    go_ret
    exact ⟨rfl, rfl⟩
  · have hd : decide (56320 ≤ n) = false := decide_eq_false h0
    clear h
    go_enter Tryd.func143, Tryd.ntmps143
    go_wp2_with fail
    go_ret
    exact ⟨rfl, rfl⟩

theorem fix2I (t : ByteArray) (h : t.size = 2) (w : World) : Calls Tryd.prog 141 #[.string t] w fun e w' => e = .returned (.int .i64 (val2 (nums t))) ∧ Below w.heap.size w w' := by
  have C := implGetFix_any t w (by omega)
  rw [fix2_val t h] at C
  exact C
/-- The last of a row of one's own. -/
theorem OwnL.last {w : World} {base p c : Nat} {xs : List Int} {R : Option Addr} (h : OwnL 21 num32 w base xs R (p + 1) c) : ∃ g, R = some ⟨g, 0, none⟩ ∧ base ≤ g ∧ g < w.heap.size ∧ w.cell? ⟨g, p, none⟩ = some (.int .i32 (lastU xs)) ∧ w.frozen? ⟨g, p, none⟩ = false ∧ ∀ v : Int, OwnL 21 num32 (w.setCell ⟨g, p, none⟩ (.int .i32 v)) base (xs.set (xs.length - 1) v) R (p + 1) c := by
  obtain ⟨hl, ho⟩ := h
  have h2 := ho.2
  rcases h2 with ⟨hv, hz⟩ | ⟨g, cap, cur, hv, hg, hb, _⟩
  · exact absurd hz (Nat.succ_ne_zero p)
  · injection hv with h3 h4 h5
    subst h3
    have hx : xs.length - 1 = p := by omega
    have hp : p < xs.length := by omega
    refine ⟨g, rfl, hg, (Array.getElem?_eq_some_iff.1 hb).1, ?_, World.ownsRow.frozenAt ho p, fun v => ⟨by rw [List.length_set]; exact hl, ?_⟩⟩
    · rw [World.ownsRow.cellAt ho p (by omega), List.getElem?_map, List.getElem?_eq_getElem hp]
      unfold lastU
      rw [hx, List.getD_eq_getElem?_getD, List.getElem?_eq_getElem hp]
      rfl
    · have h6 := (World.ownsRow.stored ho p (.int .i32 v)).1
      rw [hx, List.map_set]
      exact h6
theorem nums_rest (t : ByteArray) : nums (t.extract 2 t.size) = (nums t).drop 2 := by
  unfold nums
  rw [cut_list, List.map_drop]
theorem cut0_val (t : ByteArray) : val2 (nums (t.extract 0 2)) = val2 (nums t) := by
  have := cut_val t 0
  rw [List.drop_zero] at this
  exact this
theorem cut0_size (t : ByteArray) (h : 2 ≤ t.size) : (t.extract 0 2).size = 2 := by
  rw [ByteArray.size_extract]
  omega
theorem wide_none (f : Nat) (xs l : List Int) (h : ¬ 2 ≤ l.length) : wideI f xs l = xs := by
  cases f with
  | zero => rfl
  | succ f => rw [wideI, if_neg h]
theorem wide_zero (xs : List Int) (h : ¬ 0 < xs.length) (u : Int) : stepI xs u = xs ++ [u] := by
  unfold stepI
  rw [if_neg (fun k => h k.1)]

set_option maxHeartbeats 4000000 in
set_option maxRecDepth 100000 in
theorem fromUtf16_any (b : ByteArray) (hs : b.size ≤ 48) (w : World) : Calls Tryd.prog 99 #[.string b] w (RunesPost (wideI b.size [] (nums b)) w) := by
  obtain ⟨i0, hi0, hz0, hz1, hz2⟩ := info_parts infoI32
  obtain ⟨P, hP⟩ : ∃ P, wideI b.size [] (nums b) = P := ⟨_, rfl⟩
  rw [hP]
  have HP0 := Lib.hid hP
  clear hP
  go_enter Tryd.func99, Tryd.ntmps99
  go_wp2_with fail
  go_loopw [0, 3] (fun s0 v wr => ∃ (t : ByteArray) (f n : Nat) (xs : List Int), s0 = .string t ∧ t.size ≤ f ∧ 2 * n + t.size ≤ 48 ∧ (∃ (R : Option Addr) (c : Nat), v = .slice R n c ∧ Hid (OwnL 21 num32 wr w.heap.size xs R n c)) ∧ Hid (Below w.heap.size w wr) ∧ Hid (wideI f xs (nums t) = P)) (fun s0 _ _ => match s0 with | .string t => t.size | _ => 0)
  case atStart => exact ⟨b, b.size, 0, [], rfl, Nat.le_refl _, by omega, ⟨none, 0, rfl, rfl, World.ownsRow_nil _ _ _ _⟩, Below.refl _ _, HP0⟩
  case round =>
    obtain ⟨t, f, n, xs, rfl, htf, hlen, ⟨R3, c3, rfl, HO⟩, hB, HPk⟩ := hrel
    clear HP0
    have hxl := HO.out.1
    by_cases hlt : 2 ≤ t.size
    · have hlti : (2 : Int) ≤ (t.size : Int) := by omega
      obtain ⟨k, rfl⟩ : ∃ k, f = k + 1 := ⟨f - 1, by omega⟩
      have hpk := HPk.out
      rw [wideI, if_pos (by rw [nums_length]; exact hlt), ← nums_rest] at hpk
      have CG := fix2I (t.extract 0 2) (cut0_size t hlt)
      rw [cut0_val] at CG
      have CG := Lib.hid CG
      have hub := val2_bd (nums t) (nums_byte t)
      have HSZ : Hid ((t.extract 2 t.size).size = t.size - 2) := Lib.hid (by rw [ByteArray.size_extract]; omega)
      generalize val2 (nums t) = u at *
      have hw := i32_32 hub.1 (by omega)
      clear HPk
      by_cases hn : n = 0
      · subst hn
        rw [wide_zero xs (by omega)] at hpk
        have HPT := Lib.hid hpk
        clear hpk
        go_wp2_with fail
        go_at_call 141
        refine (CG.out _).mono ?_
        rintro e w2 ⟨rfl, hb2⟩
        have HB2 := Lib.hid (next6 hB.out hb2)
        have HO2 := Lib.hid (HO.out.keep hb2)
        have hzi : w.heap.size ≤ w2.heap.size := HB2.out.size
        clear hb2
        go_wp2_with (at_builtin; refine wpList_append_lies _ rfl _ _ _ rfl w.heap.size 21 i0 _ 1 4 Tryd.underlying108 hi0 hz0 hz1 hz2 rfl (by decide) (.slice R3 0 c3) 0 (xs.map num32) rfl (HO2.out.2.alloc _) ⟨w2.heap.size, 0, none⟩ 1 1 [.int .i32 u] rfl rfl (news7 _ _ _) (by simp [Value.oneCell']) (by omega) (by unfold maxLen; omega) (by omega) (by simp; omega) _ rfl ?_; intro g4 cap w4 hown4 hgrow4 hat4 hlt4; have HS4 := Lib.hid (HO2.out.snoc (m := u) HB2.out hown4 hgrow4); clear hown4 hgrow4 hat4 hlt4)
        go_roundw
        case rel => exact ⟨t.extract 2 t.size, k, 0 + 1, xs ++ [u], rfl, by rw [HSZ.out]; omega, by rw [HSZ.out]; omega, ⟨_, _, rfl, HS4.out.1⟩, HS4.out.2, HPT⟩
        case measure =>
          show (t.extract 2 t.size).size < t.size
          rw [HSZ.out]
          omega
      · obtain ⟨p, rfl⟩ : ∃ p, n = p + 1 := ⟨n - 1, by omega⟩
        obtain ⟨g, rfl, hg, hgl, hc0, hfz0, hset0⟩ := HO.out.last
        have hp0 : (0 : Int) ≤ (p : Int) := by omega
        by_cases hh : 55296 ≤ lastU xs ∧ lastU xs < 56320
        · by_cases hlo : 56320 ≤ u ∧ u < 57344
          · have hst : stepI xs u = xs.set (xs.length - 1) (65536 + (lastU xs - 55296) * 1024 + u - 56320) := by
              unfold stepI
              rw [if_pos ⟨by omega, hh, hlo⟩]
            rw [hst] at hpk
            have HPT := Lib.hid hpk
            have CH := Lib.hid (fun W => isHigh_yes (lastU xs) hh.1 hh.2 W)
            have CL := Lib.hid (fun W => isLow_yes u hlo.1 hlo.2 W)
            generalize lastU xs = l at *
            obtain ⟨m, hm⟩ : ∃ m, 65536 + (l - 55296) * 1024 + u - 56320 = m := ⟨_, rfl⟩
            rw [hm] at HPT
            have hl0 := hh.1
            have hl1 := hh.2
            have hu0 := hlo.1
            have hu1 := hlo.2
            clear hpk hst hh hlo
            go_wp2_with fail
            go_at_call 141
            refine (CG.out _).mono ?_
            rintro e w2 ⟨rfl, hb2⟩
            have HB2 := Lib.hid (next6 hB.out hb2)
            have hc := keepCell hb2 hc0
            have HL := Lib.hid ((HO.out.keep hb2).last)
            have hfz : w2.frozen? ⟨g, p, none⟩ = false := by
              obtain ⟨g', e', _, _, _, h5, _⟩ := HL.out
              cases e'
              exact h5
            have HST : Hid (OwnL 21 num32 (w2.setCell ⟨g, p, none⟩ (.int .i32 m)) w.heap.size (xs.set (xs.length - 1) m) (some ⟨g, 0, none⟩) (p + 1) c3) := by
              obtain ⟨g', e', _, _, _, _, h6⟩ := HL.out
              cases e'
              exact Lib.hid (h6 m)
            have HB3 := Lib.hid (HB2.out.setCell (p := ⟨g, p, none⟩) hg (.int .i32 m))
            clear hb2 hc0 hfz0 hset0 HL
            go_wp2_with fail
            go_at_call 142
            refine (CH.out _).mono ?_
            rintro e w3 ⟨rfl, rfl⟩
            go_wp2_with fail
            go_at_call 143
            refine (CL.out _).mono ?_
            rintro e w4 ⟨rfl, rfl⟩
            go_wp2_with fail
            go_roundw
            case rel => exact ⟨t.extract 2 t.size, k, p + 1, xs.set (xs.length - 1) m, rfl, by rw [HSZ.out]; omega, by rw [HSZ.out]; omega, ⟨_, _, rfl, HST⟩, HB3, HPT⟩
            case measure =>
              show (t.extract 2 t.size).size < t.size
              rw [HSZ.out]
              omega
          · have hst : stepI xs u = xs ++ [u] := by
              unfold stepI
              rw [if_neg (fun k => hlo k.2.2)]
            rw [hst] at hpk
            have HPT := Lib.hid hpk
            have CH := Lib.hid (fun W => isHigh_yes (lastU xs) hh.1 hh.2 W)
            have CL := Lib.hid (fun W => isLow_no u hlo W)
            generalize lastU xs = l at *
            clear hpk hst hh hlo hset0
            go_wp2_with fail
            go_at_call 141
            refine (CG.out _).mono ?_
            rintro e w2 ⟨rfl, hb2⟩
            have HB2 := Lib.hid (next6 hB.out hb2)
            have hc := keepCell hb2 hc0
            have HO2 := Lib.hid (HO.out.keep hb2)
            have hzi : w.heap.size ≤ w2.heap.size := HB2.out.size
            clear hb2 hc0 hfz0
            go_wp2_with fail
            go_at_call 142
            refine (CH.out _).mono ?_
            rintro e w3 ⟨rfl, rfl⟩
            go_wp2_with fail
            go_at_call 143
            refine (CL.out _).mono ?_
            rintro e w4 ⟨rfl, rfl⟩
            go_wp2_with (at_builtin; refine wpList_append_lies _ rfl _ _ _ rfl w.heap.size 21 i0 _ 1 4 Tryd.underlying108 hi0 hz0 hz1 hz2 rfl (by decide) (.slice (some ⟨g, 0, none⟩) (p + 1) c3) (p + 1) (xs.map num32) rfl (HO2.out.2.alloc _) ⟨w2.heap.size, 0, none⟩ 1 1 [.int .i32 u] rfl rfl (news7 _ _ _) (by simp [Value.oneCell']) (by omega) (by unfold maxLen; omega) (by omega) (by simp; omega) _ rfl ?_; intro g4 cap w4 hown4 hgrow4 hat4 hlt4; have HS4 := Lib.hid (HO2.out.snoc (m := u) HB2.out hown4 hgrow4); clear hown4 hgrow4 hat4 hlt4)
            go_roundw
            case rel => exact ⟨t.extract 2 t.size, k, p + 1 + 1, xs ++ [u], rfl, by rw [HSZ.out]; omega, by rw [HSZ.out]; omega, ⟨_, _, rfl, HS4.out.1⟩, HS4.out.2, HPT⟩
            case measure =>
              show (t.extract 2 t.size).size < t.size
              rw [HSZ.out]
              omega
        · have hst : stepI xs u = xs ++ [u] := by
            unfold stepI
            rw [if_neg (fun k => hh k.2.1)]
          rw [hst] at hpk
          have HPT := Lib.hid hpk
          have CH := Lib.hid (fun W => isHigh_no (lastU xs) hh W)
          generalize lastU xs = l at *
          clear hpk hst hh hset0
          go_wp2_with fail
          go_at_call 141
          refine (CG.out _).mono ?_
          rintro e w2 ⟨rfl, hb2⟩
          have HB2 := Lib.hid (next6 hB.out hb2)
          have hc := keepCell hb2 hc0
          have HO2 := Lib.hid (HO.out.keep hb2)
          have hzi : w.heap.size ≤ w2.heap.size := HB2.out.size
          clear hb2 hc0 hfz0
          go_wp2_with fail
          go_at_call 142
          refine (CH.out _).mono ?_
          rintro e w3 ⟨rfl, rfl⟩
          go_wp2_with (at_builtin; refine wpList_append_lies _ rfl _ _ _ rfl w.heap.size 21 i0 _ 1 4 Tryd.underlying108 hi0 hz0 hz1 hz2 rfl (by decide) (.slice (some ⟨g, 0, none⟩) (p + 1) c3) (p + 1) (xs.map num32) rfl (HO2.out.2.alloc _) ⟨w2.heap.size, 0, none⟩ 1 1 [.int .i32 u] rfl rfl (news7 _ _ _) (by simp [Value.oneCell']) (by omega) (by unfold maxLen; omega) (by omega) (by simp; omega) _ rfl ?_; intro g4 cap w4 hown4 hgrow4 hat4 hlt4; have HS4 := Lib.hid (HO2.out.snoc (m := u) HB2.out hown4 hgrow4); clear hown4 hgrow4 hat4 hlt4)
          go_roundw
          case rel => exact ⟨t.extract 2 t.size, k, p + 1 + 1, xs ++ [u], rfl, by rw [HSZ.out]; omega, by rw [HSZ.out]; omega, ⟨_, _, rfl, HS4.out.1⟩, HS4.out.2, HPT⟩
          case measure =>
            show (t.extract 2 t.size).size < t.size
            rw [HSZ.out]
            omega
    · have hlti : ¬ (2 : Int) ≤ (t.size : Int) := by omega
      have hx : xs = P := by
        have h1 := HPk.out
        rw [wide_none f xs (nums t) (by rw [nums_length]; exact hlt)] at h1
        exact h1
      subst hx
      have HQ := Lib.hid (post_own HO.out hB.out)
      clear HPk
      go_wp2_with fail
      go_ret
      exact HQ.out
end Go.Proofs.YthdnklhaagofhaaDoor
