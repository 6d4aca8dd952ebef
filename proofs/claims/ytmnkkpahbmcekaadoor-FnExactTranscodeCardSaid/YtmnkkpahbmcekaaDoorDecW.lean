/-
  The walk of the model's l11Wide.
-/
import Derived.Test.YtmnkkpahbmcekaaDoorDecS
namespace Go.Proofs.YtmnkkpahbmcekaaDoor
open Go.ChangeShapes Go.WideShapes Go.ChangeAt Go.RowKit Go.Deep

set_option maxHeartbeats 4000000 in
set_option maxRecDepth 100000 in
theorem wide_any (b : ByteArray) (hs : b.size ≤ 1048576) (w : World) : Calls Tryd.prog 48 #[.string b] w (Ans6 (wideS 25 (nums b)) w) := by
  obtain ⟨i0, hi0, hz0, hz1, hz2⟩ := info_parts infoI64
  obtain ⟨P, hP⟩ : ∃ P, wideS 25 (nums b) = P := ⟨_, rfl⟩
  rw [hP]
  have HP0 : Hid (([] : List Int) ++ wideS (25 - 0) ((nums b).drop 0) = P) := Lib.hid (by rw [List.nil_append, Nat.sub_zero, List.drop_zero]; exact hP)
  clear hP
  go_enter Tryd.func48, Tryd.ntmps48
  go_wp2_with fail
  go_loopw [3, 4] (fun v i wr => ∃ (k n : Nat) (xs : List Int), k ≤ b.size + 1 ∧ n ≤ 25 ∧ i = .int .i64 k ∧ (∃ (R : Option Addr) (c : Nat), v = .slice R n c ∧ Hid (OwnL 2 num6 wr w.heap.size xs R n c)) ∧ Hid (Below w.heap.size w wr) ∧ Hid (xs ++ wideS (25 - n) ((nums b).drop k) = P)) (fun _ i _ => b.size + 1 - (intOf i).toNat)
  case atStart => exact ⟨0, 0, [], Nat.zero_le _, by omega, rfl, ⟨_, _, rfl, rfl, World.ownsRow_made _ _ _ (Nat.le_refl _) (by unfold maxLen; omega) (by simp)⟩, below1 _ _, HP0⟩
  case round =>
    obtain ⟨k, n, xs, hk, hn25, rfl, ⟨R3, c3, rfl, HO⟩, hB, HPk⟩ := hrel
    clear HP0
    by_cases hlt : k + 1 < b.size
    · have hlti : (k : Int) + 1 < (b.size : Int) := by omega
      by_cases h24 : n ≤ 24
      · have h24i : (n : Int) ≤ 24 := by omega
        obtain ⟨f, hf⟩ : ∃ f, 25 - n = f + 1 := ⟨24 - n, by omega⟩
        have hf2 : 25 - (n + 1) = f := by omega
        have hpk := HPk.out
        rw [hf, wideS, if_pos (by rw [List.length_drop, nums_length]; omega), List.drop_drop, List.drop_drop] at hpk
        have hl4 : 4 ≤ ((nums b).drop k).length ↔ k + 3 < b.size := by rw [List.length_drop, nums_length]; omega
        have CG := fix2S (b.extract k (k + 2)) (cut_size b k (by omega))
        rw [cut_val] at CG
        have CG := Lib.hid CG
        have hvb := cut_bd b k
        have CG2 : Hid (k + 3 < b.size → ∀ w, Calls Tryd.prog 56 #[.string (b.extract (k + 2) (k + 2 + 2))] w fun e w' => e = .returned (.int .i64 (val2 ((nums b).drop (k + 2)))) ∧ w = w') := Lib.hid (fun h => by
          have C := fix2S (b.extract (k + 2) (k + 2 + 2)) (cut_size b (k + 2) (by omega))
          rw [cut_val] at C
          exact C)
        have hvb2 := cut_bd b (k + 2)
        generalize val2 ((nums b).drop k) = v at *
        generalize val2 ((nums b).drop (k + 2)) = v2 at *
        have hzi : w.heap.size ≤ wr.heap.size := hB.out.size
        have hcut : k + 2 ≤ b.size := by omega
        have hcuti : (k : Int) + 2 ≤ (b.size : Int) := by omega
        have hk0 : (0 : Int) ≤ (k : Int) := by omega
        have hsl := fun W => cut_run b k hcut W
        by_cases hhi : 55296 ≤ v ∧ v ≤ 56319
        · have CI := Lib.hid (fun W => l00In_yes v 55296 56319 W hhi.1 hhi.2)
          by_cases h3 : k + 3 < b.size
          · have h3i : (k : Int) + 3 < (b.size : Int) := by omega
            rw [if_pos ⟨hhi.1, hhi.2, hl4.mpr h3⟩] at hpk
            have CH := Lib.hid (CG2.out h3)
            have hsl2 := fun W => cut_run2 b k (by omega) W
            have hmask := i64_mask (v2 - 56320)
            have hm0 : 0 ≤ (v2 - 56320) % 1024 ∧ (v2 - 56320) % 1024 < 1024 := by omega
            obtain ⟨m, hm⟩ : ∃ m, 65536 + (v - 55296) * 1024 + (v2 - 56320) % 1024 = m := ⟨_, rfl⟩
            rw [hm] at hpk
            have HPT : Hid ((xs ++ [m]) ++ wideS (25 - (n + 1)) ((nums b).drop (k + 4)) = P) := Lib.hid (by rw [hf2, List.append_assoc]; exact hpk)
            clear hpk hl4 HPk CG2
            go_wp2_with fail
            go_at_call 56
            refine (CG.out _).mono ?_
            rintro e w2 ⟨rfl, rfl⟩
            go_wp2_with fail
            go_at_call 40
            refine (CI.out _).mono ?_
            rintro e w3 ⟨rfl, rfl⟩
            go_wp2_with fail
            go_at_call 56
            refine (CH.out _).mono ?_
            rintro e w4 ⟨rfl, rfl⟩
            go_wp2_with (at_builtin; refine wpList_append_lies _ rfl _ _ _ rfl w.heap.size 2 i0 _ 1 8 Tryd.underlying22 hi0 hz0 hz1 hz2 rfl (by decide) (.slice R3 n c3) n (xs.map num6) rfl (HO.out.2.alloc _) ⟨wr.heap.size, 0, none⟩ 1 1 [.int .i64 m] rfl rfl (news7 _ _ _) (by simp [Value.oneCell']) (by omega) (by unfold maxLen; omega) (by omega) (by simp; omega) _ rfl ?_; intro g4 cap w5 hown4 hgrow4 hat4 hlt4; have HS4 := Lib.hid (HO.out.snoc (m := m) hB.out hown4 hgrow4); clear hown4 hgrow4 hat4 hlt4)
            go_roundw
            case rel => exact ⟨k + 4, n + 1, xs ++ [m], by omega, by omega, by go_num, ⟨_, _, rfl, HS4.out.1⟩, HS4.out.2, HPT⟩
            case measure => simp [intOf]; omega
          · have h3i : ¬ (k : Int) + 3 < (b.size : Int) := by omega
            have hg3 : decide ((k : Int) + 3 < (b.size : Int)) = false := decide_eq_false h3i
            rw [if_neg (fun h => h3 (hl4.mp h.2.2))] at hpk
            have HPT : Hid ((xs ++ [v]) ++ wideS (25 - (n + 1)) ((nums b).drop (k + 2)) = P) := Lib.hid (by rw [hf2, List.append_assoc]; exact hpk)
            clear hpk hl4 HPk CG2
            go_wp2_with fail
            go_at_call 56
            refine (CG.out _).mono ?_
            rintro e w2 ⟨rfl, rfl⟩
            go_wp2_with fail
            go_at_call 40
            refine (CI.out _).mono ?_
            rintro e w3 ⟨rfl, rfl⟩
            go_wp2_with (at_builtin; refine wpList_append_lies _ rfl _ _ _ rfl w.heap.size 2 i0 _ 1 8 Tryd.underlying22 hi0 hz0 hz1 hz2 rfl (by decide) (.slice R3 n c3) n (xs.map num6) rfl (HO.out.2.alloc _) ⟨wr.heap.size, 0, none⟩ 1 1 [.int .i64 v] rfl rfl (news7 _ _ _) (by simp [Value.oneCell']) (by omega) (by unfold maxLen; omega) (by omega) (by simp; omega) _ rfl ?_; intro g4 cap w5 hown4 hgrow4 hat4 hlt4; have HS4 := Lib.hid (HO.out.snoc (m := v) hB.out hown4 hgrow4); clear hown4 hgrow4 hat4 hlt4)
            go_roundw
            case rel => exact ⟨k + 2, n + 1, xs ++ [v], by omega, by omega, by go_num, ⟨_, _, rfl, HS4.out.1⟩, HS4.out.2, HPT⟩
            case measure => simp [intOf]; omega
        · have CI := Lib.hid (fun W => l00In_no v 55296 56319 W (by omega))
          rw [if_neg (fun h => hhi ⟨h.1, h.2.1⟩)] at hpk
          have HPT : Hid ((xs ++ [v]) ++ wideS (25 - (n + 1)) ((nums b).drop (k + 2)) = P) := Lib.hid (by rw [hf2, List.append_assoc]; exact hpk)
          clear hpk hl4 HPk CG2 hhi
          go_wp2_with fail
          go_at_call 56
          refine (CG.out _).mono ?_
          rintro e w2 ⟨rfl, rfl⟩
          go_wp2_with fail
          go_at_call 40
          refine (CI.out _).mono ?_
          rintro e w3 ⟨rfl, rfl⟩
          go_wp2_with (at_builtin; refine wpList_append_lies _ rfl _ _ _ rfl w.heap.size 2 i0 _ 1 8 Tryd.underlying22 hi0 hz0 hz1 hz2 rfl (by decide) (.slice R3 n c3) n (xs.map num6) rfl (HO.out.2.alloc _) ⟨wr.heap.size, 0, none⟩ 1 1 [.int .i64 v] rfl rfl (news7 _ _ _) (by simp [Value.oneCell']) (by omega) (by unfold maxLen; omega) (by omega) (by simp; omega) _ rfl ?_; intro g4 cap w5 hown4 hgrow4 hat4 hlt4; have HS4 := Lib.hid (HO.out.snoc (m := v) hB.out hown4 hgrow4); clear hown4 hgrow4 hat4 hlt4)
          go_roundw
          case rel => exact ⟨k + 2, n + 1, xs ++ [v], by omega, by omega, by go_num, ⟨_, _, rfl, HS4.out.1⟩, HS4.out.2, HPT⟩
          case measure => simp [intOf]; omega
      · have h24i : ¬ (n : Int) ≤ 24 := by omega
        have hg : decide ((n : Int) ≤ 24) = false := decide_eq_false h24i
        obtain rfl : n = 25 := by omega
        have hx : xs = P := by
          have h1 := HPk.out
          rw [Nat.sub_self, wideS, List.append_nil] at h1
          exact h1
        subst hx
        clear HPk
        go_wp2_with fail
        go_ret
        exact HO.out.ans6 hB.out
    · have hlti : ¬ (k : Int) + 1 < (b.size : Int) := by omega
      have hx : xs = P := by
        have h1 := HPk.out
        have h2 : wideS (25 - n) ((nums b).drop k) = [] := by
          cases 25 - n with
          | zero => rfl
          | succ f => rw [wideS, if_neg (by rw [List.length_drop, nums_length]; omega)]
        rw [h2, List.append_nil] at h1
        exact h1
      subst hx
      clear HPk
      go_wp2_with fail
      go_ret
      exact HO.out.ans6 hB.out
end Go.Proofs.YtmnkkpahbmcekaaDoor
