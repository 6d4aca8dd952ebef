/-
  What is read of an encoding of a number is what was written; what the signed reader answers lies within bounds.
-/
import Derived.Test.YtbjcldekapipaaaDoorGetSlebLaw
import Derived.Test.YtbjcldekapipaaaDoorGetLebLaw
import Derived.Test.YtbjcldekapipaaaDoorMLb
namespace Go.Proofs.YtbjcldekapipaaaDoor
open Go.ChangeShapes Go.WideShapes Go.ChangeAt Go.RowKit

theorem nums_app7K (a b : ByteArray) : nums (a ++ b) = nums a ++ nums b := by simp [nums, ByteArray.data_append]
theorem nums_of7K (P : List Int) (h : ∀ n ∈ P, 0 ≤ n ∧ n < 256) : nums (strOfNums P) = P := by
  show (strOfNums P).data.toList.map _ = P
  rw [strOfNums_data, List.map_map]
  conv => rhs; rw [← List.map_id' P]
  refine List.map_congr_left fun n hn => ?_
  obtain ⟨h1, h2⟩ := h n hn
  simp only [Function.comp]
  rw [UInt8.toNat_ofNat']
  omega
theorem lebS_gvK (n : Int) : ((gv (lebS n) : Nat) : Int) = if n < 0 then n + 2 ^ (7 * (lebS n).length) else n := by
  induction hk : n.natAbs using Nat.strongRecOn generalizing n with
  | _ k ih =>
    by_cases h : -64 ≤ n ∧ n < 64
    · rw [lebS_small n h.1 h.2]
      simp only [gv, List.length_cons, List.length_nil]
      by_cases h0 : n < 0
      · rw [if_pos h0]
        have : (2 : Int) ^ (7 * (0 + 1)) = 128 := by decide
        rw [this]
        omega
      · rw [if_neg h0]
        omega
    · have h2 := ih (n / 128).natAbs (by omega) (n / 128) rfl
      rw [lebS_big n (by omega)]
      simp only [gv, List.length_cons]
      have e : (2 : Int) ^ (7 * ((lebS (n / 128)).length + 1)) = 128 * 2 ^ (7 * (lebS (n / 128)).length) := by
        rw [show 7 * ((lebS (n / 128)).length + 1) = 7 * (lebS (n / 128)).length + 7 by omega, Int.pow_add]
        have : (2 : Int) ^ 7 = 128 := by decide
        rw [this, Int.mul_comm]
      rw [e]
      generalize (2 : Int) ^ (7 * (lebS (n / 128)).length) = q at *
      by_cases h0 : n < 0
      · rw [if_pos h0]
        rw [if_pos (by omega)] at h2
        omega
      · rw [if_neg h0]
        rw [if_neg (by omega)] at h2
        omega
theorem lebS_lastK (n : Int) : ∃ p b, lebS n = p ++ [b] ∧ 0 ≤ b ∧ b < 128 ∧ (∀ x ∈ p, 128 ≤ x) ∧ (b < 64 ↔ 0 ≤ n) := by
  induction hk : n.natAbs using Nat.strongRecOn generalizing n with
  | _ k ih =>
    by_cases h : -64 ≤ n ∧ n < 64
    · rw [lebS_small n h.1 h.2]
      exact ⟨[], n % 128, rfl, by omega, by omega, by simp, by omega⟩
    · obtain ⟨p, b, e, h0, h1, h2, h3⟩ := ih (n / 128).natAbs (by omega) (n / 128) rfl
      rw [lebS_big n (by omega), e]
      refine ⟨(n % 128 + 128) :: p, b, rfl, h0, h1, fun x hx => ?_, by omega⟩
      rcases List.mem_cons.1 hx with rfl | hx
      · omega
      · exact h2 x hx
/-- Where a string begins as a list of bytes that ends in its last. -/
theorem head_partsK {s : ByteArray} {p : List Int} {b : Int} {R : List Int} (hs : nums s = (p ++ [b]) ++ R) :
    ∃ hk : p.length < s.size, (s[p.length]'hk).toNat = b.toNat ∧ ((s[p.length]'hk).toNat : Int) = b ∧ (∀ j, (h : j < p.length) → ((s[j]'(by omega)).toNat : Int) = p[j]) ∧ (nums s).take (p.length + 1) = p ++ [b] := by
  have hl := congrArg List.length hs
  rw [nums_length] at hl
  simp only [List.length_append, List.length_singleton] at hl
  have hk : p.length < s.size := by omega
  have hb : ((s[p.length]'hk).toNat : Int) = b := by
    rw [← nums_getD s p.length hk, hs]
    simp [List.getD_eq_getElem?_getD]
  refine ⟨hk, by omega, hb, fun j hj => ?_, ?_⟩
  · rw [← nums_getD s j (by omega), hs, List.append_assoc]
    simp [List.getD_eq_getElem?_getD, List.getElem?_append_left hj, List.getElem?_eq_getElem hj]
  · rw [hs, show p.length + 1 = (p ++ [b]).length by simp, List.take_left']
    rfl
theorem getSleb_backK (n : Int) (hn0 : -9223372036854775808 ≤ n) (hn1 : n ≤ 9223372036854775807) (rest : ByteArray) (hr : rest.size ≤ 2000000) (W : World) :
    Calls Tryd.prog 68 #[.string (strOfNums (lebS n) ++ rest)] W fun e w' => e = .returned (.tuple #[.int .i64 n, .int .i64 ((lebS n).length : Int), .bool true]) ∧ Below W.heap.size W w' := by
  have hl10 : (lebS n).length ≤ 10 := lebS_length 9 n (by omega) (by omega)
  have hgv := lebS_gvK n
  have hgl := gv_lt (lebS n)
  obtain ⟨p, b, e, h0, h1, h2, h3⟩ := lebS_lastK n
  have hby := lebS_byte n
  obtain ⟨s, hs⟩ : ∃ s, strOfNums (lebS n) ++ rest = s := ⟨_, rfl⟩
  have hns : nums s = (p ++ [b]) ++ nums rest := by rw [← hs, nums_app7K, nums_of7K _ hby, e]
  have hsz : s.size = (lebS n).length + rest.size := by rw [← hs, ByteArray.size_append, strOfNums_size]
  obtain ⟨hk, hb, hbi, hp, htk⟩ := head_partsK hns
  have hlen : (lebS n).length = p.length + 1 := by rw [e]; simp
  rw [hs, hlen]
  have hpre : ∀ j, (h : j < p.length) → 128 ≤ ((s[j]'(by omega)).toNat : Int) := fun j hj => by
    rw [hp j hj]
    exact h2 _ (List.getElem_mem hj)
  have heq : lebS n = (nums s).take (p.length + 1) := by rw [htk, e]
  rw [hlen] at hgl hgv
  have hgn : gv ((nums s).take (p.length + 1)) = gv (lebS n) := by rw [← heq]
  by_cases hneg : n < 0
  · rw [if_pos hneg] at hgv
    refine implGetSleb_neg_yes s p.length W hk (by omega) hpre (by omega) (by omega) (gv (lebS n) % 18446744073709551616) (by rw [hgn]) n hn0 hn1 (by omega) _ rfl ?_ heq
    by_cases hk9 : p.length < 9
    · rw [show min (7 * ((p.length : Int) + 1)).toNat 64 = 7 * (p.length + 1) by omega]
      have h63 : (2 : Nat) ^ (7 * (p.length + 1)) ≤ 2 ^ 63 := Nat.pow_le_pow_right (by decide) (by omega)
      have h64 : (2 : Nat) ^ 63 = 9223372036854775808 := by decide
      rw [Nat.mod_eq_of_lt (by omega), u64_ones _ _ (by omega) (by omega) hgl, hgv]
      generalize (2 : Int) ^ (7 * (p.length + 1)) = q at *
      unfold wrap64
      omega
    · have e9 : p.length = 9 := by omega
      rw [e9] at hgv hgl ⊢
      rw [show min (7 * (((9 : Nat) : Int) + 1)).toNat 64 = 64 by decide]
      have h64 : (2 : Nat) ^ 64 = 18446744073709551616 := by decide
      have h65 : (2 : Int) ^ 64 = 18446744073709551616 := by decide
      have h70 : (2 : Int) ^ (7 * (9 + 1)) = 1180591620717411303424 := by decide
      rw [h70] at hgv
      rw [u64_ones 64 _ (Nat.mod_lt _ (by decide)) (by omega) (by rw [h64]; exact Nat.mod_lt _ (by decide)), h65]
      unfold wrap64
      omega
  · rw [if_neg hneg] at hgv
    refine implGetSleb_pos_yes s p.length W hk (by omega) hpre (by omega) (by omega) (gv (lebS n) % 18446744073709551616) (by rw [hgn]) n hn0 hn1 (by omega) ?_ heq
    unfold wrap64
    omega
theorem getLeb_backK (n : Nat) (hn1 : (n : Int) ≤ 9223372036854775807) (rest : ByteArray) (hr : rest.size ≤ 2000000) (W : World) :
    Calls Tryd.prog 83 #[.string (strOfNums (lebU n) ++ rest)] W fun e w' => e = .returned (.tuple #[.int .i64 n, .int .i64 ((lebU n).length : Int), .bool true]) ∧ Below W.heap.size W w' := by
  have hl10 : (lebU n).length ≤ 10 := lebU_length 9 n (by omega)
  have hgv := gv_lebU n
  obtain ⟨p, b, e, h1, h2⟩ := shape_lebU n
  have hby := lebU_byte n
  obtain ⟨s, hs⟩ : ∃ s, strOfNums (lebU n) ++ rest = s := ⟨_, rfl⟩
  have hns : nums s = (p ++ [b]) ++ nums rest := by rw [← hs, nums_app7K, nums_of7K _ hby, e]
  have hsz : s.size = (lebU n).length + rest.size := by rw [← hs, ByteArray.size_append, strOfNums_size]
  obtain ⟨hk, hb, hbi, hp, htk⟩ := head_partsK hns
  have hlen : (lebU n).length = p.length + 1 := by rw [e]; simp
  rw [hs, hlen]
  have heq : lebU n = (nums s).take (p.length + 1) := by rw [htk, e]
  exact implGetLeb_yes s p.length W hk (by omega) (fun j hj => by
    rw [hp j hj]
    exact h2 _ (List.getElem_mem hj)) (by omega) (by omega) n (by rw [← heq, hgv]; omega) hn1 heq
theorem getSleb_bothK (s : ByteArray) (hsz : (s.size : Int) ≤ 4294967296) : ∃ (x y : Int) (ok : Bool), (-9223372036854775808 ≤ x ∧ x ≤ 9223372036854775807 ∧ 0 ≤ y ∧ y ≤ s.size) ∧
    (∀ W, Calls Tryd.prog 46 #[.string s] W fun e w' => e = .returned (.tuple #[.int .i64 x, .int .i64 y, .bool ok]) ∧ Below W.heap.size W w') ∧
    (∀ W, Calls Tryd.prog 68 #[.string s] W fun e w' => e = .returned (.tuple #[.int .i64 x, .int .i64 y, .bool ok]) ∧ Below W.heap.size W w') := by
  rcases first_or_none (fun k => ∃ h : k < s.size, (s[k].toNat : Int) < 128) 10 with ⟨k, hk10, ⟨hks, hlast⟩, hn⟩ | hn
  · have hpre : ∀ j, (h : j < k) → 128 ≤ ((s[j]'(by omega)).toNat : Int) := fun j hj => by
      have h1 := hn j hj
      rcases Int.lt_or_le ((s[j]'(by omega)).toNat : Int) 128 with h2 | h2
      · exact absurd ⟨by omega, h2⟩ h1
      · exact h2
    have hll : ((nums s).take (k + 1)).length = k + 1 := by rw [List.length_take, nums_length]; omega
    have hgl := gv_lt ((nums s).take (k + 1))
    rw [hll] at hgl
    by_cases hk9 : k < 9
    · have hg := gv9 ((nums s).take (k + 1)) (by omega)
      have hm : gv ((nums s).take (k + 1)) % 18446744073709551616 = gv ((nums s).take (k + 1)) := Nat.mod_eq_of_lt (by omega)
      by_cases hb : (s[k].toNat : Int) < 64
      · have hbd := wrap64_bd ((gv ((nums s).take (k + 1)) : Nat) : Int)
        by_cases heq : lebS (wrap64 ((gv ((nums s).take (k + 1)) : Nat) : Int)) = (nums s).take (k + 1)
        · exact ⟨_, _, _, ⟨by omega, by omega, by omega, by omega⟩, fun W => specGetSleb_pos_yes s k W hks hk10 hpre hlast hsz _ hbd.1 hbd.2 hk9 hb rfl heq, fun W => implGetSleb_pos_yes s k W hks hk10 hpre hlast hsz _ hm _ hbd.1 hbd.2 hb rfl heq⟩
        · exact ⟨_, _, _, ⟨by omega, by omega, by omega, by omega⟩, fun W => specGetSleb_pos_no s k W hks hk10 hpre hlast hsz _ hbd.1 hbd.2 hk9 hb rfl heq, fun W => implGetSleb_pos_no s k W hks hk10 hpre hlast hsz _ hm _ hbd.1 hbd.2 hb rfl heq⟩
      · have hbd := wrap64_bd (((gv ((nums s).take (k + 1)) : Nat) : Int) - 2 ^ (7 * k + 7))
        have hsf : bits .or .i64 (wrap64 (gv ((nums s).take (k + 1)) : Nat)) (wrap64 (-(2 ^ (7 * k + 7)))) = wrap64 (((gv ((nums s).take (k + 1)) : Nat) : Int) - 2 ^ (7 * k + 7)) := i64_or_neg _ _ hgl (by omega)
        have hif : wrap64 (bits .or .u64 ((gv ((nums s).take (k + 1)) : Nat) : Int) (IntKind.u64.wrap (18446744073709551615 * 2 ^ min (7 * ((k : Int) + 1)).toNat 64))) = wrap64 (((gv ((nums s).take (k + 1)) : Nat) : Int) - 2 ^ (7 * k + 7)) := by
          rw [show min (7 * ((k : Int) + 1)).toNat 64 = 7 * k + 7 by omega]
          exact u64_ones _ _ (by omega) (by omega) hgl
        by_cases heq : lebS (wrap64 (((gv ((nums s).take (k + 1)) : Nat) : Int) - 2 ^ (7 * k + 7))) = (nums s).take (k + 1)
        · exact ⟨_, _, _, ⟨by omega, by omega, by omega, by omega⟩, fun W => specGetSleb_neg_yes s k W hks hk10 hpre hlast hsz _ hbd.1 hbd.2 hk9 (by omega) hsf heq, fun W => implGetSleb_neg_yes s k W hks hk10 hpre hlast hsz _ hm _ hbd.1 hbd.2 (by omega) _ rfl hif heq⟩
        · exact ⟨_, _, _, ⟨by omega, by omega, by omega, by omega⟩, fun W => specGetSleb_neg_no s k W hks hk10 hpre hlast hsz _ hbd.1 hbd.2 hk9 (by omega) hsf heq, fun W => implGetSleb_neg_no s k W hks hk10 hpre hlast hsz _ hm _ hbd.1 hbd.2 (by omega) _ rfl hif heq⟩
    · obtain rfl : k = 9 := by omega
      have hbd := wrap64_bd ((gv ((nums s).take (9 + 1)) : Nat) : Int)
      have hmod := wrap64_mod64 (gv ((nums s).take (9 + 1)))
      have hlt : gv ((nums s).take (9 + 1)) % 18446744073709551616 < 18446744073709551616 := Nat.mod_lt _ (by decide)
      have hif : wrap64 (bits .or .u64 ((gv ((nums s).take (9 + 1)) % 18446744073709551616 : Nat) : Int) (IntKind.u64.wrap (18446744073709551615 * 2 ^ min (7 * (((9 : Nat) : Int) + 1)).toNat 64))) = wrap64 ((gv ((nums s).take (9 + 1)) : Nat) : Int) := by
        rw [show min (7 * (((9 : Nat) : Int) + 1)).toNat 64 = 64 by decide]
        have h64 : (2 : Nat) ^ 64 = 18446744073709551616 := by decide
        rw [u64_ones 64 _ hlt (by omega) (by rw [h64]; exact hlt), ← hmod]
        have h65 : (2 : Int) ^ 64 = 18446744073709551616 := by decide
        rw [h65]
        unfold wrap64
        omega
      by_cases hb : (s[9].toNat : Int) < 64
      · by_cases heq : lebS (wrap64 ((gv ((nums s).take (9 + 1)) : Nat) : Int)) = (nums s).take (9 + 1)
        · exact ⟨_, _, _, ⟨by omega, by omega, by omega, by omega⟩, fun W => specGetSleb_last_yes s 9 W hks hk10 hpre hlast hsz _ hbd.1 hbd.2 (by omega) rfl heq, fun W => implGetSleb_pos_yes s 9 W hks hk10 hpre hlast hsz _ rfl _ hbd.1 hbd.2 hb hmod heq⟩
        · exact ⟨_, _, _, ⟨by omega, by omega, by omega, by omega⟩, fun W => specGetSleb_last_no s 9 W hks hk10 hpre hlast hsz _ hbd.1 hbd.2 (by omega) rfl heq, fun W => implGetSleb_pos_no s 9 W hks hk10 hpre hlast hsz _ rfl _ hbd.1 hbd.2 hb hmod heq⟩
      · by_cases heq : lebS (wrap64 ((gv ((nums s).take (9 + 1)) : Nat) : Int)) = (nums s).take (9 + 1)
        · exact ⟨_, _, _, ⟨by omega, by omega, by omega, by omega⟩, fun W => specGetSleb_last_yes s 9 W hks hk10 hpre hlast hsz _ hbd.1 hbd.2 (by omega) rfl heq, fun W => implGetSleb_neg_yes s 9 W hks hk10 hpre hlast hsz _ rfl _ hbd.1 hbd.2 (by omega) _ rfl hif heq⟩
        · exact ⟨_, _, _, ⟨by omega, by omega, by omega, by omega⟩, fun W => specGetSleb_last_no s 9 W hks hk10 hpre hlast hsz _ hbd.1 hbd.2 (by omega) rfl heq, fun W => implGetSleb_neg_no s 9 W hks hk10 hpre hlast hsz _ rfl _ hbd.1 hbd.2 (by omega) _ rfl hif heq⟩
  · have hpre : ∀ j, (h : j < s.size) → j < 10 → 128 ≤ ((s[j]'h).toNat : Int) := fun j hj hj10 => by
      have h1 := hn j hj10
      rcases Int.lt_or_le ((s[j]'hj).toNat : Int) 128 with h2 | h2
      · exact absurd ⟨hj, h2⟩ h1
      · exact h2
    exact ⟨_, _, _, ⟨by omega, by omega, by omega, by omega⟩, fun W => specGetSleb_none s W hpre hsz, fun W => implGetSleb_none s W hpre hsz⟩

/-- Whatever is read has been written so. -/
theorem getLeb_fineK (s : ByteArray) (hsz : (s.size : Int) ≤ 4294967296) : ∃ (x y : Nat) (ok : Bool), (ok = true → 1 ≤ y ∧ y ≤ s.size ∧ y ≤ 10 ∧ (x : Int) ≤ 9223372036854775807 ∧ lebU x = (nums s).take y) ∧
    (∀ W, Calls Tryd.prog 83 #[.string s] W fun e w' => e = .returned (.tuple #[.int .i64 x, .int .i64 y, .bool ok]) ∧ Below W.heap.size W w') := by
  rcases first_or_none (fun k => ∃ h : k < s.size, (s[k].toNat : Int) < 128) 10 with ⟨k, hk10, ⟨hks, hlast⟩, hn⟩ | hn
  · have hpre : ∀ j, (h : j < k) → 128 ≤ ((s[j]'(by omega)).toNat : Int) := fun j hj => by
      have h1 := hn j hj
      rcases Int.lt_or_le ((s[j]'(by omega)).toNat : Int) 128 with h2 | h2
      · exact absurd ⟨by omega, h2⟩ h1
      · exact h2
    obtain ⟨v, hv⟩ : ∃ v, gv ((nums s).take (k + 1)) % 18446744073709551616 = v := ⟨_, rfl⟩
    by_cases hg : (9223372036854775807 : Int) < (v : Int)
    · exact ⟨0, 0, false, (fun e => nomatch e), fun W => implGetLeb_great s k W hks hk10 hpre hlast hsz v hv hg⟩
    · by_cases heq : lebU v = (nums s).take (k + 1)
      · exact ⟨v, k + 1, true, fun _ => ⟨by omega, by omega, by omega, by omega, heq⟩, fun W => implGetLeb_yes s k W hks hk10 hpre hlast hsz v hv (by omega) heq⟩
      · exact ⟨0, 0, false, (fun e => nomatch e), fun W => implGetLeb_no s k W hks hk10 hpre hlast hsz v hv (by omega) heq⟩
  · have hpre : ∀ j, (h : j < s.size) → j < 10 → 128 ≤ ((s[j]'h).toNat : Int) := fun j hj hj10 => by
      have h1 := hn j hj10
      rcases Int.lt_or_le ((s[j]'hj).toNat : Int) 128 with h2 | h2
      · exact absurd ⟨hj, h2⟩ h1
      · exact h2
    exact ⟨0, 0, false, (fun e => nomatch e), fun W => implGetLeb_none s W hpre hsz⟩
end Go.Proofs.YtbjcldekapipaaaDoor
