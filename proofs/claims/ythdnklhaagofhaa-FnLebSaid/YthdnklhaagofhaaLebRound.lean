/-
  What is read of an encoding of bytes is what was written: numbers, strings, hexadecimal digits.
-/
import Derived.Test.YthdnklhaagofhaaGetSlebLaw
import Derived.Test.YthdnklhaagofhaaGetBytesLaw
import Derived.Test.YthdnklhaagofhaaPutBytesLaw
import Derived.Test.YthdnklhaagofhaaPutHex
import Derived.Test.YthdnklhaagofhaaGetHexI
import Derived.Test.YthdnklhaagofhaaPutFix
import Derived.Test.YthdnklhaagofhaaGetFix
import Derived.Test.YthdnklhaagofhaaL01Leb
namespace Go.Proofs.Ythdnklhaagofhaa
open Go.ChangeShapes Go.WideShapes Go.ChangeAt Go.RowKit

theorem nums_app7 (a b : ByteArray) : nums (a ++ b) = nums a ++ nums b := by simp [nums, ByteArray.data_append]
theorem nums_of7 (P : List Int) (h : ∀ n ∈ P, 0 ≤ n ∧ n < 256) : nums (strOfNums P) = P := by
  show (strOfNums P).data.toList.map _ = P
  rw [strOfNums_data, List.map_map]
  conv => rhs; rw [← List.map_id' P]
  refine List.map_congr_left fun n hn => ?_
  obtain ⟨h1, h2⟩ := h n hn
  simp only [Function.comp]
  rw [UInt8.toNat_ofNat']
  omega
theorem lebS_gv (n : Int) : ((gv (lebS n) : Nat) : Int) = if n < 0 then n + 2 ^ (7 * (lebS n).length) else n := by
  induction hk : n.natAbs using Nat.strongRecOn generalizing n with
  | _ k ih =>
    by_cases h : -64 ≤ n ∧ n < 64
    · rw [lebS_small n h.1 h.2]
      simp only [gv, List.length_cons, List.length_nil]
      by_cases h0 : n < 0
      · rw [if_pos h0]
        have : (2 : Int) ^ (7 * (0 + 1)) = 128 := by decide
        rw [this]
        omega
      · rw [if_neg h0]
        omega
    · have h2 := ih (n / 128).natAbs (by omega) (n / 128) rfl
      rw [lebS_big n (by omega)]
      simp only [gv, List.length_cons]
      have e : (2 : Int) ^ (7 * ((lebS (n / 128)).length + 1)) = 128 * 2 ^ (7 * (lebS (n / 128)).length) := by
        rw [show 7 * ((lebS (n / 128)).length + 1) = 7 * (lebS (n / 128)).length + 7 by omega, Int.pow_add]
        have : (2 : Int) ^ 7 = 128 := by decide
        rw [this, Int.mul_comm]
      rw [e]
      generalize (2 : Int) ^ (7 * (lebS (n / 128)).length) = q at *
      by_cases h0 : n < 0
      · rw [if_pos h0]
        rw [if_pos (by omega)] at h2
        omega
      · rw [if_neg h0]
        rw [if_neg (by omega)] at h2
        omega
theorem lebS_last (n : Int) : ∃ p b, lebS n = p ++ [b] ∧ 0 ≤ b ∧ b < 128 ∧ (∀ x ∈ p, 128 ≤ x) ∧ (b < 64 ↔ 0 ≤ n) := by
  induction hk : n.natAbs using Nat.strongRecOn generalizing n with
  | _ k ih =>
    by_cases h : -64 ≤ n ∧ n < 64
    · rw [lebS_small n h.1 h.2]
      exact ⟨[], n % 128, rfl, by omega, by omega, by simp, by omega⟩
    · obtain ⟨p, b, e, h0, h1, h2, h3⟩ := ih (n / 128).natAbs (by omega) (n / 128) rfl
      rw [lebS_big n (by omega), e]
      refine ⟨(n % 128 + 128) :: p, b, rfl, h0, h1, fun x hx => ?_, by omega⟩
      rcases List.mem_cons.1 hx with rfl | hx
      · omega
      · exact h2 x hx
/-- Where a string begins as a list of bytes that ends in its last. -/
theorem head_parts {s : ByteArray} {p : List Int} {b : Int} {R : List Int} (hs : nums s = (p ++ [b]) ++ R) :
    ∃ hk : p.length < s.size, (s[p.length]'hk).toNat = b.toNat ∧ ((s[p.length]'hk).toNat : Int) = b ∧ (∀ j, (h : j < p.length) → ((s[j]'(by omega)).toNat : Int) = p[j]) ∧ (nums s).take (p.length + 1) = p ++ [b] := by
  have hl := congrArg List.length hs
  rw [nums_length] at hl
  simp only [List.length_append, List.length_singleton] at hl
  have hk : p.length < s.size := by omega
  have hb : ((s[p.length]'hk).toNat : Int) = b := by
    rw [← nums_getD s p.length hk, hs]
    simp [List.getD_eq_getElem?_getD]
  refine ⟨hk, by omega, hb, fun j hj => ?_, ?_⟩
  · rw [← nums_getD s j (by omega), hs, List.append_assoc]
    simp [List.getD_eq_getElem?_getD, List.getElem?_append_left hj, List.getElem?_eq_getElem hj]
  · rw [hs, show p.length + 1 = (p ++ [b]).length by simp, List.take_left']
    rfl
theorem getSleb_back (n : Int) (hn0 : -9223372036854775808 ≤ n) (hn1 : n ≤ 9223372036854775807) (rest : ByteArray) (hr : rest.size ≤ 1000) (W : World) :
    Calls Try.prog 13 #[.string (strOfNums (lebS n) ++ rest)] W fun e w' => e = .returned (.tuple #[.int .i64 n, .int .i64 ((lebS n).length : Int), .bool true]) ∧ Below W.heap.size W w' := by
  have hl10 : (lebS n).length ≤ 10 := lebS_length 9 n (by omega) (by omega)
  have hgv := lebS_gv n
  have hgl := gv_lt (lebS n)
  obtain ⟨p, b, e, h0, h1, h2, h3⟩ := lebS_last n
  have hby := lebS_byte n
  obtain ⟨s, hs⟩ : ∃ s, strOfNums (lebS n) ++ rest = s := ⟨_, rfl⟩
  have hns : nums s = (p ++ [b]) ++ nums rest := by rw [← hs, nums_app7, nums_of7 _ hby, e]
  have hsz : s.size = (lebS n).length + rest.size := by rw [← hs, ByteArray.size_append, strOfNums_size]
  obtain ⟨hk, hb, hbi, hp, htk⟩ := head_parts hns
  have hlen : (lebS n).length = p.length + 1 := by rw [e]; simp
  rw [hs, hlen]
  have hpre : ∀ j, (h : j < p.length) → 128 ≤ ((s[j]'(by omega)).toNat : Int) := fun j hj => by
    rw [hp j hj]
    exact h2 _ (List.getElem_mem hj)
  have heq : lebS n = (nums s).take (p.length + 1) := by rw [htk, e]
  rw [hlen] at hgl hgv
  have hgn : gv ((nums s).take (p.length + 1)) = gv (lebS n) := by rw [← heq]
  by_cases hneg : n < 0
  · rw [if_pos hneg] at hgv
    refine implGetSleb_neg_yes s p.length W hk (by omega) hpre (by omega) (by omega) (gv (lebS n) % 18446744073709551616) (by rw [hgn]) n hn0 hn1 (by omega) _ rfl ?_ heq
    by_cases hk9 : p.length < 9
    · rw [show min (7 * ((p.length : Int) + 1)).toNat 64 = 7 * (p.length + 1) by omega]
      have h63 : (2 : Nat) ^ (7 * (p.length + 1)) ≤ 2 ^ 63 := Nat.pow_le_pow_right (by decide) (by omega)
      have h64 : (2 : Nat) ^ 63 = 9223372036854775808 := by decide
      rw [Nat.mod_eq_of_lt (by omega), u64_ones _ _ (by omega) (by omega) hgl, hgv]
      generalize (2 : Int) ^ (7 * (p.length + 1)) = q at *
      unfold wrap64
      omega
    · have e9 : p.length = 9 := by omega
      rw [e9] at hgv hgl ⊢
      rw [show min (7 * (((9 : Nat) : Int) + 1)).toNat 64 = 64 by decide]
      have h64 : (2 : Nat) ^ 64 = 18446744073709551616 := by decide
      have h65 : (2 : Int) ^ 64 = 18446744073709551616 := by decide
      have h70 : (2 : Int) ^ (7 * (9 + 1)) = 1180591620717411303424 := by decide
      rw [h70] at hgv
      rw [u64_ones 64 _ (Nat.mod_lt _ (by decide)) (by omega) (by rw [h64]; exact Nat.mod_lt _ (by decide)), h65]
      unfold wrap64
      omega
  · rw [if_neg hneg] at hgv
    refine implGetSleb_pos_yes s p.length W hk (by omega) hpre (by omega) (by omega) (gv (lebS n) % 18446744073709551616) (by rw [hgn]) n hn0 hn1 (by omega) ?_ heq
    unfold wrap64
    omega
theorem getLeb_back (n : Nat) (hn1 : (n : Int) ≤ 9223372036854775807) (rest : ByteArray) (hr : rest.size ≤ 2000000) (W : World) :
    Calls Try.prog 15 #[.string (strOfNums (lebU n) ++ rest)] W fun e w' => e = .returned (.tuple #[.int .i64 n, .int .i64 ((lebU n).length : Int), .bool true]) ∧ Below W.heap.size W w' := by
  have hl10 : (lebU n).length ≤ 10 := lebU_length 9 n (by omega)
  have hgv := gv_lebU n
  obtain ⟨p, b, e, h1, h2⟩ := shape_lebU n
  have hby := lebU_byte n
  obtain ⟨s, hs⟩ : ∃ s, strOfNums (lebU n) ++ rest = s := ⟨_, rfl⟩
  have hns : nums s = (p ++ [b]) ++ nums rest := by rw [← hs, nums_app7, nums_of7 _ hby, e]
  have hsz : s.size = (lebU n).length + rest.size := by rw [← hs, ByteArray.size_append, strOfNums_size]
  obtain ⟨hk, hb, hbi, hp, htk⟩ := head_parts hns
  have hlen : (lebU n).length = p.length + 1 := by rw [e]; simp
  rw [hs, hlen]
  have heq : lebU n = (nums s).take (p.length + 1) := by rw [htk, e]
  exact implGetLeb_yes s p.length W hk (by omega) (fun j hj => by
    rw [hp j hj]
    exact h2 _ (List.getElem_mem hj)) (by omega) (by omega) n (by rw [← heq, hgv]; omega) hn1 heq
/-- Whatever is read has been written so. -/
theorem getLeb_fine (s : ByteArray) (hsz : (s.size : Int) ≤ 4294967296) : ∃ (x y : Nat) (ok : Bool), (ok = true → 1 ≤ y ∧ y ≤ s.size ∧ y ≤ 10 ∧ (x : Int) ≤ 9223372036854775807 ∧ lebU x = (nums s).take y) ∧
    (∀ W, Calls Try.prog 15 #[.string s] W fun e w' => e = .returned (.tuple #[.int .i64 x, .int .i64 y, .bool ok]) ∧ Below W.heap.size W w') := by
  rcases first_or_none (fun k => ∃ h : k < s.size, (s[k].toNat : Int) < 128) 10 with ⟨k, hk10, ⟨hks, hlast⟩, hn⟩ | hn
  · have hpre : ∀ j, (h : j < k) → 128 ≤ ((s[j]'(by omega)).toNat : Int) := fun j hj => by
      have h1 := hn j hj
      rcases Int.lt_or_le ((s[j]'(by omega)).toNat : Int) 128 with h2 | h2
      · exact absurd ⟨by omega, h2⟩ h1
      · exact h2
    obtain ⟨v, hv⟩ : ∃ v, gv ((nums s).take (k + 1)) % 18446744073709551616 = v := ⟨_, rfl⟩
    by_cases hg : (9223372036854775807 : Int) < (v : Int)
    · exact ⟨0, 0, false, (fun e => nomatch e), fun W => implGetLeb_great s k W hks hk10 hpre hlast hsz v hv hg⟩
    · by_cases heq : lebU v = (nums s).take (k + 1)
      · exact ⟨v, k + 1, true, fun _ => ⟨by omega, by omega, by omega, by omega, heq⟩, fun W => implGetLeb_yes s k W hks hk10 hpre hlast hsz v hv (by omega) heq⟩
      · exact ⟨0, 0, false, (fun e => nomatch e), fun W => implGetLeb_no s k W hks hk10 hpre hlast hsz v hv (by omega) heq⟩
  · have hpre : ∀ j, (h : j < s.size) → j < 10 → 128 ≤ ((s[j]'h).toNat : Int) := fun j hj hj10 => by
      have h1 := hn j hj10
      rcases Int.lt_or_le ((s[j]'hj).toNat : Int) 128 with h2 | h2
      · exact absurd ⟨hj, h2⟩ h1
      · exact h2
    exact ⟨0, 0, false, (fun e => nomatch e), fun W => implGetLeb_none s W hpre hsz⟩
theorem take_str (s : ByteArray) (m : Nat) : strOfNums ((nums s).take m) = s.extract 0 m := by
  refine ByteArray.ext ?_
  refine Array.toList_inj.mp ?_
  rw [strOfNums_data, extract_data']
  simp only [List.drop_zero, Nat.sub_zero]
  rw [nums, ← List.map_take, List.map_map]
  conv => rhs; rw [← List.map_id' (s.data.toList.take m)]
  apply List.map_congr_left
  intro b _
  simp
/-- The digits of bytes are read back. -/
theorem hv_hexd (n : Int) (h0 : 0 ≤ n) (h1 : n < 16) : hv (hexd n) = n := by
  unfold hv hexd
  by_cases h : n < 10
  · rw [if_pos h, if_pos (by omega)]
    omega
  · rw [if_neg h, if_neg (by omega), if_pos (by omega)]
    omega
theorem unhex_hexl : ∀ l : List UInt8, unhex ((hexl l).map fun n => UInt8.ofNat n.toNat) = some (l.map fun b => (b.toNat : Int))
  | [] => rfl
  | c :: l => by
    have ih := unhex_hexl l
    have hc := c.toNat_lt
    have a0 := hexd_bd ((c.toNat : Int) / 16) (by omega) (by omega)
    have b0 := hexd_bd ((c.toNat : Int) % 16) (by omega) (by omega)
    have ea : (((UInt8.ofNat (hexd ((c.toNat : Int) / 16)).toNat).toNat : Nat) : Int) = hexd ((c.toNat : Int) / 16) := by
      rw [UInt8.toNat_ofNat']
      omega
    have eb : (((UInt8.ofNat (hexd ((c.toNat : Int) % 16)).toNat).toNat : Nat) : Int) = hexd ((c.toNat : Int) % 16) := by
      rw [UInt8.toNat_ofNat']
      omega
    show unhex (UInt8.ofNat (hexd ((c.toNat : Int) / 16)).toNat :: UInt8.ofNat (hexd ((c.toNat : Int) % 16)).toNat :: (hexl l).map fun n => UInt8.ofNat n.toNat) = _
    rw [unhex, ea, eb, hv_hexd _ (by omega) (by omega), hv_hexd _ (by omega) (by omega), if_neg (by omega), ih]
    simp only [Option.map_some, List.map_cons]
    congr 2
    omega
theorem getHex_back (s : ByteArray) (hs : s.size ≤ 100000) (W : World) :
    Calls Try.prog 20 #[.string (strOfNums (hexl s.data.toList))] W fun e w' => e = .returned (.tuple #[.string s, .bool true]) ∧ Below W.heap.size W w' := by
  have hl : (strOfNums (hexl s.data.toList)).size = 2 * s.size := by
    rw [strOfNums_size, hexl_length]
    simp
  refine (implGH_even (strOfNums (hexl s.data.toList)) s.size hl (by omega) W).mono fun e w' ⟨he, hb⟩ => ⟨?_, hb⟩
  rw [he, strOfNums_data, unhex_hexl]
  have e2 : strOfNums (s.data.toList.map fun b => (b.toNat : Int)) = s := by
    refine ByteArray.ext ?_
    refine Array.toList_inj.mp ?_
    rw [strOfNums_data, List.map_map]
    conv => rhs; rw [← List.map_id' s.data.toList]
    apply List.map_congr_left
    intro b _
    simp
  show Ending.returned (.tuple #[.string (strOfNums (s.data.toList.map fun b => (b.toNat : Int))), .bool true]) = _
  rw [e2]
/-- Numbers of eight bytes. -/
theorem fixv_fixl (n : Int) : ∀ k, ((fixv (fixl n k) : Nat) : Int) = n % 256 ^ k
  | 0 => by simp [fixl, fixv, Int.emod_one]
  | k + 1 => by
    have ih := fixv_fixl n k
    have hp : (0 : Int) < 256 ^ k := Int.pow_pos (by decide)
    rw [fixl, fixv_snoc, fixl_length]
    have h1 : (0 : Int) ≤ n / 256 ^ k % 256 := Int.emod_nonneg _ (by decide)
    have h2 : ((2 ^ (8 * k) : Nat) : Int) = 256 ^ k := by
      rw [Nat.pow_mul]
      simp
    push_cast
    rw [ih, Int.toNat_of_nonneg h1]
    have h2' : ((2 : Int) ^ (8 * k)) = 256 ^ k := by rw [← h2]; simp
    rw [h2', Int.pow_succ]
    have h3 := Int.emod_add_mul_ediv n (256 ^ k)
    have h4 := Int.emod_add_mul_ediv (n / 256 ^ k) 256
    have h5 : n / (256 ^ k * 256) = n / 256 ^ k / 256 := by rw [Int.ediv_ediv_of_nonneg (Int.le_of_lt hp)]
    have h6 := Int.emod_add_mul_ediv n (256 ^ k * 256)
    rw [h5] at h6
    generalize (256 : Int) ^ k = q at *
    generalize n / q = d at *
    have h7 : q * 256 * (d / 256) + (d % 256) * q = q * d := by
      rw [Int.mul_assoc, Int.mul_comm (d % 256) q, ← Int.mul_add]
      congr 1
      omega
    omega
theorem getFix_back (n : Int) (hn0 : -9223372036854775808 ≤ n) (hn1 : n ≤ 9223372036854775807) (W : World) :
    Calls Try.prog 22 #[.string (strOfNums (fixl n 8))] W fun e w' => e = .returned (.int .i64 n) ∧ Below W.heap.size W w' := by
  have hby : ∀ k, ∀ x ∈ fixl n k, 0 ≤ x ∧ x < 256 := by
    intro k
    induction k with
    | zero => simp [fixl]
    | succ k ih =>
      intro x hx
      rw [fixl, List.mem_append, List.mem_singleton] at hx
      rcases hx with hx | rfl
      · exact ih x hx
      · exact ⟨Int.emod_nonneg _ (by decide), Int.emod_lt_of_pos _ (by decide)⟩
  refine (implGetFix_any (strOfNums (fixl n 8)) W (by rw [strOfNums_size, fixl_length]; exact Nat.le_refl _)).mono fun e w' ⟨he, hb⟩ => ⟨?_, hb⟩
  rw [he, nums_of7 _ (hby 8), fixv_fixl]
  have h8 : (256 : Int) ^ 8 = 18446744073709551616 := by decide
  rw [h8]
  congr 2
  unfold wrap64
  omega
end Go.Proofs.Ythdnklhaagofhaa
