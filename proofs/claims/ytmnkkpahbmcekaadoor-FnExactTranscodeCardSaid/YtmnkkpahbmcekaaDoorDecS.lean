/-
  The walks of the model's l11Narrow, l11Wide, l11Decode and Decode.
-/
import Derived.Test.YtmnkkpahbmcekaaDoorDecP
import Derived.Test.YtmnkkpahbmcekaaDoorEncOk
namespace Go.Proofs.YtmnkkpahbmcekaaDoor
open Go.ChangeShapes Go.WideShapes Go.ChangeAt Go.RowKit Go.Deep

theorem fix2_val (t : ByteArray) (h : t.size = 2) : wrap64 (fixv (nums t)) = val2 (nums t) := by
  have hl := nums_length t
  have hb := nums_byte t
  rw [h] at hl
  match hn : nums t, hl with
  | [x, y], _ =>
    have hx := hb x (by rw [hn]; simp)
    have hy := hb y (by rw [hn]; simp)
    simp only [fixv, val2, List.getD_cons_zero, List.getD_cons_succ]
    unfold wrap64
    omega
theorem fix2S (t : ByteArray) (h : t.size = 2) (w : World) : Calls Tryd.prog 56 #[.string t] w fun e w' => e = .returned (.int .i64 (val2 (nums t))) ∧ w = w' := by
  have C := specGetFix_any t w (by omega)
  rw [fix2_val t h] at C
  exact C
theorem nums_cut (b : ByteArray) (k : Nat) : nums (b.extract k (k + 2)) = ((nums b).drop k).take 2 := by
  unfold nums
  rw [ByteArray.data_extract, Array.toList_extract, List.map_take, List.map_drop]
  simp
theorem val2_take (l : List Int) : val2 (l.take 2) = val2 l := by
  unfold val2
  match l with
  | [] => rfl
  | [a] => rfl
  | a :: b :: r => rfl
theorem val2_bd (l : List Int) (h : ∀ x ∈ l, 0 ≤ x ∧ x < 256) : 0 ≤ val2 l ∧ val2 l ≤ 65535 := by
  unfold val2
  match l, h with
  | [], _ => simp
  | [a], h =>
    have ha := h a (by simp)
    simp
    omega
  | a :: b :: r, h =>
    have ha := h a (by simp)
    have hb := h b (by simp)
    simp
    omega
theorem cut_val (b : ByteArray) (k : Nat) : val2 (nums (b.extract k (k + 2))) = val2 ((nums b).drop k) := by rw [nums_cut, val2_take]
theorem cut_bd (b : ByteArray) (k : Nat) : 0 ≤ val2 ((nums b).drop k) ∧ val2 ((nums b).drop k) ≤ 65535 := val2_bd _ (fun x hx => nums_byte b x (List.mem_of_mem_drop hx))
theorem cut_size (b : ByteArray) (k : Nat) (h : k + 2 ≤ b.size) : (b.extract k (k + 2)).size = 2 := by
  rw [ByteArray.size_extract]
  omega
/-- Two bytes cut out of a string. -/
theorem cut_run (b : ByteArray) (k : Nat) (h : k + 2 ≤ b.size) (W : World) : (Instr.slice 9 (.string b) (some (.int .i64 (k : Int))) (some (.int .i64 ((k : Int) + 2))) none).run Tryd.prog W = .ok (.string (b.extract k (k + 2))) W := by
  have h1 := run_slice_string (P := Tryd.prog) (w := W) 9 b .i64 .i64 (k : Int) ((k : Int) + 2) Tryd.underlying9 (by omega) (by omega) (by omega)
  rw [h1]
  have e1 : ((k : Int)).toNat = k := by omega
  have e2 : ((k : Int) + 2).toNat = k + 2 := by omega
  rw [e1, e2]
theorem cut_run2 (b : ByteArray) (k : Nat) (h : k + 4 ≤ b.size) (W : World) : (Instr.slice 9 (.string b) (some (.int .i64 ((k : Int) + 2))) (some (.int .i64 ((k : Int) + 4))) none).run Tryd.prog W = .ok (.string (b.extract (k + 2) (k + 2 + 2))) W := by
  have h1 := cut_run b (k + 2) (by omega) W
  have e1 : ((k + 2 : Nat) : Int) = (k : Int) + 2 := by omega
  rw [e1, show (k : Int) + 2 + 2 = (k : Int) + 4 by omega] at h1
  exact h1
theorem i64_mask (n : Int) : bits .and .i64 n 1023 = n % 1024 := by
  have h127 : (BitVec.ofInt 64 1023).toNat = 2 ^ 10 - 1 := by decide
  have key : (BitVec.ofInt 64 n &&& BitVec.ofInt 64 1023).toNat = (n % ((2 ^ 64 : Nat) : Int)).toNat % 2 ^ 10 := by
    rw [BitVec.toNat_and, BitVec.toNat_ofInt, h127, Nat.and_two_pow_sub_one_eq_mod]
  show IntKind.i64.wrap ((BitVec.ofInt 64 n &&& BitVec.ofInt 64 1023).toNat : Nat) = n % 1024
  rw [key, IntKind.wrap_i64]
  omega
theorem OwnL.ans6 {w w0 : World} {xs : List Int} {R : Option Addr} {n c : Nat} (h : OwnL 2 num6 w w0.heap.size xs R n c) (hb : Below w0.heap.size w0 w) : Ans6 xs w0 (.returned (.slice R n c)) w := by
  obtain ⟨rfl, g, h1, h2, h3⟩ := h.own6
  exact ⟨_, _, g, rfl, h1, h2, h3, hb⟩

set_option maxHeartbeats 2000000 in
set_option maxRecDepth 100000 in
theorem narrow_any (b : ByteArray) (w : World) : Calls Tryd.prog 49 #[.string b] w (Ans6 ((nums b).take 25) w) := by
  obtain ⟨i0, hi0, hz0, hz1, hz2⟩ := info_parts infoI64
  go_enter Tryd.func49, Tryd.ntmps49
  go_wp2_with fail
  go_loopw [3, 4] (fun v i wr => ∃ k : Nat, k ≤ b.size ∧ k ≤ 25 ∧ i = .int .i64 k ∧ (∃ (R : Option Addr) (c : Nat), v = .slice R k c ∧ Hid (OwnL 2 num6 wr w.heap.size ((nums b).take k) R k c)) ∧ Hid (Below w.heap.size w wr)) (fun _ i _ => b.size - (intOf i).toNat)
  case atStart => exact ⟨0, Nat.zero_le _, by omega, rfl, ⟨_, _, rfl, rfl, World.ownsRow_made _ _ _ (Nat.le_refl _) (by unfold maxLen; omega) (by simp)⟩, below1 _ _⟩
  case round =>
    obtain ⟨k, hk, hk25, rfl, ⟨R3, c3, rfl, HO⟩, hB⟩ := hrel
    by_cases hlt : k < b.size
    · have hlti : (k : Int) < (b.size : Int) := by omega
      by_cases h24 : k ≤ 24
      · have h24i : (k : Int) ≤ 24 := by omega
        have HTK := Lib.hid (nums_take_snoc b k hlt)
        have hx0 : 0 ≤ ((b[k].toNat : Nat) : Int) := by omega
        have hx1 : ((b[k].toNat : Nat) : Int) < 256 := by have := b[k].toNat_lt; omega
        have hzi : w.heap.size ≤ wr.heap.size := hB.out.size
        go_wp2_with (at_builtin; refine wpList_append_lies _ rfl _ _ _ rfl w.heap.size 2 i0 _ 1 8 Tryd.underlying22 hi0 hz0 hz1 hz2 rfl (by decide) (.slice R3 k c3) k (((nums b).take k).map num6) rfl (HO.out.2.alloc _) ⟨wr.heap.size, 0, none⟩ 1 1 [.int .i64 ((b[k].toNat : Nat) : Int)] rfl rfl (news7 _ _ _) (by simp [Value.oneCell']) (by omega) (by unfold maxLen; omega) (by omega) (by simp; omega) _ rfl ?_; intro g4 cap w4 hown4 hgrow4 hat4 hlt4; have HS4 := Lib.hid (HO.out.snoc (m := ((b[k].toNat : Nat) : Int)) hB.out hown4 hgrow4); clear hown4 hgrow4 hat4 hlt4)
        go_roundw
        case rel => exact ⟨k + 1, by omega, by omega, by go_num, ⟨_, _, rfl, by rw [HTK.out]; exact HS4.out.1⟩, HS4.out.2⟩
        case measure => simp [intOf]; omega
      · have h24i : ¬ (k : Int) ≤ 24 := by omega
        have hg : decide ((k : Int) ≤ 24) = false := decide_eq_false h24i
        obtain rfl : k = 25 := by omega
        go_wp2_with fail
        go_ret
        exact HO.out.ans6 hB.out
    · obtain rfl : k = b.size := by omega
      have hlti : ¬ (b.size : Int) < (b.size : Int) := by omega
      have hall : (nums b).take b.size = (nums b).take 25 := by rw [List.take_of_length_le (by rw [nums_length]; omega), List.take_of_length_le (by rw [nums_length]; omega)]
      have HO' := HO.out
      rw [hall] at HO'
      have HO2 := Lib.hid HO'
      clear HO HO' hall
      go_wp2_with fail
      go_ret
      exact HO2.out.ans6 hB.out

end Go.Proofs.YtmnkkpahbmcekaaDoor
