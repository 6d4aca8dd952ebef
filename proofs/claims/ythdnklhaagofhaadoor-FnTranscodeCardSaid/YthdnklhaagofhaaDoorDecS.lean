/-
  The walks of the model's l11Narrow, l11Wide, l11Decode and Decode.
-/
import Derived.Test.YthdnklhaagofhaaDoorDecP
import Derived.Test.YthdnklhaagofhaaDoorEncOk
namespace Go.Proofs.YthdnklhaagofhaaDoor
open Go.ChangeShapes Go.WideShapes Go.ChangeAt Go.RowKit Go.Deep

theorem fix2_val (t : ByteArray) (h : t.size = 2) : wrap64 (fixv (nums t)) = val2 (nums t) := by
  have hl := nums_length t
  have hb := nums_byte t
  rw [h] at hl
  match hn : nums t, hl with
  | [x, y], _ =>
    have hx := hb x (by rw [hn]; simp)
    have hy := hb y (by rw [hn]; simp)
    simp only [fixv, val2, List.getD_cons_zero, List.getD_cons_succ]
    unfold wrap64
    omega
theorem nums_cut (b : ByteArray) (k : Nat) : nums (b.extract k (k + 2)) = ((nums b).drop k).take 2 := by
  unfold nums
  rw [ByteArray.data_extract, Array.toList_extract, List.map_take, List.map_drop]
  simp
theorem val2_take (l : List Int) : val2 (l.take 2) = val2 l := by
  unfold val2
  match l with
  | [] => rfl
  | [a] => rfl
  | a :: b :: r => rfl
theorem val2_bd (l : List Int) (h : ∀ x ∈ l, 0 ≤ x ∧ x < 256) : 0 ≤ val2 l ∧ val2 l ≤ 65535 := by
  unfold val2
  match l, h with
  | [], _ => simp
  | [a], h =>
    have ha := h a (by simp)
    simp
    omega
  | a :: b :: r, h =>
    have ha := h a (by simp)
    have hb := h b (by simp)
    simp
    omega
theorem cut_val (b : ByteArray) (k : Nat) : val2 (nums (b.extract k (k + 2))) = val2 ((nums b).drop k) := by rw [nums_cut, val2_take]
theorem cut_bd (b : ByteArray) (k : Nat) : 0 ≤ val2 ((nums b).drop k) ∧ val2 ((nums b).drop k) ≤ 65535 := val2_bd _ (fun x hx => nums_byte b x (List.mem_of_mem_drop hx))
theorem cut_size (b : ByteArray) (k : Nat) (h : k + 2 ≤ b.size) : (b.extract k (k + 2)).size = 2 := by
  rw [ByteArray.size_extract]
  omega
/-- Two bytes cut out of a string. -/
theorem cut_run (b : ByteArray) (k : Nat) (h : k + 2 ≤ b.size) (W : World) : (Instr.slice 9 (.string b) (some (.int .i64 (k : Int))) (some (.int .i64 ((k : Int) + 2))) none).run Tryd.prog W = .ok (.string (b.extract k (k + 2))) W := by
  have h1 := run_slice_string (P := Tryd.prog) (w := W) 9 b .i64 .i64 (k : Int) ((k : Int) + 2) Tryd.underlying9 (by omega) (by omega) (by omega)
  rw [h1]
  have e1 : ((k : Int)).toNat = k := by omega
  have e2 : ((k : Int) + 2).toNat = k + 2 := by omega
  rw [e1, e2]
theorem cut_run2 (b : ByteArray) (k : Nat) (h : k + 4 ≤ b.size) (W : World) : (Instr.slice 9 (.string b) (some (.int .i64 ((k : Int) + 2))) (some (.int .i64 ((k : Int) + 4))) none).run Tryd.prog W = .ok (.string (b.extract (k + 2) (k + 2 + 2))) W := by
  have h1 := cut_run b (k + 2) (by omega) W
  have e1 : ((k + 2 : Nat) : Int) = (k : Int) + 2 := by omega
  rw [e1, show (k : Int) + 2 + 2 = (k : Int) + 4 by omega] at h1
  exact h1
theorem i64_mask (n : Int) : bits .and .i64 n 1023 = n % 1024 := by
  have h127 : (BitVec.ofInt 64 1023).toNat = 2 ^ 10 - 1 := by decide
  have key : (BitVec.ofInt 64 n &&& BitVec.ofInt 64 1023).toNat = (n % ((2 ^ 64 : Nat) : Int)).toNat % 2 ^ 10 := by
    rw [BitVec.toNat_and, BitVec.toNat_ofInt, h127, Nat.and_two_pow_sub_one_eq_mod]
  show IntKind.i64.wrap ((BitVec.ofInt 64 n &&& BitVec.ofInt 64 1023).toNat : Nat) = n % 1024
  rw [key, IntKind.wrap_i64]
  omega
theorem OwnL.ans6 {w w0 : World} {xs : List Int} {R : Option Addr} {n c : Nat} (h : OwnL 2 num6 w w0.heap.size xs R n c) (hb : Below w0.heap.size w0 w) : Ans6 xs w0 (.returned (.slice R n c)) w := by
  obtain ⟨rfl, g, h1, h2, h3⟩ := h.own6
  exact ⟨_, _, g, rfl, h1, h2, h3, hb⟩

end Go.Proofs.YthdnklhaagofhaaDoor
