/-
  The number of a text, where the text is a version and where it is none; and readVersion's answer beside it.
-/
import Derived.Test.YtfadodmkppeodabDoorSNum
import Derived.IntWalk
namespace Go.Proofs.YtfadodmkppeodabDoor
open Go.ChangeShapes Go.WideShapes Go.ChangeAt Go.RowKit

theorem scan_dot (cs : List UInt8) (n p d : Int) : scan (46 :: cs) n p d = scan cs (wrap64 (wrap64 (n + p) * 1000)) 0 (d + 1) := by
  rw [scan, if_pos (by rfl)]

theorem scan_digit (k : Nat) (hk : k < 10) (cs : List UInt8) (n p d : Int) (h0 : 0 ≤ p) (h1 : p < 1000) : scan (UInt8.ofNat (48 + k) :: cs) n p d = scan cs n (10 * p + k) d := by
  have h := dig_nat k hk
  rw [scan, h, if_neg (by omega), if_neg (by omega), IntWalk.wrap64_in (10 * p) (by omega), IntWalk.wrap64_in _ (by omega)]
  congr 1
  omega

theorem scan_dec (x : Nat) (h : x < 1000) (rest : List UInt8) (n d : Int) : scan (Lib.decDigits x ++ rest) n 0 d = scan rest n x d := by
  by_cases h1 : x < 10
  · rw [dec1 x h1]
    show scan (UInt8.ofNat (48 + x) :: rest) n 0 d = _
    rw [scan_digit x h1 _ _ _ _ (by omega) (by omega)]
    congr 1
    omega
  · by_cases h2 : x < 100
    · rw [dec2 x (by omega) h2]
      show scan (UInt8.ofNat (48 + x / 10) :: UInt8.ofNat (48 + x % 10) :: rest) n 0 d = _
      rw [scan_digit _ (by omega) _ _ _ _ (by omega) (by omega), scan_digit _ (by omega) _ _ _ _ (by omega) (by omega)]
      congr 1
      omega
    · rw [dec3 x (by omega) h]
      show scan (UInt8.ofNat (48 + x / 10 / 10) :: UInt8.ofNat (48 + x / 10 % 10) :: UInt8.ofNat (48 + x % 10) :: rest) n 0 d = _
      rw [scan_digit _ (by omega) _ _ _ _ (by omega) (by omega), scan_digit _ (by omega) _ _ _ _ (by omega) (by omega), scan_digit _ (by omega) _ _ _ _ (by omega) (by omega)]
      congr 1
      omega

theorem scan_last (x : Nat) (h : x < 1000) (n d : Int) : scan (Lib.decDigits x) n 0 d = some (n, (x : Int), d) := by
  have := scan_dec x h [] n d
  rw [List.append_nil] at this
  rw [this]
  rfl

theorem num_ver {s : ByteArray} {x y z : Int} (h : IsVer s x y z) : numOf s = x * 1000000 + y * 1000 + z := by
  have hs := ver_size h
  obtain ⟨x0, x1, y0, y1, z0, z1, hv⟩ := h
  have ht : s.data.toList.take 12 = s.data.toList := List.take_of_length_le (by rw [size_list]; omega)
  unfold numOf
  rw [ht, hv, verB_list, scan_dec _ (by omega), scan_dot, scan_dec _ (by omega), scan_dot, scan_last _ (by omega)]
  rw [IntWalk.wrap64_in (0 + _) (by omega), IntWalk.wrap64_in ((0 + (x.toNat : Int)) * 1000) (by omega), IntWalk.wrap64_in (_ + (y.toNat : Int)) (by omega), IntWalk.wrap64_in _ (by omega)]
  rw [show (0 + 1 + 1 : Int) = 2 by rfl]
  have hN : wrap64 (((0 + (x.toNat : Int)) * 1000 + y.toNat) * 1000 + z.toNat) = x * 1000000 + y * 1000 + z := by
    rw [IntWalk.wrap64_in _ (by omega)]
    omega
  refine numR_yes (by omega) hN (by omega) ?_
  rw [show (x * 1000000 + y * 1000 + z) / 1000000 = x by omega, show (x * 1000000 + y * 1000 + z) / 1000 % 1000 = y by omega, show (x * 1000000 + y * 1000 + z) % 1000 = z by omega]

theorem num_none {s : ByteArray} (h : ¬ ∃ x y z, IsVer s x y z) : numOf s = -1 := by
  unfold numOf
  match scan (s.data.toList.take 12) 0 0 0 with
  | none => rfl
  | some (n, p, d) =>
    rw [numR_eq]
    split
    · rename_i hc
      exact absurd ⟨_, _, _, (by omega), (by omega), (by omega), (by omega), (by omega), (by omega), hc.2.2.2.2⟩ h
    · rfl

theorem num_ge (s : ByteArray) : numOf s = -1 ∨ (0 ≤ numOf s ∧ numOf s ≤ 999999999) := by
  by_cases h : ∃ x y z, IsVer s x y z
  · obtain ⟨x, y, z, h⟩ := h
    have hn := num_ver h
    obtain ⟨x0, x1, y0, y1, z0, z1, _⟩ := h
    omega
  · exact Or.inl (num_none h)

/-- The cell of internal/bytealg.MaxLen holds some integer. -/
def MaxC (w : World) : Prop := ∃ m : Int, w.cell? ⟨2, 0, none⟩ = some (.int .i64 m)

theorem MaxC.keep {w w' : World} (h : MaxC w) (hb : Below w.heap.size w w') : MaxC w' := by
  obtain ⟨m, hm⟩ := h
  exact ⟨m, keepCell hb hm⟩

theorem maxC {W : World} (h : W.ShapedOpen Tryd.prog) : MaxC W := Tryd.laysSN.s1_3 W h

/-- readVersion's answer, beside the number. -/
theorem rv_any (s : ByteArray) (hs : s.size ≤ 1048576) : ∃ (x y z : Int) (ok : Bool), 0 ≤ x ∧ x < 1000 ∧ 0 ≤ y ∧ y < 1000 ∧ 0 ≤ z ∧ z < 1000 ∧ (ok = true → numOf s = x * 1000000 + y * 1000 + z) ∧ (ok = false → numOf s = -1 ∧ x = 0 ∧ y = 0 ∧ z = 0) ∧
    Hid (∀ w : World, MaxC w → Calls Tryd.prog 33 #[.string s] w fun e w' => e = .returned (.tuple #[.agg #[.int .i64 x, .int .i64 y, .int .i64 z], .bool ok]) ∧ Below w.heap.size w w') := by
  by_cases h : ∃ x y z, IsVer s x y z
  · obtain ⟨x, y, z, h⟩ := h
    have hn := num_ver h
    have h2 := h
    obtain ⟨x0, x1, y0, y1, z0, z1, _⟩ := h2
    exact ⟨x, y, z, true, x0, x1, y0, y1, z0, z1, fun _ => hn, (fun h => by cases h), Lib.hid (fun w ⟨m, hm⟩ => readVersion_yes h m w hm)⟩
  · exact ⟨0, 0, 0, false, by omega, by omega, by omega, by omega, by omega, by omega, (fun h => by cases h), fun _ => ⟨num_none h, rfl, rfl, rfl⟩, Lib.hid (fun w ⟨m, hm⟩ => readVersion_no h hs m w hm)⟩
end Go.Proofs.YtfadodmkppeodabDoor
