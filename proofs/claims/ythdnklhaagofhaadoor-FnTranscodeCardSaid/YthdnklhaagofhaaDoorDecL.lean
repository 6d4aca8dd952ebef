/-
  The walks of the model's l11Decode and Decode.
-/
import Derived.Test.YthdnklhaagofhaaDoorDecW
namespace Go.Proofs.YthdnklhaagofhaaDoor
open Go.ChangeShapes Go.WideShapes Go.ChangeAt Go.RowKit Go.Deep

instance (n : Int) : Decidable (ChI n) := by unfold ChI; infer_instance
instance (P : List Int) : Decidable (AllCh P) := by unfold AllCh; infer_instance
instance (P : List Int) : Decidable (TxOk P) := by unfold TxOk; infer_instance
theorem txOk_pts {s : ByteArray} (h : TxtOk s) : TxOk (ptsOf s) := by
  have h1 := (back_text s h.2).2
  have h2 := ptsOf_len s
  have h3 := h.1
  refine ⟨by omega, ptsOf_ch h, ?_⟩
  rw [show runesBytes (ptsOf s) = s from h1]
  exact h3
theorem txtOk_of {P : List Int} (h : TxOk P) : TxtOk (runesBytes P) := ⟨h.2.2, valid_enc h.2.1⟩
theorem back_pts {s : ByteArray} (h : TxtOk s) : runesBytes (ptsOf s) = s := (back_text s h.2).2
theorem decP_yes {enc : Int} {b c : ByteArray} (h : TxtOk c) (hv : encV enc c = (b, 0)) : decP enc b c = (c, 0) := by
  unfold decP
  rw [if_pos ⟨h, hv⟩]
theorem decP_no {enc : Int} {b c : ByteArray} (hv : encV enc c ≠ (b, 0)) : decP enc b c = (⟨#[]⟩, 19) := by
  unfold decP
  rw [if_neg (fun h => hv h.2)]
theorem decP_bad {enc : Int} {b c : ByteArray} (h : ¬ TxtOk c) : decP enc b c = (⟨#[]⟩, 19) := by
  unfold decP
  rw [if_neg (fun h2 => h h2.1)]
theorem list_ne {a b : ByteArray} (h : ¬ a = b) : (a.toList == b.toList) = false := by
  rw [beq_eq_false_iff_ne, ByteArray.toList_eq, ByteArray.toList_eq]
  exact fun e => h (ByteArray.ext (Array.toList_inj.mp e))
theorem bad_255 : ¬ TxtOk ⟨#[255]⟩ := by
  unfold TxtOk
  decide +kernel
theorem textOk_some (b : ByteArray) : ∃ v : Bool, Hid (∀ w : World, Calls Tryd.prog 137 #[.string b] w fun e w' => e = .returned (.bool v) ∧ Below w.heap.size w w') := by
  by_cases h : TxtOk b
  · exact ⟨true, fun w => specTextOk_yes b h w⟩
  · exact ⟨false, fun w => specTextOk_no b h w⟩

/-- What the model's reading leaves to be tried. -/
def candS (enc : Int) (b : ByteArray) : ByteArray :=
  if enc = 1 then b else if enc = 2 then (if TxOk (wideS 25 (nums b)) then runesBytes (wideS 25 (nums b)) else ⟨#[255]⟩) else (if TxOk ((nums b).take 25) then runesBytes ((nums b).take 25) else ⟨#[255]⟩)
theorem candS_back (enc : Int) (b : ByteArray) (s : ByteArray) (h : TxtOk s) (hv : encV enc s = (b, 0)) : candS enc b = s := by
  have hA := ptsOf_ch h
  have hx := txOk_pts h
  have hl := ptsOf_len s
  have h24 := h.1
  unfold encV at hv
  unfold candS
  split at hv
  · rename_i h1
    rw [if_pos h1]
    exact (congrArg Prod.fst hv).symm
  · rename_i h1
    rw [if_neg h1]
    split at hv
    · rename_i h2
      obtain rfl : wideB (ptsOf s) = b := congrArg Prod.fst hv
      have e : wideS 25 (nums (wideB (ptsOf s))) = ptsOf s := wideS_back _ hA 25 (by omega)
      rw [if_pos h2, e, if_pos hx, back_pts h]
    · rename_i h2
      rw [if_neg h2]
      split at hv
      · rename_i h3
        obtain rfl : strOfNums (ptsOf s) = b := congrArg Prod.fst hv
        have e : nums (strOfNums (ptsOf s)) = ptsOf s := nums_str _ (fun n hn => ⟨by have := hA n hn; unfold ChI at this; omega, h3 n hn⟩)
        rw [e, List.take_of_length_le (by omega), if_pos hx, back_pts h]
      · have := congrArg Prod.snd hv
        cases this
/-- What both Decode answer. -/
def decA (enc : Int) (b : ByteArray) : ByteArray × Int := if 1 ≤ enc ∧ enc ≤ 3 then decP enc b (candS enc b) else (⟨#[]⟩, 1)
end Go.Proofs.YthdnklhaagofhaaDoor
