/-
  The model's l08Why answers what the trees say: by induction on the depth.
-/
import Derived.Test.YtifchfecfkdjlaaGreatDoorWhSU
import Derived.Test.YtifchfecfkdjlaaGreatDoorWhSY
import Derived.Test.YtifchfecfkdjlaaGreatDoorWhSZ
import Derived.Test.YtifchfecfkdjlaaGreatDoorWhSE
import Derived.Test.YtifchfecfkdjlaaGreatDoorWhSR
import Derived.Test.YtifchfecfkdjlaaGreatDoorWhSV
import Derived.Test.YtifchfecfkdjlaaGreatDoorWhST
namespace Go.Proofs.YtifchfecfkdjlaaGreatDoor
open Go.ChangeShapes Go.WideShapes Go.ChangeAt Go.RowKit Go.Deep

theorem why_step (n : Nat) (hn : n ≤ 3) (SP : SpTy n) : SpTy (n + 1) := by
  intro a b ga gb A B A' B' ca cb ca' cb' lo lo' pt hpt w hat hbt
  rw [Ty.why]
  by_cases hab : numK a.kind = true ∧ numK b.kind = true
  · rw [if_pos hab]
    exact why_num a b hab.1 hab.2 A B A' B' ca cb ca' cb' pt w
  rw [if_neg hab]
  by_cases hk : a.kind = b.kind
  · rw [if_pos hk]
    have hna : numK a.kind = false := by
      cases h : numK a.kind
      · rfl
      · exact absurd ⟨h, hk ▸ h⟩ hab
    have kp : ∀ W, Below w.heap.size w W → Ty.At W lo a A B ∧ Ty.At W lo' b A' B' := fun W hW => ⟨hat.below hW, hbt.below hW⟩
    unfold whyB
    by_cases h12 : b.kind = 12
    · rw [if_pos h12]
      exact why_list n hn SP a b ga gb hna hk (hk.trans h12) A B A' B' ca cb ca' cb' lo lo' pt hpt w hat hbt
    rw [if_neg h12]
    by_cases h13 : b.kind = 13
    · rw [if_pos h13]
      exact why_option n hn SP a b ga gb hna hk (hk.trans h13) A B A' B' ca cb ca' cb' lo lo' pt hpt w hat hbt
    rw [if_neg h13]
    by_cases h14 : b.kind = 14
    · rw [if_pos h14]
      exact why_result n hn SP a b ga gb hna hk (hk.trans h14) A B A' B' ca cb ca' cb' lo lo' pt hpt w hat hbt
    rw [if_neg h14]
    by_cases h15 : b.kind = 15
    · rw [if_pos h15]
      by_cases hl : a.kids.length = b.kids.length
      · rw [if_pos hl]
        exact why_tuple a b hna hk (hk.trans h15) _ A B A' B' ca cb ca' cb' pt w (fun W hW => tup_any n hn SP a b ga gb h15 hl A B A' B' ca cb ca' cb' lo lo' pt hpt W (kp W hW).1 (kp W hW).2)
      · rw [if_neg hl]
        exact why_tuple a b hna hk (hk.trans h15) _ A B A' B' ca cb ca' cb' pt w (fun W _ => tup_other a b hl A B A' B' ca cb ca' cb' pt W)
    rw [if_neg h15]
    by_cases h16 : b.kind = 16
    · rw [if_pos h16]
      exact why_record a b hna hk (hk.trans h16) _ A B A' B' ca cb ca' cb' pt w (fun W hW => rec_any n hn SP a b ga gb (hk.trans h16) h16 A B A' B' ca cb ca' cb' lo lo' pt hpt W (kp W hW).1 (kp W hW).2)
    rw [if_neg h16]
    by_cases h17 : b.kind = 17
    · rw [if_pos h17]
      exact why_variant a b hna hk (hk.trans h17) _ A B A' B' ca cb ca' cb' pt w (fun W hW => var_any n hn SP a b ga gb (hk.trans h17) h17 A B A' B' ca cb ca' cb' lo lo' pt hpt W (kp W hW).1 (kp W hW).2)
    rw [if_neg h17]
    by_cases h18 : b.kind = 18 ∨ b.kind = 19
    · rw [if_pos h18]
      rcases h18 with h | h
      · exact why_en18 n a b ga gb hna hk (hk.trans h) A B A' B' ca cb ca' cb' lo lo' pt (by omega) w hat hbt
      · exact why_en19 n a b ga gb hna hk (hk.trans h) A B A' B' ca cb ca' cb' lo lo' pt (by omega) w hat hbt
    rw [if_neg h18]
    by_cases h20 : b.kind = 20 ∨ b.kind = 21
    · rw [if_pos h20]
      by_cases hm : a.name = b.name
      · rw [if_pos (eqS_iff.mpr hm)]
        rcases h20 with h | h
        · exact why_res20_same a b hna hk (hk.trans h) hm A B A' B' ca cb ca' cb' pt w
        · exact why_res21_same a b hna hk (hk.trans h) hm A B A' B' ca cb ca' cb' pt w
      · rw [if_neg (fun h => hm (eqS_iff.mp h))]
        rcases h20 with h | h
        · exact why_res20_other a b hna hk (hk.trans h) hm A B A' B' ca cb ca' cb' pt w
        · exact why_res21_other a b hna hk (hk.trans h) hm A B A' B' ca cb ca' cb' pt w
    rw [if_neg h20]
    by_cases h22 : b.kind = 22 ∨ b.kind = 23
    · rw [if_pos h22]
      rcases h22 with h | h
      · exact why_stream22 n hn a b ga gb hna hk (hk.trans h) A B A' B' ca cb ca' cb' lo lo' pt w hat hbt
      · exact why_stream23 n hn a b ga gb hna hk (hk.trans h) A B A' B' ca cb ca' cb' lo lo' pt w hat hbt
    rw [if_neg h22]
    exact why_none a b hna hk (by omega) A B A' B' ca cb ca' cb' pt w
  · rw [if_neg hk]
    cases ha : numK a.kind
    · cases hb : numK b.kind
      · exact why_kind_ff a b ha hb hk A B A' B' ca cb ca' cb' pt w
      · exact why_kind_ft a b ha hb hk A B A' B' ca cb ca' cb' pt w
    · cases hb : numK b.kind
      · exact why_kind_tf a b ha hb hk A B A' B' ca cb ca' cb' pt w
      · exact absurd ⟨ha, hb⟩ hab
theorem why_any : ∀ n : Nat, n ≤ 4 → SpTy n
  | 0, _ => fun a b ga => by
    have h1 := ga.2.2.1
    have h2 := a.depth_pos
    omega
  | n + 1, hn => why_step n (by omega) (why_any n (by omega))
end Go.Proofs.YtifchfecfkdjlaaGreatDoor
