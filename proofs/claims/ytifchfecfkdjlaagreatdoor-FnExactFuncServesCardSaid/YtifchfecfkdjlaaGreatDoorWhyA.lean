/-
  The program's typeReason answers what the trees say: by induction on the depth.
-/
import Derived.Test.YtifchfecfkdjlaaGreatDoorMO
import Derived.Test.YtifchfecfkdjlaaGreatDoorWhyTu
import Derived.Test.YtifchfecfkdjlaaGreatDoorWhyC
import Derived.Test.YtifchfecfkdjlaaGreatDoorWhyT
import Derived.Test.YtifchfecfkdjlaaGreatDoorWhyB
namespace Go.Proofs.YtifchfecfkdjlaaGreatDoor
open Go.ChangeShapes Go.WideShapes Go.ChangeAt Go.RowKit Go.Deep

theorem numIn_iff {a b : Int} : numIn a b = true ↔ (nrV b).1 ≤ (nrV a).1 ∧ (nrV a).2.1 ≤ (nrV b).2.1 := by
  unfold numIn
  simp
theorem typeReason_step (n : Nat) (hn : n ≤ 3) (IH : TyR n) : TyR (n + 1) := by
  intro a b ga gb A B A' B' ca cb ca' cb' w hat hbt ht
  rw [Ty.why]
  by_cases hab : numK a.kind = true ∧ numK b.kind = true
  · rw [if_pos hab]
    by_cases h1 : (nrV b.kind).1 ≤ (nrV a.kind).1
    · by_cases h2 : (nrV a.kind).2.1 ≤ (nrV b.kind).2.1
      · rw [if_pos (numIn_iff.mpr ⟨h1, h2⟩)]
        exact tr_num_yes a b hab.1 hab.2 h1 h2 A B A' B' ca cb ca' cb' w ht
      · rw [if_neg (fun h => h2 (numIn_iff.mp h).2)]
        exact tr_num_hi a b hab.1 hab.2 h1 h2 A B A' B' ca cb ca' cb' w ht
    · rw [if_neg (fun h => h1 (numIn_iff.mp h).1)]
      exact tr_num_lo a b hab.1 hab.2 h1 A B A' B' ca cb ca' cb' w ht
  rw [if_neg hab]
  by_cases hk : a.kind = b.kind
  · rw [if_pos hk]
    have hna : numK a.kind = false := by
      cases h : numK a.kind
      · rfl
      · exact absurd ⟨h, hk ▸ h⟩ hab
    have kp : ∀ W, Below w.heap.size w W → Ty.Pl W 0 a A B ∧ Ty.Pl W 0 b A' B' ∧ RTable W := fun W hW => ⟨hat.keep (Kp.below hW).1, hbt.keep (Kp.below hW).1, ht.keep hW⟩
    unfold whyB
    by_cases h12 : b.kind = 12
    · rw [if_pos h12]
      exact tr_elements a b _ hna hk A B A' B' ca cb ca' cb' w ht (fun W => check_12 a b h12 A B A' B' ca cb ca' cb' W) (fun W hW => elements_any n hn IH a b ga gb (hk.trans h12) h12 A B A' B' ca cb ca' cb' W (kp W hW).1 (kp W hW).2.1 (kp W hW).2.2)
    rw [if_neg h12]
    by_cases h13 : b.kind = 13
    · rw [if_pos h13]
      exact tr_options a b _ hna hk A B A' B' ca cb ca' cb' w ht (fun W => check_13 a b h13 A B A' B' ca cb ca' cb' W) (fun W hW => options_any n hn IH a b ga gb (hk.trans h13) h13 A B A' B' ca cb ca' cb' W (kp W hW).1 (kp W hW).2.1 (kp W hW).2.2)
    rw [if_neg h13]
    by_cases h14 : b.kind = 14
    · rw [if_pos h14]
      exact tr_results a b _ hna hk A B A' B' ca cb ca' cb' w ht (fun W => check_14 a b h14 A B A' B' ca cb ca' cb' W) (fun W hW => results_any n hn IH a b ga gb (hk.trans h14) h14 A B A' B' ca cb ca' cb' W (kp W hW).1 (kp W hW).2.1 (kp W hW).2.2)
    rw [if_neg h14]
    by_cases h15 : b.kind = 15
    · rw [if_pos h15]
      by_cases hl : a.kids.length = b.kids.length
      · rw [if_pos hl]
        exact tr_tuples a b _ hna hk A B A' B' ca cb ca' cb' w ht (fun W => check_15 a b h15 A B A' B' ca cb ca' cb' W) (fun W hW => tuples_any n hn IH a b ga gb h15 hl A B A' B' ca cb ca' cb' W (kp W hW).1 (kp W hW).2.1 (kp W hW).2.2)
      · rw [if_neg hl]
        exact tr_tuples a b _ hna hk A B A' B' ca cb ca' cb' w ht (fun W => check_15 a b h15 A B A' B' ca cb ca' cb' W) (fun W hW => tuples_other a b hl A B A' B' ca cb ca' cb' W)
    rw [if_neg h15]
    by_cases h16 : b.kind = 16
    · rw [if_pos h16]
      exact tr_fields a b _ hna hk A B A' B' ca cb ca' cb' w ht (fun W => check_16 a b h16 A B A' B' ca cb ca' cb' W) (fun W hW => fields_any n hn IH a b ga gb (hk.trans h16) h16 A B A' B' ca cb ca' cb' W (kp W hW).1 (kp W hW).2.1 (kp W hW).2.2)
    rw [if_neg h16]
    by_cases h17 : b.kind = 17
    · rw [if_pos h17]
      exact tr_cases a b _ hna hk A B A' B' ca cb ca' cb' w ht (fun W => check_17 a b h17 A B A' B' ca cb ca' cb' W) (fun W hW => cases_var n hn IH a b ga gb (hk.trans h17) h17 A B A' B' ca cb ca' cb' W (kp W hW).1 (kp W hW).2.1 (kp W hW).2.2)
    rw [if_neg h17]
    by_cases h18 : b.kind = 18 ∨ b.kind = 19
    · rw [if_pos h18]
      refine tr_cases a b _ hna hk A B A' B' ca cb ca' cb' w ht (fun W => ?_) (fun W hW => cases_en n a b ga gb h18 A B A' B' ca cb ca' cb' W (kp W hW).1 (kp W hW).2.1 (kp W hW).2.2)
      rcases h18 with h | h
      · exact check_18 a b h A B A' B' ca cb ca' cb' W
      · exact check_19 a b h A B A' B' ca cb ca' cb' W
    rw [if_neg h18]
    by_cases h20 : b.kind = 20 ∨ b.kind = 21
    · rw [if_pos h20]
      have hc : ∀ W : World, Calls Tryz.prog 51 #[.agg #[.int .i64 a.kind, .string a.name, .slice A a.labels.length ca, .slice B a.kids.length cb, .int .i64 b.kind, .string b.name, .slice A' b.labels.length ca', .slice B' b.kids.length cb']] W fun e w' => e = .returned (.func (.func 75) #[.agg #[.int .i64 a.kind, .string a.name, .slice A a.labels.length ca, .slice B a.kids.length cb, .int .i64 b.kind, .string b.name, .slice A' b.labels.length ca', .slice B' b.kids.length cb']] #[]) ∧ Below W.heap.size W w' := fun W => by
        rcases h20 with h | h
        · exact check_20 a b h A B A' B' ca cb ca' cb' W
        · exact check_21 a b h A B A' B' ca cb ca' cb' W
      by_cases hm : a.name = b.name
      · rw [if_pos (eqS_iff.mpr hm)]
        exact tr_resources a b _ hna hk A B A' B' ca cb ca' cb' w ht hc (fun W _ => resources_same a b hm A B A' B' ca cb ca' cb' W)
      · rw [if_neg (fun h => hm (eqS_iff.mp h))]
        exact tr_resources a b _ hna hk A B A' B' ca cb ca' cb' w ht hc (fun W _ => resources_other a b hm A B A' B' ca cb ca' cb' W)
    rw [if_neg h20]
    by_cases h22 : b.kind = 22 ∨ b.kind = 23
    · rw [if_pos h22]
      refine tr_transfers a b _ hna hk A B A' B' ca cb ca' cb' w ht (fun W => ?_) (fun W hW => transfers_any n hn a b ga gb (hk ▸ h22) h22 A B A' B' ca cb ca' cb' W (kp W hW).1 (kp W hW).2.1)
      rcases h22 with h | h
      · exact check_22 a b h A B A' B' ca cb ca' cb' W
      · exact check_23 a b h A B A' B' ca cb ca' cb' W
    rw [if_neg h22]
    exact tr_nothing a b _ hna hk A B A' B' ca cb ca' cb' w ht (fun W => check_no a b (by omega) A B A' B' ca cb ca' cb' W) (fun W _ => nothing_any a b A B A' B' ca cb ca' cb' W)
  · rw [if_neg hk]
    cases ha : numK a.kind
    · cases hb : numK b.kind
      · exact tr_kind_ff a b ha hb hk A B A' B' ca cb ca' cb' w ht
      · exact tr_kind_ft a b ha hb hk A B A' B' ca cb ca' cb' w ht
    · cases hb : numK b.kind
      · exact tr_kind_tf a b ha hb hk A B A' B' ca cb ca' cb' w ht
      · exact absurd ⟨ha, hb⟩ hab
theorem typeReason_any : ∀ n : Nat, n ≤ 4 → TyR n
  | 0, _ => fun a b ga => by
    have h1 := ga.2.2.1
    have h2 := a.depth_pos
    omega
  | n + 1, hn => typeReason_step n (by omega) (typeReason_any n (by omega))
end Go.Proofs.YtifchfecfkdjlaaGreatDoor
