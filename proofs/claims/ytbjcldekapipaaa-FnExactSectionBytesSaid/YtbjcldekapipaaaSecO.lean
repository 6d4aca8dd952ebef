/-
  The bytes of one section, as the model writes them.
-/
import Derived.Test.YtbjcldekapipaaaSecB
import Derived.Deep.RegionHeld3
namespace Go.Proofs.Ytbjcldekapipaaa
open Go.ChangeShapes Go.WideShapes Go.ChangeAt Go.RowKit Go.Deep

theorem secS_next {w0 wm w' : World} {g : Nat} {v0 v1 v2 : Value} (h : wm.cell? ⟨g, 0, none⟩ = some v0 ∧ wm.cell? ⟨g, 1, none⟩ = some v1 ∧ wm.cell? ⟨g, 2, none⟩ = some v2 ∧ Below w0.heap.size w0 wm) (hb : Below wm.heap.size wm w') :
    w'.cell? ⟨g, 0, none⟩ = some v0 ∧ w'.cell? ⟨g, 1, none⟩ = some v1 ∧ w'.cell? ⟨g, 2, none⟩ = some v2 ∧ Below w0.heap.size w0 w' :=
  ⟨keepCell hb h.1, keepCell hb h.2.1, keepCell hb h.2.2.1, bnext h.2.2.2 hb⟩
theorem specPutB_any (s : ByteArray) (hs : s.size ≤ 2000000) (w : World) : Calls Try.prog 75 #[.string s] w fun e w' => e = .returned (.string (putB s)) ∧ Below w.heap.size w w' := specPutBytes_any s w hs
theorem implPutB_any (s : ByteArray) (hs : s.size ≤ 2000000) (w : World) : Calls Try.prog 41 #[.string s] w fun e w' => e = .returned (.string (putB s)) ∧ Below w.heap.size w w' := implPutBytes_any s w hs
theorem secV_name {x : Sc} (hv : secV x = true) (h0 : x.id = 0) : x.name.size ≤ 40 := by
  unfold secV at hv
  rw [if_pos h0] at hv
  unfold nameV at hv
  rw [Bool.and_eq_true, decide_eq_true_iff] at hv
  omega
theorem fixl1_size (n : Int) : (strOfNums (fixl n 1)).size = 1 := by rw [strOfNums_size, fixl_length]

set_option maxHeartbeats 1000000 in
theorem l17One_any (x : Sc) (hv : secV x = true) (hs : x.bytes.size ≤ 1048576) (w : World) :
    Calls Try.prog 66 #[.agg #[.int .i64 x.id, .string x.name, .string x.bytes]] w fun e w' => e = .returned (.string (secB x)) ∧ Below w.heap.size w w' := by
  have CF : ∀ W, Calls Try.prog 74 #[.int .i64 x.id, .int .i64 1] W fun e w' => e = .returned (.string (strOfNums (fixl x.id 1))) ∧ Below W.heap.size W w' := fun W => specPutFix_any x.id 1 W (by omega)
  have hF := fixl1_size x.id
  unfold secB secC
  by_cases h0 : x.id = 0
  · have q : (x.id == 0) = true := by rw [h0]; rfl
    have hn := secV_name hv h0
    have hpn := putB_size x.name (by omega)
    have CN := Lib.hid (fun W => specPutB_any x.name (by omega) W)
    have hsum : (putB x.name ++ x.bytes).size = (putB x.name).size + x.bytes.size := ByteArray.size_append
    have CB := (fun W => specPutB_any (putB x.name ++ x.bytes) (by omega) W)
    have hpb := putB_size (putB x.name ++ x.bytes) (by omega)
    rw [if_pos h0]
    clear hv
    generalize hA : putB (putB x.name ++ x.bytes) = A at *
    clear hA
    generalize putB x.name = N at *
    generalize strOfNums (fixl x.id 1) = F at *
    have CF := Lib.hid CF
    have CB := Lib.hid CB
    have hz1 : ¬ (9223372036854775807 < N.size + x.bytes.size) := by omega
    have hz2 : ¬ (9223372036854775807 < F.size + A.size) := by omega
    clear h0 hF
    go_enter Try.func66, Try.ntmps66
    go_wp2_with fail
    go_region_held3 (fun w' => w'.cell? ⟨w.heap.size, 0, none⟩ = some (.int .i64 x.id) ∧ w'.cell? ⟨w.heap.size, 1, none⟩ = some (.string x.name) ∧ w'.cell? ⟨w.heap.size, 2, none⟩ = some (.string x.bytes) ∧ Below w.heap.size w w')
      (first | assumption | exact secS_next (by assumption) (by assumption) | (refine ⟨by go_simp, by go_simp, by go_simp, ?_⟩; exact (below1 _ _).drew))
      (first
        | (go_at_call 74; (with_reducible refine (CF.out _).mono ?_); rintro e wm ⟨rfl, hb⟩)
        | (go_at_call 75; (with_reducible refine (CN.out _).mono ?_); rintro e wm ⟨rfl, hb⟩)
        | (go_at_call 75; (with_reducible refine (CB.out _).mono ?_); rintro e wm ⟨rfl, hb⟩))
    all_goals
      go_wp2_with fail
      go_ret
      go_split_ands
      exact ⟨rfl, by assumption⟩
  · have q : (x.id == 0) = false := beq_eq_false_iff_ne.mpr h0
    have CB := Lib.hid (fun W => specPutB_any x.bytes (by omega) W)
    have hpb := putB_size x.bytes (by omega)
    rw [if_neg h0]
    clear hv
    generalize putB x.bytes = A at *
    generalize strOfNums (fixl x.id 1) = F at *
    have CF := Lib.hid CF
    have hz2 : ¬ (9223372036854775807 < F.size + A.size) := by omega
    clear h0 hF
    go_enter Try.func66, Try.ntmps66
    go_wp2_with fail
    go_region_held3 (fun w' => w'.cell? ⟨w.heap.size, 0, none⟩ = some (.int .i64 x.id) ∧ w'.cell? ⟨w.heap.size, 1, none⟩ = some (.string x.name) ∧ w'.cell? ⟨w.heap.size, 2, none⟩ = some (.string x.bytes) ∧ Below w.heap.size w w')
      (first | assumption | exact secS_next (by assumption) (by assumption) | (refine ⟨by go_simp, by go_simp, by go_simp, ?_⟩; exact (below1 _ _).drew))
      (first
        | (go_at_call 74; (with_reducible refine (CF.out _).mono ?_); rintro e wm ⟨rfl, hb⟩)
        | (go_at_call 75; (with_reducible refine (CB.out _).mono ?_); rintro e wm ⟨rfl, hb⟩))
    all_goals
      go_wp2_with fail
      go_ret
      go_split_ands
      exact ⟨rfl, by assumption⟩
end Go.Proofs.Ytbjcldekapipaaa
