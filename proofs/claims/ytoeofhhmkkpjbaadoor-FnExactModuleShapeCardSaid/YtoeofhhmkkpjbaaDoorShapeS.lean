/-
  The model's look whether a core is in order.
-/
import Derived.Test.YtoeofhhmkkpjbaaDoorShapeX
namespace Go.Proofs.YtoeofhhmkkpjbaaDoor
open Go.ChangeShapes Go.WideShapes Go.ChangeAt Go.RowKit Go.Deep

theorem l00In_any (n l h : Int) (w : World) :
    Calls Tryd.prog 44 #[.int .i64 n, .int .i64 l, .int .i64 h] w fun e w' => e = .returned (.bool (decide (l ≤ n ∧ n ≤ h))) ∧ w = w' := by
  by_cases hc : l ≤ n ∧ n ≤ h
  · rw [decide_eq_true hc]
    exact l00In_yes n l h w hc.1 hc.2
  · rw [decide_eq_false hc]
    exact l00In_no n l h w (by omega)
theorem l15In_any (x : In) (w : World) :
    Calls Tryd.prog 46 #[.agg #[.int .i64 x.op, .int .i64 x.a]] w fun e w' => e = .returned (.bool (inV x)) ∧ Below w.heap.size w w' := l15Ins_any x.op x.a w

set_option maxHeartbeats 2000000 in
set_option maxRecDepth 100000 in
theorem l15Core_any (x : Co) (hx : x.wt ≤ 1048576) (R : Option Addr) (c lo : Nat) (w : World) (h : Co.At w lo x R) :
    Calls Tryd.prog 74 #[.agg #[.string x.name, .int .i64 x.params, .int .i64 x.locals, .bool x.result, .slice R x.code.length c]] w fun e w' => e = .returned (.bool (coV x)) ∧ Below w.heap.size w w' := by
  have hs : x.name.size ≤ 1048576 := by have := In.wts_nonneg x.code; unfold Co.wt at hx; omega
  have hl : x.code.length ≤ 1048576 := by have := In.wts_nonneg x.code; unfold Co.wt at hx; omega
  have CW := Lib.hid (fun W => l15Word_any x.name hs W)
  have CP := Lib.hid (fun W => l00In_any x.params 0 8 W)
  have CL := Lib.hid (fun W => l00In_any x.locals 0 8 W)
  have H := Lib.hid h
  unfold coV
  generalize wordV x.name = a at *
  generalize decide (0 ≤ x.params ∧ x.params ≤ 8) = p at *
  generalize decide (0 ≤ x.locals ∧ x.locals ≤ 8) = q at *
  clear hx hs h
  cases a with
  | false =>
    go_enter Tryd.func74, Tryd.ntmps74
    go_wp2_with (first | (go_at_call 42; (with_reducible refine (CW.out _).mono ?_); rintro e w1 ⟨rfl, rfl⟩))
    go_ret
    exact ⟨rfl, below1 _ _⟩
  | true =>
    cases p with
    | false =>
      go_enter Tryd.func74, Tryd.ntmps74
      go_wp2_with (first | (go_at_call 42; (with_reducible refine (CW.out _).mono ?_); rintro e w1 ⟨rfl, rfl⟩) | (go_at_call 44; first | ((with_reducible refine (CP.out _).mono ?_); rintro e w2 ⟨rfl, rfl⟩) | ((with_reducible refine (CL.out _).mono ?_); rintro e w2 ⟨rfl, rfl⟩)))
      go_ret
      exact ⟨rfl, below1 _ _⟩
    | true =>
      cases q with
      | false =>
        go_enter Tryd.func74, Tryd.ntmps74
        go_wp2_with (first | (go_at_call 42; (with_reducible refine (CW.out _).mono ?_); rintro e w1 ⟨rfl, rfl⟩) | (go_at_call 44; first | ((with_reducible refine (CP.out _).mono ?_); rintro e w2 ⟨rfl, rfl⟩) | ((with_reducible refine (CL.out _).mono ?_); rintro e w2 ⟨rfl, rfl⟩)))
        go_ret
        exact ⟨rfl, below1 _ _⟩
      | true =>
        by_cases h120 : x.code.length ≤ 120
        · have g1 : ¬ 120 < (x.code.length : Int) := by omega
          have g2 : decide (120 < (x.code.length : Int)) = false := decide_eq_false g1
          have g3 : ¬ 120 < x.code.length := by omega
          rw [decide_eq_true h120]
          obtain ⟨G, hG⟩ : ∃ G, x.code.all inV = G := ⟨_, rfl⟩
          have HG := Lib.hid hG
          have hgoal : (true && (true && (true && (true && x.code.all inV)))) = G := by rw [hG]; rfl
          rw [hgoal]
          clear hG hgoal h120
          go_enter Tryd.func74, Tryd.ntmps74
          go_wp2_with (first | (go_at_call 42; (with_reducible refine (CW.out _).mono ?_); rintro e w1 ⟨rfl, rfl⟩) | (go_at_call 44; first | ((with_reducible refine (CP.out _).mono ?_); rintro e w2 ⟨rfl, rfl⟩) | ((with_reducible refine (CL.out _).mono ?_); rintro e w2 ⟨rfl, rfl⟩)))
          clear g1 g2 g3
          go_loopw [3] (fun i wr => ∃ k : Nat, k ≤ x.code.length ∧ i = .int .i64 k ∧ Hid (¬ BadE inV x.code k) ∧ wr.cell? ⟨w.heap.size, 4, none⟩ = some (.slice R x.code.length c) ∧ Hid (Below w.heap.size w wr)) (fun i _ => x.code.length - (intOf i).toNat)
          case atStart => exact ⟨0, Nat.zero_le _, rfl, (fun ⟨i, u, hi, _⟩ => by omega), by go_simp, below1 _ _⟩
          case round =>
            obtain ⟨k, hk, rfl, hno, k4, HB⟩ := hrel
            by_cases hlt : k < x.code.length
            · obtain ⟨b, o, y, rfl, _, hyk, hc⟩ := (Ins.below H.out HB.out).at_ hlt
              have C := Lib.hid (fun W => l15In_any y W)
              obtain ⟨c0_, c1_, _⟩ := hc
              have HY := Lib.hid hyk
              have hli : (k : Int) < (x.code.length : Int) := by omega
              clear hyk
              cases hv : inV y with
              | true =>
                rw [hv] at C
                have HV := Lib.hid hv
                clear hv
                go_wp2_with (go_at_call 46; (with_reducible refine (C.out _).mono ?_); rintro e w2 ⟨rfl, h2⟩; have k5 := keepCell h2 k4; have HB2 := Lib.hid (bnext HB.out h2); clear h2)
                go_roundw
                case rel => exact ⟨k + 1, by omega, by go_num, BadE.no_step hno.out HY.out HV.out, k5, HB2⟩
                case measure => simp [intOf]; omega
              | false =>
                rw [hv] at C
                have HE : Hid (G = false) := Lib.hid (by
                  rw [← HG.out, Bool.eq_false_iff]
                  exact BadE.not_all (k := k + 1) ⟨k, y, by omega, HY.out, hv⟩)
                clear hv
                go_wp2_with (go_at_call 46; (with_reducible refine (C.out _).mono ?_); rintro e w2 ⟨rfl, h2⟩; have k5 := keepCell h2 k4; have HB2 := Lib.hid (bnext HB.out h2); clear h2)
                go_ret
                exact ⟨by rw [HE.out]; rfl, HB2.out⟩
            · obtain rfl : k = x.code.length := by omega
              have HE : Hid (G = true) := Lib.hid (by rw [← HG.out]; exact BadE.all hno.out)
              have hlti : ¬ (x.code.length : Int) < (x.code.length : Int) := by omega
              go_wp2_with fail
              go_ret
              exact ⟨by rw [HE.out]; rfl, HB.out⟩
        · have g1 : 120 < (x.code.length : Int) := by omega
          have g2 : decide (120 < (x.code.length : Int)) = true := decide_eq_true g1
          have g3 : 120 < x.code.length := by omega
          rw [decide_eq_false h120]
          go_enter Tryd.func74, Tryd.ntmps74
          go_wp2_with (first | (go_at_call 42; (with_reducible refine (CW.out _).mono ?_); rintro e w1 ⟨rfl, rfl⟩) | (go_at_call 44; first | ((with_reducible refine (CP.out _).mono ?_); rintro e w2 ⟨rfl, rfl⟩) | ((with_reducible refine (CL.out _).mono ?_); rintro e w2 ⟨rfl, rfl⟩)))
          go_ret
          exact ⟨rfl, below1 _ _⟩
end Go.Proofs.YtoeofhhmkkpjbaaDoor
