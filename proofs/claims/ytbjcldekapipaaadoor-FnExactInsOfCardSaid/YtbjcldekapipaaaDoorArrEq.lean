/-
  Two arrays of bytes compared.
-/
import Derived.Test.YtbjcldekapipaaaDoorLebAt
namespace Go.Proofs.YtbjcldekapipaaaDoor
open Go.ChangeShapes Go.WideShapes Go.ChangeAt Go.RowKit

/-- A loop that ends at the first unequal pair. -/
theorem run_forIn_all {P : Program} (c : Nat → Bool) (f : Nat → Option Bool × Unit → Sem (ForInStep (Option Bool × Unit))) :
    ∀ (l : List Nat) (w : World), (∀ k ∈ l, ∀ w, (f k (none, ())).run P w = .ok (if c k then .yield (none, ()) else .done (some false, ())) w) →
      (forIn l (none, ()) f).run P w = .ok (if l.all c then (none, ()) else (some false, ())) w
  | [], w, _ => by simp [Sem.run_pure]
  | k :: l, w, h => by
    rw [List.forIn_cons, Sem.run_bind, h k (by simp) w, Result.andThen_ok]
    cases hk : c k with
    | false => simp [hk, Sem.run_pure]
    | true =>
      simp only [if_true, List.all_cons, hk, Bool.true_and]
      exact run_forIn_all c f l w (fun k hk => h k (by simp [hk]))

theorem run_equal_ten (x0 x1 x2 x3 x4 x5 x6 x7 x8 x9 y0 y1 y2 y3 y4 y5 y6 y7 y8 y9 : Int) (d : Nat) (w : World) :
    (Op.equalIn (d + 1 + 1) 88 (.agg #[.int .u8 x0, .int .u8 x1, .int .u8 x2, .int .u8 x3, .int .u8 x4, .int .u8 x5, .int .u8 x6, .int .u8 x7, .int .u8 x8, .int .u8 x9]) (.agg #[.int .u8 y0, .int .u8 y1, .int .u8 y2, .int .u8 y3, .int .u8 y4, .int .u8 y5, .int .u8 y6, .int .u8 y7, .int .u8 y8, .int .u8 y9])).run Tryd.prog w = .ok ((x0 == y0) && (x1 == y1) && (x2 == y2) && (x3 == y3) && (x4 == y4) && (x5 == y5) && (x6 == y6) && (x7 == y7) && (x8 == y8) && (x9 == y9)) w := by
  have p0 : ∀ w, (part 5 #[.int .u8 x0, .int .u8 x1, .int .u8 x2, .int .u8 x3, .int .u8 x4, .int .u8 x5, .int .u8 x6, .int .u8 x7, .int .u8 x8, .int .u8 x9] 0).run Tryd.prog w = .ok (.int .u8 x0) w := fun _ => by kernel_rfl
  have q0 : ∀ w, (part 5 #[.int .u8 y0, .int .u8 y1, .int .u8 y2, .int .u8 y3, .int .u8 y4, .int .u8 y5, .int .u8 y6, .int .u8 y7, .int .u8 y8, .int .u8 y9] 0).run Tryd.prog w = .ok (.int .u8 y0) w := fun _ => by kernel_rfl
  have p1 : ∀ w, (part 5 #[.int .u8 x0, .int .u8 x1, .int .u8 x2, .int .u8 x3, .int .u8 x4, .int .u8 x5, .int .u8 x6, .int .u8 x7, .int .u8 x8, .int .u8 x9] 1).run Tryd.prog w = .ok (.int .u8 x1) w := fun _ => by kernel_rfl
  have q1 : ∀ w, (part 5 #[.int .u8 y0, .int .u8 y1, .int .u8 y2, .int .u8 y3, .int .u8 y4, .int .u8 y5, .int .u8 y6, .int .u8 y7, .int .u8 y8, .int .u8 y9] 1).run Tryd.prog w = .ok (.int .u8 y1) w := fun _ => by kernel_rfl
  have p2 : ∀ w, (part 5 #[.int .u8 x0, .int .u8 x1, .int .u8 x2, .int .u8 x3, .int .u8 x4, .int .u8 x5, .int .u8 x6, .int .u8 x7, .int .u8 x8, .int .u8 x9] 2).run Tryd.prog w = .ok (.int .u8 x2) w := fun _ => by kernel_rfl
  have q2 : ∀ w, (part 5 #[.int .u8 y0, .int .u8 y1, .int .u8 y2, .int .u8 y3, .int .u8 y4, .int .u8 y5, .int .u8 y6, .int .u8 y7, .int .u8 y8, .int .u8 y9] 2).run Tryd.prog w = .ok (.int .u8 y2) w := fun _ => by kernel_rfl
  have p3 : ∀ w, (part 5 #[.int .u8 x0, .int .u8 x1, .int .u8 x2, .int .u8 x3, .int .u8 x4, .int .u8 x5, .int .u8 x6, .int .u8 x7, .int .u8 x8, .int .u8 x9] 3).run Tryd.prog w = .ok (.int .u8 x3) w := fun _ => by kernel_rfl
  have q3 : ∀ w, (part 5 #[.int .u8 y0, .int .u8 y1, .int .u8 y2, .int .u8 y3, .int .u8 y4, .int .u8 y5, .int .u8 y6, .int .u8 y7, .int .u8 y8, .int .u8 y9] 3).run Tryd.prog w = .ok (.int .u8 y3) w := fun _ => by kernel_rfl
  have p4 : ∀ w, (part 5 #[.int .u8 x0, .int .u8 x1, .int .u8 x2, .int .u8 x3, .int .u8 x4, .int .u8 x5, .int .u8 x6, .int .u8 x7, .int .u8 x8, .int .u8 x9] 4).run Tryd.prog w = .ok (.int .u8 x4) w := fun _ => by kernel_rfl
  have q4 : ∀ w, (part 5 #[.int .u8 y0, .int .u8 y1, .int .u8 y2, .int .u8 y3, .int .u8 y4, .int .u8 y5, .int .u8 y6, .int .u8 y7, .int .u8 y8, .int .u8 y9] 4).run Tryd.prog w = .ok (.int .u8 y4) w := fun _ => by kernel_rfl
  have p5 : ∀ w, (part 5 #[.int .u8 x0, .int .u8 x1, .int .u8 x2, .int .u8 x3, .int .u8 x4, .int .u8 x5, .int .u8 x6, .int .u8 x7, .int .u8 x8, .int .u8 x9] 5).run Tryd.prog w = .ok (.int .u8 x5) w := fun _ => by kernel_rfl
  have q5 : ∀ w, (part 5 #[.int .u8 y0, .int .u8 y1, .int .u8 y2, .int .u8 y3, .int .u8 y4, .int .u8 y5, .int .u8 y6, .int .u8 y7, .int .u8 y8, .int .u8 y9] 5).run Tryd.prog w = .ok (.int .u8 y5) w := fun _ => by kernel_rfl
  have p6 : ∀ w, (part 5 #[.int .u8 x0, .int .u8 x1, .int .u8 x2, .int .u8 x3, .int .u8 x4, .int .u8 x5, .int .u8 x6, .int .u8 x7, .int .u8 x8, .int .u8 x9] 6).run Tryd.prog w = .ok (.int .u8 x6) w := fun _ => by kernel_rfl
  have q6 : ∀ w, (part 5 #[.int .u8 y0, .int .u8 y1, .int .u8 y2, .int .u8 y3, .int .u8 y4, .int .u8 y5, .int .u8 y6, .int .u8 y7, .int .u8 y8, .int .u8 y9] 6).run Tryd.prog w = .ok (.int .u8 y6) w := fun _ => by kernel_rfl
  have p7 : ∀ w, (part 5 #[.int .u8 x0, .int .u8 x1, .int .u8 x2, .int .u8 x3, .int .u8 x4, .int .u8 x5, .int .u8 x6, .int .u8 x7, .int .u8 x8, .int .u8 x9] 7).run Tryd.prog w = .ok (.int .u8 x7) w := fun _ => by kernel_rfl
  have q7 : ∀ w, (part 5 #[.int .u8 y0, .int .u8 y1, .int .u8 y2, .int .u8 y3, .int .u8 y4, .int .u8 y5, .int .u8 y6, .int .u8 y7, .int .u8 y8, .int .u8 y9] 7).run Tryd.prog w = .ok (.int .u8 y7) w := fun _ => by kernel_rfl
  have p8 : ∀ w, (part 5 #[.int .u8 x0, .int .u8 x1, .int .u8 x2, .int .u8 x3, .int .u8 x4, .int .u8 x5, .int .u8 x6, .int .u8 x7, .int .u8 x8, .int .u8 x9] 8).run Tryd.prog w = .ok (.int .u8 x8) w := fun _ => by kernel_rfl
  have q8 : ∀ w, (part 5 #[.int .u8 y0, .int .u8 y1, .int .u8 y2, .int .u8 y3, .int .u8 y4, .int .u8 y5, .int .u8 y6, .int .u8 y7, .int .u8 y8, .int .u8 y9] 8).run Tryd.prog w = .ok (.int .u8 y8) w := fun _ => by kernel_rfl
  have p9 : ∀ w, (part 5 #[.int .u8 x0, .int .u8 x1, .int .u8 x2, .int .u8 x3, .int .u8 x4, .int .u8 x5, .int .u8 x6, .int .u8 x7, .int .u8 x8, .int .u8 x9] 9).run Tryd.prog w = .ok (.int .u8 x9) w := fun _ => by kernel_rfl
  have q9 : ∀ w, (part 5 #[.int .u8 y0, .int .u8 y1, .int .u8 y2, .int .u8 y3, .int .u8 y4, .int .u8 y5, .int .u8 y6, .int .u8 y7, .int .u8 y8, .int .u8 y9] 9).run Tryd.prog w = .ok (.int .u8 y9) w := fun _ => by kernel_rfl
  have hu := Tryd.underlying88
  have hz := sizeOfU8
  have he : ∀ (a b : Int) w, (Op.equalIn (d + 1) 5 (.int .u8 a) (.int .u8 b)).run Tryd.prog w = .ok (a == b) w := fun a b w => run_equalIn_int w d _ _ _ _ _ Tryd.underlying5
  rw [Op.equalIn]
  simp only [Sem.run_bind, run_underlying hu, Result.andThen_ok, hz]
  rw [Std.Legacy.Range.forIn_eq_forIn_range']
  rw [run_forIn_all (P := Tryd.prog) (fun k => [(x0 == y0), (x1 == y1), (x2 == y2), (x3 == y3), (x4 == y4), (x5 == y5), (x6 == y6), (x7 == y7), (x8 == y8), (x9 == y9)].getD k true)]
  · simp [List.range'_succ]
    by_cases hh : x0 = y0 ∧ x1 = y1 ∧ x2 = y2 ∧ x3 = y3 ∧ x4 = y4 ∧ x5 = y5 ∧ x6 = y6 ∧ x7 = y7 ∧ x8 = y8 ∧ x9 = y9
    · rw [if_pos hh]
      obtain ⟨rfl, rfl, rfl, rfl, rfl, rfl, rfl, rfl, rfl, rfl⟩ := hh
      simp [Sem.run_pure]
    · rw [if_neg hh]
      have hf : ((x0 == y0) && (x1 == y1) && (x2 == y2) && (x3 == y3) && (x4 == y4) && (x5 == y5) && (x6 == y6) && (x7 == y7) && (x8 == y8) && (x9 == y9)) = false := by
        rw [Bool.eq_false_iff]; intro hc; exact hh (by simpa [and_assoc] using hc)
      rw [hf]; rfl
  · intro k hk w
    have hk2 : k < 10 := by simpa using hk
    rcases (show k = 0 ∨ k = 1 ∨ k = 2 ∨ k = 3 ∨ k = 4 ∨ k = 5 ∨ k = 6 ∨ k = 7 ∨ k = 8 ∨ k = 9 by omega) with rfl | rfl | rfl | rfl | rfl | rfl | rfl | rfl | rfl | rfl
    all_goals simp [Sem.run_bind, p0, q0, p1, q1, p2, q2, p3, q3, p4, q4, p5, q5, p6, q6, p7, q7, p8, q8, p9, q9, he, Result.andThen]
    all_goals (split <;> simp_all)
theorem run_equal_ten_at (x0 x1 x2 x3 x4 x5 x6 x7 x8 x9 y0 y1 y2 y3 y4 y5 y6 y7 y8 y9 : Int) : ∀ w : World, (Op.equalIn 10000 88 (.agg #[.int .u8 x0, .int .u8 x1, .int .u8 x2, .int .u8 x3, .int .u8 x4, .int .u8 x5, .int .u8 x6, .int .u8 x7, .int .u8 x8, .int .u8 x9]) (.agg #[.int .u8 y0, .int .u8 y1, .int .u8 y2, .int .u8 y3, .int .u8 y4, .int .u8 y5, .int .u8 y6, .int .u8 y7, .int .u8 y8, .int .u8 y9])).run Tryd.prog w = .ok ((x0 == y0) && (x1 == y1) && (x2 == y2) && (x3 == y3) && (x4 == y4) && (x5 == y5) && (x6 == y6) && (x7 == y7) && (x8 == y8) && (x9 == y9)) w :=
  fun w => run_equal_ten x0 x1 x2 x3 x4 x5 x6 x7 x8 x9 y0 y1 y2 y3 y4 y5 y6 y7 y8 y9 9998 w
theorem guard_ten : Tryd.prog.eqGuardType Tryd.prog.depth 88 = false := by kernel_rfl
end Go.Proofs.YtbjcldekapipaaaDoor
