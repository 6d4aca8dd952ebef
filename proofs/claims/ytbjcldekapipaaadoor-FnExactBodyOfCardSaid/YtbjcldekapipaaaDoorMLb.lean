/-
  LebVal, ArrEq, Groups, L01Leb: in one text.
-/
import Derived.Test.YtbjcldekapipaaaDoorFixMath
import Derived.Test.YtbjcldekapipaaaDoorLebOf
import Derived.Test.YtbjcldekapipaaaDoorLebAt
import Derived.Test.YtbjcldekapipaaaDoorLebOfS
namespace Go.Proofs.YtbjcldekapipaaaDoor
open Go Go.RowKit

/-- The number of some groups, the least significant first. -/
def gv : List Int → Nat
  | [] => 0
  | b :: l => (b % 128).toNat + 128 * gv l
theorem gv_snoc (l : List Int) (b : Int) : gv (l ++ [b]) = gv l + (b % 128).toNat * 2 ^ (7 * l.length) := by
  induction l with
  | nil => simp [gv]
  | cons c l ih =>
    simp only [List.cons_append, gv, ih, List.length_cons]
    rw [show 7 * (l.length + 1) = 7 * l.length + 7 by omega, Nat.pow_add]
    rw [Nat.mul_add, Nat.add_assoc]; congr 2
    rw [Nat.mul_comm 128, Nat.mul_assoc]
theorem gv_lt (l : List Int) : gv l < 2 ^ (7 * l.length) := by
  induction l with
  | nil => simp [gv]
  | cons c l ih =>
    simp only [gv, List.length_cons]
    rw [show 7 * (l.length + 1) = 7 * l.length + 7 by omega, Nat.pow_add]
    have h1 : (c % 128).toNat < 128 := by omega
    omega
theorem gv_lebU (n : Nat) : gv (lebU n) = n := by
  induction n using Nat.strongRecOn with
  | _ n ih =>
    by_cases h : n < 128
    · rw [lebU_small n h]; simp [gv]; omega
    · rw [lebU_big n (by omega)]
      simp only [gv]
      rw [ih (n / 128) (by omega)]
      omega

/-- The shape of an encoding: the last byte, and it alone, is below 128. -/
def Shape (l : List Int) : Prop := ∃ p b, l = p ++ [b] ∧ b < 128 ∧ ∀ x ∈ p, 128 ≤ x
theorem shape_lebU (n : Nat) : Shape (lebU n) := by
  induction n using Nat.strongRecOn with
  | _ n ih =>
    by_cases h : n < 128
    · exact ⟨[], n, by rw [lebU_small n h]; rfl, by omega, by simp⟩
    · obtain ⟨p, b, e, hb, hp⟩ := ih (n / 128) (by omega)
      refine ⟨((n % 128 + 128 : Nat) : Int) :: p, b, by rw [lebU_big n (by omega), e]; rfl, hb, ?_⟩
      intro x hx
      rcases List.mem_cons.1 hx with rfl | hx
      · omega
      · exact hp x hx
theorem shape_lebS (n : Int) : Shape (lebS n) := by
  induction hk : n.natAbs using Nat.strongRecOn generalizing n with
  | _ k ih =>
    by_cases h : -64 ≤ n ∧ n < 64
    · exact ⟨[], n % 128, by rw [lebS_small n h.1 h.2]; rfl, by omega, by simp⟩
    · obtain ⟨p, b, e, hb, hp⟩ := ih (n / 128).natAbs (by omega) (n / 128) rfl
      refine ⟨(n % 128 + 128) :: p, b, by rw [lebS_big n (by omega), e]; rfl, hb, ?_⟩
      intro x hx
      rcases List.mem_cons.1 hx with rfl | hx
      · omega
      · exact hp x hx
theorem pd_of_lt (l : List Int) (j : Nat) (h : j < l.length) : pd l j = l[j] := by simp [pd, h]
/-- Two encodings of ten bytes at most are one where their forms are. -/
theorem shape_eq {l m : List Int} (hl : Shape l) (hm : Shape m) (hl10 : l.length ≤ 10) (hm10 : m.length ≤ 10) (h : ∀ j, j < 10 → pd l j = pd m j) : l = m := by
  obtain ⟨p, b, rfl, hb, hp⟩ := hl
  obtain ⟨q, c, rfl, hc, hq⟩ := hm
  simp only [List.length_append, List.length_singleton] at hl10 hm10
  have e : p.length = q.length := by
    rcases Nat.lt_trichotomy p.length q.length with h1 | h1 | h1
    · have h2 := h p.length (by omega)
      rw [pd_at, if_pos rfl, pd_at, if_neg (by omega), pd_of_lt q _ h1] at h2
      have := hq q[p.length] (List.getElem_mem h1)
      omega
    · exact h1
    · have h2 := h q.length (by omega)
      rw [pd_at, if_neg (by omega), pd_at, if_pos rfl, pd_of_lt p _ h1] at h2
      have := hp p[q.length] (List.getElem_mem h1)
      omega
  have hbc : b = c := by
    have h2 := h p.length (by omega)
    rw [pd_at, if_pos rfl, pd_at, if_pos e] at h2
    exact h2
  have hpq : p = q := by
    apply List.ext_getElem e
    intro j h1 h2
    have h3 := h j (by omega)
    rw [pd_at, if_neg (by omega), pd_at, if_neg (by omega), pd_of_lt p j h1, pd_of_lt q j h2] at h3
    exact h3
  rw [hbc, hpq]

/-- Is there a first place at which something holds? -/
theorem first_or_none (P : Nat → Prop) (N : Nat) : (∃ k, k < N ∧ P k ∧ ∀ j, j < k → ¬ P j) ∨ (∀ k, k < N → ¬ P k) := by
  induction N with
  | zero => exact .inr (fun k h => absurd h (by omega))
  | succ N ih =>
    rcases ih with ⟨k, hk, hp, hn⟩ | h
    · exact .inl ⟨k, by omega, hp, hn⟩
    · by_cases hN : P N
      · exact .inl ⟨N, by omega, hN, fun j hj => h j hj⟩
      · exact .inr (fun k hk => by
          rcases Nat.lt_or_ge k N with h1 | h1
          · exact h k h1
          · rw [show k = N by omega]; exact hN)

theorem u64_group (l : List Int) (j : Nat) (h : j < l.length) (hj : j ≤ 9) (b : Int) (hb : l.getD j 0 = b) :
    bits .or .u64 (gv (l.take j) : Int) ((b % 128) * 2 ^ (7 * j) % 18446744073709551616) = ((gv (l.take (j + 1)) % 18446744073709551616 : Nat) : Int) := by
  have hl : (l.take j).length = j := by rw [List.length_take]; omega
  have hg : l.getD j 0 = l[j] := by simp [List.getD_eq_getElem?_getD, h]
  have hlt := gv_lt (l.take j)
  rw [hl] at hlt
  rw [List.take_succ_eq_append_getElem h, gv_snoc, hl, ← hg, hb]
  have h64 : (2 : Nat) ^ 64 = 18446744073709551616 := by decide
  have e : (b % 128) * 2 ^ (7 * j) % 18446744073709551616 = (((b % 128).toNat * 2 ^ (7 * j) % 2 ^ 64 : Nat) : Int) := by
    rw [h64]
    have h1 : ((b % 128).toNat : Int) = b % 128 := Int.toNat_of_nonneg (by omega)
    rw [← h1]; simp
  rw [e, u64_or_join _ _ _ hlt (by omega), h64]
theorem i64_group (l : List Int) (j : Nat) (h : j < l.length) (hj : j ≤ 9) (b : Int) (hb : l.getD j 0 = b) :
    bits .or .i64 (wrap64 (gv (l.take j) : Int)) (wrap64 ((b % 128) * 2 ^ (7 * j))) = wrap64 (gv (l.take (j + 1)) : Int) := by
  have hl : (l.take j).length = j := by rw [List.length_take]; omega
  have hg : l.getD j 0 = l[j] := by simp [List.getD_eq_getElem?_getD, h]
  have hlt := gv_lt (l.take j)
  rw [hl] at hlt
  rw [List.take_succ_eq_append_getElem h, gv_snoc, hl, ← hg, hb]
  have e : (b % 128) * 2 ^ (7 * j) = (((b % 128).toNat * 2 ^ (7 * j) : Nat) : Int) := by
    have h1 : ((b % 128).toNat : Int) = b % 128 := Int.toNat_of_nonneg (by omega)
    rw [← h1]; simp
  rw [e, i64_or_join _ _ _ hlt (by omega)]
end Go.Proofs.YtbjcldekapipaaaDoor

namespace Go.Proofs.YtbjcldekapipaaaDoor
open Go.ChangeShapes Go.WideShapes Go.ChangeAt Go.RowKit

/-- A loop that ends at the first unequal pair. -/
theorem run_forIn_all {P : Program} (c : Nat → Bool) (f : Nat → Option Bool × Unit → Sem (ForInStep (Option Bool × Unit))) :
    ∀ (l : List Nat) (w : World), (∀ k ∈ l, ∀ w, (f k (none, ())).run P w = .ok (if c k then .yield (none, ()) else .done (some false, ())) w) →
      (forIn l (none, ()) f).run P w = .ok (if l.all c then (none, ()) else (some false, ())) w
  | [], w, _ => by simp [Sem.run_pure]
  | k :: l, w, h => by
    rw [List.forIn_cons, Sem.run_bind, h k (by simp) w, Result.andThen_ok]
    cases hk : c k with
    | false => simp [hk, Sem.run_pure]
    | true =>
      simp only [if_true, List.all_cons, hk, Bool.true_and]
      exact run_forIn_all c f l w (fun k hk => h k (by simp [hk]))

theorem run_equal_ten (x0 x1 x2 x3 x4 x5 x6 x7 x8 x9 y0 y1 y2 y3 y4 y5 y6 y7 y8 y9 : Int) (d : Nat) (w : World) :
    (Op.equalIn (d + 1 + 1) 88 (.agg #[.int .u8 x0, .int .u8 x1, .int .u8 x2, .int .u8 x3, .int .u8 x4, .int .u8 x5, .int .u8 x6, .int .u8 x7, .int .u8 x8, .int .u8 x9]) (.agg #[.int .u8 y0, .int .u8 y1, .int .u8 y2, .int .u8 y3, .int .u8 y4, .int .u8 y5, .int .u8 y6, .int .u8 y7, .int .u8 y8, .int .u8 y9])).run Tryd.prog w = .ok ((x0 == y0) && (x1 == y1) && (x2 == y2) && (x3 == y3) && (x4 == y4) && (x5 == y5) && (x6 == y6) && (x7 == y7) && (x8 == y8) && (x9 == y9)) w := by
  have p0 : ∀ w, (part 5 #[.int .u8 x0, .int .u8 x1, .int .u8 x2, .int .u8 x3, .int .u8 x4, .int .u8 x5, .int .u8 x6, .int .u8 x7, .int .u8 x8, .int .u8 x9] 0).run Tryd.prog w = .ok (.int .u8 x0) w := fun _ => by kernel_rfl
  have q0 : ∀ w, (part 5 #[.int .u8 y0, .int .u8 y1, .int .u8 y2, .int .u8 y3, .int .u8 y4, .int .u8 y5, .int .u8 y6, .int .u8 y7, .int .u8 y8, .int .u8 y9] 0).run Tryd.prog w = .ok (.int .u8 y0) w := fun _ => by kernel_rfl
  have p1 : ∀ w, (part 5 #[.int .u8 x0, .int .u8 x1, .int .u8 x2, .int .u8 x3, .int .u8 x4, .int .u8 x5, .int .u8 x6, .int .u8 x7, .int .u8 x8, .int .u8 x9] 1).run Tryd.prog w = .ok (.int .u8 x1) w := fun _ => by kernel_rfl
  have q1 : ∀ w, (part 5 #[.int .u8 y0, .int .u8 y1, .int .u8 y2, .int .u8 y3, .int .u8 y4, .int .u8 y5, .int .u8 y6, .int .u8 y7, .int .u8 y8, .int .u8 y9] 1).run Tryd.prog w = .ok (.int .u8 y1) w := fun _ => by kernel_rfl
  have p2 : ∀ w, (part 5 #[.int .u8 x0, .int .u8 x1, .int .u8 x2, .int .u8 x3, .int .u8 x4, .int .u8 x5, .int .u8 x6, .int .u8 x7, .int .u8 x8, .int .u8 x9] 2).run Tryd.prog w = .ok (.int .u8 x2) w := fun _ => by kernel_rfl
  have q2 : ∀ w, (part 5 #[.int .u8 y0, .int .u8 y1, .int .u8 y2, .int .u8 y3, .int .u8 y4, .int .u8 y5, .int .u8 y6, .int .u8 y7, .int .u8 y8, .int .u8 y9] 2).run Tryd.prog w = .ok (.int .u8 y2) w := fun _ => by kernel_rfl
  have p3 : ∀ w, (part 5 #[.int .u8 x0, .int .u8 x1, .int .u8 x2, .int .u8 x3, .int .u8 x4, .int .u8 x5, .int .u8 x6, .int .u8 x7, .int .u8 x8, .int .u8 x9] 3).run Tryd.prog w = .ok (.int .u8 x3) w := fun _ => by kernel_rfl
  have q3 : ∀ w, (part 5 #[.int .u8 y0, .int .u8 y1, .int .u8 y2, .int .u8 y3, .int .u8 y4, .int .u8 y5, .int .u8 y6, .int .u8 y7, .int .u8 y8, .int .u8 y9] 3).run Tryd.prog w = .ok (.int .u8 y3) w := fun _ => by kernel_rfl
  have p4 : ∀ w, (part 5 #[.int .u8 x0, .int .u8 x1, .int .u8 x2, .int .u8 x3, .int .u8 x4, .int .u8 x5, .int .u8 x6, .int .u8 x7, .int .u8 x8, .int .u8 x9] 4).run Tryd.prog w = .ok (.int .u8 x4) w := fun _ => by kernel_rfl
  have q4 : ∀ w, (part 5 #[.int .u8 y0, .int .u8 y1, .int .u8 y2, .int .u8 y3, .int .u8 y4, .int .u8 y5, .int .u8 y6, .int .u8 y7, .int .u8 y8, .int .u8 y9] 4).run Tryd.prog w = .ok (.int .u8 y4) w := fun _ => by kernel_rfl
  have p5 : ∀ w, (part 5 #[.int .u8 x0, .int .u8 x1, .int .u8 x2, .int .u8 x3, .int .u8 x4, .int .u8 x5, .int .u8 x6, .int .u8 x7, .int .u8 x8, .int .u8 x9] 5).run Tryd.prog w = .ok (.int .u8 x5) w := fun _ => by kernel_rfl
  have q5 : ∀ w, (part 5 #[.int .u8 y0, .int .u8 y1, .int .u8 y2, .int .u8 y3, .int .u8 y4, .int .u8 y5, .int .u8 y6, .int .u8 y7, .int .u8 y8, .int .u8 y9] 5).run Tryd.prog w = .ok (.int .u8 y5) w := fun _ => by kernel_rfl
  have p6 : ∀ w, (part 5 #[.int .u8 x0, .int .u8 x1, .int .u8 x2, .int .u8 x3, .int .u8 x4, .int .u8 x5, .int .u8 x6, .int .u8 x7, .int .u8 x8, .int .u8 x9] 6).run Tryd.prog w = .ok (.int .u8 x6) w := fun _ => by kernel_rfl
  have q6 : ∀ w, (part 5 #[.int .u8 y0, .int .u8 y1, .int .u8 y2, .int .u8 y3, .int .u8 y4, .int .u8 y5, .int .u8 y6, .int .u8 y7, .int .u8 y8, .int .u8 y9] 6).run Tryd.prog w = .ok (.int .u8 y6) w := fun _ => by kernel_rfl
  have p7 : ∀ w, (part 5 #[.int .u8 x0, .int .u8 x1, .int .u8 x2, .int .u8 x3, .int .u8 x4, .int .u8 x5, .int .u8 x6, .int .u8 x7, .int .u8 x8, .int .u8 x9] 7).run Tryd.prog w = .ok (.int .u8 x7) w := fun _ => by kernel_rfl
  have q7 : ∀ w, (part 5 #[.int .u8 y0, .int .u8 y1, .int .u8 y2, .int .u8 y3, .int .u8 y4, .int .u8 y5, .int .u8 y6, .int .u8 y7, .int .u8 y8, .int .u8 y9] 7).run Tryd.prog w = .ok (.int .u8 y7) w := fun _ => by kernel_rfl
  have p8 : ∀ w, (part 5 #[.int .u8 x0, .int .u8 x1, .int .u8 x2, .int .u8 x3, .int .u8 x4, .int .u8 x5, .int .u8 x6, .int .u8 x7, .int .u8 x8, .int .u8 x9] 8).run Tryd.prog w = .ok (.int .u8 x8) w := fun _ => by kernel_rfl
  have q8 : ∀ w, (part 5 #[.int .u8 y0, .int .u8 y1, .int .u8 y2, .int .u8 y3, .int .u8 y4, .int .u8 y5, .int .u8 y6, .int .u8 y7, .int .u8 y8, .int .u8 y9] 8).run Tryd.prog w = .ok (.int .u8 y8) w := fun _ => by kernel_rfl
  have p9 : ∀ w, (part 5 #[.int .u8 x0, .int .u8 x1, .int .u8 x2, .int .u8 x3, .int .u8 x4, .int .u8 x5, .int .u8 x6, .int .u8 x7, .int .u8 x8, .int .u8 x9] 9).run Tryd.prog w = .ok (.int .u8 x9) w := fun _ => by kernel_rfl
  have q9 : ∀ w, (part 5 #[.int .u8 y0, .int .u8 y1, .int .u8 y2, .int .u8 y3, .int .u8 y4, .int .u8 y5, .int .u8 y6, .int .u8 y7, .int .u8 y8, .int .u8 y9] 9).run Tryd.prog w = .ok (.int .u8 y9) w := fun _ => by kernel_rfl
  have hu := Tryd.underlying88
  have hz := sizeOfU8
  have he : ∀ (a b : Int) w, (Op.equalIn (d + 1) 5 (.int .u8 a) (.int .u8 b)).run Tryd.prog w = .ok (a == b) w := fun a b w => run_equalIn_int w d _ _ _ _ _ Tryd.underlying5
  rw [Op.equalIn]
  simp only [Sem.run_bind, run_underlying hu, Result.andThen_ok, hz]
  rw [Std.Legacy.Range.forIn_eq_forIn_range']
  rw [run_forIn_all (P := Tryd.prog) (fun k => [(x0 == y0), (x1 == y1), (x2 == y2), (x3 == y3), (x4 == y4), (x5 == y5), (x6 == y6), (x7 == y7), (x8 == y8), (x9 == y9)].getD k true)]
  · simp [List.range'_succ]
    by_cases hh : x0 = y0 ∧ x1 = y1 ∧ x2 = y2 ∧ x3 = y3 ∧ x4 = y4 ∧ x5 = y5 ∧ x6 = y6 ∧ x7 = y7 ∧ x8 = y8 ∧ x9 = y9
    · rw [if_pos hh]
      obtain ⟨rfl, rfl, rfl, rfl, rfl, rfl, rfl, rfl, rfl, rfl⟩ := hh
      simp [Sem.run_pure]
    · rw [if_neg hh]
      have hf : ((x0 == y0) && (x1 == y1) && (x2 == y2) && (x3 == y3) && (x4 == y4) && (x5 == y5) && (x6 == y6) && (x7 == y7) && (x8 == y8) && (x9 == y9)) = false := by
        rw [Bool.eq_false_iff]; intro hc; exact hh (by simpa [and_assoc] using hc)
      rw [hf]; rfl
  · intro k hk w
    have hk2 : k < 10 := by simpa using hk
    rcases (show k = 0 ∨ k = 1 ∨ k = 2 ∨ k = 3 ∨ k = 4 ∨ k = 5 ∨ k = 6 ∨ k = 7 ∨ k = 8 ∨ k = 9 by omega) with rfl | rfl | rfl | rfl | rfl | rfl | rfl | rfl | rfl | rfl
    all_goals simp [Sem.run_bind, p0, q0, p1, q1, p2, q2, p3, q3, p4, q4, p5, q5, p6, q6, p7, q7, p8, q8, p9, q9, he, Result.andThen]
    all_goals (split <;> simp_all)
theorem run_equal_ten_at (x0 x1 x2 x3 x4 x5 x6 x7 x8 x9 y0 y1 y2 y3 y4 y5 y6 y7 y8 y9 : Int) : ∀ w : World, (Op.equalIn 10000 88 (.agg #[.int .u8 x0, .int .u8 x1, .int .u8 x2, .int .u8 x3, .int .u8 x4, .int .u8 x5, .int .u8 x6, .int .u8 x7, .int .u8 x8, .int .u8 x9]) (.agg #[.int .u8 y0, .int .u8 y1, .int .u8 y2, .int .u8 y3, .int .u8 y4, .int .u8 y5, .int .u8 y6, .int .u8 y7, .int .u8 y8, .int .u8 y9])).run Tryd.prog w = .ok ((x0 == y0) && (x1 == y1) && (x2 == y2) && (x3 == y3) && (x4 == y4) && (x5 == y5) && (x6 == y6) && (x7 == y7) && (x8 == y8) && (x9 == y9)) w :=
  fun w => run_equal_ten x0 x1 x2 x3 x4 x5 x6 x7 x8 x9 y0 y1 y2 y3 y4 y5 y6 y7 y8 y9 9998 w
theorem guard_ten : Tryd.prog.eqGuardType Tryd.prog.depth 88 = false := by kernel_rfl
end Go.Proofs.YtbjcldekapipaaaDoor

namespace Go.Proofs.YtbjcldekapipaaaDoor
open Go.ChangeShapes Go.WideShapes Go.ChangeAt Go.RowKit

set_option maxRecDepth 100000 in
set_option maxHeartbeats 1000000 in
theorem groupsIn_any (x0 x1 x2 x3 x4 x5 x6 x7 x8 x9 : Int) (k : Nat) (w : World) (hk : k ≤ 10) (hb : ∀ x ∈ [x0, x1, x2, x3, x4, x5, x6, x7, x8, x9], 0 ≤ x ∧ x < 256) :
    Calls Tryd.prog 81 #[.agg #[.int .u8 x0, .int .u8 x1, .int .u8 x2, .int .u8 x3, .int .u8 x4, .int .u8 x5, .int .u8 x6, .int .u8 x7, .int .u8 x8, .int .u8 x9], .int .i64 k] w fun e w' => e = .returned (.int .u64 ((gv ([x0, x1, x2, x3, x4, x5, x6, x7, x8, x9].take k) % 18446744073709551616 : Nat) : Int)) ∧ Below w.heap.size w w' := by
  obtain ⟨l, hl⟩ : ∃ l, [x0, x1, x2, x3, x4, x5, x6, x7, x8, x9] = l := ⟨_, rfl⟩
  have hlen : l.length = 10 := by rw [← hl]; rfl
  have hcell : Hid (∀ j, j < 10 → (w.alloc (.cells #[.int .u8 x0, .int .u8 x1, .int .u8 x2, .int .u8 x3, .int .u8 x4, .int .u8 x5, .int .u8 x6, .int .u8 x7, .int .u8 x8, .int .u8 x9] 88)).cell? ⟨w.heap.size, j, none⟩ = some (.int .u8 (l.getD j 0))) := by
    intro j hj
    rw [World.cell?_alloc_new, ← hl]
    have h : j = 0 ∨ j = 1 ∨ j = 2 ∨ j = 3 ∨ j = 4 ∨ j = 5 ∨ j = 6 ∨ j = 7 ∨ j = 8 ∨ j = 9 := by omega
    rcases h with rfl | rfl | rfl | rfl | rfl | rfl | rfl | rfl | rfl | rfl <;> rfl
  rw [hl] at hb ⊢
  have HB := Lib.hid hb
  have HLEN := Lib.hid hlen
  clear hb hlen hl
  obtain ⟨r, hr⟩ : ∃ r : Int, ((gv (l.take k) % 18446744073709551616 : Nat) : Int) = r := ⟨_, rfl⟩
  rw [hr]
  have HR := Lib.hid hr
  clear hr
  go_enter Tryd.func81, Tryd.ntmps81
  go_wp2_with fail
  go_loop [5, 8] (fun v i => ∃ (j : Nat) (x : Int), j ≤ k ∧ v = .int .u64 x ∧ i = .int .i64 j ∧ x = ((gv (l.take j) % 18446744073709551616 : Nat) : Int)) (fun _ i => k - (intOf i).toNat)
  case atStart => exact ⟨0, 0, by omega, rfl, rfl, by simp [gv]⟩
  case round =>
    obtain ⟨j, x, hj, rfl, rfl, hx⟩ := hrel
    have HX := Lib.hid hx
    clear hx
    by_cases hlt : j < k
    · have hjk : (j : Int) < (k : Int) := by omega
      have hj10 : (j : Int) < 10 := by omega
      have hk10 : (k : Int) ≤ 10 := by omega
      have hc := hcell.out j (by omega)
      obtain ⟨b, hb⟩ : ∃ b, l.getD j 0 = b := ⟨_, rfl⟩
      rw [hb] at hc
      have hbm : 0 ≤ b ∧ b < 256 := by
        rw [← hb, List.getD_eq_getElem?_getD, List.getElem?_eq_getElem (by rw [HLEN.out]; omega)]
        exact HB.out _ (List.getElem_mem _)
      obtain ⟨hb0, hb1⟩ := hbm
      have hand := u8_and127 b hb0 hb1
      have hstep : Hid (bits .or .u64 x ((b % 128) * 2 ^ (7 * j) % 18446744073709551616) = ((gv (l.take (j + 1)) % 18446744073709551616 : Nat) : Int)) := by
        have h1 := gv_lt (l.take j)
        rw [List.length_take, Nat.min_eq_left (by rw [HLEN.out]; omega)] at h1
        have h2 : (2 : Nat) ^ (7 * j) ≤ 2 ^ 63 := Nat.pow_le_pow_right (by decide) (by omega)
        have h3 : (2 : Nat) ^ 63 = 9223372036854775808 := by decide
        have hx2 : x = (gv (l.take j) : Int) := by rw [HX.out, Nat.mod_eq_of_lt (by omega)]
        rw [hx2]
        exact u64_group l j (by rw [HLEN.out]; omega) (by omega) b hb
      have HBB := Lib.hid hb
      clear hb
      go_wp2_with fail
      go_round
      case rel => exact ⟨j + 1, _, by omega, rfl, by go_num, by rw [IntKind.wrap_u64]; exact hstep.out⟩
      case measure => simp [intOf]; omega
    · obtain rfl : j = k := by omega
      go_wp2_with fail
      go_ret
      exact ⟨ret_int (by rw [HX.out, HR.out]), below1 _ _⟩

set_option maxRecDepth 100000 in
set_option maxHeartbeats 2000000 in
theorem isShortU_yes (n : Nat) (x0 x1 x2 x3 x4 x5 x6 x7 x8 x9 : Int) (w : World) (hn : n < 128 ^ 10) (hn2 : (n : Int) < 18446744073709551616) (hx0 : pd (lebU n) 0 = x0) (hx1 : pd (lebU n) 1 = x1) (hx2 : pd (lebU n) 2 = x2) (hx3 : pd (lebU n) 3 = x3) (hx4 : pd (lebU n) 4 = x4) (hx5 : pd (lebU n) 5 = x5) (hx6 : pd (lebU n) 6 = x6) (hx7 : pd (lebU n) 7 = x7) (hx8 : pd (lebU n) 8 = x8) (hx9 : pd (lebU n) 9 = x9) :
    Calls Tryd.prog 85 #[.agg #[.int .u8 x0, .int .u8 x1, .int .u8 x2, .int .u8 x3, .int .u8 x4, .int .u8 x5, .int .u8 x6, .int .u8 x7, .int .u8 x8, .int .u8 x9], .int .u64 n, .func (.func 65) #[] #[]] w fun e w' => e = .returned (.bool true) ∧ Below w.heap.size w w' := by
  obtain ⟨y0, hy0⟩ : ∃ y, pd (lebU n) 0 = y := ⟨_, rfl⟩
  obtain ⟨y1, hy1⟩ : ∃ y, pd (lebU n) 1 = y := ⟨_, rfl⟩
  obtain ⟨y2, hy2⟩ : ∃ y, pd (lebU n) 2 = y := ⟨_, rfl⟩
  obtain ⟨y3, hy3⟩ : ∃ y, pd (lebU n) 3 = y := ⟨_, rfl⟩
  obtain ⟨y4, hy4⟩ : ∃ y, pd (lebU n) 4 = y := ⟨_, rfl⟩
  obtain ⟨y5, hy5⟩ : ∃ y, pd (lebU n) 5 = y := ⟨_, rfl⟩
  obtain ⟨y6, hy6⟩ : ∃ y, pd (lebU n) 6 = y := ⟨_, rfl⟩
  obtain ⟨y7, hy7⟩ : ∃ y, pd (lebU n) 7 = y := ⟨_, rfl⟩
  obtain ⟨y8, hy8⟩ : ∃ y, pd (lebU n) 8 = y := ⟨_, rfl⟩
  obtain ⟨y9, hy9⟩ : ∃ y, pd (lebU n) 9 = y := ⟨_, rfl⟩
  have C : Hid (∀ W, Calls Tryd.prog 64 #[.int .u64 n, .func (.func 65) #[] #[]] W fun e w' => e = .returned (.tuple #[.agg #[.int .u8 y0, .int .u8 y1, .int .u8 y2, .int .u8 y3, .int .u8 y4, .int .u8 y5, .int .u8 y6, .int .u8 y7, .int .u8 y8, .int .u8 y9], .int .i64 ((lebU n).length : Nat)]) ∧ Below W.heap.size W w') :=
    fun W => lebOfU_any n y0 y1 y2 y3 y4 y5 y6 y7 y8 y9 _ W hn hn2 hy0 hy1 hy2 hy3 hy4 hy5 hy6 hy7 hy8 hy9 rfl
  generalize ((lebU n).length : Nat) = q at *
  obtain rfl : x0 = y0 := hx0.symm.trans hy0
  obtain rfl : x1 = y1 := hx1.symm.trans hy1
  obtain rfl : x2 = y2 := hx2.symm.trans hy2
  obtain rfl : x3 = y3 := hx3.symm.trans hy3
  obtain rfl : x4 = y4 := hx4.symm.trans hy4
  obtain rfl : x5 = y5 := hx5.symm.trans hy5
  obtain rfl : x6 = y6 := hx6.symm.trans hy6
  obtain rfl : x7 = y7 := hx7.symm.trans hy7
  obtain rfl : x8 = y8 := hx8.symm.trans hy8
  obtain rfl : x9 = y9 := hx9.symm.trans hy9
  clear hx0 hy0 hx1 hy1 hx2 hy2 hx3 hy3 hx4 hy4 hx5 hy5 hx6 hy6 hx7 hy7 hx8 hy8 hx9 hy9 hn hn2
  go_enter Tryd.func85, Tryd.ntmps85
  go_wp2_with fail
  go_at_call 64
  refine (C.out _).mono ?_
  rintro e w1 ⟨rfl, hb⟩
  obtain ⟨hc, hf⟩ := bcell hb
  have hz : w.heap.size < w1.heap.size := by have := hb.size; simp at this; omega
  have hq := run_equal_ten_at x0 x1 x2 x3 x4 x5 x6 x7 x8 x9 x0 x1 x2 x3 x4 x5 x6 x7 x8 x9
  have hg := guard_ten
  go_wp2_with fail
  go_ret
  exact ⟨ret_bool (by simp), (bchain (below1 _ _) hb (by simp)).alloc (by omega) _⟩

set_option maxRecDepth 100000 in
set_option maxHeartbeats 2000000 in
theorem isShortU_no (n : Nat) (x0 x1 x2 x3 x4 x5 x6 x7 x8 x9 : Int) (w : World) (hn : n < 128 ^ 10) (hn2 : (n : Int) < 18446744073709551616) (hno : ¬ (pd (lebU n) 0 = x0 ∧ pd (lebU n) 1 = x1 ∧ pd (lebU n) 2 = x2 ∧ pd (lebU n) 3 = x3 ∧ pd (lebU n) 4 = x4 ∧ pd (lebU n) 5 = x5 ∧ pd (lebU n) 6 = x6 ∧ pd (lebU n) 7 = x7 ∧ pd (lebU n) 8 = x8 ∧ pd (lebU n) 9 = x9)) :
    Calls Tryd.prog 85 #[.agg #[.int .u8 x0, .int .u8 x1, .int .u8 x2, .int .u8 x3, .int .u8 x4, .int .u8 x5, .int .u8 x6, .int .u8 x7, .int .u8 x8, .int .u8 x9], .int .u64 n, .func (.func 65) #[] #[]] w fun e w' => e = .returned (.bool false) ∧ Below w.heap.size w w' := by
  obtain ⟨y0, hy0⟩ : ∃ y, pd (lebU n) 0 = y := ⟨_, rfl⟩
  obtain ⟨y1, hy1⟩ : ∃ y, pd (lebU n) 1 = y := ⟨_, rfl⟩
  obtain ⟨y2, hy2⟩ : ∃ y, pd (lebU n) 2 = y := ⟨_, rfl⟩
  obtain ⟨y3, hy3⟩ : ∃ y, pd (lebU n) 3 = y := ⟨_, rfl⟩
  obtain ⟨y4, hy4⟩ : ∃ y, pd (lebU n) 4 = y := ⟨_, rfl⟩
  obtain ⟨y5, hy5⟩ : ∃ y, pd (lebU n) 5 = y := ⟨_, rfl⟩
  obtain ⟨y6, hy6⟩ : ∃ y, pd (lebU n) 6 = y := ⟨_, rfl⟩
  obtain ⟨y7, hy7⟩ : ∃ y, pd (lebU n) 7 = y := ⟨_, rfl⟩
  obtain ⟨y8, hy8⟩ : ∃ y, pd (lebU n) 8 = y := ⟨_, rfl⟩
  obtain ⟨y9, hy9⟩ : ∃ y, pd (lebU n) 9 = y := ⟨_, rfl⟩
  have C : Hid (∀ W, Calls Tryd.prog 64 #[.int .u64 n, .func (.func 65) #[] #[]] W fun e w' => e = .returned (.tuple #[.agg #[.int .u8 y0, .int .u8 y1, .int .u8 y2, .int .u8 y3, .int .u8 y4, .int .u8 y5, .int .u8 y6, .int .u8 y7, .int .u8 y8, .int .u8 y9], .int .i64 ((lebU n).length : Nat)]) ∧ Below W.heap.size W w') :=
    fun W => lebOfU_any n y0 y1 y2 y3 y4 y5 y6 y7 y8 y9 _ W hn hn2 hy0 hy1 hy2 hy3 hy4 hy5 hy6 hy7 hy8 hy9 rfl
  generalize ((lebU n).length : Nat) = q at *
  rw [hy0, hy1, hy2, hy3, hy4, hy5, hy6, hy7, hy8, hy9] at hno
  have HNO := Lib.hid hno
  clear hno hy0 hy1 hy2 hy3 hy4 hy5 hy6 hy7 hy8 hy9 hn hn2
  go_enter Tryd.func85, Tryd.ntmps85
  go_wp2_with fail
  go_at_call 64
  refine (C.out _).mono ?_
  rintro e w1 ⟨rfl, hb⟩
  obtain ⟨hc, hf⟩ := bcell hb
  have hz : w.heap.size < w1.heap.size := by have := hb.size; simp at this; omega
  have hq := run_equal_ten_at x0 x1 x2 x3 x4 x5 x6 x7 x8 x9 y0 y1 y2 y3 y4 y5 y6 y7 y8 y9
  have hg := guard_ten
  go_wp2_with fail
  go_ret
  exact ⟨ret_bool (by rw [Bool.eq_false_iff]; intro hc; exact HNO.out (by simp at hc; omega)), (bchain (below1 _ _) hb (by simp)).alloc (by omega) _⟩

set_option maxRecDepth 100000 in
set_option maxHeartbeats 2000000 in
theorem isShortS_yes (n : Int) (x0 x1 x2 x3 x4 x5 x6 x7 x8 x9 : Int) (w : World) (hn : -(64 * 128 ^ 9 : Int) ≤ n ∧ n < (64 * 128 ^ 9 : Int)) (hn2 : -9223372036854775808 ≤ n ∧ n < 9223372036854775808) (hx0 : pd (lebS n) 0 = x0) (hx1 : pd (lebS n) 1 = x1) (hx2 : pd (lebS n) 2 = x2) (hx3 : pd (lebS n) 3 = x3) (hx4 : pd (lebS n) 4 = x4) (hx5 : pd (lebS n) 5 = x5) (hx6 : pd (lebS n) 6 = x6) (hx7 : pd (lebS n) 7 = x7) (hx8 : pd (lebS n) 8 = x8) (hx9 : pd (lebS n) 9 = x9) :
    Calls Tryd.prog 82 #[.agg #[.int .u8 x0, .int .u8 x1, .int .u8 x2, .int .u8 x3, .int .u8 x4, .int .u8 x5, .int .u8 x6, .int .u8 x7, .int .u8 x8, .int .u8 x9], .int .i64 n, .func (.func 63) #[] #[]] w fun e w' => e = .returned (.bool true) ∧ Below w.heap.size w w' := by
  obtain ⟨y0, hy0⟩ : ∃ y, pd (lebS n) 0 = y := ⟨_, rfl⟩
  obtain ⟨y1, hy1⟩ : ∃ y, pd (lebS n) 1 = y := ⟨_, rfl⟩
  obtain ⟨y2, hy2⟩ : ∃ y, pd (lebS n) 2 = y := ⟨_, rfl⟩
  obtain ⟨y3, hy3⟩ : ∃ y, pd (lebS n) 3 = y := ⟨_, rfl⟩
  obtain ⟨y4, hy4⟩ : ∃ y, pd (lebS n) 4 = y := ⟨_, rfl⟩
  obtain ⟨y5, hy5⟩ : ∃ y, pd (lebS n) 5 = y := ⟨_, rfl⟩
  obtain ⟨y6, hy6⟩ : ∃ y, pd (lebS n) 6 = y := ⟨_, rfl⟩
  obtain ⟨y7, hy7⟩ : ∃ y, pd (lebS n) 7 = y := ⟨_, rfl⟩
  obtain ⟨y8, hy8⟩ : ∃ y, pd (lebS n) 8 = y := ⟨_, rfl⟩
  obtain ⟨y9, hy9⟩ : ∃ y, pd (lebS n) 9 = y := ⟨_, rfl⟩
  have C : Hid (∀ W, Calls Tryd.prog 62 #[.int .i64 n, .func (.func 63) #[] #[]] W fun e w' => e = .returned (.tuple #[.agg #[.int .u8 y0, .int .u8 y1, .int .u8 y2, .int .u8 y3, .int .u8 y4, .int .u8 y5, .int .u8 y6, .int .u8 y7, .int .u8 y8, .int .u8 y9], .int .i64 ((lebS n).length : Nat)]) ∧ Below W.heap.size W w') :=
    fun W => lebOfS_any n y0 y1 y2 y3 y4 y5 y6 y7 y8 y9 _ W hn hn2 hy0 hy1 hy2 hy3 hy4 hy5 hy6 hy7 hy8 hy9 rfl
  generalize ((lebS n).length : Nat) = q at *
  obtain rfl : x0 = y0 := hx0.symm.trans hy0
  obtain rfl : x1 = y1 := hx1.symm.trans hy1
  obtain rfl : x2 = y2 := hx2.symm.trans hy2
  obtain rfl : x3 = y3 := hx3.symm.trans hy3
  obtain rfl : x4 = y4 := hx4.symm.trans hy4
  obtain rfl : x5 = y5 := hx5.symm.trans hy5
  obtain rfl : x6 = y6 := hx6.symm.trans hy6
  obtain rfl : x7 = y7 := hx7.symm.trans hy7
  obtain rfl : x8 = y8 := hx8.symm.trans hy8
  obtain rfl : x9 = y9 := hx9.symm.trans hy9
  clear hx0 hy0 hx1 hy1 hx2 hy2 hx3 hy3 hx4 hy4 hx5 hy5 hx6 hy6 hx7 hy7 hx8 hy8 hx9 hy9 hn hn2
  go_enter Tryd.func82, Tryd.ntmps82
  go_wp2_with fail
  go_at_call 62
  refine (C.out _).mono ?_
  rintro e w1 ⟨rfl, hb⟩
  obtain ⟨hc, hf⟩ := bcell hb
  have hz : w.heap.size < w1.heap.size := by have := hb.size; simp at this; omega
  have hq := run_equal_ten_at x0 x1 x2 x3 x4 x5 x6 x7 x8 x9 x0 x1 x2 x3 x4 x5 x6 x7 x8 x9
  have hg := guard_ten
  go_wp2_with fail
  go_ret
  exact ⟨ret_bool (by simp), (bchain (below1 _ _) hb (by simp)).alloc (by omega) _⟩

set_option maxRecDepth 100000 in
set_option maxHeartbeats 2000000 in
theorem isShortS_no (n : Int) (x0 x1 x2 x3 x4 x5 x6 x7 x8 x9 : Int) (w : World) (hn : -(64 * 128 ^ 9 : Int) ≤ n ∧ n < (64 * 128 ^ 9 : Int)) (hn2 : -9223372036854775808 ≤ n ∧ n < 9223372036854775808) (hno : ¬ (pd (lebS n) 0 = x0 ∧ pd (lebS n) 1 = x1 ∧ pd (lebS n) 2 = x2 ∧ pd (lebS n) 3 = x3 ∧ pd (lebS n) 4 = x4 ∧ pd (lebS n) 5 = x5 ∧ pd (lebS n) 6 = x6 ∧ pd (lebS n) 7 = x7 ∧ pd (lebS n) 8 = x8 ∧ pd (lebS n) 9 = x9)) :
    Calls Tryd.prog 82 #[.agg #[.int .u8 x0, .int .u8 x1, .int .u8 x2, .int .u8 x3, .int .u8 x4, .int .u8 x5, .int .u8 x6, .int .u8 x7, .int .u8 x8, .int .u8 x9], .int .i64 n, .func (.func 63) #[] #[]] w fun e w' => e = .returned (.bool false) ∧ Below w.heap.size w w' := by
  obtain ⟨y0, hy0⟩ : ∃ y, pd (lebS n) 0 = y := ⟨_, rfl⟩
  obtain ⟨y1, hy1⟩ : ∃ y, pd (lebS n) 1 = y := ⟨_, rfl⟩
  obtain ⟨y2, hy2⟩ : ∃ y, pd (lebS n) 2 = y := ⟨_, rfl⟩
  obtain ⟨y3, hy3⟩ : ∃ y, pd (lebS n) 3 = y := ⟨_, rfl⟩
  obtain ⟨y4, hy4⟩ : ∃ y, pd (lebS n) 4 = y := ⟨_, rfl⟩
  obtain ⟨y5, hy5⟩ : ∃ y, pd (lebS n) 5 = y := ⟨_, rfl⟩
  obtain ⟨y6, hy6⟩ : ∃ y, pd (lebS n) 6 = y := ⟨_, rfl⟩
  obtain ⟨y7, hy7⟩ : ∃ y, pd (lebS n) 7 = y := ⟨_, rfl⟩
  obtain ⟨y8, hy8⟩ : ∃ y, pd (lebS n) 8 = y := ⟨_, rfl⟩
  obtain ⟨y9, hy9⟩ : ∃ y, pd (lebS n) 9 = y := ⟨_, rfl⟩
  have C : Hid (∀ W, Calls Tryd.prog 62 #[.int .i64 n, .func (.func 63) #[] #[]] W fun e w' => e = .returned (.tuple #[.agg #[.int .u8 y0, .int .u8 y1, .int .u8 y2, .int .u8 y3, .int .u8 y4, .int .u8 y5, .int .u8 y6, .int .u8 y7, .int .u8 y8, .int .u8 y9], .int .i64 ((lebS n).length : Nat)]) ∧ Below W.heap.size W w') :=
    fun W => lebOfS_any n y0 y1 y2 y3 y4 y5 y6 y7 y8 y9 _ W hn hn2 hy0 hy1 hy2 hy3 hy4 hy5 hy6 hy7 hy8 hy9 rfl
  generalize ((lebS n).length : Nat) = q at *
  rw [hy0, hy1, hy2, hy3, hy4, hy5, hy6, hy7, hy8, hy9] at hno
  have HNO := Lib.hid hno
  clear hno hy0 hy1 hy2 hy3 hy4 hy5 hy6 hy7 hy8 hy9 hn hn2
  go_enter Tryd.func82, Tryd.ntmps82
  go_wp2_with fail
  go_at_call 62
  refine (C.out _).mono ?_
  rintro e w1 ⟨rfl, hb⟩
  obtain ⟨hc, hf⟩ := bcell hb
  have hz : w.heap.size < w1.heap.size := by have := hb.size; simp at this; omega
  have hq := run_equal_ten_at x0 x1 x2 x3 x4 x5 x6 x7 x8 x9 y0 y1 y2 y3 y4 y5 y6 y7 y8 y9
  have hg := guard_ten
  go_wp2_with fail
  go_ret
  exact ⟨ret_bool (by rw [Bool.eq_false_iff]; intro hc; exact HNO.out (by simp at hc; omega)), (bchain (below1 _ _) hb (by simp)).alloc (by omega) _⟩
end Go.Proofs.YtbjcldekapipaaaDoor

namespace Go.Proofs.YtbjcldekapipaaaDoor
open Go.ChangeShapes Go.WideShapes Go.ChangeAt Go.RowKit

theorem wrap64_small (n : Nat) (h : n < 9223372036854775808) : wrap64 (n : Int) = (n : Int) := by unfold wrap64; omega
theorem gv9 (l : List Int) (h : l.length ≤ 9) : gv l < 9223372036854775808 := by
  have h1 := gv_lt l
  have h2 : (2 : Nat) ^ (7 * l.length) ≤ 2 ^ 63 := Nat.pow_le_pow_right (by decide) (by omega)
  have h3 : (2 : Nat) ^ 63 = 9223372036854775808 := by decide
  omega
theorem nums_getD (s : ByteArray) (j : Nat) (h : j < s.size) : (nums s).getD j 0 = (s[j].toNat : Int) := by
  rw [List.getD_eq_getElem?_getD, List.getElem?_eq_getElem (by rw [nums_length]; exact h)]
  simp [nums]
  rfl

set_option maxRecDepth 100000 in
set_option maxHeartbeats 1000000 in
theorem l01Leb_yes (s : ByteArray) (k : Nat) (w : World) (hk : k < s.size) (hk9 : k < 9) (hpre : ∀ j, (h : j < k) → 128 ≤ ((s[j]'(by omega)).toNat : Int)) (hlast : (s[k].toNat : Int) < 128) (_hsz : (s.size : Int) ≤ 4294967296) :
    Calls Tryd.prog 66 #[.string s] w fun e w' => e = .returned (.tuple #[.int .i64 (gv ((nums s).take (k + 1)) : Nat), .int .i64 ((k : Int) + 1)]) ∧ w = w' := by
  have HP := Lib.hid hpre
  have HL := Lib.hid hlast
  clear hpre hlast
  obtain ⟨r, hr⟩ : ∃ r : Int, ((gv ((nums s).take (k + 1)) : Nat) : Int) = r := ⟨_, rfl⟩
  rw [hr]
  have HR := Lib.hid hr
  clear hr
  go_enter Tryd.func66, Tryd.ntmps66
  go_wp2_with fail
  go_loop [4, 5] (fun v i => ∃ (j : Nat) (x : Int), j ≤ k ∧ v = .int .i64 x ∧ i = .int .i64 j ∧ x = wrap64 (gv ((nums s).take j) : Nat)) (fun _ i => 10 - (intOf i).toNat)
  case atStart => exact ⟨0, 0, by omega, rfl, rfl, by simp [gv, wrap64]⟩
  case round =>
    obtain ⟨j, x, hj, rfl, rfl, hx⟩ := hrel
    have HX := Lib.hid hx
    clear hx
    have hjs : (j : Int) < (s.size : Int) := by omega
    have hj9 : (j : Int) < 9 := by omega
    have hx0 : 0 ≤ ((s[j].toNat : Nat) : Int) := by omega
    have hx1 : ((s[j].toNat : Nat) : Int) < 256 := by have := s[j].toNat_lt; omega
    have hand := u8_and127 _ hx0 hx1
    have hstep : Hid (bits .or .i64 x (wrap64 (((s[j].toNat : Nat) : Int) % 128 * 2 ^ (7 * j))) = wrap64 (gv ((nums s).take (j + 1)) : Nat)) := by
      show bits .or .i64 x (wrap64 (((s[j].toNat : Nat) : Int) % 128 * 2 ^ (7 * j))) = wrap64 (gv ((nums s).take (j + 1)) : Nat)
      rw [HX.out]
      exact i64_group (nums s) j (by rw [nums_length]; omega) (by omega) _ (nums_getD s j (by omega))
    by_cases hlt : j < k
    · have hbj := HP.out j hlt
      have hb8 : ¬ ((s[j].toNat : Nat) : Int) < 128 := by omega
      clear hbj
      go_wp2_with fail
      go_round
      case rel => exact ⟨j + 1, _, by omega, rfl, by go_num, hstep.out⟩
      case measure => simp [intOf]; omega
    · obtain rfl : j = k := by omega
      have hb8 : ((s[j].toNat : Nat) : Int) < 128 := HL.out
      go_wp2_with fail
      go_ret2
      refine ⟨?_, rfl⟩
      rw [hstep.out, wrap64_small _ (gv9 _ (by rw [List.length_take]; omega)), HR.out]
      rfl

set_option maxRecDepth 100000 in
set_option maxHeartbeats 1000000 in
theorem l01Leb_no (s : ByteArray) (w : World) (hpre : ∀ j, (h : j < s.size) → j < 9 → 128 ≤ ((s[j]'h).toNat : Int)) (hsz : (s.size : Int) ≤ 4294967296) :
    Calls Tryd.prog 66 #[.string s] w fun e w' => e = .returned (.tuple #[.int .i64 0, .int .i64 0]) ∧ w = w' := by
  have HP := Lib.hid hpre
  clear hpre
  go_enter Tryd.func66, Tryd.ntmps66
  go_wp2_with fail
  go_loop [4, 5] (fun v i => ∃ (j : Nat) (x : Int), (j ≤ 9 ∧ j ≤ s.size) ∧ v = .int .i64 x ∧ i = .int .i64 j) (fun _ i => 10 - (intOf i).toNat)
  case atStart => exact ⟨0, 0, by omega, rfl, rfl⟩
  case round =>
    obtain ⟨j, x, ⟨hj, hj2⟩, rfl, rfl⟩ := hrel
    by_cases hlt : j < s.size
    · have hjs : (j : Int) < (s.size : Int) := by omega
      by_cases hlt9 : j < 9
      · have hj9 : (j : Int) < 9 := by omega
        have hx0 : 0 ≤ ((s[j].toNat : Nat) : Int) := by omega
        have hx1 : ((s[j].toNat : Nat) : Int) < 256 := by have := s[j].toNat_lt; omega
        have hand := u8_and127 _ hx0 hx1
        have hbj := HP.out j hlt hlt9
        have hb8 : ¬ ((s[j].toNat : Nat) : Int) < 128 := by omega
        clear hbj
        go_wp2_with fail
        go_round
        case rel => exact ⟨j + 1, _, by omega, rfl, by go_num⟩
        case measure => simp [intOf]; omega
      · have hj9 : ¬ (j : Int) < 9 := by omega
        go_wp2_with fail
        go_ret2
        exact ⟨rfl, rfl⟩
    · have hjs : ¬ (j : Int) < (s.size : Int) := by omega
      go_wp2_with fail
      go_ret2
      exact ⟨rfl, rfl⟩
end Go.Proofs.YtbjcldekapipaaaDoor

