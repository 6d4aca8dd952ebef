/-
  A call of b10At: some number of a range; nothing is changed.
-/
import Derived.Test.YtoeofhhmkkpjbaaMSrc
namespace Go.Proofs.Ytoeofhhmkkpjbaa
open Go.ChangeShapes Go.WideShapes Go.ChangeAt Go.RowKit

/-- Some number below n, and the same world. -/
def AtPost (n : Int) (W : World) (e : Ending) (w' : World) : Prop := ∃ r : Int, e = .returned (.int .i64 r) ∧ 0 ≤ r ∧ r < n ∧ W = w'
theorem at_one (R : Option Addr) (m c : Nat) (i : Nat) (W : World) :
    Calls Try.prog 13 #[.slice R m c, .int .i64 i, .int .i64 1] W (AtPost 1 W) := by
  go_enter Try.func13, Try.ntmps13
  go_wp2
  go_ret
  exact ⟨0, rfl, by omega, by omega, rfl⟩
theorem at_past (R : Option Addr) (m c : Nat) (i : Nat) (hi : i ≤ 1000) (him : m ≤ i) (n : Int) (hn : 1 < n) (W : World) :
    Calls Try.prog 13 #[.slice R m c, .int .i64 i, .int .i64 n] W (AtPost n W) := by
  have h1 : ¬ n ≤ 1 := by omega
  have h2 : ¬ (i : Int) < (m : Int) := by omega
  have h3 : (n == 0) = false := beq_eq_false_iff_ne.mpr (by omega)
  go_enter Try.func13, Try.ntmps13
  go_wp2
  go_ret
  exact ⟨_, rfl, Int.emod_nonneg _ (by omega), Int.emod_lt_of_pos _ (by omega), rfl⟩
theorem at_in (b o m c : Nat) (i : Nat) (_hi : i ≤ 1000) (him : i < m) (x : Int) (x0 : 0 ≤ x) (x1 : x < 256) (n : Int) (hn : 1 < n) (W : World) (hx : W.cell? ⟨b, o + i, none⟩ = some (.int .u8 x)) :
    Calls Try.prog 13 #[.slice (some ⟨b, o, none⟩) m c, .int .i64 i, .int .i64 n] W (AtPost n W) := by
  have h1 : ¬ n ≤ 1 := by omega
  have h2 : (i : Int) < (m : Int) := by omega
  have h3 : (n == 0) = false := beq_eq_false_iff_ne.mpr (by omega)
  go_enter Try.func13, Try.ntmps13
  go_wp2
  go_ret
  exact ⟨_, rfl, Int.emod_nonneg _ (by omega), Int.emod_lt_of_pos _ (by omega), rfl⟩
theorem at_any (R : Option Addr) (m c : Nat) (i : Nat) (hi : i ≤ 1000) (n : Int) (hn : 1 ≤ n) (W : World) (h : CodeOk W (.slice R m c)) :
    Calls Try.prog 13 #[.slice R m c, .int .i64 i, .int .i64 n] W (AtPost n W) := by
  by_cases h1 : n = 1
  · subst h1
    exact at_one R m c i W
  · by_cases h2 : m ≤ i
    · exact at_past R m c i hi h2 n (by omega) W
    · rcases h with ⟨R', c', e⟩ | ⟨b, o, m', c', e, _, _, hx⟩
      · injection e with _ e2 _
        omega
      · injection e with e1 e2 e3
        subst e1
        subst e2
        subst e3
        obtain ⟨x, x0, x1, x2⟩ := hx i (by omega)
        exact at_in b o m c i hi (by omega) x x0 x1 n (by omega) W x2
/-- The same number in every world in which the bytes lie. -/
theorem at_det (R : Option Addr) (m c : Nat) (i : Nat) (hi : i ≤ 1000) (n : Int) (hn : 1 < n) (W : World) (h : CodeOk W (.slice R m c)) :
    ∃ q : Int, (0 ≤ q ∧ q < n) ∧ ∀ W', Below W.heap.size W W' → Calls Try.prog 13 #[.slice R m c, .int .i64 i, .int .i64 n] W' fun e w' => e = .returned (.int .i64 q) ∧ W' = w' := by
  have h1 : ¬ n ≤ 1 := by omega
  have h3 : (n == 0) = false := beq_eq_false_iff_ne.mpr (by omega)
  by_cases h2 : m ≤ i
  · refine ⟨((i : Int) * 37 + 11) % n, ⟨Int.emod_nonneg _ (by omega), Int.emod_lt_of_pos _ (by omega)⟩, fun W' hb => ?_⟩
    have h2 : ¬ (i : Int) < (m : Int) := by omega
    go_enter Try.func13, Try.ntmps13
    go_wp2
    go_ret
    exact ⟨rfl, rfl⟩
  · rcases h with ⟨R', c', e⟩ | ⟨b, o, m', c', e, _, _, hx⟩
    · injection e with _ e2 _
      omega
    · injection e with e1 e2 e3
      subst e1
      subst e2
      subst e3
      obtain ⟨x, x0, x1, x2⟩ := hx i (by omega)
      refine ⟨x % n, ⟨Int.emod_nonneg _ (by omega), Int.emod_lt_of_pos _ (by omega)⟩, fun W' hb => ?_⟩
      have h2 : (i : Int) < (m : Int) := by omega
      have x3 := keepCell hb x2
      go_enter Try.func13, Try.ntmps13
      go_wp2
      go_ret
      exact ⟨rfl, rfl⟩
end Go.Proofs.Ytoeofhhmkkpjbaa
