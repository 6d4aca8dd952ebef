/-
  Walks of measuring, copying and comparing slices of numbers, as rows of one-field structs.
-/
import Derived.Test.YtbjcldekapipaaaStIv
import Derived.Test.YtbjcldekapipaaaRowGen
import Derived.Test.YtbjcldekapipaaaStEx
import Derived.Test.YtbjcldekapipaaaI6
namespace Go.Proofs.Ytbjcldekapipaaa
open Go.ChangeShapes Go.WideShapes Go.ChangeAt Go.RowKit Go.Deep

theorem Iv.wts_zero : ∀ xs : List Iv, Iv.wts xs = 0
  | [] => rfl
  | x :: xs => by
    have h := Iv.wts_zero xs
    have h2 : x.wt = 0 := rfl
    simp only [Iv.wts]
    omega
theorem szInt64S_any (xs : List Iv) (hl : xs.length ≤ maxLen) (_hf : ∀ x ∈ xs, x.Fin) (left : Int) (h0 : 0 ≤ left) (h1 : left ≤ 1048576) (R : Option Addr) (cap lo : Nat) (w : World) (_h : Ivs w lo xs R) :
    Calls Try.prog 25 #[.slice R xs.length cap, .int .i64 left] w fun e w' => e = .returned (.int .i64 (leftOr (left - ((xs.length : Int) + Iv.wts xs)))) ∧ Below w.heap.size w w' := by
  unfold maxLen at hl
  rw [Iv.wts_zero]
  by_cases hn : left - (xs.length : Int) < 0
  · have hr := leftOr_neg (n := left - ((xs.length : Int) + 0)) (by omega)
    rw [hr]
    go_enter Try.func25, Try.ntmps25
    go_wp2
    go_ret
    exact ⟨rfl, Below.refl _ _⟩
  · have hr := leftOr_pos (n := left - ((xs.length : Int) + 0)) (by omega)
    rw [hr]
    have hn' : (xs.length : Int) ≤ left := by omega
    clear hn hr
    go_enter Try.func25, Try.ntmps25
    go_wp2
    go_ret
    exact ⟨ret_int (by omega), Below.refl _ _⟩

def ivl (xs : List Iv) : List Int := xs.map fun x => x.n
theorem ivl_length (xs : List Iv) : (ivl xs).length = xs.length := by simp [ivl]
theorem ivl_at {xs : List Iv} {i : Nat} {n : Int} (h : (ivl xs)[i]? = some n) : xs[i]? = some ⟨n⟩ := by
  unfold ivl at h
  rw [List.getElem?_map, Option.map_eq_some_iff] at h
  obtain ⟨x, hx, rfl⟩ := h
  exact hx
theorem ivl_of {xs : List Iv} {i : Nat} {x : Iv} (h : xs[i]? = some x) : (ivl xs)[i]? = some x.n := by
  unfold ivl
  rw [List.getElem?_map, h]
  rfl
theorem Ivs.row6 {w : World} {lo : Nat} {xs : List Iv} {R : Option Addr} (h : Ivs w lo xs R) : Row6 w (ivl xs) R := fun hp => by
  rw [ivl_length] at hp
  obtain ⟨b, o, e, _, hc⟩ := h hp
  exact ⟨b, o, e, fun i n hn => (hc i ⟨n⟩ (ivl_at hn)).c0_⟩
theorem Ivs.of_own6 {w : World} {lo g : Nat} {xs : List Iv} {R : Option Addr} (h : Own6 w (ivl xs) R g) (hg : lo ≤ g) : Ivs w lo xs R := fun hp => by
  obtain ⟨e, _, hc⟩ := h (by rw [ivl_length]; exact hp)
  refine ⟨g, 0, e, hg, fun i x hx => ⟨?_, Nat.le_refl _⟩⟩
  rw [Nat.zero_add]
  exact hc i x.n (ivl_of hx)

theorem toInt64S_any (xs : List Iv) (hl : xs.length ≤ 1048576) (_hw : ∀ (i : Nat) (x : Iv), xs[i]? = some x → x.wt ≤ 1048576) (R : Option Addr) (cap lo : Nat) (w : World) (h : Ivs w lo xs R) :
    Calls Try.prog 28 #[.slice R xs.length cap] w fun e w' => ∃ (R' : Option Addr) (c' : Nat), e = .returned (.slice R' xs.length c') ∧ Ivs w' w.heap.size xs R' ∧ Below w.heap.size w w' := by
  have hn := ivl_length xs
  have C := toI64_any (ivl xs) R cap (by omega) w h.row6
  rw [hn] at C
  refine C.mono fun e w' hp => ?_
  obtain ⟨R', c, g, rfl, hg, _, ho, hb⟩ := hp
  rw [hn]
  exact ⟨R', c, rfl, Ivs.of_own6 ho hg, hb⟩

theorem eqInt64S_any (xs : List Iv) (hl : xs.length ≤ 1048576) (_hw : ∀ (i : Nat) (x : Iv), xs[i]? = some x → x.wt ≤ 1048576) (R R' : Option Addr) (cap cap' lo lo' : Nat) (w : World) (h : Ivs w lo xs R) (h' : Ivs w lo' xs R') :
    Calls Try.prog 33 #[.slice R xs.length cap, .slice R' xs.length cap'] w fun e w' => e = .returned (.bool true) ∧ Below w.heap.size w w' := by
  have hn := ivl_length xs
  have C := eqI64_any (ivl xs) (by omega) R R' cap cap' w h.row6 h'.row6
  rw [hn] at C
  exact C
end Go.Proofs.Ytbjcldekapipaaa
