/-
  The names of trap codes: the table of the program, the walks of both TrapWord, and the law.
-/
import Derived.Test.YtbjcldekapipaaaDoorIn
import Derived.Lib.LaidTab
import Derived.OpenShut
namespace Go.Proofs.YtbjcldekapipaaaDoor
open Go.ChangeShapes Go.WideShapes Go.ChangeAt Go.RowKit

/-- The names, as Go's bytes. -/
def trWs : List (List UInt8) := [[], [122, 101, 114, 111], [109, 101, 109, 111, 114, 121], [100, 101, 112, 116, 104], [99, 111, 100, 101]]
def trB (i : Nat) : ByteArray := ⟨(trWs.getD i []).toArray⟩
/-- What the row's list gives: the table's cells hold the names. -/
def TrTab (w : World) : Prop := ∀ i, i < 5 → w.cell? ⟨0, i, none⟩ = some (.string (trB i))
theorem TrTab.keep {w w' : World} (h : TrTab w) (hb : Below w.heap.size w w') : TrTab w' := fun i hi => keepCell hb (h i hi)
theorem gTr : Tryd.prog.globalNamed "loop.example/g00901/impl.trapWords" = some 0 := by kernel_rfl
theorem gTrType : (Tryd.prog.globals[0]?).map (·.type) = some 60 := by kernel_rfl
theorem cellsTr : Tryd.prog.cellsOf 9 = 1 := by kernel_rfl
set_option maxRecDepth 100000 in
theorem trTab1 {W : World} (h0 : laidMet Tryd.prog [("loop.example/g00901/impl.trapWords", Rows.laid_loop_example_g00901_impl_trapWords)] W) : TrTab W := by
  obtain ⟨ps, ⟨g', t', cs, fuel, p, q, hg', ht', hvar, hd, _, _⟩, _⟩ := h0
  obtain rfl := Option.some.inj (gTr.symm.trans hg')
  obtain rfl := Option.some.inj (gTrType.symm.trans ht')
  obtain ⟨xs, m, rfl, hx, hlen, hxl, hi⟩ := DataW.trod_array Tryd.underlying60 hd
  intro i hi41
  have h1 := hi i hi41
  rw [cellsTr, Nat.mul_one] at h1
  rw [World.var?_cell gTr hvar i]
  have hxi : i < xs.length := by omega
  rw [List.getElem?_eq_getElem hxi] at h1
  obtain ⟨s, hs, hxs, _⟩ := DataW.trod_string Tryd.underlying9 h1
  have h2 : cs.toList[i]? = some (.string s) := by
    have h3 : ((cs.toList.drop i).take 1)[0]? = some (.string s) := by rw [hs]; rfl
    simpa using h3
  have h4 : cs[i]? = some (.string s) := by simpa using h2
  rw [h4]
  have h5 : (xs.map (·.1))[i]? = some (.lit (.string s.data.toList)) := by
    rw [List.getElem?_map, List.getElem?_eq_getElem hxi, hxs]; rfl
  have h6 : xs.map (·.1) = trWs.map fun l => DataW.lit (.string l) := by
    have h7 := congrArg Prod.fst hx
    simp only at h7
    injection h7 with h8
    exact h8.symm
  rw [h6, List.getElem?_map] at h5
  have h9 : trWs[i]? = some s.data.toList := by
    cases hw : trWs[i]? with
    | none => rw [hw] at h5; cases h5
    | some l =>
      rw [hw] at h5
      injection h5 with h5
      injection h5 with h5
      injection h5 with h5
      rw [h5]
  unfold trB
  rw [List.getD_eq_getElem?_getD, h9]
  rfl

/-- The name of a trap code. -/
def trW (n : Int) : ByteArray := if 1 ≤ n ∧ n ≤ 4 then trB n.toNat else ⟨#[]⟩

theorem implTrapWord_any (n : Int) (w : World) (ht : TrTab w) :
    Calls Tryd.prog 10 #[.int .i64 n] w fun e w' => e = .returned (.string (trW n)) ∧ w = w' := by
  by_cases h : 0 ≤ n ∧ n < 5
  · obtain ⟨k, rfl⟩ : ∃ k : Nat, n = k := ⟨n.toNat, by omega⟩
    have hk : k < 5 := by omega
    have hc := ht k hk
    have hr : trW (k : Int) = trB k := by
      unfold trW
      by_cases h1 : 1 ≤ (k : Int) ∧ (k : Int) ≤ 4
      · rw [if_pos h1, Int.toNat_natCast]
      · rw [if_neg h1]
        obtain rfl : k = 0 := by omega
        rfl
    rw [hr]
    have hk0 : ¬ ((k : Int) < 0) := by omega
    have hk1 : ¬ (5 ≤ (k : Int)) := by omega
    have hk2 : ((k : Int) < 5) := by omega
    clear ht hr h
    go_enter Tryd.func10, Tryd.ntmps10
    go_wp2
    go_ret
    exact ⟨rfl, rfl⟩
  · have hr : trW n = ⟨#[]⟩ := by
      unfold trW
      rw [if_neg (by omega)]
    rw [hr]
    clear ht hr
    by_cases h0 : n < 0
    · clear h
      go_enter Tryd.func10, Tryd.ntmps10
      go_wp2
      go_ret
      exact ⟨rfl, rfl⟩
    · have h1 : 5 ≤ n := by omega
      clear h
      go_enter Tryd.func10, Tryd.ntmps10
      go_wp2
      go_ret
      exact ⟨rfl, rfl⟩

theorem specTrapWord_any (n : Int) (w : World) :
    Calls Tryd.prog 9 #[.int .i64 n] w fun e w' => e = .returned (.string (trW n)) ∧ Below w.heap.size w w' := by
  by_cases h : 1 ≤ n ∧ n ≤ 4
  · have hn : n = 1 ∨ n = 2 ∨ n = 3 ∨ n = 4 := by omega
    clear h
    rcases hn with rfl | rfl | rfl | rfl
    all_goals
      go_enter Tryd.func9, Tryd.ntmps9
      go_wp2_with (go_at_call 35; refine (l00In_yes _ _ _ _ (by omega) (by omega)).mono ?_; rintro e w' ⟨rfl, rfl⟩)
      go_ret
      exact ⟨rfl, below1 _ _⟩
  · have hr : trW n = ⟨#[]⟩ := by
      unfold trW
      rw [if_neg h]
    rw [hr]
    go_enter Tryd.func9, Tryd.ntmps9
    go_wp2_with (go_at_call 35; refine (l00In_no _ _ _ _ (by omega)).mono ?_; rintro e w' ⟨rfl, rfl⟩)
    go_ret
    exact ⟨rfl, Below.refl _ _⟩

theorem fnExactTrapWordLaw (n : Int) (w : World) (ht : TrTab w) :
    Calls Tryd.prog 3 #[.int .i64 n] w fun e w' => e = .returned (.bool true) ∧ Below w.heap.size w w' := by
  have CS := Lib.hid (fun W => specTrapWord_any n W)
  have CI := Lib.hid (fun W hb => implTrapWord_any n W (ht.keep hb))
  clear ht
  generalize trW n = T at *
  go_enter Tryd.func3, Tryd.ntmps3
  go_wp2_with (first
    | (go_at_call 9; refine (CS.out _).mono ?_; rintro e wx ⟨rfl, hb⟩; have HB := Lib.hid hb; clear hb)
    | (go_at_call 10; refine (CI.out _ HB.out).mono ?_; rintro e wy ⟨rfl, rfl⟩))
  go_ret
  exact ⟨rfl, HB.out⟩
end Go.Proofs.YtbjcldekapipaaaDoor
