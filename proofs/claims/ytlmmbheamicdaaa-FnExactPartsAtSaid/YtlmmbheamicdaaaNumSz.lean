/-
  The size of a number's kind: the model's NumSize, and the program's, which looks it up in a map.
-/
import Derived.Test.YtlmmbheamicdaaaStrsP
import Derived.Maps.OwnOps
import Derived.Maps.Views
import Derived.Carry
namespace Go.Proofs.Ytlmmbheamicdaaa
open Go.ChangeShapes Go.WideShapes Go.ChangeAt Go.RowKit Go.Deep Go.Maps

def numSz (k : Int) : Int := if k = 2 ∨ k = 3 ∨ k = 4 then 1 else if k = 5 ∨ k = 6 then 2 else if k = 7 ∨ k = 8 ∨ k = 10 ∨ k = 20 ∨ k = 21 ∨ k = 22 ∨ k = 23 then 4 else if k = 9 then 8 else 0
def numTable : List (Int × Int) := [(2, 1), (3, 1), (4, 1), (5, 2), (6, 2), (7, 4), (8, 4), (10, 4), (20, 4), (21, 4), (22, 4), (23, 4), (9, 8)]
def numMap (D : DataW Unit) (l : List (Int × Int)) : DataW Unit := l.foldl (fun D p => D.put (.int .i64 p.1) (.lit (.int .i64 p.2))) D
theorem numMap_at (k : Int) : ∀ (l : List (Int × Int)) (D : DataW Unit) (c : Int), IsMap D → D.atKey (.int .i64 k) (.lit (.int .i64 0)) = .lit (.int .i64 c) → (numMap D l).atKey (.int .i64 k) (.lit (.int .i64 0)) = .lit (.int .i64 (l.foldl (fun a p => if k = p.1 then p.2 else a) c))
  | [], _, _, _, h => h
  | p :: l, D, c, hD, h => by
    refine numMap_at k l (D.put (.int .i64 p.1) (.lit (.int .i64 p.2))) (if k = p.1 then p.2 else c) (hD.put _ _) ?_
    by_cases e : k = p.1
    · rw [if_pos e, ← e]
      exact atKey_put_same hD (by trivial) _ _
    · rw [if_neg e, atKey_put_other (fun e2 => by
        injection e2 with _ e3
        exact e e3)]
      exact h
theorem numSz_table (k : Int) : numTable.foldl (fun a p => if k = p.1 then p.2 else a) 0 = numSz k := by
  by_cases e2 : k = 2
  · subst e2
    decide
  by_cases e3 : k = 3
  · subst e3
    decide
  by_cases e4 : k = 4
  · subst e4
    decide
  by_cases e5 : k = 5
  · subst e5
    decide
  by_cases e6 : k = 6
  · subst e6
    decide
  by_cases e7 : k = 7
  · subst e7
    decide
  by_cases e8 : k = 8
  · subst e8
    decide
  by_cases e10 : k = 10
  · subst e10
    decide
  by_cases e20 : k = 20
  · subst e20
    decide
  by_cases e21 : k = 21
  · subst e21
    decide
  by_cases e22 : k = 22
  · subst e22
    decide
  by_cases e23 : k = 23
  · subst e23
    decide
  by_cases e9 : k = 9
  · subst e9
    decide
  simp only [numTable, List.foldl_cons, List.foldl_nil, numSz, e2, e3, e4, e5, e6, e7, e8, e10, e20, e21, e22, e23, e9, if_false, or_self]
theorem keyedI64 : Keyed Try.prog 2 := int_keyed Try.underlying2
theorem zeroI64 (w : World) : (zeroValue 2).run Try.prog w = .ok (.int .i64 0) w := by kernel_rfl
/-- 'm[k] = v' of a map's literal, at the operation. -/
theorem wpList_insert_own {H : Type} {P : Program} (w : World) {ops : Array Oper} {rest : List Oper} {o : Oper} {a : Act} {Q : Exit → Act → World → Prop}
    (hg : o.guard = none) (m x v : Operand) (t : TypeId) (hop : o.op = Op.insert t m x v)
    (k e : TypeId) (K : Keyed P k) (ht : P.underlying t = some (.map k e)) (R : Value → Option (DataW H × List MemPlace)) (b n : Nat) (D : DataW H)
    (hm : a.eval m = .map (some b)) (hown : w.ownsMap P k R b n D) (hn : n < maxLen) (key val : Value) (kl : Lit) (hx : a.eval x = key) (hv : a.eval v = val) (hkey : keyOf P k key = some kl)
    (d : DataW H) (ps : List MemPlace) (hval : R val = some (d, ps))
    (hK : ∀ w', w'.ownsMap P k R b (n + 1) (D.put kl d) → w.grownBy w' (some b) → wpList P ops Q rest (a.put o.dst undef) w') :
    wpList P ops Q (o :: rest) a w := by
  refine wpList_plain hg fun K' hK' => ?_
  obtain ⟨w', hrun, r1, r2⟩ := hown.update K ht hn hkey hval
  unfold Oper.wp
  simp [execOp, hop, hm, hx, hv, hrun, Result.andThen]
  exact hK' _ _ (hK w' r1 r2)

set_option maxHeartbeats 1000000 in
theorem specNumSize_any (k : Int) (w : World) :
    Calls Try.prog 84 #[.int .i64 k] w fun e w' => e = .returned (.int .i64 (numSz k)) ∧ Below w.heap.size w w' := by
  obtain ⟨Q, hQ⟩ : ∃ Q, numSz k = Q := ⟨_, rfl⟩
  rw [hQ]
  go_enter Try.func84, Try.ntmps84
  go_wp2
  all_goals go_ret
  all_goals refine ⟨ret_int ?_, Below.refl _ _⟩
  all_goals rw [← hQ]
  all_goals simp only [beq_iff_eq, beq_eq_false_iff_ne, ne_eq] at *
  all_goals unfold numSz
  all_goals (repeat' split) <;> omega

def NumMapPost (w : World) (e : Ending) (w' : World) : Prop := ∃ m : Nat, e = .returned (.map (some m)) ∧ w'.ownsMap Try.prog 2 (plainElem (H := Unit) Try.prog 2) m 13 (numMap (.map []) numTable) ∧ Below w.heap.size w w'
set_option maxHeartbeats 1000000 in
set_option maxRecDepth 100000 in
theorem numSizes_any (w : World) : Calls Try.prog 105 #[] w (NumMapPost w) := by
  have hmm := @run_makeMap Try.prog
  go_enter Try.func105, Try.ntmps105
  have h0 := World.ownsMap_made (H := Unit) w Try.prog 2 (plainElem Try.prog 2)
  have HB : Hid (Below w.heap.size w (w.alloc (.map #[] 0))) := Lib.hid ((Below.refl _ _).alloc (Nat.le_refl _) _)
  go_wp2_with (refine wpList_insert_own _ rfl _ _ _ 100 rfl 2 2 keyedI64 Try.underlying100 _ w.heap.size _ _ rfl (by assumption) (by unfold maxLen; omega) _ _ _ rfl rfl (keyOf_int_mk Try.underlying2 (WalkArith.wf_i64 (by omega))) _ [] (plainElem_int Try.underlying2 (WalkArith.wf_i64 (by omega))) ?_; intro w3 hown3 hgrow3; have HB3 : Hid (Below w.heap.size w w3) := Lib.hid (Below.grown (Hid.out (by assumption)) hgrow3 (Below.size (Hid.out (by assumption))) (fun j hj => by cases hj; exact Nat.le_refl _)))
  go_ret
  exact ⟨_, rfl, by assumption, by first | exact HB3.out | exact Hid.out (by assumption)⟩

set_option maxHeartbeats 1000000 in
set_option maxRecDepth 100000 in
theorem implNumSize_any (k : Int) (hk : -9223372036854775808 ≤ k ∧ k ≤ 9223372036854775807) (w : World) :
    Calls Try.prog 88 #[.int .i64 k] w fun e w' => e = .returned (.int .i64 (numSz k)) ∧ Below w.heap.size w w' := by
  have CM := Lib.hid (fun W => numSizes_any W)
  obtain ⟨Q, hQ⟩ : ∃ Q, numSz k = Q := ⟨_, rfl⟩
  rw [hQ]
  have HQ := Lib.hid hQ
  obtain ⟨k0, k1⟩ := hk
  have HK : Hid (keyOf Try.prog 2 (.int .i64 k) = some (.int .i64 k)) := Lib.hid (keyOf_int_mk Try.underlying2 (WalkArith.wf_i64 (by omega)))
  clear hQ
  go_enter Try.func88, Try.ntmps88
  go_wp2_with fail
  go_at_call 105
  refine (CM.out _).mono ?_
  rintro e w2 ⟨m, rfl, hown, hb⟩
  have HB := Lib.hid hb
  have HO := Lib.hid hown
  clear hb hown
  go_wp2_with (at_lookup; refine wpList_lookup_own_int _ rfl _ _ 100 rfl 2 2 .i64 keyedI64 Try.underlying100 Try.underlying2 (zeroI64 _) m _ _ rfl HO.out _ _ rfl HK.out ?_; intro c hat hwc; obtain rfl : c = Q := (by
    have h1 := numMap_at k numTable (.map []) 0 ⟨_, rfl⟩ rfl
    rw [numSz_table, HQ.out] at h1
    rw [h1] at hat
    injection hat with hat
    injection hat with _ hat
    exact hat.symm))
  go_ret
  exact ⟨rfl, HB.out⟩
end Go.Proofs.Ytlmmbheamicdaaa
