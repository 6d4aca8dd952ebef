/-
  The walk of the program's kindsOf, but for the types that have cases.
-/
import Derived.Test.YtlmmbheamicdaabSeqC
import Derived.Test.YtlmmbheamicdaabFlatT
namespace Go.Proofs.Ytlmmbheamicdaab
open Go.ChangeShapes Go.WideShapes Go.ChangeAt Go.RowKit Go.Deep

set_option maxHeartbeats 1000000 in
theorem kindI_1 (T : Ty) (e : T.kind = 1) (lo : Nat) : KindI lo T := by
  intro A B ca cb w _
  have hv : T.flat = [] := by rw [Ty.flat_eq, e]; rfl
  rw [hv, e]
  clear hv e
  generalize T.labels.length = nl at *
  generalize T.kids.length = nk at *
  generalize T.name = nm at *
  go_enter Try.func53, Try.ntmps53
  go_wp2_with fail
  go_ret
  exact ⟨none, 0, 0, rfl, ⟨rfl, World.ownsRow_nil _ _ _ _⟩, below1 _ _⟩
set_option maxHeartbeats 1000000 in
theorem kindI_9 (T : Ty) (e : T.kind = 9) (lo : Nat) : KindI lo T := by
  intro A B ca cb w _
  have hv : T.flat = [2] := by rw [Ty.flat_eq, e]; rfl
  rw [hv, e]
  clear hv e
  generalize T.labels.length = nl at *
  generalize T.kids.length = nk at *
  generalize T.name = nm at *
  go_enter Try.func53, Try.ntmps53
  go_wp2_with fail
  go_ret
  exact ⟨_, _, _, rfl, OwnF.lit2 w _ [2] (by decide), (below1 _ _).alloc (below1 _ _).size _⟩
set_option maxHeartbeats 1000000 in
theorem kindI_11 (T : Ty) (e : T.kind = 11) (lo : Nat) : KindI lo T := by
  intro A B ca cb w _
  have hv : T.flat = [1, 1] := by rw [Ty.flat_eq, e]; rfl
  rw [hv, e]
  clear hv e
  generalize T.labels.length = nl at *
  generalize T.kids.length = nk at *
  generalize T.name = nm at *
  go_enter Try.func53, Try.ntmps53
  go_wp2_with fail
  go_ret
  exact ⟨_, _, _, rfl, OwnF.lit2 w _ [1, 1] (by decide), (below1 _ _).alloc (below1 _ _).size _⟩
set_option maxHeartbeats 1000000 in
theorem kindI_12 (T : Ty) (e : T.kind = 12) (lo : Nat) : KindI lo T := by
  intro A B ca cb w _
  have hv : T.flat = [1, 1] := by rw [Ty.flat_eq, e]; rfl
  rw [hv, e]
  clear hv e
  generalize T.labels.length = nl at *
  generalize T.kids.length = nk at *
  generalize T.name = nm at *
  go_enter Try.func53, Try.ntmps53
  go_wp2_with fail
  go_ret
  exact ⟨_, _, _, rfl, OwnF.lit2 w _ [1, 1] (by decide), (below1 _ _).alloc (below1 _ _).size _⟩
set_option maxHeartbeats 1000000 in
theorem kindI_one (T : Ty) (h : T.kind ≠ 1 ∧ T.kind ≠ 9 ∧ T.kind ≠ 11 ∧ T.kind ≠ 12 ∧ T.kind ≠ 15 ∧ T.kind ≠ 16 ∧ T.kind ≠ 13 ∧ T.kind ≠ 14 ∧ T.kind ≠ 17) (lo : Nat) : KindI lo T := by
  intro A B ca cb w _
  obtain ⟨h1, h2, h3, h4, h5, h6, h7, h8, h9⟩ := h
  have hv : T.flat = [1] := by
    rw [Ty.flat_eq, if_neg h1, if_neg h2, if_neg (by omega), if_neg (by omega), if_neg (by omega)]
  rw [hv]
  clear hv
  generalize T.kind = k at *
  have d1 : (k == 1) = false := by rw [beq_eq_false_iff_ne]; exact h1
  have d2 : (k == 9) = false := by rw [beq_eq_false_iff_ne]; exact h2
  have d3 : (k == 11) = false := by rw [beq_eq_false_iff_ne]; exact h3
  have d4 : (k == 12) = false := by rw [beq_eq_false_iff_ne]; exact h4
  have d5 : (k == 15) = false := by rw [beq_eq_false_iff_ne]; exact h5
  have d6 : (k == 16) = false := by rw [beq_eq_false_iff_ne]; exact h6
  have d7 : (k == 13) = false := by rw [beq_eq_false_iff_ne]; exact h7
  have d8 : (k == 14) = false := by rw [beq_eq_false_iff_ne]; exact h8
  have d9 : (k == 17) = false := by rw [beq_eq_false_iff_ne]; exact h9
  clear h1 h2 h3 h4 h5 h6 h7 h8 h9
  generalize T.labels.length = nl at *
  generalize T.kids.length = nk at *
  generalize T.name = nm at *
  go_enter Try.func53, Try.ntmps53
  go_wp2_with fail
  go_ret
  exact ⟨_, _, _, rfl, OwnF.lit2 w _ [1] (by decide), (below1 _ _).alloc (below1 _ _).size _⟩
set_option maxHeartbeats 1000000 in
theorem kindI_15 (T : Ty) (e : T.kind = 15) (lo : Nat) (IK : ∀ (i : Nat) (t : Ty), T.kids[i]? = some t → KindI lo t) (hok : ∀ (i : Nat) (t : Ty), T.kids[i]? = some t → t.flat.length ≤ 60) (hl : T.kids.length ≤ 1000) : KindI lo T := by
  intro A B ca cb w hat
  have hv : T.flat = Ty.flats T.kids := by rw [Ty.flat_eq, e]; rfl
  have CF := Lib.hid (fun R m c W => flatKinds_any R m c W)
  have CC := Lib.hid (fun Bx W hB (h : Ty.RowAt W lo T.kids B) => collectKinds_any T.kids lo IK hok hl B cb Bx W hB h)
  have HR := Lib.hid hat.rowAt
  rw [hv, e]
  clear hv e hat IK hok hl
  generalize Ty.flats T.kids = P at *
  go_enter Try.func53, Try.ntmps53
  go_wp2_with fail
  go_at_call 44
  refine (CF.out _ _ _ _).mono ?_
  rintro e w2 ⟨rfl, rfl⟩
  have HB2 := Lib.hid (below2 w (.cells #[.int .i64 15, .string T.name, .slice A T.labels.length ca, .slice B T.kids.length cb] 30) (.cells #[.slice B T.kids.length cb] 27))
  go_wp2_with fail
  go_at_call 43
  refine (CC.out _ _ (by go_simp) (HR.out.below HB2.out)).mono ?_
  rintro e w3 ⟨R3, n3, c3, rfl, ho3, hb3⟩
  have HO3 := Lib.hid ho3
  have HB3 := Lib.hid (next6 HB2.out hb3)
  have hz := HB2.out.size
  clear ho3 hb3
  go_wp2_with fail
  go_ret
  exact ⟨R3, n3, c3, rfl, HO3.out.down hz, HB3.out⟩
set_option maxHeartbeats 1000000 in
theorem kindI_16 (T : Ty) (e : T.kind = 16) (lo : Nat) (IK : ∀ (i : Nat) (t : Ty), T.kids[i]? = some t → KindI lo t) (hok : ∀ (i : Nat) (t : Ty), T.kids[i]? = some t → t.flat.length ≤ 60) (hl : T.kids.length ≤ 1000) : KindI lo T := by
  intro A B ca cb w hat
  have hv : T.flat = Ty.flats T.kids := by rw [Ty.flat_eq, e]; rfl
  have CF := Lib.hid (fun R m c W => flatKinds_any R m c W)
  have CC := Lib.hid (fun Bx W hB (h : Ty.RowAt W lo T.kids B) => collectKinds_any T.kids lo IK hok hl B cb Bx W hB h)
  have HR := Lib.hid hat.rowAt
  rw [hv, e]
  clear hv e hat IK hok hl
  generalize Ty.flats T.kids = P at *
  go_enter Try.func53, Try.ntmps53
  go_wp2_with fail
  go_at_call 44
  refine (CF.out _ _ _ _).mono ?_
  rintro e w2 ⟨rfl, rfl⟩
  have HB2 := Lib.hid (below2 w (.cells #[.int .i64 16, .string T.name, .slice A T.labels.length ca, .slice B T.kids.length cb] 30) (.cells #[.slice B T.kids.length cb] 27))
  go_wp2_with fail
  go_at_call 43
  refine (CC.out _ _ (by go_simp) (HR.out.below HB2.out)).mono ?_
  rintro e w3 ⟨R3, n3, c3, rfl, ho3, hb3⟩
  have HO3 := Lib.hid ho3
  have HB3 := Lib.hid (next6 HB2.out hb3)
  have hz := HB2.out.size
  clear ho3 hb3
  go_wp2_with fail
  go_ret
  exact ⟨R3, n3, c3, rfl, HO3.out.down hz, HB3.out⟩
end Go.Proofs.Ytlmmbheamicdaab
