/-
  The law FnExactTextOk: the loop over the code points, and the law.
-/
import Derived.Test.YtfadodmkppeodabDoorUtfLaw
namespace Go.Proofs.YtfadodmkppeodabDoor
open Go.ChangeShapes Go.WideShapes Go.ChangeAt Go.RowKit

/-- What the model's l04Points leaves: some list, and whether all is told. -/
def PtsPost (R : Bool) (w : World) (e : Ending) (w' : World) : Prop := ∃ v : Value, e = .returned (.tuple #[v, .bool R]) ∧ Below w.heap.size w w'

theorem Tryd.infoI64 : (Tryd.prog.info? 2).map (fun i => (i.zero, i.size, i.bytes)) = some (some (.int .i64 0), 1, 8) := by kernel_rfl

instance (l : List UInt8) : Decidable (Bad l) := by unfold Bad; infer_instance

/-- An owned row is owned still. -/
theorem ownKeep {w w' : World} {base : Nat} {e : TypeId} {size : Nat} {v : Value} {n : Nat} {xs : List Value} (h : w.ownsRow base e size v n xs) (hb : Below w.heap.size w w') : w'.ownsRow base e size v n xs := by
  obtain ⟨h1, h2⟩ := h
  refine ⟨h1, ?_⟩
  rcases h2 with h2 | ⟨g, cap, cur, hv, hg, hh, r⟩
  · exact Or.inl h2
  · exact Or.inr ⟨g, cap, cur, hv, hg, by rw [← hh]; exact hb.block g (Array.getElem?_eq_some_iff.1 hh).1, r⟩
theorem own_snocI (l : List Int) (a : Int) : l.map (Value.int .i64) ++ [Value.int .i64 a] = (l ++ [a]).map (Value.int .i64) := by simp

theorem valid_step (k : Nat) (l : List UInt8) (h : l ≠ []) : Lib.validGoD (k + 1) l = if Bad l then false else Lib.validGoD k (l.drop (Lib.decodeL l).2) := by
  rw [Lib.validGoD, if_neg h]
  rfl

set_option maxRecDepth 100000 in
set_option maxHeartbeats 2000000 in
theorem points_any (s : ByteArray) (hs : s.size ≤ 24) (w : World) :
    Calls Tryd.prog 46 #[.string s] w (PtsPost (Lib.validD s.data.toList) w) := by
  obtain ⟨i0, hi0, hz0, hz1, hz2⟩ := info_parts Tryd.infoI64
  obtain ⟨R, hR⟩ : ∃ R, Lib.validD s.data.toList = R := ⟨_, rfl⟩
  rw [hR]
  have HR0 : Hid (Lib.validGoD s.size s.data.toList = R) := Lib.hid hR
  have HS := Lib.hid hs
  clear hR hs
  go_enter Tryd.func46, Tryd.ntmps46
  go_wp2_with fail
  go_loopw [0, 4] (fun s0 v wr => ∃ (t : ByteArray) (k : Nat) (xs : List Int), s0 = .string t ∧ t.size ≤ k ∧ xs.length + t.size ≤ 24 ∧ v ≠ .slice none 0 0 ∧ wr.ownsRow w.heap.size 2 1 v xs.length (xs.map (Value.int .i64)) ∧ Below w.heap.size w wr ∧ Hid (Lib.validGoD k t.data.toList = R)) (fun s0 _ _ => match s0 with | .string t => t.size | _ => 0)
  case atStart => exact ⟨s, s.size, [], rfl, Nat.le_refl _, by have := HS.out; simp; omega, by simp, World.ownsRow_made _ _ _ (Nat.le_refl _) (by unfold maxLen; omega) (by simp), below1 _ _, HR0⟩
  case round =>
    obtain ⟨t, k, xs, rfl, htk, hlen, hv0, hown, hbel, hRk⟩ := hrel
    clear HR0
    by_cases hlt : 0 < t.size
    · obtain ⟨k', rfl⟩ : ∃ k', k = k' + 1 := ⟨k - 1, by omega⟩
      have hne : t.data.toList ≠ [] := by
        intro e
        have h0 : t.size = 0 := congrArg List.length e
        omega
      have hst := (valid_step k' t.data.toList hne).symm.trans hRk.out
      obtain ⟨a, m, CP, hcase⟩ := point_any t (by omega) (by omega)
      rcases hcase with ⟨hbad, rfl⟩ | ⟨hgood, hm, hm1, hm2⟩
      · rw [if_pos hbad] at hst
        subst hst
        clear hbad hne hRk
        go_wp2_with (go_at_call 54; (with_reducible refine (CP.out _).mono ?_); rintro e wx ⟨rfl, hbx⟩)
        go_ret2
        exact ⟨_, rfl, bchain hbel hbx hbel.size⟩
      · rw [if_neg hgood, ← hm] at hst
        have hx : (t.extract m t.size).data.toList = t.data.toList.drop m := Lib.extract_to_end t m
        rw [← hx] at hst
        have HST := Lib.hid hst
        have hsz : (t.extract m t.size).size = t.size - m := by rw [ByteArray.size_extract]; omega
        have HSZ := Lib.hid hsz
        have hm0 : ((m : Int) == 0) = false := by rw [beq_eq_false_iff_ne]; omega
        clear hst hx hsz hgood hm hne hRk
        go_wp2_with (first
          | (go_at_call 54; (with_reducible refine (CP.out _).mono ?_); rintro e wx ⟨rfl, hbx⟩; have hownx := ownKeep hown hbx; have hbelx := bchain hbel hbx hbel.size; have hszx := hbelx.size)
          | (at_builtin; refine wpList_append_lies _ rfl _ _ _ rfl w.heap.size 2 i0 _ 1 8 Tryd.underlying57 hi0 hz0 hz1 hz2 rfl (by omega) u4 xs.length (xs.map (Value.int .i64)) rfl (hownx.alloc _) ⟨wx.heap.size, 0, none⟩ 1 1 [.int .i64 a] rfl rfl (World.news_of_block (cs := #[.int .i64 a]) (t := 2) (fr := (0, 0)) (heap_alloc_new wx _)) (by simp [Value.oneCell']) (by omega) (by unfold maxLen; omega) (by omega) (by simp; omega) (wx.heap.size + 1) (by simp) ?_; intro gg cap w1 hown1 hgrow hat hlt1))
        have hown2 : w1.ownsRow w.heap.size 2 1 (.slice (some ⟨gg, 0, none⟩) (xs.length + 1) cap) (xs ++ [a]).length ((xs ++ [a]).map (Value.int .i64)) := by
          rw [← own_snocI]
          simpa using hown1
        have hbel2 : Below w.heap.size w w1 := (hbelx.alloc hbelx.size _).grown hgrow (by simp; omega) (fun g hg => (hownx.lt g hg).1)
        clear hown1 hgrow hown hbel hat hlt1 hownx hbelx hbx
        go_wp2_with fail
        go_roundw
        case rel => exact ⟨t.extract m t.size, k', xs ++ [a], rfl, by rw [HSZ.out]; omega, by rw [HSZ.out]; simp; omega, by simp, hown2, hbel2, HST⟩
        case measure =>
          show (t.extract m t.size).size < t.size
          rw [HSZ.out]
          omega
    · have ht0 : t.data.toList = [] := List.eq_nil_of_length_eq_zero (show t.size = 0 by omega)
      have hRt : R = true := by
        have h1 := hRk.out
        rw [ht0] at h1
        rw [← h1]
        cases k <;> simp [Lib.validGoD]
      subst hRt
      clear hRk ht0
      go_wp2_with fail
      go_ret2
      exact ⟨_, rfl, hbel⟩
end Go.Proofs.YtfadodmkppeodabDoor
