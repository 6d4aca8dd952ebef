/-
  The walk of the program's ResourcesOf: the parts' loop.
-/
import Derived.Test.YtlmmbheamicdaaaResI
namespace Go.Proofs.Ytlmmbheamicdaaa
open Go.ChangeShapes Go.WideShapes Go.ChangeAt Go.RowKit Go.Deep

def hName (x : TV) : List Tx := if inB 20 21 x.t.kind then [x.t.name.data.toList] else []
def handN (xs : List TV) : List Tx := xs.flatMap hName
theorem handN_take {xs : List TV} {i : Nat} {x : TV} (h : xs[i]? = some x) : handN (xs.take (i + 1)) = handN (xs.take i) ++ hName x := by
  obtain ⟨hi, rfl⟩ := List.getElem?_eq_some_iff.1 h
  unfold handN
  rw [List.take_succ_eq_append_getElem hi, List.flatMap_append]
  simp
theorem handN_len (xs : List TV) : (handN xs).length ≤ xs.length := by
  unfold handN
  induction xs with
  | nil => simp
  | cons x xs ih =>
    rw [List.flatMap_cons, List.length_append, List.length_cons]
    have : (hName x).length ≤ 1 := by unfold hName; split <;> simp
    omega
theorem handN_names {T : Ty} {w : World} {lo : Nat} {tvs : List TV} (ho : T.Ok) (h : PartsAt w lo T.parts tvs) : handN tvs = T.names := by
  have hs := (Ty.sound_parts T).1 ho.2
  unfold handN Ty.names
  rw [← h.1] at hs ⊢
  rw [List.flatMap_map]
  clear h ho
  induction tvs with
  | nil => rfl
  | cons x xs ih =>
    rw [List.flatMap_cons, List.flatMap_cons, ih (fun y hy => hs y (by simp only [List.map_cons, List.mem_cons]; exact Or.inr hy))]
    congr 1
    have hx := (hs x.t (by simp)).1
    unfold hName nameOf
    by_cases hr : IsRes x.t.kind
    · have h1 := hx.1 hr
      have h2 : ¬ x.t.name.size = 0 := fun e => by
        rw [nmB_empty _ e] at h1
        cases h1
      have h3 : inB 20 21 x.t.kind = true := by
        unfold inB
        rcases hr with e | e <;> rw [e] <;> decide
      rw [if_pos h3, if_neg h2]
    · have h1 := hx.2.1 hr
      have h3 : inB 20 21 x.t.kind = false := by
        unfold inB
        unfold IsRes at hr
        rw [Bool.and_eq_false_iff, decide_eq_false_iff_not, decide_eq_false_iff_not]
        omega
      rw [h3, if_pos h1]
      rfl

def ResIPost (L : List Tx) (w : World) (e : Ending) (w' : World) : Prop := ∃ (R : Option Addr) (cap : Nat) (bs : List Nat), e = .returned (.slice R L.length cap) ∧ StrsOwn w' (L.map tb) R bs ∧ (∀ b ∈ bs, w.heap.size ≤ b ∧ b < w'.heap.size) ∧ Below w.heap.size w w'
theorem sort_len (ns : List Tx) : (ns.mergeSort fun x y => decide (x ≤ y)).length = ns.length := by simp
theorem res_len (ns : List Tx) : (Lib.compact (ns.mergeSort fun x y => decide (x ≤ y))).length = (putAll [] ns).length := by rw [both_ways]

set_option maxHeartbeats 4000000 in
set_option maxRecDepth 100000 in
theorem implRes_yes (T : Ty) (ho : T.Ok) (lo : Nat) (hT : T.wt ≤ 1048576) (A B : Option Addr) (ca cb : Nat) (w : World) (hat : Ty.At w lo T A B) (hm : MaxC w) :
    Calls Try.prog 26 #[.agg #[.int .i64 T.kind, .string T.name, .slice A T.labels.length ca, .slice B T.kids.length cb]] w (ResIPost (resL T) w) := by
  have C := partsIn_any T lo hT A B ca cb (w.alloc (.cells #[.int .i64 T.kind, .string T.name, .slice A T.labels.length ca, .slice B T.kids.length cb] 30)) (hat.below (below1 _ _)) (hm.keep (below1 _ _))
  have C' := Lib.hid (C.mono fun _ _ h => h.1 ho)
  have HO := Lib.hid ho
  have hs : T.size ≤ 24 := ho.1.2
  clear C ho hat hm hT
  obtain ⟨i0, hi, hz0, hz1, hz2⟩ := info_parts infoStr16
  go_enter Try.func26, Try.ntmps26
  go_wp2_with fail
  go_at_call 55
  refine C'.out.mono ?_
  rintro e w2 ⟨g, cap, tvs, rfl, hgz, hrow, hpat, hb⟩
  have HB := Lib.hid (bnext (below1 _ _) hb)
  have HNM := Lib.hid (handN_names HO.out hpat)
  have hlen : T.size = tvs.length := by rw [← T.parts_length, ← hpat.1, List.length_map]
  rw [hlen] at hs ⊢
  have HROW := Lib.hid hrow
  clear hb C' hpat hlen hrow hgz
  go_wp2_with fail
  go_loopw [3, 9] (fun p i wr => ∃ k : Nat, k ≤ tvs.length ∧ i = .int .i64 k ∧ (∃ (R : Option Addr) (c M : Nat), p = .slice R M c ∧ M ≤ k ∧ Hid (M = (handN (tvs.take k)).length ∧ wr.ownsRow w2.heap.size 9 1 (.slice R M c) M ((handN (tvs.take k)).map strV))) ∧ Hid (Below w2.heap.size w2 wr)) (fun _ i _ => tvs.length - (intOf i).toNat)
  case atStart => exact ⟨0, Nat.zero_le _, rfl, ⟨none, 0, 0, rfl, Nat.le_refl _, rfl, rfl, Or.inl ⟨rfl, rfl⟩⟩, Below.refl _ _⟩
  case round =>
    obtain ⟨k, hk, rfl, ⟨R, c, M, rfl, hMk, hinv⟩, HBR⟩ := hrel
    have HO2 := Lib.hid hinv.out.2
    have HM2 := Lib.hid hinv.out.1
    have hz : w2.heap.size ≤ wr.heap.size := HBR.out.size
    by_cases hlt : k < tvs.length
    · obtain ⟨x, hx⟩ : ∃ x, tvs[k]? = some x := ⟨_, List.getElem?_eq_getElem hlt⟩
      obtain ⟨a0, a1, a2, a3⟩ := HROW.out k x hx
      have c0 := keepCell HBR.out a0
      have c1 := keepCell HBR.out a1
      have c2 := keepCell HBR.out a2
      have c3 := keepCell HBR.out a3
      have CH := Lib.hid (fun W => resHandle_any x.t.kind x.t.name x.A x.B x.t.labels.length x.t.kids.length x.ca x.cb W)
      have HT := Lib.hid (handN_take hx)
      have hli : (k : Int) < (tvs.length : Int) := by omega
      clear hx a0 a1 a2 a3 hinv
      cases hv : inB 20 21 x.t.kind with
      | true =>
        rw [hv] at CH
        have HNX : Hid (hName x = [x.t.name.data.toList]) := Lib.hid (by unfold hName; rw [hv]; rfl)
        clear hv
        go_wp2_with fail
        go_at_call 58
        refine (CH.out _).mono ?_
        rintro e w3 ⟨rfl, hb3⟩
        have j1 := keepCell (a := ⟨wr.heap.size, 1, none⟩) (v := .string x.t.name) hb3 (by go_simp)
        have HB3 := Lib.hid (bnext (below1 _ _) hb3)
        have HO3 : Hid (w3.ownsRow w2.heap.size 9 1 (.slice R M c) M ((handN (tvs.take k)).map strV)) := Lib.hid (HO2.out.kept (grown_of_below (bnext (below1 _ _) hb3)) (Classical.em _))
        have hz3 : w2.heap.size ≤ w3.heap.size := Nat.le_trans hz HB3.out.size
        clear hb3 CH
        go_wp2_with (at_builtin; refine wpList_append_own _ rfl _ _ 22 rfl w2.heap.size 9 i0 _ 1 16 Try.underlying22 hi hz0 hz1 hz2 rfl (by decide) (.slice R M c) M ((handN (tvs.take k)).map strV) rfl (HO3.out.alloc _) ⟨w3.heap.size, 0, none⟩ 1 1 [.string x.t.name] rfl rfl ?c31 ?c32 ?c33 ?c34 ?c35 ?_)
        case c31 =>
          intro j u hu
          cases j with
          | zero =>
            simp at hu
            subst hu
            simp [Addr.add]
          | succ n => simp at hu
        case c32 => simp [Value.oneCell']
        case c33 => unfold maxLen; omega
        case c34 => omega
        case c35 => simp; omega
        intro v4 w4 hown4 hgrow4 _
        obtain ⟨R4, cap4, rfl⟩ := own_form hown4
        have HB4 := Lib.hid ((bnext (bnext HBR.out HB3.out) (below1 _ _)).grown hgrow4 (by simp; omega) (own_block_ge HO3.out))
        have HO4 := Lib.hid hown4
        clear hown4 hgrow4 j1
        go_wp2_with fail
        go_roundw
        case rel => exact ⟨k + 1, by omega, by go_num, ⟨R4, cap4, M + 1, rfl, by omega, by rw [HT.out, HNX.out, List.length_append, ← HM2.out]; rfl, by
          have h9 := HO4.out
          rw [HT.out, HNX.out, List.map_append]
          exact h9⟩, HB4.out⟩
        case measure => simp [intOf]; omega
      | false =>
        rw [hv] at CH
        have HNX : Hid (hName x = []) := Lib.hid (by unfold hName; rw [hv]; rfl)
        clear hv
        go_wp2_with fail
        go_at_call 58
        refine (CH.out _).mono ?_
        rintro e w3 ⟨rfl, hb3⟩
        have HB3 := Lib.hid (bnext (below1 _ _) hb3)
        have HO3 : Hid (w3.ownsRow w2.heap.size 9 1 (.slice R M c) M ((handN (tvs.take k)).map strV)) := Lib.hid (HO2.out.kept (grown_of_below (bnext (below1 _ _) hb3)) (Classical.em _))
        clear hb3 CH
        go_wp2_with fail
        go_roundw
        case rel => exact ⟨k + 1, by omega, by go_num, ⟨R, c, M, rfl, by omega, by rw [HT.out, HNX.out, List.append_nil]; exact HM2.out, by rw [HT.out, HNX.out, List.append_nil]; exact HO3.out⟩, bnext HBR.out HB3.out⟩
        case measure => simp [intOf]; omega
    · have hk' : k = tvs.length := by omega
      have h9 := hinv.out
      rw [hk', List.take_length, HNM.out] at h9
      obtain ⟨h8, h7⟩ := h9
      rw [h8] at h7 ⊢
      have hle : T.names.length ≤ 24 := by omega
      have CS := Lib.hid (sort_own w2.heap.size T.names (by omega) R c wr h7)
      have HMN := Lib.hid h8
      have hzr := HBR.out.size
      have HGE := Lib.hid (own_block_ge h7)
      clear hinv h7 h8 HO2 HM2
      go_wp2_with fail
      go_at_call 61
      refine CS.out.mono ?_
      rintro e w3 ⟨rfl, hown3, hg3⟩
      have CC := compact_own w2.heap.size (T.names.mergeSort fun x y => decide (x ≤ y)) (by rw [sort_len]; omega) R c w3 (by rw [sort_len]; exact hown3)
      rw [sort_len, res_len] at CC
      have CC := Lib.hid CC
      have HB3 := Lib.hid (HBR.out.grown hg3 hzr HGE.out)
      clear hown3 hg3 CS
      go_wp2_with fail
      go_at_call 62
      refine CC.out.mono ?_
      rintro e w4 ⟨rfl, ⟨bs, hs, hbs⟩, hg4⟩
      have HB4 := Lib.hid (HB3.out.grown hg4 HB3.out.size HGE.out)
      have HS4 := Lib.hid hs
      have HBS := Lib.hid hbs
      clear hs hbs hg4 CC
      go_wp2_with fail
      go_ret
      refine ⟨R, c, bs, rfl, ?_, fun b hb => ?_, bnext HB.out HB4.out⟩
      · have h6 := HS4.out
        rw [both_ways] at h6
        exact h6
      · have h5 := HBS.out b hb
        have := HB.out.size
        exact ⟨by omega, h5.2⟩
theorem implRes_no (T : Ty) (ho : ¬ T.Ok) (lo : Nat) (hT : T.wt ≤ 1048576) (A B : Option Addr) (ca cb : Nat) (w : World) (hat : Ty.At w lo T A B) (hm : MaxC w) :
    Calls Try.prog 26 #[.agg #[.int .i64 T.kind, .string T.name, .slice A T.labels.length ca, .slice B T.kids.length cb]] w (ResIPost [] w) := by
  have C := partsIn_any T lo hT A B ca cb (w.alloc (.cells #[.int .i64 T.kind, .string T.name, .slice A T.labels.length ca, .slice B T.kids.length cb] 30)) (hat.below (below1 _ _)) (hm.keep (below1 _ _))
  have C' := Lib.hid (C.mono fun _ _ h => h.2 ho)
  clear C ho hat hm hT
  have CS := Lib.hid (fun W => Any.slices_Sort_string_none Try.laysSoRes none 0 W)
  go_enter Try.func26, Try.ntmps26
  go_wp2_with fail
  go_at_call 55
  refine C'.out.mono ?_
  rintro e w2 ⟨rfl, hb⟩
  have HB := Lib.hid (bnext (below1 _ _) hb)
  clear hb C'
  go_wp2_with fail
  go_loopw [3, 9] (fun p i wr => p = .slice none 0 0 ∧ i = .int .i64 0 ∧ Hid (Below w.heap.size w wr)) (fun _ _ _ => 0)
  case atStart => exact ⟨rfl, rfl, HB.out⟩
  case round =>
    obtain ⟨rfl, rfl, HBR⟩ := hrel
    go_wp2_with fail
    go_at_call 61
    refine (CS.out _).mono ?_
    rintro e w3 ⟨rfl, hw3⟩
    have HB3 : Hid (Below w.heap.size w w3) := Lib.hid (by first | (rw [hw3]; exact HBR.out) | (rw [← hw3]; exact HBR.out))
    clear hw3 CS
    go_wp2_with fail
    go_at_call 62
    refine (compact_nil _ _).mono ?_
    rintro e w4 ⟨rfl, rfl⟩
    go_wp2_with fail
    go_ret
    exact ⟨none, 0, [], rfl, Or.inl ⟨rfl, rfl⟩, by simp, HB3.out⟩
end Go.Proofs.Ytlmmbheamicdaaa
