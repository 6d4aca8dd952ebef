/-
  BodyO, BodyOI, BodyOS: in one text.
-/
import Derived.Test.YtbjcldekapipaaaDoorBodyB
import Derived.Test.YtbjcldekapipaaaDoorMRd
import Derived.Test.YtbjcldekapipaaaDoorMIm
import Derived.Test.YtbjcldekapipaaaDoorInsOfS
namespace Go.Proofs.YtbjcldekapipaaaDoor
open Go.ChangeShapes Go.WideShapes Go.ChangeAt Go.RowKit Go.Deep

/-- s is the body of xs. -/
def IsBody (s : ByteArray) (xs : List In) : Prop := bodyV xs = true ∧ s = bodyTo xs xs.length
theorem bodyV_parts {xs : List In} (h : bodyV xs = true) : xs.length ≤ 120 ∧ xs.all inV = true := by
  unfold bodyV at h
  rw [Bool.and_eq_true, decide_eq_true_iff] at h
  exact h
theorem insCat_drop {xs : List In} {k : Nat} {x : In} (h : xs[k]? = some x) : insCat (xs.drop k) = insBy x.op x.a ++ insCat (xs.drop (k + 1)) := by
  obtain ⟨hk, rfl⟩ := List.getElem?_eq_some_iff.1 h
  rw [List.drop_eq_getElem_cons hk]
  rfl
theorem IsBody.head {s : ByteArray} {xs : List In} (h : IsBody s xs) : s = strOfNums (lebU xs.length) ++ insCat xs := by
  have := h.2
  unfold bodyTo at this
  rw [List.take_length] at this
  exact this
theorem IsBody.at_ {xs : List In} (h : bodyV xs = true) {k : Nat} {x : In} (hx : xs[k]? = some x) : IsIns (insCat (xs.drop k)) x.op x.a (insCat (xs.drop (k + 1))) := by
  refine ⟨?_, insCat_drop hx⟩
  exact List.all_eq_true.mp (bodyV_parts h).2 x (List.mem_of_getElem? hx)
theorem isIns_uniq {t r r' : ByteArray} {op a op' a' : Int} (hz : t.size ≤ 1048576) (h : IsIns t op a r) (h' : IsIns t op' a' r') : op = op' ∧ a = a' ∧ r = r' := by
  obtain ⟨o, b, u, _, hf, _⟩ := readIns_any t hz
  obtain ⟨e1, e2, e3⟩ := hf op a r h
  obtain ⟨f1, f2, f3⟩ := hf op' a' r' h'
  exact ⟨e1.symm.trans f1, e2.symm.trans f2, e3.symm.trans f3⟩
theorem insCat_nil_size {xs : List In} (h : (insCat xs).size = 0) : xs = [] := by
  cases xs with
  | nil => rfl
  | cons x xs =>
    have h1 : (insBy x.op x.a ++ insCat xs).size = 0 := h
    rw [ByteArray.size_append] at h1
    have := insBy_pos x.op x.a
    omega
theorem leb_nil : ∀ W, Calls Tryd.prog 83 #[.string ⟨#[]⟩] W fun e w' => e = .returned (.tuple #[.int .i64 0, .int .i64 0, .bool false]) ∧ Below W.heap.size W w' := fun W =>
  implGetLeb_none ⟨#[]⟩ W (fun j h => absurd h (Nat.not_lt_zero j)) (by decide)
theorem size0 {t : ByteArray} (h : t.size = 0) : t = ⟨#[]⟩ := ByteArray.ext (Array.toList_inj.mp (by
  have h2 : t.data.toList.length = t.size := by simp
  rw [List.eq_nil_of_length_eq_zero (by omega : t.data.toList.length = 0)]))
/-- The number at the start. -/
theorem num_at (t : ByteArray) (hz : t.size ≤ 1048576) : ∃ (x : Int) (m : Nat) (ok : Bool), (0 ≤ x ∧ x ≤ 9223372036854775807 ∧ m ≤ t.size) ∧ (∀ xs, IsBody t xs → x = xs.length ∧ ok = true ∧ m = (strOfNums (lebU xs.length)).size ∧ t.extract m t.size = insCat xs) ∧ (t.size = 0 → x = 0) ∧
    (∀ W, Calls Tryd.prog 83 #[.string t] W fun e w' => e = .returned (.tuple #[.int .i64 x, .int .i64 m, .bool ok]) ∧ Below W.heap.size W w') ∧
    (∀ W, Calls Tryd.prog 47 #[.string t] W fun e w' => e = .returned (.tuple #[.int .i64 x, .int .i64 m, .bool ok]) ∧ Below W.heap.size W w') := by
  obtain ⟨x, m, ok, hb, hf, hi, hs⟩ := leb_at t hz
  refine ⟨x, m, ok, hb, fun xs h => ?_, fun h0 => ?_, hi, hs⟩
  · have h1 := (bodyV_parts h.1).1
    obtain ⟨e1, e2, e3⟩ := hf xs.length (insCat xs) (by omega) h.head
    refine ⟨e1, e3, e2, ?_⟩
    rw [e2]
    conv => lhs; rw [h.head]
    exact app_right _ _
  · have e := size0 h0
    subst e
    have hk := Lib.agree noInit_leb (hi default) (leb_nil default)
    injection hk with hk
    have k0 := congrArg (fun z => z[0]?) hk
    simp at k0
    exact k0

theorem OwnIn.sameAt {w w' : World} {base : Nat} {xs : List In} {R : Option Addr} {n c : Nat} (h : OwnIn w base xs R n c) (hb : ∀ g, base ≤ g → g < w.heap.size → w'.heap[g]? = w.heap[g]?) : OwnIn w' base xs R n c := by
  refine ⟨h.1, h.2.1, ?_⟩
  rcases h.2.2 with h2 | ⟨g, cap, cur, hv, hg, hh, r⟩
  · exact Or.inl h2
  · exact Or.inr ⟨g, cap, cur, hv, hg, (hb g hg (Array.getElem?_eq_some_iff.1 hh).1).trans hh, r⟩
theorem KeepR.grown {B : Nat} {a b c : World} {row : Option Nat} (h : KeepR B a b) (hg : b.grownBy c row) (hr : ∀ g, row = some g → a.heap.size ≤ g) (hB : B < a.heap.size) : KeepR B a c := by
  refine ⟨h.1.grown hg (by have := h.2.1; omega) (fun g e => by have := hr g e; omega), Nat.le_trans h.2.1 hg.size, fun k hk hl => ?_⟩
  refine (hg.block k (by have := h.2.1; omega) (fun e => ?_)).trans (h.2.2 k hk hl)
  have := hr k e.symm
  omega
theorem Rd.grown {B : Nat} {b c : World} {t : ByteArray} {row : Option Nat} (h : Rd b B t) (hg : b.grownBy c row) (hr : row ≠ some B) : Rd c B t := by
  have e := hg.block B h.lt (fun e => hr e.symm)
  refine ⟨(World.cell?_of_block e).trans h.1, ?_⟩
  rw [World.frozen?_of_block e]
  exact h.2

/-- The program reads so many instructions, whatever they are: those of a body where there is one. -/
structure BodyRd (t : ByteArray) (B : Nat) (W : World) (ys : List In) (w' : World) : Prop where
  len : ys.length ≤ 120
  keep : KeepR B W w'
  none : t.size = 0 → ys = []
  some : ∀ xs, IsBody t xs → ys = xs

set_option maxHeartbeats 2000000 in
set_option maxRecDepth 100000 in
theorem readBody_any (t : ByteArray) (hz : t.size ≤ 1048576) (B : Nat) (W : World) (h : Rd W B t) :
    Calls Tryd.prog 52 #[.pointer (some ⟨B, 0, none⟩)] W fun e w' => ∃ (ys : List In) (R : Option Addr) (c : Nat), e = .returned (.slice R ys.length c) ∧ OwnIn w' W.heap.size ys R ys.length c ∧ BodyRd t B W ys w' := by
  obtain ⟨i0, hi0, hz0, hz1, hz2⟩ := info_parts infoIns2
  obtain ⟨x, m, ok, ⟨x0, x1, hm⟩, hf, hnil, hC, _⟩ := num_at t hz
  have CL := Lib.hid (fun W hr => readLeb_any B t x m ok hm hC W hr)
  have HH := Lib.hid h
  have hlt := h.lt
  have HF := Lib.hid hf
  have HNL := Lib.hid hnil
  have huz : (t.extract m t.size).size ≤ 1048576 := by rw [ext_size _ _ _ (Nat.le_refl _)]; omega
  obtain ⟨N, hN, hN1⟩ : ∃ N : Nat, (N : Int) = (if (120 : Int) < x then 120 else x) ∧ N ≤ 120 := by
    by_cases h1 : (120 : Int) < x
    · exact ⟨120, by rw [if_pos h1]; rfl, Nat.le_refl _⟩
    · exact ⟨x.toNat, by rw [if_neg h1]; omega, by omega⟩
  have HNN := Lib.hid hN
  clear h hC hf hnil
  by_cases h1 : (120 : Int) < x
  · rw [if_pos h1] at hN
    obtain rfl : N = 120 := by omega
    clear hN hm
    go_enter Tryd.func52, Tryd.ntmps52
    go_wp2_with (go_at_call 70; refine (CL.out _ HH.out).mono ?_; rintro e w1 ⟨rfl, hr1, hk1⟩; have HR1 := Lib.hid hr1; have HK1 := Lib.hid hk1; clear hr1 hk1)
    go_loopw [3, 7] (fun v i wr => ∃ (k : Nat) (ys : List In) (R : Option Addr) (c : Nat) (u : ByteArray), k ≤ 120 ∧ v = .slice R k c ∧ i = .int .i64 k ∧ Hid (OwnIn wr W.heap.size ys R k c) ∧ Hid (Rd wr B u) ∧ Hid (KeepR B W wr) ∧ Hid (u.size ≤ 1048576 ∧ ∀ xs, IsBody t xs → ys = xs.take k ∧ u = insCat (xs.drop k))) (fun _ i _ => 120 - (intOf i).toNat)
    case atStart => exact ⟨0, [], none, 0, _, Nat.zero_le _, rfl, rfl, ownIn_nil _ _, HR1.out, HK1.out, huz, fun xs hx => ⟨rfl, (HF.out xs hx).2.2.2⟩⟩
    case round =>
      obtain ⟨k, ys, R, c, u, hk, rfl, rfl, HO, HR, HK, HP⟩ := hrel
      by_cases hlt2 : k < 120
      · obtain ⟨o, a, u2, ⟨_, _, _, hu2⟩, hfi, hCI⟩ := readIns_any u HP.out.1
        have CI := Lib.hid (hCI B wr HR.out)
        have HFI := Lib.hid hfi
        have HU2 : Hid (u2.size ≤ 1048576) := Lib.hid (by have := HP.out.1; omega)
        have hli : (k : Int) < 120 := by omega
        have hk120 : k ≤ 120 := by omega
        have hbig := HK.out.2.1
        clear hfi hCI hu2
        go_wp2_with (first
          | (go_at_call 48; refine CI.out.mono ?_; rintro e w2 ⟨rfl, hr2, hk2⟩; have HR2 := Lib.hid hr2; have HK2 := Lib.hid (HK.out.trans hk2); have HO2 := Lib.hid ((HO.out.sameAt (fun g hg hl => hk2.2.2 g (by omega) hl)).keep (below1 w2 (.cells #[.int .i64 o, .int .i64 a] 27))); have hW2 := (HK.out.trans hk2).2.1; clear hr2 hk2)
          | (at_builtin; refine wpList_append_lies _ rfl _ _ _ rfl W.heap.size 27 i0 _ 2 16 Tryd.underlying37 hi0 hz0 hz1 hz2 rfl (by omega) (.slice R k c) k (inVals ys) rfl HO2.out.2 ⟨w2.heap.size, 0, none⟩ 1 1 [.int .i64 o, .int .i64 a] rfl rfl (World.news_of_block (cs := #[.int .i64 o, .int .i64 a]) (t := 27) (fr := (0, 0)) (heap_alloc_new w2 _)) (by simp [Value.oneCell']) (by omega) (by unfold maxLen; omega) (by omega) (by simp; omega) (w2.heap.size + 1) (by simp) ?_; intro gg cap w3 hown3 hgrow hat hlt3))
        have HO3 : Hid (OwnIn w3 W.heap.size (ys ++ [⟨o, a⟩]) (some ⟨gg, 0, none⟩) (k + 1) cap) := Lib.hid ⟨by rw [List.length_append, HO2.out.1]; rfl, by rw [inVals_append]; exact hown3⟩
        have HR3 : Hid (Rd w3 B u2) := Lib.hid ((HR2.out.below (below1 w2 _)).grown hgrow (fun e => by have := (HO2.out.2.lt B e).1; omega))
        have HK3 : Hid (KeepR B W w3) := Lib.hid ((HK2.out.below (below1 w2 _) (Nat.le_of_lt HR2.out.lt)).grown hgrow (fun g e => (HO2.out.2.lt g e).1) hlt)
        have HP3 : Hid (∀ xs, IsBody t xs → ys ++ [(⟨o, a⟩ : In)] = xs.take (k + 1) ∧ u2 = insCat (xs.drop (k + 1))) := Lib.hid (fun xs hx => by
          obtain ⟨e1, e2⟩ := HP.out.2 xs hx
          have hxl := (HF.out xs hx).1
          have hx120 := (bodyV_parts hx.1).1
          have hNx : 120 = xs.length := by have := HNN.out; split at this <;> omega
          have hkx : k < xs.length := by omega
          have hxk := List.getElem?_eq_getElem hkx
          have hI := IsBody.at_ hx.1 hxk
          rw [← e2] at hI
          obtain ⟨f1, f2, f3⟩ := HFI.out _ _ _ hI
          refine ⟨?_, f3⟩
          rw [List.take_succ_eq_append_getElem hkx, ← e1, f1, f2])
        clear hown3 hgrow hat hlt3 hW2 hbig
        go_wp2_with fail
        go_roundw
        case rel => exact ⟨k + 1, _, _, cap, u2, by omega, rfl, by go_num, HO3, HR3, HK3, HU2.out, HP3.out⟩
        case measure => simp [intOf]; omega
      · obtain rfl : k = 120 := by omega
        have hli : ¬ ((120 : Nat) : Int) < 120 := by omega
        go_wp2_with fail
        go_ret
        have hlen := HO.out.1
        refine ⟨ys, R, c, by rw [hlen]; rfl, by rw [hlen]; exact HO.out, by omega, HK.out, fun h0 => ?_, fun xs hx => ?_⟩
        · have e0 := HNL.out h0
          have := HNN.out
          rw [if_neg (by omega)] at this
          exact List.eq_nil_of_length_eq_zero (by omega)
        · obtain ⟨e1, _⟩ := HP.out.2 xs hx
          have hxl := (HF.out xs hx).1
          have hx120 := (bodyV_parts hx.1).1
          have hNx : 120 = xs.length := by have := HNN.out; split at this <;> omega
          rw [e1, hNx, List.take_length]
  · rw [if_neg h1] at hN
    subst hN
    clear hm
    go_enter Tryd.func52, Tryd.ntmps52
    go_wp2_with (go_at_call 70; refine (CL.out _ HH.out).mono ?_; rintro e w1 ⟨rfl, hr1, hk1⟩; have HR1 := Lib.hid hr1; have HK1 := Lib.hid hk1; clear hr1 hk1)
    go_loopw [3, 7] (fun v i wr => ∃ (k : Nat) (ys : List In) (R : Option Addr) (c : Nat) (u : ByteArray), k ≤ N ∧ v = .slice R k c ∧ i = .int .i64 k ∧ Hid (OwnIn wr W.heap.size ys R k c) ∧ Hid (Rd wr B u) ∧ Hid (KeepR B W wr) ∧ Hid (u.size ≤ 1048576 ∧ ∀ xs, IsBody t xs → ys = xs.take k ∧ u = insCat (xs.drop k))) (fun _ i _ => N - (intOf i).toNat)
    case atStart => exact ⟨0, [], none, 0, _, Nat.zero_le _, rfl, rfl, ownIn_nil _ _, HR1.out, HK1.out, huz, fun xs hx => ⟨rfl, (HF.out xs hx).2.2.2⟩⟩
    case round =>
      obtain ⟨k, ys, R, c, u, hk, rfl, rfl, HO, HR, HK, HP⟩ := hrel
      by_cases hlt2 : k < N
      · obtain ⟨o, a, u2, ⟨_, _, _, hu2⟩, hfi, hCI⟩ := readIns_any u HP.out.1
        have CI := Lib.hid (hCI B wr HR.out)
        have HFI := Lib.hid hfi
        have HU2 : Hid (u2.size ≤ 1048576) := Lib.hid (by have := HP.out.1; omega)
        have hli : (k : Int) < (N : Int) := by omega
        have hk120 : k ≤ 120 := by omega
        have hbig := HK.out.2.1
        clear hfi hCI hu2
        go_wp2_with (first
          | (go_at_call 48; refine CI.out.mono ?_; rintro e w2 ⟨rfl, hr2, hk2⟩; have HR2 := Lib.hid hr2; have HK2 := Lib.hid (HK.out.trans hk2); have HO2 := Lib.hid ((HO.out.sameAt (fun g hg hl => hk2.2.2 g (by omega) hl)).keep (below1 w2 (.cells #[.int .i64 o, .int .i64 a] 27))); have hW2 := (HK.out.trans hk2).2.1; clear hr2 hk2)
          | (at_builtin; refine wpList_append_lies _ rfl _ _ _ rfl W.heap.size 27 i0 _ 2 16 Tryd.underlying37 hi0 hz0 hz1 hz2 rfl (by omega) (.slice R k c) k (inVals ys) rfl HO2.out.2 ⟨w2.heap.size, 0, none⟩ 1 1 [.int .i64 o, .int .i64 a] rfl rfl (World.news_of_block (cs := #[.int .i64 o, .int .i64 a]) (t := 27) (fr := (0, 0)) (heap_alloc_new w2 _)) (by simp [Value.oneCell']) (by omega) (by unfold maxLen; omega) (by omega) (by simp; omega) (w2.heap.size + 1) (by simp) ?_; intro gg cap w3 hown3 hgrow hat hlt3))
        have HO3 : Hid (OwnIn w3 W.heap.size (ys ++ [⟨o, a⟩]) (some ⟨gg, 0, none⟩) (k + 1) cap) := Lib.hid ⟨by rw [List.length_append, HO2.out.1]; rfl, by rw [inVals_append]; exact hown3⟩
        have HR3 : Hid (Rd w3 B u2) := Lib.hid ((HR2.out.below (below1 w2 _)).grown hgrow (fun e => by have := (HO2.out.2.lt B e).1; omega))
        have HK3 : Hid (KeepR B W w3) := Lib.hid ((HK2.out.below (below1 w2 _) (Nat.le_of_lt HR2.out.lt)).grown hgrow (fun g e => (HO2.out.2.lt g e).1) hlt)
        have HP3 : Hid (∀ xs, IsBody t xs → ys ++ [(⟨o, a⟩ : In)] = xs.take (k + 1) ∧ u2 = insCat (xs.drop (k + 1))) := Lib.hid (fun xs hx => by
          obtain ⟨e1, e2⟩ := HP.out.2 xs hx
          have hxl := (HF.out xs hx).1
          have hx120 := (bodyV_parts hx.1).1
          have hNx : N = xs.length := by have := HNN.out; split at this <;> omega
          have hkx : k < xs.length := by omega
          have hxk := List.getElem?_eq_getElem hkx
          have hI := IsBody.at_ hx.1 hxk
          rw [← e2] at hI
          obtain ⟨f1, f2, f3⟩ := HFI.out _ _ _ hI
          refine ⟨?_, f3⟩
          rw [List.take_succ_eq_append_getElem hkx, ← e1, f1, f2])
        clear hown3 hgrow hat hlt3 hW2 hbig
        go_wp2_with fail
        go_roundw
        case rel => exact ⟨k + 1, _, _, cap, u2, by omega, rfl, by go_num, HO3, HR3, HK3, HU2.out, HP3.out⟩
        case measure => simp [intOf]; omega
      · obtain rfl : k = N := by omega
        have hli : ¬ (k : Int) < (k : Int) := by omega
        go_wp2_with fail
        go_ret
        have hlen := HO.out.1
        refine ⟨ys, R, c, by rw [hlen]; rfl, by rw [hlen]; exact HO.out, by omega, HK.out, fun h0 => ?_, fun xs hx => ?_⟩
        · have e0 := HNL.out h0
          have := HNN.out
          rw [if_neg (by omega)] at this
          exact List.eq_nil_of_length_eq_zero (by omega)
        · obtain ⟨e1, _⟩ := HP.out.2 xs hx
          have hxl := (HF.out xs hx).1
          have hx120 := (bodyV_parts hx.1).1
          have hNx : k = xs.length := by have := HNN.out; split at this <;> omega
          rw [e1, hNx, List.take_length]
end Go.Proofs.YtbjcldekapipaaaDoor

namespace Go.Proofs.YtbjcldekapipaaaDoor
open Go.ChangeShapes Go.WideShapes Go.ChangeAt Go.RowKit Go.Deep

/-- The answer: instructions in memory of one's own, and whether there are any. -/
def BodyA (xs : List In) (b : Bool) (w : World) (e : Ending) (w' : World) : Prop := ∃ (R : Option Addr) (c : Nat), e = .returned (.tuple #[.slice R xs.length c, .bool b]) ∧ OwnIn w' w.heap.size xs R xs.length c ∧ Below w.heap.size w w'

theorem text_neO {a b : ByteArray} (h : a ≠ b) : (a.toList == b.toList) = false := by
  rw [beq_eq_false_iff_ne]
  intro e
  apply h
  apply ByteArray.ext
  apply Array.toList_inj.mp
  rw [← ByteArray.toList_eq, ← ByteArray.toList_eq]
  exact e
theorem bodyA_of {ys : List In} {s : ByteArray} (h : bodyA ys = s) (hs : 0 < s.size) : IsBody s ys := by
  unfold bodyA at h
  cases hv : bodyV ys with
  | true =>
    rw [hv, if_pos rfl] at h
    exact ⟨hv, h.symm⟩
  | false =>
    rw [hv, if_neg (by simp)] at h
    rw [← h] at hs
    exact absurd hs (by decide)
theorem bodyA_nil : 0 < (bodyA []).size := by
  have hv : bodyV [] = true := rfl
  unfold bodyA bodyTo
  rw [hv, if_pos rfl, ByteArray.size_append, strOfNums_size]
  have := lebU_pos ([] : List In).length
  omega

set_option maxHeartbeats 1000000 in
theorem implBodyOf_any (s : ByteArray) (hz : s.size ≤ 1048576) (w : World) (ht : OpTab w) :
    (∀ xs, IsBody s xs → Calls Tryd.prog 23 #[.string s] w (BodyA xs true w)) ∧ ((∀ xs, ¬ IsBody s xs) → Calls Tryd.prog 23 #[.string s] w (BodyA [] false w)) := by
  have CR := Lib.hid (fun B W hr => readBody_any s hz B W hr)
  have CB := Lib.hid (fun (ys : List In) (hl : ys.length ≤ 1048576) (R : Option Addr) (c lo : Nat) (W : World) (hb : Below w.heap.size w W) (h : Ins W lo ys R) => implBodyBytes_any ys hl R c lo W h (ht.keep hb))
  clear ht
  refine ⟨fun xs hx => ?_, fun hno => ?_⟩
  · go_enter Tryd.func23, Tryd.ntmps23
    go_wp2_with fail
    go_at_call 52
    refine (CR.out _ _ ⟨by go_simp, by go_simp⟩).mono ?_
    rintro e w1 ⟨ys, R, c, rfl, hown, hrd⟩
    obtain rfl := hrd.some xs hx
    have hlen := hrd.len
    have HB1 := Lib.hid (KeepR.below0 (below1 w _) hrd.keep (Nat.le_refl _))
    have HO := Lib.hid (hown.down (b2 := w.heap.size) (by simp))
    obtain ⟨g, hg, _, hnums⟩ := HO.out.nums
    have HI := Lib.hid (Nums.ins hnums (Nat.zero_le g))
    have hs : bodyA ys = s := by
      unfold bodyA
      rw [hx.1, if_pos rfl]
      exact hx.2.symm
    have CB2 := Lib.hid (fun W hb h => CB.out ys (by omega) R c 0 W hb h)
    rw [hs] at CB2
    clear hown hrd hnums hs hx
    go_wp2_with (go_at_call 20; refine (CB2.out _ HB1.out HI.out).mono ?_; rintro e w2 ⟨rfl, hb2⟩; have HB2 := Lib.hid (bnext HB1.out hb2); have HO2 := Lib.hid (HO.out.keep hb2); clear hb2)
    exact bodyPost_ret (v := .tuple #[.slice R ys.length c, .bool true]) (by simp [results, Tryd.results23, go_sem]) rfl ⟨R, c, rfl, HO2.out, HB2.out⟩
  · go_enter Tryd.func23, Tryd.ntmps23
    go_wp2_with fail
    go_at_call 52
    refine (CR.out _ _ ⟨by go_simp, by go_simp⟩).mono ?_
    rintro e w1 ⟨ys, R, c, rfl, hown, hrd⟩
    have hlen := hrd.len
    have HB1 := Lib.hid (KeepR.below0 (below1 w _) hrd.keep (Nat.le_refl _))
    have HO := Lib.hid (hown.down (b2 := w.heap.size) (by simp))
    obtain ⟨g, hg, _, hnums⟩ := HO.out.nums
    have HI := Lib.hid (Nums.ins hnums (Nat.zero_le g))
    have hne : bodyA ys ≠ s := fun e => by
      by_cases h0 : 0 < s.size
      · exact hno ys (bodyA_of e h0)
      · have e2 := hrd.none (by omega)
        subst e2
        have := bodyA_nil
        rw [e] at this
        exact h0 this
    have e1 := text_neO hne
    have e2 : ((bodyA ys).toList != s.toList) = true := by rw [bne_iff_ne]; exact beq_eq_false_iff_ne.mp e1
    have CB2 := Lib.hid (fun W hb h => CB.out ys (by omega) R c 0 W hb h)
    clear hown hrd hnums hne hno
    generalize bodyA ys = T at *
    go_wp2_with (go_at_call 20; refine (CB2.out _ HB1.out HI.out).mono ?_; rintro e w2 ⟨rfl, hb2⟩; have HB2 := Lib.hid (bnext HB1.out hb2); clear hb2)
    exact bodyPost_ret (v := .tuple #[.slice none 0 0, .bool false]) (by simp [results, Tryd.results23, go_sem]) rfl ⟨none, 0, rfl, ownIn_nil _ _, HB2.out⟩
end Go.Proofs.YtbjcldekapipaaaDoor

namespace Go.Proofs.YtbjcldekapipaaaDoor
open Go.ChangeShapes Go.WideShapes Go.ChangeAt Go.RowKit Go.Deep

theorem ext_ext (s : ByteArray) (p m : Nat) (hp : p + m ≤ s.size) : (s.extract p s.size).extract m (s.extract p s.size).size = s.extract (p + m) s.size := by
  have hsz := ext_size s p s.size (Nat.le_refl _)
  refine ByteArray.ext (Array.toList_inj.mp ?_)
  rw [extract_data', extract_data', extract_data', hsz, List.drop_take, List.drop_drop, List.take_take]
  congr 1
  omega
theorem leb_fineB (s : ByteArray) (hz : s.size ≤ 1048576) (x : Int) (m : Nat) (ok : Bool) (hC : ∀ W, Calls Tryd.prog 83 #[.string s] W fun e w' => e = .returned (.tuple #[.int .i64 x, .int .i64 m, .bool ok]) ∧ Below W.heap.size W w') :
    ok = true → s = strOfNums (lebU x.toNat) ++ s.extract m s.size := fun hok => by
  obtain ⟨x2, y2, ok2, hf, hC2⟩ := getLeb_fineK s (by omega)
  have hk := Lib.agree noInit_leb (hC default) (hC2 default)
  injection hk with hk
  have k0 := congrArg (fun z => z[0]?) hk
  have k1 := congrArg (fun z => z[1]?) hk
  have k2 := congrArg (fun z => z[2]?) hk
  simp at k0 k1 k2
  obtain ⟨_, _, _, _, f5⟩ := hf (by rw [← k2]; exact hok)
  have e1 : x.toNat = x2 := by omega
  have e2 : m = y2 := by omega
  rw [e1, f5, e2, take_strK]
  exact ext_split s y2
theorem insOf_at (u : ByteArray) (hs : u.size ≤ 1048576) : ∃ (o a : Int) (m : Nat) (ok : Bool), (∀ op av r, IsIns u op av r → o = op ∧ a = av ∧ ok = true) ∧ (ok = true → IsIns u o a (u.extract m u.size) ∧ m = (insBy o a).size) ∧ m ≤ u.size ∧
    (∀ W, Calls Tryd.prog 14 #[.string u] W (InsOfA o a m ok W)) := by
  by_cases h : ∃ op a r, IsIns u op a r
  · obtain ⟨op, a, r, h⟩ := h
    refine ⟨op, a, (insBy op a).size, true, fun op' a' r' h' => ?_, fun _ => ⟨?_, rfl⟩, ?_, fun W => (specInsOf_any u hs W).1 op a r h⟩
    · obtain ⟨e1, e2, _⟩ := isIns_uniq hs h h'
      exact ⟨e1, e2, rfl⟩
    · have e : u.extract (insBy op a).size u.size = r := by
        conv => lhs; rw [h.2]
        exact app_right _ _
      rw [e]
      exact h
    · rw [h.2, ByteArray.size_append]
      omega
  · have h2 : ∀ op a r, ¬ IsIns u op a r := fun op a r hh => h ⟨op, a, r, hh⟩
    exact ⟨0, 0, 0, false, fun op a r hh => absurd hh (h2 op a r), (fun e => nomatch e), Nat.zero_le _, fun W => (specInsOf_any u hs W).2 h2⟩

/-- What has been read of a body: so many instructions, up to a place. -/
structure BodyP (s : ByteArray) (N p k : Nat) (ys : List In) : Prop where
  le : p ≤ s.size
  len : ys.length = k
  good : ys.all inV = true
  eqn : s = (strOfNums (lebU N) ++ insCat ys) ++ s.extract p s.size
  at_ : ∀ xs, IsBody s xs → N = xs.length ∧ ys = xs.take k ∧ s.extract p s.size = insCat (xs.drop k)

theorem BodyP.step {s : ByteArray} {N p k : Nat} {ys : List In} (h : BodyP s N p k ys) (hkN : k < N) {o a : Int} {m : Nat} (hm : m ≤ (s.extract p s.size).size)
    (hI : IsIns (s.extract p s.size) o a ((s.extract p s.size).extract m (s.extract p s.size).size))
    (hu : ∀ op av r, IsIns (s.extract p s.size) op av r → o = op ∧ a = av) (hz : s.size ≤ 1048576) : BodyP s N (p + m) (k + 1) (ys ++ [⟨o, a⟩]) := by
  have hle := h.le
  have hsz := ext_size s p s.size (Nat.le_refl _)
  have hee := ext_ext s p m (by omega)
  rw [hee] at hI
  refine ⟨by omega, by rw [List.length_append, h.len]; rfl, ?_, ?_, fun xs hx => ?_⟩
  · rw [List.all_append, h.good]
    show (true && ((insV o a) && true)) = true
    rw [hI.1]
    rfl
  · have e := h.eqn
    rw [hI.2] at e
    have e2 : insCat (ys ++ [⟨o, a⟩]) = insCat ys ++ insBy o a := insCat_snoc ys ⟨o, a⟩
    rw [e2]
    conv => lhs; rw [e]
    simp only [ByteArray.append_assoc]
  · obtain ⟨e1, e2, e3⟩ := h.at_ xs hx
    have hkx : k < xs.length := by omega
    have hxk := List.getElem?_eq_getElem hkx
    have hJ := IsBody.at_ hx.1 hxk
    rw [← e3] at hJ
    obtain ⟨f1, f2⟩ := hu _ _ _ hJ
    refine ⟨e1, ?_, ?_⟩
    · rw [List.take_succ_eq_append_getElem hkx, ← e2, f1, f2]
    · exact (isIns_uniq (by omega) hI hJ).2.2
theorem BodyP.done {s : ByteArray} {N p : Nat} {ys : List In} (h : BodyP s N p N ys) (hN : N ≤ 120) (hp : p = s.size) : IsBody s ys := by
  have hv : bodyV ys = true := by
    unfold bodyV
    rw [h.len, decide_eq_true hN, h.good]
    rfl
  refine ⟨hv, ?_⟩
  have e := h.eqn
  have e0 : s.extract p s.size = ⟨#[]⟩ := size0 (by rw [ext_size _ _ _ (Nat.le_refl _)]; omega)
  rw [e0, app_nil] at e
  unfold bodyTo
  rw [List.take_length, h.len]
  exact e
theorem BodyP.not {s : ByteArray} {N p : Nat} {ys : List In} (h : BodyP s N p N ys) (hp : p ≠ s.size) : ∀ xs, ¬ IsBody s xs := fun xs hx => by
  obtain ⟨e1, _, e3⟩ := h.at_ xs hx
  rw [e1, List.drop_length] at e3
  have hsz := ext_size s p s.size (Nat.le_refl _)
  rw [e3] at hsz
  have h0 : (insCat []).size = 0 := rfl
  have := h.le
  omega
theorem BodyP.bad {s : ByteArray} {N p k : Nat} {ys : List In} (h : BodyP s N p k ys) (hkN : k < N) (hno : ∀ op av r, ¬ IsIns (s.extract p s.size) op av r) : ∀ xs, ¬ IsBody s xs := fun xs hx => by
  obtain ⟨e1, _, e3⟩ := h.at_ xs hx
  have hkx : k < xs.length := by omega
  have hJ := IsBody.at_ hx.1 (List.getElem?_eq_getElem hkx)
  rw [← e3] at hJ
  exact hno _ _ _ hJ

theorem heap_two (w : World) (o1 o2 : Obj) : ((w.alloc o1).alloc o2).heap[w.heap.size + 1]? = some o2 := by
  have h := heap_alloc_new (w.alloc o1) o2
  simpa using h
/-- The answer by what the string is. -/
def BodyR (s : ByteArray) (w : World) (e : Ending) (w' : World) : Prop := (∃ xs, IsBody s xs ∧ BodyA xs true w e w') ∨ ((∀ xs, ¬ IsBody s xs) ∧ BodyA [] false w e w')

set_option maxHeartbeats 2000000 in
set_option maxRecDepth 100000 in
theorem specBodyOf_any (s : ByteArray) (hz : s.size ≤ 1048576) (w : World) :
    Calls Tryd.prog 22 #[.string s] w (BodyR s w) := by
  obtain ⟨i0, hi0, hz0, hz1, hz2⟩ := info_parts infoIns2
  obtain ⟨x, m0, ok, ⟨x0, x1, hm⟩, hf, _, hCI, hC⟩ := num_at s hz
  have hfine := leb_fineB s hz x m0 ok hCI
  have CL := Lib.hid hC
  have HF := Lib.hid hf
  clear hC hf
  by_cases hgo : ok = true ∧ x ≤ 120
  · obtain ⟨rfl, hx⟩ := hgo
    obtain ⟨N, rfl⟩ : ∃ N : Nat, x = N := ⟨x.toNat, by omega⟩
    have hx2 : ¬ (120 : Int) < (N : Int) := by omega
    have HP0 : Hid (BodyP s N m0 0 []) := Lib.hid ⟨hm, rfl, rfl, by
      have := hfine rfl
      show s = (strOfNums (lebU N) ++ ⟨#[]⟩) ++ s.extract m0 s.size
      rw [app_nil]
      exact this, fun xs hx => by
      obtain ⟨f1, _, _, f4⟩ := HF.out xs hx
      exact ⟨by omega, rfl, f4⟩⟩
    clear hfine hm
    go_enter Tryd.func22, Tryd.ntmps22
    go_wp2_with (go_at_call 47; refine (CL.out _).mono ?_; rintro e w1 ⟨rfl, hb1⟩; have HB1 := Lib.hid hb1; clear hb1)
    go_loopw [5, 7, 8] (fun q v i wr => ∃ (k p : Nat) (ys : List In) (R : Option Addr) (c : Nat), k ≤ N ∧ q = .int .i64 p ∧ v = .slice R k c ∧ i = .int .i64 k ∧ Hid (OwnIn wr w.heap.size ys R k c) ∧ Hid (BodyP s N p k ys) ∧ Below w.heap.size w wr) (fun _ _ i _ => N - (intOf i).toNat)
    case atStart => exact ⟨0, m0, [], _, 0, Nat.zero_le _, rfl, rfl, rfl, ownIn_new _ _ HB1.out.size, HP0.out, HB1.out.alloc HB1.out.size _⟩
    case round =>
      obtain ⟨k, p, ys, R, c, hk, rfl, rfl, rfl, HO, HP, hbel⟩ := hrel
      have hple := HP.out.le
      have hpl : (p : Int) ≤ (s.size : Int) := by omega
      have hpl2 : ¬ ((s.size : Int) < (p : Int)) := by omega
      by_cases hlt : k < N
      · have huz : (s.extract p s.size).size ≤ 1048576 := by rw [ext_size _ _ _ (Nat.le_refl _)]; omega
        obtain ⟨o, a, m, ok2, hu, hI, hm2, hCI2⟩ := insOf_at (s.extract p s.size) huz
        have CI := Lib.hid hCI2
        have HU := Lib.hid hu
        have HI := Lib.hid hI
        have HM := Lib.hid hm2
        have hm3 : p + m ≤ s.size := by
          rw [ext_size _ _ _ (Nat.le_refl _)] at hm2
          omega
        have hli : (k : Int) < (N : Int) := by omega
        have HB := Lib.hid hbel
        clear hCI2 hu hI hm2 huz hbel
        cases ok2 with
        | false =>
          have HNO : Hid (∀ xs, ¬ IsBody s xs) := Lib.hid (HP.out.bad hlt (fun op av r h => by have := (HU.out op av r h).2.2; cases this))
          go_wp2_with (go_at_call 14; refine (CI.out _).mono ?_; rintro e w2 ⟨rfl, hb2⟩; have HB2 := Lib.hid (bnext HB.out hb2); clear hb2)
          refine bodyPost_ret (v := .tuple #[.slice none 0 0, .bool false]) (by simp [results, Tryd.results22, go_sem]) rfl (Or.inr ⟨HNO.out, none, 0, rfl, ownIn_nil _ _, ?_⟩)
          first | exact HB2.out | exact HB2.out.alloc HB2.out.size _
        | true =>
          have HP2 : Hid (BodyP s N (p + m) (k + 1) (ys ++ [⟨o, a⟩])) := Lib.hid (HP.out.step hlt HM.out (HI.out rfl).1 (fun op av r h => ⟨(HU.out op av r h).1, (HU.out op av r h).2.1⟩) hz)
          have HM3 := Lib.hid hm3
          clear hm3
          go_wp2_with (first
            | (go_at_call 14; refine (CI.out _).mono ?_; rintro e w2 ⟨rfl, hb2⟩; have HB2 := Lib.hid (bnext HB.out hb2); have hs2 := (bnext HB.out hb2).size; have HO2 := Lib.hid (((HO.out.keep hb2).keep (below1 w2 (.cells #[.int .i64 o, .int .i64 a] 27))).keep (below1 _ (.cells #[.int .i64 o, .int .i64 a] 27))); clear hb2)
            | (at_builtin; refine wpList_append_lies _ rfl _ _ _ rfl w.heap.size 27 i0 _ 2 16 Tryd.underlying37 hi0 hz0 hz1 hz2 rfl (by omega) (.slice R k c) k (inVals ys) rfl HO2.out.2 ⟨w2.heap.size + 1, 0, none⟩ 1 1 [.int .i64 o, .int .i64 a] rfl rfl (World.news_of_block (cs := #[.int .i64 o, .int .i64 a]) (t := 27) (fr := (0, 0)) (heap_two w2 _ _)) (by simp [Value.oneCell']) (by omega) (by unfold maxLen; omega) (by omega) (by simp; omega) (w2.heap.size + 2) (by simp) ?_; intro gg cap w3 hown3 hgrow hat hlt3))
          have HO3 : Hid (OwnIn w3 w.heap.size (ys ++ [⟨o, a⟩]) (some ⟨gg, 0, none⟩) (k + 1) cap) := Lib.hid ⟨by rw [List.length_append, HO2.out.1]; rfl, by rw [inVals_append]; exact hown3⟩
          have HB3 : Hid (Below w.heap.size w w3) := Lib.hid (((HB2.out.alloc hs2 _).alloc (by simp; omega) _).grown hgrow (by simp; omega) (fun g hg => (HO2.out.2.lt g hg).1))
          clear hown3 hgrow hat hlt3
          go_wp2_with fail
          go_roundw
          case rel => exact ⟨k + 1, p + m, _, _, cap, by omega, (by have := HM3.out; simp; unfold wrap64; omega), rfl, by go_num, HO3, HP2, HB3.out⟩
          case measure => simp [intOf]; omega
      · obtain rfl : k = N := by omega
        have hli : ¬ (k : Int) < (k : Int) := by omega
        have HB := Lib.hid hbel
        have hlen := HO.out.1
        clear hbel
        by_cases hp : p = s.size
        · have HY := Lib.hid (HP.out.done (by omega) hp)
          have e1 : ((p : Int) == (s.size : Int)) = true := by rw [beq_iff_eq]; omega
          have e2 : ((p : Int) != (s.size : Int)) = false := by rw [bne_eq_false_iff_eq]; omega
          have HOl : Hid (OwnIn wr w.heap.size ys R ys.length c) := Lib.hid (by rw [hlen]; exact HO.out)
          have HL := Lib.hid hlen
          clear hlen hp
          go_wp2_with fail
          exact bodyPost_ret (v := .tuple #[.slice R k c, .bool true]) (by simp [results, Tryd.results22, go_sem]) rfl (Or.inl ⟨ys, HY.out, R, c, by rw [HL.out], HOl.out, HB.out⟩)
        · have HNO := Lib.hid (HP.out.not hp)
          have e1 : ((p : Int) == (s.size : Int)) = false := by rw [beq_eq_false_iff_ne]; omega
          have e2 : ((p : Int) != (s.size : Int)) = true := by rw [bne_iff_ne]; omega
          clear hp
          go_wp2_with fail
          exact bodyPost_ret (v := .tuple #[.slice none 0 0, .bool false]) (by simp [results, Tryd.results22, go_sem]) rfl (Or.inr ⟨HNO.out, none, 0, rfl, ownIn_nil _ _, HB.out⟩)
  · have HNO : Hid (∀ xs, ¬ IsBody s xs) := Lib.hid (fun xs hx => hgo (by
      obtain ⟨f1, f2, _⟩ := HF.out xs hx
      have := (bodyV_parts hx.1).1
      exact ⟨f2, by omega⟩))
    cases ok with
    | false =>
      clear hfine hgo
      go_enter Tryd.func22, Tryd.ntmps22
      go_wp2_with (go_at_call 47; refine (CL.out _).mono ?_; rintro e w1 ⟨rfl, hb1⟩; have HB1 := Lib.hid hb1; clear hb1)
      exact bodyPost_ret (v := .tuple #[.slice none 0 0, .bool false]) (by simp [results, Tryd.results22, go_sem]) rfl (Or.inr ⟨HNO.out, none, 0, rfl, ownIn_nil _ _, HB1.out⟩)
    | true =>
      have hx2 : (120 : Int) < x := by
        rcases Int.lt_or_le 120 x with h | h
        · exact h
        · exact absurd ⟨rfl, h⟩ hgo
      clear hfine hgo
      go_enter Tryd.func22, Tryd.ntmps22
      go_wp2_with (go_at_call 47; refine (CL.out _).mono ?_; rintro e w1 ⟨rfl, hb1⟩; have HB1 := Lib.hid hb1; clear hb1)
      exact bodyPost_ret (v := .tuple #[.slice none 0 0, .bool false]) (by simp [results, Tryd.results22, go_sem]) rfl (Or.inr ⟨HNO.out, none, 0, rfl, ownIn_nil _ _, HB1.out⟩)
end Go.Proofs.YtbjcldekapipaaaDoor

