/-
  Walks of the drawing source's word: some text of a few bytes.
-/
import Derived.Test.YthdnklhaagofhaaDoorSrcLit
import Derived.Test.YthdnklhaagofhaaDoorU8
import Derived.Test.YthdnklhaagofhaaDoorOwn
import Derived.Deep.RegionHeld3
import Derived.Deep.AppendLies
namespace Go.Proofs.YthdnklhaagofhaaDoor
open Go.ChangeShapes Go.WideShapes Go.ChangeAt Go.RowKit

theorem ownOnly {W W' : World} {B base : Nat} {e : TypeId} {size n : Nat} {v : Value} {xs : List Value} (h : W.ownsRow base e size v n xs) (hB : B < base) (ho : OnlyB B W W') : W'.ownsRow base e size v n xs := by
  refine ⟨h.1, ?_⟩
  rcases h.2 with h2 | ⟨g, cap, cur, hv, hg, hh, r⟩
  · exact Or.inl h2
  · exact Or.inr ⟨g, cap, cur, hv, hg, (ho.2.2 g (by omega)).trans hh, r⟩

/-- A source is one still, when nothing is changed that lay there when it was made. -/
theorem SrcAt.low {W0 W w : World} {B n0 n : Nat} {sv : Value} (h0 : SrcAt W0 B n0 sv) (h : SrcAt W B n sv) (hb : Below W0.heap.size W w) : SrcAt w B n sv := by
  have hB := h0.lt
  have hc : ∀ x : Addr, x.block < W0.heap.size → w.cell? x = W.cell? x := fun x hx => by simp only [World.cell?, hb.block _ hx]
  have hf : ∀ x : Addr, x.block < W0.heap.size → w.frozen? x = W.frozen? x := fun x hx => by simp only [World.frozen?, hb.block _ hx]
  obtain ⟨z, h2, z0, z1⟩ := h.seed
  refine ⟨(hc _ hB).trans h.code, (hc _ hB).trans h.at_, ⟨z, (hc _ hB).trans h2, z0, z1⟩, (hf _ hB).trans h.f1, (hf _ hB).trans h.f2, ?_⟩
  rcases h.bytes with e | ⟨b, o, m, c, e1, e2, e3, e4⟩
  · exact Or.inl e
  · refine Or.inr ⟨b, o, m, c, e1, e2, e3, fun i hi => ?_⟩
    obtain ⟨x, x0, x1, x2⟩ := e4 i hi
    refine ⟨x, x0, x1, (hc _ ?_).trans x2⟩
    rcases h0.bytes with ⟨R, c', e⟩ | ⟨b', o', m', c', k1, _, _, k4⟩
    · rw [e] at e1
      injection e1 with _ e5 _
      omega
    · rw [k1] at e1
      injection e1 with e5 e6 e7
      injection e5 with e5
      injection e5 with e8 e9
      subst e8
      subst e9
      subst e6
      obtain ⟨y, _, _, y2⟩ := k4 i hi
      show b' < W0.heap.size
      by_cases hl : b' < W0.heap.size
      · exact hl
      · have hn : W0.heap[b']? = none := Array.getElem?_eq_none (by omega)
        simp [World.cell?, hn] at y2

set_option maxRecDepth 100000 in
set_option maxHeartbeats 1000000 in
theorem word_any (B n : Nat) (hn : n ≤ 800000) (sv : Value) (k : Int) (hk : k ≤ 1000) (hk0 : 0 ≤ k) (W : World) (h : SrcAt W B n sv) :
    Calls Tryd.prog 139 #[.pointer (some ⟨B, 0, none⟩), .int .i64 k] W (SomeText B n 1002 1000 sv W) := by
  obtain ⟨i0, hi0, hz0, hz1, hz2⟩ := info_parts Tryd.infoU8
  have HB := Lib.hid h.lt
  have C := Lib.hid (fun W' (h : SrcAt W' B n sv) => pick_any B n (by omega) sv k (by omega) W' h)
  have HH := Lib.hid h
  clear h
  go_enter Tryd.func139, Tryd.ntmps139
  go_wp2_with fail
  go_at_call 92
  refine (C.out _ (HH.out.below (below1 _ _))).mono ?_
  rintro e W1 ⟨r, n1, rfl, r0, r1, hn1, hs1, ho1⟩
  have HB1 := Lib.hid (((KeepB.refl B W).below (below1 W (.cells #[] 5)) (Nat.le_of_lt HB.out)).trans ho1.keep)
  have hz1' : W1.heap.size = W.heap.size + 1 := by
    rw [ho1.2.1]
    simp
  have HO1 := Lib.hid (ownOnly (base := W.heap.size) (e := 5) (size := 1) (v := .slice (some ⟨W.heap.size, 0, none⟩) 0 0) (n := 0) (xs := []) (World.ownsRow_made _ _ _ (Nat.le_refl _) (by unfold maxLen; omega) (by simp)) HB.out ho1)
  have HS1 := Lib.hid hs1
  obtain ⟨k1, rfl⟩ := Int.eq_ofNat_of_zero_le r0
  have hk1 : k1 ≤ 1000 := by omega
  clear ho1 hs1 r0 r1 C
  go_wp2_with fail
  go_loopw [5, 6] (fun v i wr => ∃ (j : Nat) (xs : List Int) (n' : Nat), i = .int .i64 j ∧ xs.length + j = k1 ∧ n' + j ≤ n1 + k1 ∧ v ≠ .slice none 0 0 ∧ wr.ownsRow W.heap.size 5 1 v xs.length (xs.map (Value.int .u8)) ∧ SrcAt wr B n' sv ∧ KeepB B W wr) (fun _ i _ => (intOf i).toNat)
  case atStart => exact ⟨k1, [], n1, rfl, by simp, by omega, by simp, HO1.out, HS1.out, HB1.out⟩
  case round =>
    obtain ⟨j, xs, n', rfl, hj, hn', hv, hown, hs, hkb⟩ := hrel
    by_cases hlt : 0 < j
    · have hji : (0 : Int) < (j : Int) := by omega
      have CN := Lib.hid (next_any B n' (by omega) sv wr hs)
      have HOW := Lib.hid hown
      have HKB := Lib.hid hkb
      clear hown hkb hs HO1 HS1 HB1
      go_wp2_with fail
      go_at_call 135
      refine CN.out.mono ?_
      rintro e W2 ⟨x, rfl, x0, x1, hs2, ho2⟩
      have HS2 := Lib.hid hs2
      have HK2 := Lib.hid (HKB.out.trans ho2.keep)
      have hown2 := ownOnly HOW.out HB.out ho2
      clear hs2 ho2 CN HOW HKB
      have hsz2 : W.heap.size ≤ W2.heap.size := HK2.out.2.1
      go_wp2_with (at_builtin; refine wpList_append_lies _ rfl _ _ _ rfl W.heap.size 5 i0 _ 1 1 Tryd.underlying22 hi0 hz0 hz1 hz2 rfl (by omega) u5 xs.length (xs.map (Value.int .u8)) rfl (hown2.alloc _) ⟨W2.heap.size, 0, none⟩ 1 1 [.int .u8 x] rfl rfl (World.news_of_block (cs := #[.int .u8 x]) (t := 5) (fr := (0, 0)) (heap_alloc_new W2 _)) (by simp [Value.oneCell']) (by omega) (by unfold maxLen; omega) (by omega) (by simp; omega) (W2.heap.size + 1) (by simp) ?_; intro gg cap w3 hown3 hgrow hat hlt1)
      have hbel3 : Below W.heap.size W2 w3 := ((Below.refl _ W2).alloc hsz2 _).grown hgrow (by simp; omega) (fun g hg => (hown2.lt g hg).1)
      have hown4 : w3.ownsRow W.heap.size 5 1 (.slice (some ⟨gg, 0, none⟩) (xs.length + 1) cap) (xs ++ [x]).length ((xs ++ [x]).map (Value.int .u8)) := by
        rw [← own_map_snoc]; simpa using hown3
      have HS3 := Lib.hid (HH.out.low HS2.out hbel3)
      have HK3 : Hid (KeepB B W w3) := Lib.hid ⟨HK2.out.1.trans (hbel3.mono (Nat.le_of_lt HB.out)), Nat.le_trans hsz2 hbel3.size, fun k hk hl => (hbel3.block k hl).trans (HK2.out.2.2 k hk hl)⟩
      have HO4 := Lib.hid hown4
      clear hown3 hgrow hown2 hat hlt1 hbel3 hown4
      go_wp2_with fail
      go_roundw
      case rel => exact ⟨j - 1, xs ++ [x], n' + 1, by go_num, by simp; omega, by omega, by simp, HO4.out, HS3.out, HK3.out⟩
      case measure => simp [intOf]; omega
    · obtain rfl : j = 0 := by omega
      have hcv := run_convert_own (P := Tryd.prog) wr 22 5 Tryd.underlying22 Tryd.underlying5 W.heap.size u5 _ _ hown hv 9 Tryd.underlying9
      have HS := Lib.hid hs
      have HKB := Lib.hid hkb
      clear hown hv hs hkb
      go_wp2_with fail
      go_ret
      exact ⟨_, n', rfl, by rw [strOfNums_size]; omega, by omega, HS.out, HKB.out⟩
end Go.Proofs.YthdnklhaagofhaaDoor
