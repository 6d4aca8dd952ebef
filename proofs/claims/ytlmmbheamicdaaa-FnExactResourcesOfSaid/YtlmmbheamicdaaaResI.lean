/-
  The walk of the program's ResourcesOf.
-/
import Derived.Test.YtlmmbheamicdaaaResT
import Derived.Test.YtlmmbheamicdaaaTyPartsIn
import Derived.Test.YtlmmbheamicdaaaMarks
import Derived.Shelf.Sort.Plain
import Derived.Shelf.Slices.In.SortNone
import Derived.Shelf.Slices.CompactS
import Derived.Shelf.Lay
import Derived.Sort.OwnSorted
open Go.Shelf Go.Proofs
def Try.laysSoRes_ren : Go.Shelf.Ren := ⟨fun | 190 => 61 | 125 => 83 | 258 => 82 | 128 => 103 | 129 => 104 | 302 => 94 | 303 => 95 | 304 => 96 | 305 => 97 | 306 => 98 | 307 => 99 | 308 => 100 | 309 => 101 | 310 => 102 | 333 => 109 | 329 => 110 | 330 => 111 | 334 => 112 | 335 => 113 | 336 => 114 | 344 => 115 | n => n, fun | 31 => 22 | 9 => 9 | 3 => 3 | 46 => 77 | 0 => 0 | 51 => 97 | 53 => 99 | 4 => 4 | 183 => 89 | 182 => 88 | 131 => 94 | 5 => 5 | 218 => 104 | 222 => 108 | 228 => 110 | 229 => 111 | n => n, fun | n => n⟩
theorem Try.laysSoRes : Go.Proofs.Lays.n190 Try.prog Try.laysSoRes_ren := {
  mixed := by kernel_rfl
  f125 := Try.func83.trans (congrArg some (by kernel_rfl))
  f128 := Try.func103.trans (congrArg some (by kernel_rfl))
  f129 := Try.func104.trans (congrArg some (by kernel_rfl))
  f190 := Try.func61.trans (congrArg some (by kernel_rfl))
  f258 := Try.func82.trans (congrArg some (by kernel_rfl))
  f302 := Try.func94.trans (congrArg some (by kernel_rfl))
  f303 := Try.func95.trans (congrArg some (by kernel_rfl))
  f304 := Try.func96.trans (congrArg some (by kernel_rfl))
  f305 := Try.func97.trans (congrArg some (by kernel_rfl))
  f306 := Try.func98.trans (congrArg some (by kernel_rfl))
  f307 := Try.func99.trans (congrArg some (by kernel_rfl))
  f308 := Try.func100.trans (congrArg some (by kernel_rfl))
  f309 := Try.func101.trans (congrArg some (by kernel_rfl))
  f310 := Try.func102.trans (congrArg some (by kernel_rfl))
  f329 := Try.func110.trans (congrArg some (by kernel_rfl))
  f330 := Try.func111.trans (congrArg some (by kernel_rfl))
  f333 := Try.func109.trans (congrArg some (by kernel_rfl))
  f334 := Try.func112.trans (congrArg some (by kernel_rfl))
  f335 := Try.func113.trans (congrArg some (by kernel_rfl))
  f336 := Try.func114.trans (congrArg some (by kernel_rfl))
  f344 := Try.func115.trans (congrArg some (by kernel_rfl))
  t0 := Try.underlying0
  a0 := Try.isAgg0
  z0 := Try.sizeOf0
  v0 := Try.zeroValue0
  t3 := Try.underlying3
  a3 := Try.isAgg3
  z3 := Try.sizeOf3
  v3 := Try.zeroValue3
  t4 := Try.underlying4
  a4 := Try.isAgg4
  z4 := Try.sizeOf4
  v4 := Try.zeroValue4
  t5 := Try.underlying5
  a5 := Try.isAgg5
  z5 := Try.sizeOf5
  v5 := Try.zeroValue5
  t9 := Try.underlying9
  a9 := Try.isAgg9
  z9 := Try.sizeOf9
  v9 := Try.zeroValue9
  t31 := Try.underlying22
  a31 := Try.isAgg22
  z31 := Try.sizeOf22
  v31 := Try.zeroValue22
  t46 := Try.underlying77
  a46 := Try.isAgg77
  z46 := Try.sizeOf77
  v46 := Try.zeroValue77
  t51 := Try.underlying97
  a51 := Try.isAgg97
  z51 := Try.sizeOf97
  v51 := Try.zeroValue97
  t53 := Try.underlying99
  a53 := Try.isAgg99
  z53 := Try.sizeOf99
  v53 := Try.zeroValue99
  t131 := Try.underlying94
  a131 := Try.isAgg94
  z131 := Try.sizeOf94
  v131 := Try.zeroValue94
  t182 := Try.underlying88
  a182 := Try.isAgg88
  z182 := Try.sizeOf88
  v182 := Try.zeroValue88
  t183 := Try.underlying89
  a183 := Try.isAgg89
  z183 := Try.sizeOf89
  v183 := Try.zeroValue89
  t218 := Try.underlying104
  a218 := Try.isAgg104
  z218 := Try.sizeOf104
  v218 := Try.zeroValue104
  t222 := Try.underlying108
  a222 := Try.isAgg108
  z222 := Try.sizeOf108
  v222 := Try.zeroValue108
  t228 := Try.underlying110
  a228 := Try.isAgg110
  z228 := Try.sizeOf110
  v228 := Try.zeroValue110
  t229 := Try.underlying111
  a229 := Try.isAgg111
  z229 := Try.sizeOf111
  v229 := Try.zeroValue111 }
def Try.laysCoRes_ren : Go.Shelf.Ren := ⟨fun | 194 => 62 | n => n, fun | 31 => 22 | 9 => 9 | 3 => 3 | 4 => 4 | 0 => 0 | n => n, fun | n => n⟩
theorem Try.laysCoRes : Go.Proofs.Lays.n194 Try.prog Try.laysCoRes_ren := {
  mixed := by kernel_rfl
  f194 := Try.func62.trans (congrArg some (by kernel_rfl))
  t0 := Try.underlying0
  a0 := Try.isAgg0
  z0 := Try.sizeOf0
  v0 := Try.zeroValue0
  t3 := Try.underlying3
  a3 := Try.isAgg3
  z3 := Try.sizeOf3
  v3 := Try.zeroValue3
  t4 := Try.underlying4
  a4 := Try.isAgg4
  z4 := Try.sizeOf4
  v4 := Try.zeroValue4
  t9 := Try.underlying9
  a9 := Try.isAgg9
  z9 := Try.sizeOf9
  v9 := Try.zeroValue9
  t31 := Try.underlying22
  a31 := Try.isAgg22
  z31 := Try.sizeOf22
  v31 := Try.zeroValue22 }
namespace Go.Proofs.Ytlmmbheamicdaaa
open Go.ChangeShapes Go.WideShapes Go.ChangeAt Go.RowKit Go.Deep

theorem resHandle_any (k : Int) (n : ByteArray) (A B : Option Addr) (l m ca cb : Nat) (w : World) :
    Calls Try.prog 58 #[.agg #[.int .i64 k, .string n, .slice A l ca, .slice B m cb]] w fun e w' => e = .returned (.bool (inB 20 21 k)) ∧ Below w.heap.size w w' := by
  by_cases h1 : k = 20
  · subst h1
    go_enter Try.func58, Try.ntmps58
    go_wp2
    go_ret
    exact ⟨rfl, below1 _ _⟩
  · by_cases h2 : k = 21
    · subst h2
      go_enter Try.func58, Try.ntmps58
      go_wp2
      go_ret
      exact ⟨rfl, below1 _ _⟩
    · have e1 : (k == 20) = false := by rw [beq_eq_false_iff_ne]; exact h1
      have e2 : (k == 21) = false := by rw [beq_eq_false_iff_ne]; exact h2
      have e3 : inB 20 21 k = false := by
        unfold inB
        rw [Bool.and_eq_false_iff, decide_eq_false_iff_not, decide_eq_false_iff_not]
        omega
      rw [e3]
      clear e3
      go_enter Try.func58, Try.ntmps58
      go_wp2
      go_ret
      exact ⟨rfl, below1 _ _⟩

theorem strV_enc (l : Tx) : strV l = encStr l := rfl
theorem map_strV (ns : List Tx) : ns.map strV = ns.map encStr := rfl
/-- The sort of a row of one's own. -/
theorem sort_own (base : Nat) (ns : List Tx) (hn : ns.length ≤ 1000) (R : Option Addr) (cap : Nat) (w : World) (h : w.ownsRow base 9 1 (.slice R ns.length cap) ns.length (ns.map strV)) :
    Calls Try.prog 61 #[.slice R ns.length cap] w fun e w' => e = .returned (.tuple #[]) ∧ w'.ownsRow base 9 1 (.slice R ns.length cap) ns.length ((ns.mergeSort fun x y => decide (x ≤ y)).map strV) ∧ w.grownBy w' (Value.slice R ns.length cap).ownBlock := by
  have H := h
  rcases h.2 with ⟨e, e2⟩ | ⟨g, cap', cur, e, hg, hb, h1, h2, h3, h4⟩
  · injection e with e3 _ e5
    subst e3 e5
    have hnil : ns = [] := List.eq_nil_of_length_eq_zero e2
    subst hnil
    refine (Any.slices_Sort_string_none Try.laysSoRes none 0 w).mono fun e w' h => ?_
    obtain ⟨rfl, h⟩ := h
    have hw : w' = w := by first | exact h | exact h.symm
    subst hw
    exact ⟨rfl, by simpa using H, World.grownBy.refl _ _⟩
  · injection e with e3 _ e5
    subst e3 e5
    have hgl : g < w.heap.size := (Array.getElem?_eq_some_iff.1 hb).1
    rw [Nat.mul_one] at h4
    have hh := holds_of_block (ss := ns) hb (by rw [h4]; exact map_strV ns)
    refine (Any.slices_Sort_string Try.laysSoRes g 0 cap ns w hh hgl (by omega)).mono fun e w' h => ?_
    obtain ⟨rfl, n, os, rfl⟩ := h
    refine ⟨rfl, ?_, grownBy_sorted _⟩
    have h9 := ownsRow_sorted (w := w) (base := base) (g := g) (cap := cap) (n := n) (e := 9) (os := os) (ss := ns) (ts := ns.mergeSort fun x y => decide (x ≤ y)) (by simp) hg hb h1 h2 h3
    exact h9
theorem compact_nil (w : World) (cap : Nat) : Calls Try.prog 62 #[.slice none 0 cap] w fun e w' => e = .returned (.slice none 0 cap) ∧ w = w' := by
  go_enter Try.func62, Try.ntmps62
  go_wp2_with fail
  go_ret
  exact ⟨rfl, rfl⟩
theorem compact_len (zs : List Tx) : (Lib.compact zs).length ≤ zs.length := by
  unfold Lib.compact Lib.compactUpTo
  rw [List.length_map]
  exact Nat.le_trans (List.length_filter_le _ _) (by simp)
/-- Striking doubles out of a row of one's own. -/
theorem compact_own (base : Nat) (zs : List Tx) (hn : zs.length ≤ 1000) (R : Option Addr) (cap : Nat) (w : World) (h : w.ownsRow base 9 1 (.slice R zs.length cap) zs.length (zs.map strV)) :
    Calls Try.prog 62 #[.slice R zs.length cap] w fun e w' => e = .returned (.slice R (Lib.compact zs).length cap) ∧ (∃ bs, StrsOwn w' ((Lib.compact zs).map tb) R bs ∧ ∀ b ∈ bs, base ≤ b ∧ b < w'.heap.size) ∧ w.grownBy w' (Value.slice R zs.length cap).ownBlock := by
  rcases h.2 with ⟨e, e2⟩ | ⟨g, cap', cur, e, hg, hb, h1, h2, h3, h4⟩
  · injection e with e3 _ e5
    subst e3 e5
    have hnil : zs = [] := List.eq_nil_of_length_eq_zero e2
    subst hnil
    refine (compact_nil w 0).mono fun e w' h => ?_
    obtain ⟨rfl, rfl⟩ := h
    exact ⟨rfl, ⟨[], Or.inl ⟨by simp [Lib.compact, Lib.compactUpTo], rfl⟩, by simp⟩, World.grownBy.refl _ _⟩
  · injection e with e3 _ e5
    subst e3 e5
    have hgl : g < w.heap.size := (Array.getElem?_eq_some_iff.1 hb).1
    rw [Nat.mul_one] at h4
    have hh := holds_of_block (ss := zs) hb (by rw [h4]; exact map_strV zs)
    refine (Any.slices_Compact_string Try.laysCoRes g 0 cap zs w hh (by omega) h1).mono fun e w' h => ?_
    obtain ⟨rfl, n, rfl⟩ := h
    have hgr := grownBy_sorted (w := w) (g := g) (n := n) (os := #[]) (Lib.compact zs ++ List.replicate (zs.length - (Lib.compact zs).length) ([] : Tx)).toArray
    have h9 := ownsRow_sorted (w := w) (base := base) (g := g) (cap := cap) (n := n) (e := 9) (os := #[]) (ss := zs) (ts := Lib.compact zs ++ List.replicate (zs.length - (Lib.compact zs).length) ([] : Tx)) (by have := compact_len zs; simp; omega) hg hb h1 h2 h3
    rw [Go.Sort.grow_empty] at hgr h9
    refine ⟨rfl, ?_, hgr⟩
    obtain ⟨hs, hl⟩ := own_strs h9
    by_cases hc : Lib.compact zs = []
    · exact ⟨[], Or.inl ⟨by rw [hc]; rfl, rfl⟩, by simp⟩
    · refine ⟨[g], Or.inr ⟨g, rfl, rfl, ?_, fun i s hi => ?_⟩, fun b hb' => ?_⟩
      · exact ⟨_, _, by have h8 := heap_sorted (w := w) (g := g) (n := n) (os := #[]) (Lib.compact zs ++ List.replicate (zs.length - (Lib.compact zs).length) ([] : Tx)).toArray hb; rw [Go.Sort.grow_empty] at h8; exact h8⟩
      · have hpos : 0 < (Lib.compact zs).length := by cases hz : Lib.compact zs with
          | nil => exact absurd hz hc
          | cons a b => simp
        obtain ⟨b', o', h5, _, h6⟩ := hs (by rw [List.length_map, List.length_append]; omega)
        injection h5 with h5
        injection h5 with h5 h7 _
        subst h5 h7
        have h8 := h6 i s (by
          rw [List.map_append, List.getElem?_append_left (by have := (List.getElem?_eq_some_iff.1 hi).1; simpa using this)]
          exact hi)
        rw [Nat.zero_add] at h8
        exact h8
      · obtain rfl : b = g := by simpa using hb'
        exact ⟨hg, Nat.lt_of_lt_of_le hgl hgr.size⟩
end Go.Proofs.Ytlmmbheamicdaaa
