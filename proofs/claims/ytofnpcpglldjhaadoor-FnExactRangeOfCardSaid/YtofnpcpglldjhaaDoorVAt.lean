/-
  Walks of versionAt and text: a number's three parts, and their text.
-/
import Derived.Test.YtofnpcpglldjhaaDoorIn
import Derived.Test.YtofnpcpglldjhaaDoorDigits
import Derived.Lib.ItoaNum
import Derived.Deep.RegionHeld3
import Derived.Ground.NamesProg
import Derived.Shelf.Lay
import Derived.Shelf.Strconv.Itoa4
import Derived.Lib.AppendIntMem
namespace Go.Proofs
open Go.Shelf
shelf_lay LaysM.n173 Nm 173 at Tryd as Tryd.laysFI
end Go.Proofs
namespace Go.Proofs.YtofnpcpglldjhaaDoor
open Go.ChangeShapes Go.WideShapes Go.ChangeAt Go.RowKit

/-- strconv.FormatInt at base 10. -/
theorem fmt_any (n : Int) (h0 : 0 ≤ n) (h1 : n < 1000) (w : World) (htab : Lib.TabIs Tryd.prog w "internal/strconv.uint64pow10" .u64 Lib.pow10Tab) :
    Calls Tryd.prog 65 #[.int .i64 n, .int .i64 10] w fun e w' => e = .returned (.string (decB n)) ∧ Below w.heap.size w w' := by
  refine (Any.strconv_FormatInt_10 Tryd.laysFI n (by omega) (by omega) w htab).mono ?_
  rintro e w' ⟨rfl, k, os, rfl⟩
  refine ⟨?_, Lib.below_grow _ _ (Nat.le_refl _) k os⟩
  rw [Lib.itoa, if_neg (by omega)]
  rfl

theorem versionAt_any (n : Int) (h0 : 0 ≤ n) (h1 : n ≤ 999999999) (w : World) :
    Calls Tryd.prog 55 #[.int .i64 n] w fun e w' => e = .returned (.agg #[.int .i64 (n / 1000000), .int .i64 (n % 1000000 / 1000), .int .i64 (n % 1000)]) ∧ Below w.heap.size w w' := by
  go_enter Tryd.func55, Tryd.ntmps55
  go_wp2
  exact bodyPost_ret (v := .agg #[.int .i64 (n / 1000000), .int .i64 (n % 1000000 / 1000), .int .i64 (n % 1000)]) (by simp [results, Tryd.results55, go_sem]) rfl ⟨rfl, below1 _ _⟩

/-- A version's text. -/
def verB (a b c : Int) : ByteArray := decB a ++ ⟨#[46]⟩ ++ decB b ++ ⟨#[46]⟩ ++ decB c

/-- The table of the powers of ten. -/
def Pows (w : World) : Prop := Lib.TabIs Tryd.prog w "internal/strconv.uint64pow10" .u64 Lib.pow10Tab

theorem Pows.keep {w w' : World} (h : Pows w) (hb : Below w.heap.size w w') : Pows w' := Lib.tabBelow_of_tabIs h w' hb

theorem text_any (a b c : Int) (ha0 : 0 ≤ a) (ha1 : a < 1000) (hb0 : 0 ≤ b) (hb1 : b < 1000) (hc0 : 0 ≤ c) (hc1 : c < 1000) (w : World) (htab : Pows w) :
    Calls Tryd.prog 50 #[.agg #[.int .i64 a, .int .i64 b, .int .i64 c]] w fun e w' => e = .returned (.string (verB a b c)) ∧ Below w.heap.size w w' := by
  unfold verB
  have sa := decB_size a ha0 ha1
  have sb := decB_size b hb0 hb1
  have sc := decB_size c hc0 hc1
  go_enter Tryd.func50, Tryd.ntmps50
  go_wp2_with (go_at_call 65; refine (fmt_any _ (by omega) (by omega) _ (by first | exact htab.keep (below1 _ _) | assumption)).mono ?_; rintro e wx ⟨rfl, hbx⟩; obtain ⟨hcx, hfx⟩ := bcell hbx; have htx := Pows.keep (by first | exact htab.keep (below1 _ _) | assumption) hbx; have hzx : w.heap.size < wx.heap.size := (by have h1 := hbx.size; (try simp at h1); omega); have hall : Below w.heap.size w wx := (by first | exact bchain hall hbx hall.size | exact bchain (below1 _ _) hbx (by simp)); clear hbx)
  go_ret
  exact ⟨rfl, hall⟩

theorem implVersionOf_no (n : Int) (h : n < 0 ∨ 999999999 < n) (w : World) :
    Calls Tryd.prog 27 #[.int .i64 n] w fun e w' => e = .returned (.string ⟨#[]⟩) ∧ Below w.heap.size w w' := by
  by_cases h1 : n < 0
  · go_enter Tryd.func27, Tryd.ntmps27
    go_wp2
    go_ret
    exact ⟨rfl, Below.refl _ _⟩
  · have h2 : 0 ≤ n := by omega
    have h3 : 1000000000 ≤ n := by omega
    clear h h1
    go_enter Tryd.func27, Tryd.ntmps27
    go_wp2
    go_ret
    exact ⟨rfl, Below.refl _ _⟩

theorem implVersionOf_yes (n : Int) (h0 : 0 ≤ n) (h1 : n ≤ 999999999) (w : World) (htab : Pows w) :
    Calls Tryd.prog 27 #[.int .i64 n] w fun e w' => e = .returned (.string (verB (n / 1000000) (n % 1000000 / 1000) (n % 1000))) ∧ Below w.heap.size w w' := by
  have h2 : n < 1000000000 := by omega
  go_enter Tryd.func27, Tryd.ntmps27
  go_wp2_with (first
    | (go_at_call 55; refine (versionAt_any n h0 h1 _).mono ?_; rintro e w1 ⟨rfl, hb1⟩; have ht1 := htab.keep hb1)
    | (go_at_call 50; refine (text_any _ _ _ (by omega) (by omega) (by omega) (by omega) (by omega) (by omega) _ ht1).mono ?_; rintro e w2 ⟨rfl, hb2⟩))
  go_ret
  exact ⟨rfl, bchain hb1 hb2 hb1.size⟩
end Go.Proofs.YtofnpcpglldjhaaDoor
