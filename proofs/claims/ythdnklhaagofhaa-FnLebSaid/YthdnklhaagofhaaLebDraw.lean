/-
  What the law on encodings draws: some number, some text.
-/
import Derived.Test.YthdnklhaagofhaaSrcBend
import Derived.Test.YthdnklhaagofhaaLong
import Derived.Test.YthdnklhaagofhaaSpecPutLeb
namespace Go.Proofs.Ythdnklhaagofhaa
open Go.ChangeShapes Go.WideShapes Go.ChangeAt Go.RowKit

/-- Some number, made in memory of its own. -/
def DrawsNum (lo hi : Int) (W : World) (e : Ending) (W' : World) : Prop := (∃ x : Int, e = .returned (.int .i64 x) ∧ lo ≤ x ∧ x ≤ hi) ∧ Below W.heap.size W W'
/-- Some text, made in memory of its own. -/
def DrawsText (m : Nat) (W : World) (e : Ending) (W' : World) : Prop := (∃ t : ByteArray, e = .returned (.string t) ∧ t.size ≤ m) ∧ Below W.heap.size W W'

theorem drawSleb_any (sv : Value) (W : World) (h : CodeOk W sv) :
    Calls Try.prog 11 #[sv] W (DrawsNum (-9223372036854775808) 9223372036854775807 W) := by
  have CF := Lib.hid (from_any sv W h)
  clear h
  go_enter Try.func11, Try.ntmps11
  go_wp2_with fail
  go_at_call 56
  refine CF.out.mono ?_
  rintro e W1 ⟨rfl, hs, hb⟩
  have CN := Lib.hid (num_any W.heap.size 0 (by omega) sv W1 hs)
  clear CF hs
  go_wp2_with fail
  go_at_call 55
  refine CN.out.mono ?_
  rintro e W2 ⟨x, n', rfl, hx, hn', hs2, hk⟩
  go_wp2_with fail
  go_ret
  exact ⟨⟨x, rfl, hx⟩, KeepB.below0 hb hk (Nat.le_refl _)⟩
theorem drawHex_any (sv : Value) (W : World) (h : CodeOk W sv) :
    Calls Try.prog 17 #[sv] W (DrawsText 1000 W) := by
  have CF := Lib.hid (from_any sv W h)
  clear h
  go_enter Try.func17, Try.ntmps17
  go_wp2_with fail
  go_at_call 56
  refine CF.out.mono ?_
  rintro e W1 ⟨rfl, hs, hb⟩
  have CN := Lib.hid (word_any W.heap.size 0 (by omega) sv 9 (by omega) (by omega) W1 hs)
  clear CF hs
  go_wp2_with fail
  go_at_call 70
  refine CN.out.mono ?_
  rintro e W2 ⟨x, n', rfl, hx, hn', hs2, hk⟩
  go_wp2_with fail
  go_ret
  exact ⟨⟨x, rfl, hx⟩, KeepB.below0 hb hk (Nat.le_refl _)⟩
theorem max8_any (a : Int) (w : World) :
    Calls Try.prog 69 #[.int .i64 0, .int .i64 a] w fun e w' => e = .returned (.int .i64 (a.toNat : Int)) ∧ w = w' := by
  by_cases h : 0 < a
  · have e : (a.toNat : Int) = a := by omega
    rw [e]
    have h1 : ¬ a < 0 := by omega
    go_enter Try.func69, Try.ntmps69
    go_wp2
    go_ret
    exact ⟨rfl, rfl⟩
  · have e : (a.toNat : Int) = 0 := by omega
    rw [e]
    by_cases h2 : a = 0
    · subst h2
      go_enter Try.func69, Try.ntmps69
      go_wp2
      go_ret
      exact ⟨rfl, rfl⟩
    have h1 : a < 0 := by omega
    go_enter Try.func69, Try.ntmps69
    go_wp2
    go_ret
    exact ⟨rfl, rfl⟩
set_option maxRecDepth 100000 in
set_option maxHeartbeats 1000000 in
theorem drawGetLeb_any (sv : Value) (W : World) (h : CodeOk W sv) :
    Calls Try.prog 16 #[sv] W (DrawsText 2000 W) := by
  have CF := Lib.hid (from_any sv W h)
  clear h
  go_enter Try.func16, Try.ntmps16
  go_wp2_with fail
  go_at_call 56
  refine CF.out.mono ?_
  rintro e W1 ⟨rfl, hs, hb⟩
  have CO := Lib.hid (one_any W.heap.size 0 (by omega) sv 8 (by omega) W1 hs)
  have HB1 := Lib.hid hb
  clear CF hs hb
  go_wp2_with fail
  go_at_call 65
  refine CO.out.mono ?_
  rintro e W2 ⟨r, n2, rfl, hn2, hs2, ho2⟩
  have HB2 := Lib.hid (KeepB.below0 HB1.out ho2.keep (Nat.le_refl _))
  have HS2 := Lib.hid hs2
  have HK2 := Lib.hid ho2.keep
  clear CO hs2 ho2
  cases r with
  | true =>
    go_wp2_with fail
    go_at_call 66
    refine Calls.mono (text_lit W.heap.size n2 (by omega) sv 24 _ _ _ _ ?hk ?h1 ?h2 ?hok W2 HS2.out) ?_
    case hk => rfl
    case h1 => decide
    case h2 => decide
    case hok => kernel_rfl
    rintro e W3 ⟨t, n3, rfl, ht, hn3, hs3, hk3⟩
    have HB3 := Lib.hid (KeepB.below0 HB1.out (HK2.out.trans hk3) (Nat.le_refl _))
    clear hs3 hk3
    go_wp2_with fail
    go_ret
    exact ⟨⟨t, rfl, by omega⟩, HB3.out⟩
  | false =>
    have CN := Lib.hid (num_any W.heap.size n2 (by omega) sv W2 HS2.out)
    go_wp2_with fail
    go_at_call 55
    refine CN.out.mono ?_
    rintro e W3 ⟨x, n3, rfl, hx, hn3, hs3, hk3⟩
    have HK3 := Lib.hid (HK2.out.trans hk3)
    have HS3 := Lib.hid hs3
    have CM := max8_any x W3
    obtain ⟨k, hk⟩ : ∃ k, x.toNat = k := ⟨_, rfl⟩
    rw [hk] at CM
    have CM := Lib.hid CM
    have CP := Lib.hid (specPutLeb_any k W3 (by omega))
    have hl : (strOfNums (lebU k)).size ≤ 10 := by
      rw [strOfNums_size]
      exact lebU_length 9 _ (by omega)
    obtain ⟨T, hT⟩ : ∃ T, strOfNums (lebU k) = T := ⟨_, rfl⟩
    clear hk
    rw [hT] at hl CP
    clear hs3 hk3 CN HS2 HK2 hT
    go_wp2_with fail
    go_at_call 69
    refine CM.out.mono ?_
    rintro e W4 ⟨rfl, rfl⟩
    go_wp2_with fail
    go_at_call 68
    refine CP.out.mono ?_
    rintro e W4 ⟨rfl, hb4⟩
    have HK4 := Lib.hid (HK3.out.below hb4 (Nat.le_of_lt HS3.out.lt))
    have CB := Lib.hid (bend_any W.heap.size n3 (by omega) sv T 10 hl (by omega) W4 (HS3.out.below hb4))
    clear hb4 HK3 HS3 CM CP
    go_wp2_with fail
    go_at_call 67
    refine CB.out.mono ?_
    rintro e W5 ⟨t, n5, rfl, ht, hn5, hs5, hk5⟩
    have HB5 := Lib.hid (KeepB.below0 HB1.out (HK4.out.trans hk5) (Nat.le_refl _))
    clear hs5 hk5 CB
    go_wp2_with fail
    go_ret
    exact ⟨⟨t, rfl, by omega⟩, HB5.out⟩
end Go.Proofs.Ythdnklhaagofhaa
