/-
  The walk of the model's GetHex.
-/
import Derived.Test.YtfadodmkppeodabHexRune
import Derived.Test.YtfadodmkppeodabHexMath
import Derived.Deep.RegionHeld3
import Derived.Deep.AppendLies
import Derived.IntWalk
namespace Go.Proofs.Ytfadodmkppeodab
open Go.ChangeShapes Go.WideShapes Go.ChangeAt Go.RowKit

/-- The bytes that a text of digits tells; none where it is none. -/
def unhex : List UInt8 → Option (List Int)
  | [] => some []
  | [_] => none
  | a :: b :: t => if 15 < hv (a.toNat : Int) ∨ 15 < hv (b.toNat : Int) then none else (unhex t).map (fun r => (16 * hv (a.toNat : Int) + hv (b.toNat : Int)) :: r)

/-- What both GetHex answer. -/
def ghV : Option (List Int) → Value
  | none => .tuple #[.string ⟨#[]⟩, .bool false]
  | some r => .tuple #[.string (strOfNums r), .bool true]

theorem hv_bd (c : Int) : 0 ≤ hv c ∧ hv c ≤ 16 := by
  unfold hv
  split
  · omega
  · split <;> omega

theorem unhex_odd : ∀ l : List UInt8, l.length % 2 = 1 → unhex l = none
  | [], h => by simp at h
  | [_], _ => rfl
  | a :: b :: t, h => by
    rw [unhex, unhex_odd t (by simp at h; omega)]
    split <;> rfl

theorem unhex_step (l : List UInt8) (j : Nat) (h : j + 1 < l.length) :
    unhex (l.drop j) = if 15 < hv ((l[j]'(by omega)).toNat : Int) ∨ 15 < hv ((l[j + 1]'h).toNat : Int) then none
      else (unhex (l.drop (j + 2))).map (fun r => (16 * hv ((l[j]'(by omega)).toNat : Int) + hv ((l[j + 1]'h).toNat : Int)) :: r) := by
  rw [List.drop_eq_getElem_cons (show j < l.length by omega), List.drop_eq_getElem_cons (show j + 1 < l.length from h)]
  rfl

/-- What is left, behind what is done. -/
def done (xs : List Int) (o : Option (List Int)) : Option (List Int) := o.map (fun r => xs ++ r)
theorem done_step (xs : List Int) (v : Int) (o : Option (List Int)) : done xs (o.map (fun r => v :: r)) = done (xs ++ [v]) o := by
  cases o <;> simp [done]

theorem l01Hex_any (c : Int) (h0 : 0 ≤ c) (h1 : c < 256) (w : World) :
    Calls Try.prog 6 #[.int .u8 c] w fun e w' => e = .returned (.int .u8 (hv c)) ∧ w = w' := by
  unfold hv
  by_cases h2 : 48 ≤ c ∧ c ≤ 57
  · rw [if_pos h2]
    obtain ⟨h3, h4⟩ := h2
    go_enter Try.func6, Try.ntmps6
    go_wp2
    go_ret
    exact ⟨ret_int (by first | rfl | omega), rfl⟩
  · rw [if_neg h2]
    by_cases h5 : 97 ≤ c ∧ c ≤ 102
    · rw [if_pos h5]
      obtain ⟨h6, h7⟩ := h5
      have h8 : 48 ≤ c := by omega
      have h9 : ¬ c ≤ 57 := by omega
      clear h2
      go_enter Try.func6, Try.ntmps6
      go_wp2
      go_ret
      exact ⟨ret_int (by first | rfl | omega), rfl⟩
    · rw [if_neg h5]
      by_cases h6 : 48 ≤ c
      · have h7 : ¬ c ≤ 57 := by omega
        by_cases h8 : 97 ≤ c
        · have h9 : ¬ c ≤ 102 := by omega
          clear h2 h5
          go_enter Try.func6, Try.ntmps6
          go_wp2
          go_ret
          exact ⟨rfl, rfl⟩
        · clear h2 h5
          go_enter Try.func6, Try.ntmps6
          go_wp2
          go_ret
          exact ⟨rfl, rfl⟩
      · have h8 : ¬ 97 ≤ c := by omega
        clear h2 h5
        go_enter Try.func6, Try.ntmps6
        go_wp2
        go_ret
        exact ⟨rfl, rfl⟩

theorem specGH_odd (s : ByteArray) (h : s.size % 2 = 1) (hs : s.size ≤ 1048576) (w : World) :
    Calls Try.prog 4 #[.string s] w fun e w' => e = .returned (ghV none) ∧ Below w.heap.size w w' := by
  unfold ghV
  have h2 : 0 < (s.size : Int) % 2 := by omega
  have h3 : (s.size : Int) ≤ 4294967296 := by omega
  clear h
  go_enter Try.func4, Try.ntmps4
  go_wp2
  go_ret2
  exact ⟨rfl, Below.refl _ _⟩

theorem unhex_at (s : ByteArray) (j : Nat) (h : j + 1 < s.size) :
    unhex (s.data.toList.drop j) = if 15 < hv ((s[j]'(by omega)).toNat : Int) ∨ 15 < hv ((s[j + 1]'h).toNat : Int) then none
      else (unhex (s.data.toList.drop (j + 2))).map (fun r => (16 * hv ((s[j]'(by omega)).toNat : Int) + hv ((s[j + 1]'h).toNat : Int)) :: r) :=
  unhex_step s.data.toList j (by simpa using h)

theorem own_snoc1 (l : List Int) (a : Int) : l.map (Value.int .u8) ++ [Value.int .u8 a] = (l ++ [a]).map (Value.int .u8) := by simp

set_option maxRecDepth 100000 in
theorem or16 : ∀ x y : Fin 16, bits .or .u8 (16 * (x.val : Int)) (y.val : Int) = 16 * (x.val : Int) + (y.val : Int) := by decide
theorem or_at (x y : Int) (h0 : 0 ≤ x) (h1 : x ≤ 15) (h2 : 0 ≤ y) (h3 : y ≤ 15) : bits .or .u8 (16 * x) y = 16 * x + y := by
  have := or16 ⟨x.toNat, by omega⟩ ⟨y.toNat, by omega⟩
  simpa [Int.toNat_of_nonneg h0, Int.toNat_of_nonneg h2] using this
theorem shl_at (x : Int) (h0 : 0 ≤ x) (h1 : x ≤ 15) : ∀ W, (Op.shift .shl .u8 x .u64 4).run Try.prog W = .ok (.int .u8 (16 * x)) W := by
  intro W
  rw [shift_shl_any _ _ _ _ (by omega)]
  congr 2
  simp [IntKind.wrap, IntKind.signed, IntKind.bits]
  omega
theorem Try.infoU8 : (Try.prog.info? 5).map (fun i => (i.zero, i.size, i.bytes)) = some (some (.int .u8 0), 1, 1) := by kernel_rfl

theorem index_at (s : ByteArray) (j : Nat) (h : j < s.size) : ∀ W, (Instr.index 9 (.string s) (.int .i64 (j : Int))).run Try.prog W = .ok (.int .u8 ((s[j]'h).toNat : Int)) W := by
  intro W
  rw [run_index_string W _ _ _ _ Try.underlying9, dif_pos ⟨by omega, by omega⟩]
  rfl
theorem index_at1 (s : ByteArray) (j : Nat) (h : j + 1 < s.size) : ∀ W, (Instr.index 9 (.string s) (.int .i64 ((j : Int) + 1))).run Try.prog W = .ok (.int .u8 ((s[j + 1]'h).toNat : Int)) W := index_at s (j + 1) h

set_option maxRecDepth 100000 in
set_option maxHeartbeats 1000000 in
theorem specGH_even (s : ByteArray) (h : s.size % 2 = 0) (hs : s.size ≤ 1048576) (w : World) :
    Calls Try.prog 4 #[.string s] w fun e w' => e = .returned (ghV (unhex s.data.toList)) ∧ Below w.heap.size w w' := by
  obtain ⟨i0, hi0, hz0, hz1, hz2⟩ := info_parts Try.infoU8
  obtain ⟨R, hR⟩ : ∃ R, unhex s.data.toList = R := ⟨_, rfl⟩
  rw [hR]
  have HR0 : Hid (done [] (unhex (s.data.toList.drop 0)) = R) := Lib.hid (by rw [List.drop_zero, hR]; cases R <;> simp [done])
  clear hR
  have h2 : ¬ 0 < (s.size : Int) % 2 := by omega
  have h3 : (s.size : Int) ≤ 4294967296 := by omega
  have HS := Lib.hid hs
  have HE := Lib.hid h
  clear h hs
  go_enter Try.func4, Try.ntmps4
  go_wp2_with fail
  go_loopw [4, 5] (fun v i wr => ∃ (j : Nat) (xs : List Int), i = .int .i64 j ∧ j ≤ s.size ∧ j % 2 = 0 ∧ v ≠ .slice none 0 0 ∧ 2 * xs.length = j ∧ wr.ownsRow w.heap.size 5 1 v xs.length (xs.map (Value.int .u8)) ∧ Below w.heap.size w wr ∧ Hid (done xs (unhex (s.data.toList.drop j)) = R)) (fun _ i _ => s.size - (intOf i).toNat)
  case atStart => exact ⟨0, [], rfl, Nat.zero_le _, rfl, by simp, rfl, World.ownsRow_made _ _ _ (Nat.le_refl _) (by unfold maxLen; omega) (by simp), below1 _ _, HR0⟩
  case round =>
    obtain ⟨j, xs, rfl, hj, hj2, hv0, hx, hown, hbel, hRj⟩ := hrel
    clear HR0
    by_cases hlt : j < s.size
    · have hj1 : j + 1 < s.size := by have := HE.out; omega
      have hst := hRj.out
      rw [unhex_at s j hj1] at hst
      have hIa := index_at s j hlt
      have hIb := index_at1 s j hj1
      have ha := (s[j]'hlt).toNat_lt
      have hb := (s[j + 1]'hj1).toNat_lt
      obtain ⟨a, hae⟩ : ∃ a : Int, ((s[j]'hlt).toNat : Int) = a := ⟨_, rfl⟩
      obtain ⟨b, hbe⟩ : ∃ b : Int, ((s[j + 1]'hj1).toNat : Int) = b := ⟨_, rfl⟩
      rw [hae] at hst hIa
      rw [hbe] at hst hIb
      have ha0 : 0 ≤ a := by omega
      have ha1 : a < 256 := by omega
      have hb0 : 0 ≤ b := by omega
      have hb1 : b < 256 := by omega
      have ca := Lib.hid (fun W => l01Hex_any a ha0 ha1 W)
      have cb := Lib.hid (fun W => l01Hex_any b hb0 hb1 W)
      have hva := hv_bd a
      have hvb := hv_bd b
      have hw : IntKind.i64.wrap ((j : Int) + 1) = (j : Int) + 1 := IntWalk.i64_in _ (by omega)
      clear hae hbe ha hb hRj
      obtain ⟨x, hxe⟩ : ∃ x, hv a = x := ⟨_, rfl⟩
      obtain ⟨y, hye⟩ : ∃ y, hv b = y := ⟨_, rfl⟩
      rw [hxe] at hst ca hva
      rw [hye] at hst cb hvb
      clear hxe hye
      have hlim : xs.length ≤ 4294967296 := by omega
      by_cases hbad : 15 < x ∨ 15 < y
      · rw [if_pos hbad] at hst
        have hRn : R = none := by rw [← hst]; rfl
        subst hRn
        clear hst
        by_cases hx15 : 15 < x
        · clear hbad
          go_wp2_with fail
          go_region_held3 (fun _ => True) (trivial)
            (first
              | (go_at_call_of 6 (Value.int .u8 a); (with_reducible refine (ca.out _).mono ?_); rintro e wv ⟨rfl, rfl⟩)
              | (go_at_call_of 6 (Value.int .u8 b); (with_reducible refine (cb.out _).mono ?_); rintro e wv ⟨rfl, rfl⟩))
          all_goals
            go_wp2_with fail
            go_ret2
            exact ⟨rfl, hbel.drew⟩
        · have hy15 : 15 < y := by omega
          clear hbad
          go_wp2_with fail
          go_region_held3 (fun _ => True) (trivial)
            (first
              | (go_at_call_of 6 (Value.int .u8 a); (with_reducible refine (ca.out _).mono ?_); rintro e wv ⟨rfl, rfl⟩)
              | (go_at_call_of 6 (Value.int .u8 b); (with_reducible refine (cb.out _).mono ?_); rintro e wv ⟨rfl, rfl⟩))
          all_goals
            go_wp2_with fail
            go_ret2
            exact ⟨rfl, hbel.drew⟩
      · rw [if_neg hbad, done_step] at hst
        have HST := Lib.hid hst
        have hx15 : ¬ 15 < x := by omega
        have hy15 : ¬ 15 < y := by omega
        have hor : bits .or .u8 (x * 16) y = 16 * x + y := by rw [Int.mul_comm]; exact or_at x y hva.1 (by omega) hvb.1 (by omega)
        have hsh := shl_at x hva.1 (by omega)
        clear hst hbad
        go_wp2_with fail
        go_region_held3 (fun _ => True) (trivial)
          (first
            | (go_at_call_of 6 (Value.int .u8 a); (with_reducible refine (ca.out _).mono ?_); rintro e wv ⟨rfl, rfl⟩)
            | (go_at_call_of 6 (Value.int .u8 b); (with_reducible refine (cb.out _).mono ?_); rintro e wv ⟨rfl, rfl⟩))
        all_goals
          go_wp2_with (at_builtin; refine wpList_append_lies _ rfl _ _ _ rfl w.heap.size 5 i0 _ 1 1 Try.underlying25 hi0 hz0 hz1 hz2 rfl (by omega) u4 xs.length (xs.map (Value.int .u8)) rfl ((hown.alloc _).drew) ⟨wr.heap.size, 0, none⟩ 1 1 [.int .u8 (16 * x + y)] rfl rfl (World.news_of_block (cs := #[.int .u8 (16 * x + y)]) (t := 5) (fr := (0, 0)) (heap_alloc_new wr _)) (by simp [Value.oneCell']) (by omega) (by unfold maxLen; omega) (by omega) (by simp; have := hbel.size; omega) (wr.heap.size + 1) (by simp) ?_; intro gg cap w1 hown1 hgrow hat hlt1)
          have hown2 : w1.ownsRow w.heap.size 5 1 (.slice (some ⟨gg, 0, none⟩) (xs.length + 1) cap) (xs ++ [16 * x + y]).length ((xs ++ [16 * x + y]).map (Value.int .u8)) := by
            rw [← own_snoc1]
            simpa using hown1
          have hbel2 : Below w.heap.size w w1 := ((hbel.alloc hbel.size _).drew).grown hgrow (by simp; have := hbel.size; omega) (fun g hg => (hown.lt g hg).1)
          clear hown1 hgrow hown hbel hat hlt1
          go_wp2_with fail
          go_roundw
          case rel => exact ⟨j + 2, xs ++ [16 * x + y], by go_num, by omega, by omega, by simp, by simp; omega, hown2, hbel2, HST⟩
          case measure => simp [intOf]; omega
    · obtain rfl : j = s.size := by omega
      have hRe : R = some xs := by
        have := hRj.out
        rw [List.drop_eq_nil_of_le (by simp)] at this
        simpa [unhex, done] using this.symm
      subst hRe
      have hcv := run_convert_own (P := Try.prog) wr 25 5 Try.underlying25 Try.underlying5 w.heap.size u4 _ _ hown hv0 9 Try.underlying9
      clear hown hv0 hRj
      go_wp2_with fail
      go_ret2
      exact ⟨rfl, hbel⟩
end Go.Proofs.Ytfadodmkppeodab
