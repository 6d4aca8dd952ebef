/-
  The walk of the program's TokensText.
-/
import Derived.Test.YtfadodmkppeodaaTokText
import Derived.Test.YtfadodmkppeodaaStrsW
import Derived.OwnWalk
import Derived.Laws.AppendOwn
import Derived.Laws.OwnMore
import Derived.Ground.NamesProg
import Derived.Shelf.Lay
import Derived.Shelf.Strings.OnBuilder
namespace Go.Proofs
open Go.Shelf
def Try.lays156_ren : Go.Shelf.Ren := ⟨fun | 156 => 82 | 165 => 99 | 166 => 100 | 169 => 101 | 240 => 114 | 241 => 115 | 276 => 125 | 277 => 126 | n => n, fun | 31 => 22 | 9 => 9 | 3 => 3 | 4 => 4 | 0 => 0 | 20 => 20 | 72 => 132 | 76 => 136 | 70 => 130 | 37 => 129 | 75 => 135 | 127 => 156 | 164 => 165 | 5 => 5 | 80 => 138 | n => n, fun | n => n⟩
theorem Try.lays156 : Go.Proofs.Lays.n156 Try.prog Try.lays156_ren := {
  mixed := by kernel_rfl
  f156 := Try.func82.trans (congrArg some (by kernel_rfl))
  f165 := Try.func99.trans (congrArg some (by kernel_rfl))
  f166 := Try.func100.trans (congrArg some (by kernel_rfl))
  f169 := Try.func101.trans (congrArg some (by kernel_rfl))
  f240 := Try.func114.trans (congrArg some (by kernel_rfl))
  f241 := Try.func115.trans (congrArg some (by kernel_rfl))
  f276 := Try.func125.trans (congrArg some (by kernel_rfl))
  f277 := Try.func126.trans (congrArg some (by kernel_rfl))
  t0 := Try.underlying0
  a0 := Try.isAgg0
  z0 := Try.sizeOf0
  v0 := Try.zeroValue0
  t3 := Try.underlying3
  a3 := Try.isAgg3
  z3 := Try.sizeOf3
  v3 := Try.zeroValue3
  t4 := Try.underlying4
  a4 := Try.isAgg4
  z4 := Try.sizeOf4
  v4 := Try.zeroValue4
  t9 := Try.underlying9
  a9 := Try.isAgg9
  z9 := Try.sizeOf9
  v9 := Try.zeroValue9
  t20 := Try.underlying20
  a20 := Try.isAgg20
  z20 := Try.sizeOf20
  v20 := Try.zeroValue20
  t31 := Try.underlying22
  a31 := Try.isAgg22
  z31 := Try.sizeOf22
  v31 := Try.zeroValue22
  t37 := Try.underlying129
  a37 := Try.isAgg129
  z37 := Try.sizeOf129
  v37 := Try.zeroValue129
  t70 := Try.underlying130
  a70 := Try.isAgg130
  z70 := Try.sizeOf130
  v70 := Try.zeroValue130
  t72 := Try.underlying132
  a72 := Try.isAgg132
  z72 := Try.sizeOf132
  v72 := Try.zeroValue132
  t75 := Try.underlying135
  a75 := Try.isAgg135
  z75 := Try.sizeOf135
  v75 := Try.zeroValue135
  t76 := Try.underlying136
  a76 := Try.isAgg136
  z76 := Try.sizeOf136
  v76 := Try.zeroValue136
  t127 := Try.underlying156
  a127 := Try.isAgg156
  z127 := Try.sizeOf156
  v127 := Try.zeroValue156
  t164 := Try.underlying165
  a164 := Try.isAgg165
  z164 := Try.sizeOf165
  v164 := Try.zeroValue165 }
theorem Try.Builder_Extra_156 : Builder.Extra Try.prog Try.lays156_ren where
  sizeBuilder := by kernel_rfl
  liesBuilder := by kernel_rfl
  t5 := Try.underlying5
  a5 := Try.isAgg5
  z5 := Try.sizeOf5
  v5 := Try.zeroValue5
  infoByte := by kernel_rfl
  cellsByte := by kernel_rfl
  sizeByte := by kernel_rfl
  neB5 := by decide
end Go.Proofs
namespace Go.Proofs.Ytfadodmkppeodaa
open Go.ChangeShapes Go.WideShapes Go.ChangeAt Go.RowKit Go.Deep

theorem own_form {w : World} {base : Nat} {e : TypeId} {size n : Nat} {v : Value} {xs : List Value} (h : w.ownsRow base e size v n xs) : ∃ (R : Option Addr) (cap : Nat), v = .slice R n cap := by
  rcases h.2 with ⟨rfl, rfl⟩ | ⟨g, cap, _, rfl, _⟩
  · exact ⟨none, 0, rfl⟩
  · exact ⟨_, cap, rfl⟩
theorem own_block_ge {w : World} {base : Nat} {e : TypeId} {size n : Nat} {v : Value} {xs : List Value} (h : w.ownsRow base e size v n xs) : ∀ j, v.ownBlock = some j → base ≤ j := fun j hj => (h.lt j hj).1
theorem strCells_get {xs : List ByteArray} {i : Nat} {s : ByteArray} (h : xs[i]? = some s) : (xs.map Value.string)[i]? = some (.string s) := by simp [h]
/-- strings.Join of a row of its own. -/
theorem joinOwn (xs : List ByteArray) (m base : Nat) (R : Option Addr) (c : Nat) (w : World) (hm : xs.length = m) (hs : sumSz xs + xs.length ≤ 4194304) (hown : w.ownsRow base 9 1 (.slice R m c) m (xs.map Value.string)) :
    Calls Try.prog 82 #[.slice R m c, .string spB] w fun e w' => e = .returned (.string (joinT xs)) ∧ Below w.heap.size w w' := by
  subst hm
  by_cases h0 : xs.length = 0
  · have hx : xs = [] := List.eq_nil_of_length_eq_zero h0
    subst hx
    refine (Any.strings_Join_none Try.lays156 Try.Builder_Extra_156 R c spB w).mono ?_
    rintro e w' ⟨rfl, rfl⟩
    exact ⟨rfl, Below.refl _ _⟩
  · obtain ⟨g, rfl, hlt, hcap⟩ : ∃ g, R = some ⟨g, 0, none⟩ ∧ g < w.heap.size ∧ xs.length ≤ c := by
      rcases hown.2 with ⟨e1, e2⟩ | ⟨g, cap', cur, e1, _, e3, e4, _⟩
      · exact absurd e2 h0
      · injection e1 with e5 e6 e7
        subst e7
        exact ⟨g, e5, (Array.getElem?_eq_some_iff.1 e3).1, e4⟩
    have hj := join_len xs
    refine Any.strings_Join Try.lays156 Try.Builder_Extra_156 g 0 c xs spB w (fun j x hx => ?_) hlt (by have := sumSz_nonneg xs; omega) hcap ?_
    · have hjl := (List.getElem?_eq_some_iff.1 hx).1
      rw [Nat.zero_add, hown.cellAt j (by omega)]
      exact strCells_get hx
    · have e : spB.data.toList = [32] := rfl
      rw [e]
      omega

set_option maxHeartbeats 1000000 in
set_option maxRecDepth 100000 in
theorem implTokText_any (ts : List Tok) (hl : ts.length ≤ 1048576) (hs : sumSz (txs ts) ≤ 1048576) (A : Option Addr) (ca lo : Nat) (w : World) (h : Toks w lo ts A) :
    Calls Try.prog 47 #[.slice A ts.length ca] w fun e w' => e = .returned (.string (joinT (keptT ts))) ∧ Below w.heap.size w w' := by
  have H := Lib.hid h
  have HS := Lib.hid hs
  clear h hs
  obtain ⟨i0, hi, hz0, hz1, hz2⟩ := info_parts infoString
  go_enter Try.func47, Try.ntmps47
  go_wp2_with fail
  go_loopw [3, 8] (fun s i wr => ∃ k : Nat, k ≤ ts.length ∧ i = .int .i64 k ∧ (∃ (R : Option Addr) (c m : Nat), s = .slice R m c ∧ m ≤ 1048576 ∧ Hid (m = (keptT (ts.take k)).length ∧ wr.ownsRow w.heap.size 9 1 (.slice R m c) m ((keptT (ts.take k)).map Value.string))) ∧ Below w.heap.size w wr) (fun _ i _ => ts.length - (intOf i).toNat)
  case atStart => exact ⟨0, Nat.zero_le _, rfl, ⟨none, 0, 0, rfl, by omega, rfl, World.ownsRow_nil _ _ _ _⟩, Below.refl _ _⟩
  case round =>
    obtain ⟨k, hk, rfl, ⟨R, c, m, rfl, hm, hinv⟩, hbel⟩ := hrel
    by_cases hlt : k < ts.length
    · obtain ⟨b, o, t, rfl, _, htk, c0, c1, c2⟩ := (H.out.below hbel).at_ hlt
      have HT := Lib.hid (keptT_take htk)
      have HB := Lib.hid hbel
      have lb : b < wr.heap.size := World.block_lt_of_cell? wr _ c0
      have hbz := hbel.size
      have hli : (k : Int) < (ts.length : Int) := by omega
      have hmk : m ≤ k := by
        have h1 := (kept_le (ts.take k)).2
        have h2 := hinv.out.1
        have h3 : (ts.take k).length ≤ k := by rw [List.length_take]; omega
        omega
      clear htk hbel
      by_cases h4 : t.kind = 4
      · have e4 : (t.kind == 4) = true := by rw [beq_iff_eq]; exact h4
        have H4 := Lib.hid h4
        clear h4
        go_wp2_with fail
        go_roundw
        case rel => exact ⟨k + 1, by omega, by go_num, ⟨R, c, m, rfl, hm, by have h1 := hinv.out; rw [HT.out, if_pos H4.out, List.append_nil]; exact ⟨h1.1, h1.2.alloc _⟩⟩, bnext HB.out (below1 _ _)⟩
        case measure => simp [intOf]; omega
      · have e4 : (t.kind == 4) = false := by rw [beq_eq_false_iff_ne]; exact h4
        have H4 := Lib.hid h4
        have HO := Lib.hid hinv.out.2
        clear h4
        go_wp2_with (at_builtin; refine wpList_append_own _ rfl _ _ 22 rfl w.heap.size 9 i0 _ 1 16 Try.underlying22 hi hz0 hz1 hz2 rfl (by decide) (.slice R m c) m ((keptT (ts.take k)).map Value.string) rfl ((HO.out.alloc _).alloc _) ⟨wr.heap.size + 1, 0, none⟩ 1 1 [.string t.text] rfl rfl ?c1 ?c2 ?c3 ?c4 ?c5 ?_)
        case c1 =>
          intro j u hu
          cases j with
          | zero =>
            simp at hu
            subst hu
            simp [Addr.add]
          | succ n => simp at hu
        case c2 => simp [Value.oneCell']
        case c3 => unfold maxLen; omega
        case c4 => omega
        case c5 => simp; omega
        intro v1 w1 hown1 hgrow1 _
        obtain ⟨R1, cap1, rfl⟩ := own_form hown1
        have HB1 := Lib.hid ((bnext HB.out (below2 _ _ _)).grown hgrow1 (by simp; omega) (own_block_ge HO.out))
        have HO1 := Lib.hid hown1
        clear hown1 hgrow1
        go_wp2_with fail
        go_roundw
        case rel =>
          have e5 : keptT (ts.take (k + 1)) = keptT (ts.take k) ++ [t.text] := by rw [HT.out, if_neg H4.out]
          exact ⟨k + 1, by omega, by go_num, ⟨R1, cap1, m + 1, rfl, by omega, by
            have h1 := hinv.out
            have h2 := HO1.out
            rw [e5, List.length_append, List.map_append]
            exact ⟨by rw [h1.1]; rfl, h2⟩⟩, HB1.out⟩
        case measure => simp [intOf]; omega
    · have hk' : k = ts.length := by omega
      have HB := Lib.hid hbel
      clear hbel
      have CJ : Hid (Calls Try.prog 82 #[.slice R m c, .string spB] wr fun e w' => e = .returned (.string (joinT (keptT ts))) ∧ Below wr.heap.size wr w') := Lib.hid (by
        have h1 := hinv.out
        rw [hk', List.take_length] at h1
        have h2 := kept_le ts
        have h3 := HS.out
        exact joinOwn (keptT ts) m w.heap.size R c wr h1.1.symm (by omega) h1.2)
      unfold spB at CJ
      go_wp2_with fail
      go_at_call 82
      refine CJ.out.mono ?_
      rintro e w2 ⟨rfl, hb2⟩
      have HB2 := Lib.hid (bnext HB.out hb2)
      clear hb2
      go_wp2_with fail
      go_ret
      exact ⟨rfl, HB2.out⟩
end Go.Proofs.Ytfadodmkppeodaa
