/-
  The walk of the program's NameOk.
-/
import Derived.Test.YtlmmbheamicdaabNameS
import Derived.Ground.NamesProg
import Derived.Shelf.Lay
import Derived.Shelf.Strings.SlTrimAscii
import Derived.Shelf.Strings.Shaped
namespace Go.Proofs
open Go.Shelf
def Try.laysTR_ren : Go.Shelf.Ren := ⟨fun | 160 => 99 | 232 => 102 | 231 => 101 | 227 => 103 | 234 => 105 | 233 => 104 | 236 => 107 | 235 => 106 | 228 => 109 | 271 => 112 | 151 => 111 | 197 => 110 | 120 => 116 | 152 => 115 | 260 => 114 | 137 => 121 | 119 => 122 | 224 => 119 | 225 => 118 | 217 => 117 | 266 => 123 | n => n, fun | 9 => 9 | 4 => 4 | 3 => 3 | 5 => 5 | 117 => 111 | 116 => 110 | 0 => 0 | 124 => 114 | 21 => 21 | 105 => 117 | 46 => 123 | 119 => 124 | 139 => 127 | 138 => 126 | n => n, fun | 3 => 1 | 4 => 2 | n => n⟩
theorem Try.laysTR : Go.Proofs.LaysM.n160 Try.prog Try.laysTR_ren := {
  mixed := by kernel_rfl
  f119 := Try.func122.trans (congrArg some (by kernel_rfl))
  f120 := Try.func116.trans (congrArg some (by kernel_rfl))
  f137 := Try.func121.trans (congrArg some (by kernel_rfl))
  f151 := Try.func111.trans (congrArg some (by kernel_rfl))
  f152 := Try.func115.trans (congrArg some (by kernel_rfl))
  f160 := Try.func99.trans (congrArg some (by kernel_rfl))
  f197 := Try.func110.trans (congrArg some (by kernel_rfl))
  f217 := Try.func117.trans (congrArg some (by kernel_rfl))
  f224 := Try.func119.trans (congrArg some (by kernel_rfl))
  f225 := Try.func118.trans (congrArg some (by kernel_rfl))
  f227 := Try.func103.trans (congrArg some (by kernel_rfl))
  f228 := Try.func109.trans (congrArg some (by kernel_rfl))
  f231 := Try.func101.trans (congrArg some (by kernel_rfl))
  f232 := Try.func102.trans (congrArg some (by kernel_rfl))
  f233 := Try.func104.trans (congrArg some (by kernel_rfl))
  f234 := Try.func105.trans (congrArg some (by kernel_rfl))
  f235 := Try.func106.trans (congrArg some (by kernel_rfl))
  f236 := Try.func107.trans (congrArg some (by kernel_rfl))
  f260 := Try.func114.trans (congrArg some (by kernel_rfl))
  f266 := Try.func123.trans (congrArg some (by kernel_rfl))
  f271 := Try.func112.trans (congrArg some (by kernel_rfl))
  t0 := Try.underlying0
  a0 := Try.isAgg0
  z0 := Try.sizeOf0
  v0 := Try.zeroValue0
  t3 := Try.underlying3
  a3 := Try.isAgg3
  z3 := Try.sizeOf3
  v3 := Try.zeroValue3
  t4 := Try.underlying4
  a4 := Try.isAgg4
  z4 := Try.sizeOf4
  v4 := Try.zeroValue4
  t5 := Try.underlying5
  a5 := Try.isAgg5
  z5 := Try.sizeOf5
  v5 := Try.zeroValue5
  t9 := Try.underlying9
  a9 := Try.isAgg9
  z9 := Try.sizeOf9
  v9 := Try.zeroValue9
  t21 := Try.underlying21
  a21 := Try.isAgg21
  z21 := Try.sizeOf21
  v21 := Try.zeroValue21
  t46 := Try.underlying123
  a46 := Try.isAgg123
  z46 := Try.sizeOf123
  v46 := Try.zeroValue123
  t105 := Try.underlying117
  a105 := Try.isAgg117
  z105 := Try.sizeOf117
  v105 := Try.zeroValue117
  t116 := Try.underlying110
  a116 := Try.isAgg110
  z116 := Try.sizeOf110
  t117 := Try.underlying111
  a117 := Try.isAgg111
  z117 := Try.sizeOf111
  v117 := Try.zeroValue111
  t119 := Try.underlying124
  a119 := Try.isAgg124
  z119 := Try.sizeOf124
  t124 := Try.underlying114
  a124 := Try.isAgg114
  z124 := Try.sizeOf114
  v124 := Try.zeroValue114
  t138 := Try.underlying126
  a138 := Try.isAgg126
  z138 := Try.sizeOf126
  v138 := Try.zeroValue126
  t139 := Try.underlying127
  a139 := Try.isAgg127
  z139 := Try.sizeOf127
  v139 := Try.zeroValue127
  g3 := by kernel_rfl
  g4 := by kernel_rfl
  i0 := by kernel_rfl
  i3 := by kernel_rfl
  i4 := by kernel_rfl
  i5 := by kernel_rfl
  i9 := by kernel_rfl
  i21 := by kernel_rfl
  i46 := by kernel_rfl
  i105 := by kernel_rfl
  i117 := by kernel_rfl
  i124 := by kernel_rfl
  i138 := by kernel_rfl
  i139 := by kernel_rfl
  m3 := by kernel_rfl
  m4 := by kernel_rfl }
def Try.laysCT_ren : Go.Shelf.Ren := ⟨fun | 144 => 100 | 143 => 108 | 219 => 113 | 217 => 117 | 225 => 118 | 224 => 119 | 267 => 120 | 266 => 123 | 314 => 124 | n => n, fun | 9 => 9 | 4 => 4 | 3 => 3 | 5 => 5 | 46 => 123 | 146 => 129 | 51 => 92 | n => n, fun | 1 => 0 | n => n⟩
theorem Try.laysCT : Go.Proofs.LaysM.n144 Try.prog Try.laysCT_ren := {
  mixed := by kernel_rfl
  f143 := Try.func108.trans (congrArg some (by kernel_rfl))
  f144 := Try.func100.trans (congrArg some (by kernel_rfl))
  f217 := Try.func117.trans (congrArg some (by kernel_rfl))
  f219 := Try.func113.trans (congrArg some (by kernel_rfl))
  f224 := Try.func119.trans (congrArg some (by kernel_rfl))
  f225 := Try.func118.trans (congrArg some (by kernel_rfl))
  f266 := Try.func123.trans (congrArg some (by kernel_rfl))
  f267 := Try.func120.trans (congrArg some (by kernel_rfl))
  f314 := Try.func124.trans (congrArg some (by kernel_rfl))
  t3 := Try.underlying3
  a3 := Try.isAgg3
  z3 := Try.sizeOf3
  v3 := Try.zeroValue3
  t4 := Try.underlying4
  a4 := Try.isAgg4
  z4 := Try.sizeOf4
  v4 := Try.zeroValue4
  t5 := Try.underlying5
  a5 := Try.isAgg5
  z5 := Try.sizeOf5
  v5 := Try.zeroValue5
  t9 := Try.underlying9
  a9 := Try.isAgg9
  z9 := Try.sizeOf9
  v9 := Try.zeroValue9
  t46 := Try.underlying123
  a46 := Try.isAgg123
  z46 := Try.sizeOf123
  v46 := Try.zeroValue123
  t51 := Try.underlying92
  a51 := Try.isAgg92
  z51 := Try.sizeOf92
  v51 := Try.zeroValue92
  t146 := Try.underlying129
  a146 := Try.isAgg129
  z146 := Try.sizeOf129
  v146 := Try.zeroValue129
  g1 := by kernel_rfl
  i3 := by kernel_rfl
  i4 := by kernel_rfl
  i5 := by kernel_rfl
  i9 := by kernel_rfl
  i46 := by kernel_rfl
  i51 := by kernel_rfl
  i146 := by kernel_rfl
  m1 := by kernel_rfl
  s1_3 := fun w h => Go.Proofs.cell_of_shapedOpen_int (zero := #[.int .i64 0]) (t := 3) h (of_decide_eq_true (by kernel_rfl)) (by kernel_rfl) rfl (by kernel_rfl) (by kernel_rfl) Try.underlying3 }
end Go.Proofs
namespace Go.Proofs.Ytlmmbheamicdaab
open Go.ChangeShapes Go.WideShapes Go.ChangeAt Go.RowKit

/-- The cell of internal/bytealg.MaxLen holds some integer. -/
def MaxC (w : World) : Prop := ∃ m : Int, w.cell? ⟨0, 0, none⟩ = some (.int .i64 m)
theorem MaxC.keep {w w' : World} (h : MaxC w) (hb : Below w.heap.size w w') : MaxC w' := by
  obtain ⟨m, hm⟩ := h
  exact ⟨m, keepCell hb hm⟩
theorem maxC {W : World} (h : W.ShapedOpen Try.prog) : MaxC W := Try.laysCT.s1_3 W h

/-- The bytes of names, as Go's string. -/
def nsetB : ByteArray := ⟨#[97, 98, 99, 100, 101, 102, 103, 104, 105, 106, 107, 108, 109, 110, 111, 112, 113, 114, 115, 116, 117, 118, 119, 120, 121, 122, 48, 49, 50, 51, 52, 53, 54, 55, 56, 57, 45]⟩

theorem trim_any (s : ByteArray) (hs : s.size ≤ 1048576) (w : World) :
    Calls Try.prog 99 #[.string s, .string nsetB] w fun e w' => e = .returned (.string ⟨(Lib.trimS s.data.toList nset).toArray⟩) ∧ Below w.heap.size w w' :=
  Any.strings_Trim_laid { Try.laysTR with } (by kernel_rfl) s nsetB w (by omega) (by decide) (ascii_of_all (by decide))
theorem cont_any (s : ByteArray) (hs : s.size ≤ 1048576) (w : World) (hm : MaxC w) :
    Calls Try.prog 100 #[.string s, .string ⟨#[45, 45]⟩] w fun e w' => e = .returned (.bool (Lib.contains s.data.toList [45, 45])) ∧ w = w' := by
  obtain ⟨m, hm⟩ := hm
  refine (Any.strings_Contains { Try.laysCT with } s ⟨#[45, 45]⟩ m w (by omega) hm).mono ?_
  rintro e w' ⟨rfl, rfl⟩
  exact ⟨rfl, rfl⟩

theorem not_empty (s : ByteArray) (h : 0 < s.size) : s.toList.isEmpty = false := by
  cases h2 : s.toList with
  | nil =>
    have h3 : s.data.toList = [] := by rw [← ByteArray.toList_eq]; exact h2
    have h4 : s.size = 0 := by
      show s.data.toList.length = 0
      rw [h3]
      rfl
    omega
  | cons c cs => rfl

/-- Trimmed away whole. -/
theorem trim_yes (s : ByteArray) (hs : s.size ≤ 1048576) (h : ∀ c ∈ s.data.toList, okb c = true) : Hid (∀ w : World, Calls Try.prog 99 #[.string s, .string nsetB] w fun e w' => e = .returned (.string ⟨#[]⟩) ∧ Below w.heap.size w w') := by
  refine Lib.hid (fun w => ?_)
  have := trim_any s hs w
  rw [(trim_nil s.data.toList nset).mpr h] at this
  exact this
theorem trim_no (s : ByteArray) (hs : s.size ≤ 1048576) (h : ¬ ∀ c ∈ s.data.toList, okb c = true) : ∃ T : ByteArray, T.toList.isEmpty = false ∧ Hid (∀ w : World, Calls Try.prog 99 #[.string s, .string nsetB] w fun e w' => e = .returned (.string T) ∧ Below w.heap.size w w') := by
  refine ⟨⟨(Lib.trimS s.data.toList nset).toArray⟩, ?_, Lib.hid (fun w => trim_any s hs w)⟩
  have hne : Lib.trimS s.data.toList nset ≠ [] := fun e => h ((trim_nil s.data.toList nset).mp e)
  rw [ByteArray.toList_eq]
  match hL : Lib.trimS s.data.toList nset, hne with
  | c :: t, _ => rfl

theorem implName_empty (w : World) :
    Calls Try.prog 98 #[.string ⟨#[]⟩] w fun e w' => e = .returned (.bool false) ∧ Below w.heap.size w w' := by
  go_enter Try.func98, Try.ntmps98
  go_wp2
  go_ret
  exact ⟨rfl, Below.refl _ _⟩
theorem implName_long (s : ByteArray) (h : 12 < s.size) (hs : s.size ≤ 1048576) (w : World) :
    Calls Try.prog 98 #[.string s] w fun e w' => e = .returned (.bool false) ∧ Below w.heap.size w w' := by
  have he := not_empty s (by omega)
  go_enter Try.func98, Try.ntmps98
  go_wp2
  go_ret
  exact ⟨rfl, Below.refl _ _⟩
theorem implName_byte (s : ByteArray) (h : 1 ≤ s.size) (h12 : s.size ≤ 12) (hb : ¬ ∀ c ∈ s.data.toList, okb c = true) (w : World) :
    Calls Try.prog 98 #[.string s] w fun e w' => e = .returned (.bool false) ∧ Below w.heap.size w w' := by
  have he := not_empty s (by omega)
  obtain ⟨T, hT, C⟩ := trim_no s (by omega) hb
  unfold nsetB at C
  have h2 : ¬ 12 < s.size := by omega
  clear hb
  go_enter Try.func98, Try.ntmps98
  go_wp2_with (go_at_call 99; (with_reducible refine (C.out _).mono ?_); rintro e wx ⟨rfl, hbx⟩)
  go_ret
  exact ⟨rfl, hbx⟩
theorem implName_first (s : ByteArray) (h : 1 ≤ s.size) (h12 : s.size ≤ 12) (hb : ∀ c ∈ s.data.toList, okb c = true) (ha : ((s[0]'(by omega)).toNat : Int) < 97 ∨ 122 < ((s[0]'(by omega)).toNat : Int)) (w : World) :
    Calls Try.prog 98 #[.string s] w fun e w' => e = .returned (.bool false) ∧ Below w.heap.size w w' := by
  have he := not_empty s (by omega)
  have C := trim_yes s (by omega) hb
  unfold nsetB at C
  have h2 : ¬ 12 < s.size := by omega
  have hI : ∀ W, (Instr.index 9 (.string s) (.int .i64 0)).run Try.prog W = _ := index_at s 0 (by omega)
  generalize ((s[0]'(by omega)).toNat : Int) = a at *
  clear hb
  rcases ha with ha | ha
  · have h3 : decide (97 ≤ a) = false := decide_eq_false (by omega)
    go_enter Try.func98, Try.ntmps98
    go_wp2_with (go_at_call 99; (with_reducible refine (C.out _).mono ?_); rintro e wx ⟨rfl, hbx⟩)
    go_ret
    exact ⟨rfl, hbx⟩
  · have h3 : decide (97 ≤ a) = true := decide_eq_true (by omega)
    have h4 : decide (a ≤ 122) = false := decide_eq_false (by omega)
    go_enter Try.func98, Try.ntmps98
    go_wp2_with (go_at_call 99; (with_reducible refine (C.out _).mono ?_); rintro e wx ⟨rfl, hbx⟩)
    go_ret
    exact ⟨rfl, hbx⟩
theorem implName_last (s : ByteArray) (h : 1 ≤ s.size) (h12 : s.size ≤ 12) (hb : ∀ c ∈ s.data.toList, okb c = true) (ha0 : 97 ≤ ((s[0]'(by omega)).toNat : Int)) (ha1 : ((s[0]'(by omega)).toNat : Int) ≤ 122) (hz : ((s[s.size - 1]'(by omega)).toNat : Int) = 45) (w : World) :
    Calls Try.prog 98 #[.string s] w fun e w' => e = .returned (.bool false) ∧ Below w.heap.size w w' := by
  have he := not_empty s (by omega)
  have C := trim_yes s (by omega) hb
  unfold nsetB at C
  have h2 : ¬ 12 < s.size := by omega
  have hI : ∀ W, (Instr.index 9 (.string s) (.int .i64 0)).run Try.prog W = _ := index_at s 0 (by omega)
  have hL := index_back s (s.size - 1) (by omega) ((s.size : Int) - 1) (by omega)
  rw [hz] at hL
  generalize ((s[0]'(by omega)).toNat : Int) = a at *
  have h3 : decide (97 ≤ a) = true := decide_eq_true (by omega)
  have h4 : decide (a ≤ 122) = true := decide_eq_true (by omega)
  clear hb hz
  go_enter Try.func98, Try.ntmps98
  go_wp2_with (go_at_call 99; (with_reducible refine (C.out _).mono ?_); rintro e wx ⟨rfl, hbx⟩)
  go_ret
  exact ⟨rfl, hbx⟩
theorem implName_rest (s : ByteArray) (h : 1 ≤ s.size) (h12 : s.size ≤ 12) (hb : ∀ c ∈ s.data.toList, okb c = true) (ha0 : 97 ≤ ((s[0]'(by omega)).toNat : Int)) (ha1 : ((s[0]'(by omega)).toNat : Int) ≤ 122) (hz : ((s[s.size - 1]'(by omega)).toNat : Int) ≠ 45) (w : World) (hm : MaxC w) :
    Calls Try.prog 98 #[.string s] w fun e w' => e = .returned (.bool (!Lib.contains s.data.toList [45, 45])) ∧ Below w.heap.size w w' := by
  have he := not_empty s (by omega)
  have C := trim_yes s (by omega) hb
  unfold nsetB at C
  have CC : Hid (∀ W : World, MaxC W → Calls Try.prog 100 #[.string s, .string ⟨#[45, 45]⟩] W fun e w' => e = .returned (.bool (Lib.contains s.data.toList [45, 45])) ∧ W = w') := Lib.hid (fun W hW => cont_any s (by omega) W hW)
  generalize Lib.contains s.data.toList [45, 45] = K at *
  have h2 : ¬ 12 < s.size := by omega
  have hI : ∀ W, (Instr.index 9 (.string s) (.int .i64 0)).run Try.prog W = _ := index_at s 0 (by omega)
  have hL := index_back s (s.size - 1) (by omega) ((s.size : Int) - 1) (by omega)
  generalize ((s[0]'(by omega)).toNat : Int) = a at *
  generalize ((s[s.size - 1]'(by omega)).toNat : Int) = z at *
  have h3 : decide (97 ≤ a) = true := decide_eq_true (by omega)
  have h4 : decide (a ≤ 122) = true := decide_eq_true (by omega)
  have h5 : (z != 45) = true := by rw [bne_iff_ne]; exact hz
  have HM := Lib.hid hm
  clear hb hz hm
  go_enter Try.func98, Try.ntmps98
  go_wp2_with (first
    | (go_at_call 99; (with_reducible refine (C.out _).mono ?_); rintro e wx ⟨rfl, hbx⟩)
    | (go_at_call 100; (with_reducible refine (CC.out _ (HM.out.keep hbx)).mono ?_); rintro e wy ⟨rfl, rfl⟩))
  go_ret
  exact ⟨rfl, hbx⟩

theorem contains_index (l sub : List UInt8) : Lib.contains l sub = decide (Lib.index l sub ≠ -1) := by
  have h := Lib.index_ge l sub
  unfold Lib.contains
  rw [decide_eq_decide]
  omega

theorem name_both (s : ByteArray) (hs : s.size ≤ 1048576) : ∃ v : Bool, (∀ w : World, Calls Try.prog 64 #[.string s] w fun e w' => e = .returned (.bool v) ∧ w = w') ∧
    (∀ w : World, MaxC w → Calls Try.prog 98 #[.string s] w fun e w' => e = .returned (.bool v) ∧ Below w.heap.size w w') := by
  by_cases h0 : s.size = 0
  · have he : s = ⟨#[]⟩ := by
      apply ByteArray.ext
      exact Array.eq_empty_of_size_eq_zero h0
    subst he
    exact ⟨false, fun w => specName_short _ rfl w, fun w _ => implName_empty w⟩
  · by_cases h12 : 12 < s.size
    · exact ⟨false, fun w => specName_long s h12 hs w, fun w _ => implName_long s h12 hs w⟩
    · have h1 : 1 ≤ s.size := by omega
      have h12' : s.size ≤ 12 := by omega
      by_cases ha : ((s[0]'(by omega)).toNat : Int) < 97 ∨ 122 < ((s[0]'(by omega)).toNat : Int)
      · refine ⟨false, fun w => specName_first s h1 h12' ha w, fun w _ => ?_⟩
        by_cases hb : ∀ c ∈ s.data.toList, okb c = true
        · exact implName_first s h1 h12' hb ha w
        · exact implName_byte s h1 h12' hb w
      · have ha0 : 97 ≤ ((s[0]'(by omega)).toNat : Int) := by omega
        have ha1 : ((s[0]'(by omega)).toNat : Int) ≤ 122 := by omega
        by_cases hz : ((s[s.size - 1]'(by omega)).toNat : Int) = 45
        · refine ⟨false, fun w => specName_last s h1 h12' ha0 ha1 hz w, fun w _ => ?_⟩
          by_cases hb : ∀ c ∈ s.data.toList, okb c = true
          · exact implName_last s h1 h12' hb ha0 ha1 hz w
          · exact implName_byte s h1 h12' hb w
        · refine ⟨nmL s.data.toList 0, fun w => specName_loop s h1 h12' ha0 ha1 hz w, fun w hm => ?_⟩
          have hiff := nmL_iff s.data.toList 0
          by_cases hb : ∀ c ∈ s.data.toList, okb c = true
          · have hv : nmL s.data.toList 0 = !Lib.contains s.data.toList [45, 45] := by
              rw [Bool.eq_iff_iff, hiff, contains_index]
              simp only [Bool.not_eq_true', decide_eq_false_iff_not, Decidable.not_not]
              constructor
              · rintro ⟨_, _, h⟩
                exact h
              · intro h
                exact ⟨hb, by rintro ⟨e, _⟩; exact absurd e (by decide), h⟩
            rw [hv]
            exact implName_rest s h1 h12' hb ha0 ha1 hz w hm
          · have hv : nmL s.data.toList 0 = false := by
              rw [Bool.eq_false_iff]
              intro h
              exact hb (hiff.mp h).1
            rw [hv]
            exact implName_byte s h1 h12' hb w

end Go.Proofs.Ytlmmbheamicdaab
