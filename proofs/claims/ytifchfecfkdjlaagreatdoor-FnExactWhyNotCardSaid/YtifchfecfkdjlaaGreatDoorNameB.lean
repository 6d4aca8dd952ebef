/-
  The walk of the program's NameOk.
-/
import Derived.Test.YtifchfecfkdjlaaGreatDoorNameS
import Derived.Ground.NamesProg
import Derived.Shelf.Lay
import Derived.Shelf.Strings.SlTrimAscii
import Derived.Shelf.Strings.Shaped
namespace Go.Proofs
open Go.Shelf
def Tryz.laysTR_ren : Go.Shelf.Ren := ⟨fun | 160 => 97 | 232 => 102 | 231 => 101 | 227 => 103 | 234 => 105 | 233 => 104 | 236 => 107 | 235 => 106 | 228 => 113 | 271 => 116 | 151 => 115 | 197 => 114 | 120 => 125 | 152 => 124 | 260 => 123 | 137 => 132 | 119 => 133 | 224 => 128 | 225 => 127 | 217 => 126 | 266 => 134 | n => n, fun | 9 => 9 | 4 => 4 | 3 => 3 | 5 => 5 | 117 => 127 | 116 => 126 | 0 => 0 | 124 => 130 | 21 => 21 | 105 => 139 | 46 => 148 | 119 => 153 | 139 => 156 | 138 => 155 | n => n, fun | 3 => 3 | 4 => 4 | n => n⟩
theorem Tryz.laysTR : Go.Proofs.LaysM.n160 Tryz.prog Tryz.laysTR_ren := {
  mixed := by kernel_rfl
  f119 := Tryz.func133.trans (congrArg some (by kernel_rfl))
  f120 := Tryz.func125.trans (congrArg some (by kernel_rfl))
  f137 := Tryz.func132.trans (congrArg some (by kernel_rfl))
  f151 := Tryz.func115.trans (congrArg some (by kernel_rfl))
  f152 := Tryz.func124.trans (congrArg some (by kernel_rfl))
  f160 := Tryz.func97.trans (congrArg some (by kernel_rfl))
  f197 := Tryz.func114.trans (congrArg some (by kernel_rfl))
  f217 := Tryz.func126.trans (congrArg some (by kernel_rfl))
  f224 := Tryz.func128.trans (congrArg some (by kernel_rfl))
  f225 := Tryz.func127.trans (congrArg some (by kernel_rfl))
  f227 := Tryz.func103.trans (congrArg some (by kernel_rfl))
  f228 := Tryz.func113.trans (congrArg some (by kernel_rfl))
  f231 := Tryz.func101.trans (congrArg some (by kernel_rfl))
  f232 := Tryz.func102.trans (congrArg some (by kernel_rfl))
  f233 := Tryz.func104.trans (congrArg some (by kernel_rfl))
  f234 := Tryz.func105.trans (congrArg some (by kernel_rfl))
  f235 := Tryz.func106.trans (congrArg some (by kernel_rfl))
  f236 := Tryz.func107.trans (congrArg some (by kernel_rfl))
  f260 := Tryz.func123.trans (congrArg some (by kernel_rfl))
  f266 := Tryz.func134.trans (congrArg some (by kernel_rfl))
  f271 := Tryz.func116.trans (congrArg some (by kernel_rfl))
  t0 := Tryz.underlying0
  a0 := Tryz.isAgg0
  z0 := Tryz.sizeOf0
  v0 := Tryz.zeroValue0
  t3 := Tryz.underlying3
  a3 := Tryz.isAgg3
  z3 := Tryz.sizeOf3
  v3 := Tryz.zeroValue3
  t4 := Tryz.underlying4
  a4 := Tryz.isAgg4
  z4 := Tryz.sizeOf4
  v4 := Tryz.zeroValue4
  t5 := Tryz.underlying5
  a5 := Tryz.isAgg5
  z5 := Tryz.sizeOf5
  v5 := Tryz.zeroValue5
  t9 := Tryz.underlying9
  a9 := Tryz.isAgg9
  z9 := Tryz.sizeOf9
  v9 := Tryz.zeroValue9
  t21 := Tryz.underlying21
  a21 := Tryz.isAgg21
  z21 := Tryz.sizeOf21
  v21 := Tryz.zeroValue21
  t46 := Tryz.underlying148
  a46 := Tryz.isAgg148
  z46 := Tryz.sizeOf148
  v46 := Tryz.zeroValue148
  t105 := Tryz.underlying139
  a105 := Tryz.isAgg139
  z105 := Tryz.sizeOf139
  v105 := Tryz.zeroValue139
  t116 := Tryz.underlying126
  a116 := Tryz.isAgg126
  z116 := Tryz.sizeOf126
  t117 := Tryz.underlying127
  a117 := Tryz.isAgg127
  z117 := Tryz.sizeOf127
  v117 := Tryz.zeroValue127
  t119 := Tryz.underlying153
  a119 := Tryz.isAgg153
  z119 := Tryz.sizeOf153
  t124 := Tryz.underlying130
  a124 := Tryz.isAgg130
  z124 := Tryz.sizeOf130
  v124 := Tryz.zeroValue130
  t138 := Tryz.underlying155
  a138 := Tryz.isAgg155
  z138 := Tryz.sizeOf155
  v138 := Tryz.zeroValue155
  t139 := Tryz.underlying156
  a139 := Tryz.isAgg156
  z139 := Tryz.sizeOf156
  v139 := Tryz.zeroValue156
  g3 := by kernel_rfl
  g4 := by kernel_rfl
  i0 := by kernel_rfl
  i3 := by kernel_rfl
  i4 := by kernel_rfl
  i5 := by kernel_rfl
  i9 := by kernel_rfl
  i21 := by kernel_rfl
  i46 := by kernel_rfl
  i105 := by kernel_rfl
  i117 := by kernel_rfl
  i124 := by kernel_rfl
  i138 := by kernel_rfl
  i139 := by kernel_rfl
  m3 := by kernel_rfl
  m4 := by kernel_rfl }
def Tryz.laysCT_ren : Go.Shelf.Ren := ⟨fun | 144 => 98 | 143 => 108 | 219 => 117 | 217 => 126 | 225 => 127 | 224 => 128 | 267 => 129 | 266 => 134 | 314 => 135 | n => n, fun | 9 => 9 | 4 => 4 | 3 => 3 | 5 => 5 | 46 => 148 | 146 => 158 | 51 => 145 | n => n, fun | 1 => 2 | n => n⟩
theorem Tryz.laysCT : Go.Proofs.LaysM.n144 Tryz.prog Tryz.laysCT_ren := {
  mixed := by kernel_rfl
  f143 := Tryz.func108.trans (congrArg some (by kernel_rfl))
  f144 := Tryz.func98.trans (congrArg some (by kernel_rfl))
  f217 := Tryz.func126.trans (congrArg some (by kernel_rfl))
  f219 := Tryz.func117.trans (congrArg some (by kernel_rfl))
  f224 := Tryz.func128.trans (congrArg some (by kernel_rfl))
  f225 := Tryz.func127.trans (congrArg some (by kernel_rfl))
  f266 := Tryz.func134.trans (congrArg some (by kernel_rfl))
  f267 := Tryz.func129.trans (congrArg some (by kernel_rfl))
  f314 := Tryz.func135.trans (congrArg some (by kernel_rfl))
  t3 := Tryz.underlying3
  a3 := Tryz.isAgg3
  z3 := Tryz.sizeOf3
  v3 := Tryz.zeroValue3
  t4 := Tryz.underlying4
  a4 := Tryz.isAgg4
  z4 := Tryz.sizeOf4
  v4 := Tryz.zeroValue4
  t5 := Tryz.underlying5
  a5 := Tryz.isAgg5
  z5 := Tryz.sizeOf5
  v5 := Tryz.zeroValue5
  t9 := Tryz.underlying9
  a9 := Tryz.isAgg9
  z9 := Tryz.sizeOf9
  v9 := Tryz.zeroValue9
  t46 := Tryz.underlying148
  a46 := Tryz.isAgg148
  z46 := Tryz.sizeOf148
  v46 := Tryz.zeroValue148
  t51 := Tryz.underlying145
  a51 := Tryz.isAgg145
  z51 := Tryz.sizeOf145
  v51 := Tryz.zeroValue145
  t146 := Tryz.underlying158
  a146 := Tryz.isAgg158
  z146 := Tryz.sizeOf158
  v146 := Tryz.zeroValue158
  g1 := by kernel_rfl
  i3 := by kernel_rfl
  i4 := by kernel_rfl
  i5 := by kernel_rfl
  i9 := by kernel_rfl
  i46 := by kernel_rfl
  i51 := by kernel_rfl
  i146 := by kernel_rfl
  m1 := by kernel_rfl
  s1_3 := fun w h => Go.Proofs.cell_of_shapedOpen_int (zero := #[.int .i64 0]) (t := 3) h (of_decide_eq_true (by kernel_rfl)) (by kernel_rfl) rfl (by kernel_rfl) (by kernel_rfl) Tryz.underlying3 }
end Go.Proofs
namespace Go.Proofs.YtifchfecfkdjlaaGreatDoor
open Go.ChangeShapes Go.WideShapes Go.ChangeAt Go.RowKit

/-- The cell of internal/bytealg.MaxLen holds some integer. -/
def MaxC (w : World) : Prop := ∃ m : Int, w.cell? ⟨2, 0, none⟩ = some (.int .i64 m)
theorem MaxC.keep {w w' : World} (h : MaxC w) (hb : Below w.heap.size w w') : MaxC w' := by
  obtain ⟨m, hm⟩ := h
  exact ⟨m, keepCell hb hm⟩
theorem maxC {W : World} (h : W.ShapedOpen Tryz.prog) : MaxC W := Tryz.laysCT.s1_3 W h

/-- The bytes of names, as Go's string. -/
def nsetB : ByteArray := ⟨#[97, 98, 99, 100, 101, 102, 103, 104, 105, 106, 107, 108, 109, 110, 111, 112, 113, 114, 115, 116, 117, 118, 119, 120, 121, 122, 48, 49, 50, 51, 52, 53, 54, 55, 56, 57, 45]⟩

theorem trim_any (s : ByteArray) (hs : s.size ≤ 1048576) (w : World) :
    Calls Tryz.prog 97 #[.string s, .string nsetB] w fun e w' => e = .returned (.string ⟨(Lib.trimS s.data.toList nset).toArray⟩) ∧ Below w.heap.size w w' :=
  Any.strings_Trim_laid { Tryz.laysTR with } (by kernel_rfl) s nsetB w (by omega) (by decide) (ascii_of_all (by decide))
theorem cont_any (s : ByteArray) (hs : s.size ≤ 1048576) (w : World) (hm : MaxC w) :
    Calls Tryz.prog 98 #[.string s, .string ⟨#[45, 45]⟩] w fun e w' => e = .returned (.bool (Lib.contains s.data.toList [45, 45])) ∧ w = w' := by
  obtain ⟨m, hm⟩ := hm
  refine (Any.strings_Contains { Tryz.laysCT with } s ⟨#[45, 45]⟩ m w (by omega) hm).mono ?_
  rintro e w' ⟨rfl, rfl⟩
  exact ⟨rfl, rfl⟩

theorem not_empty (s : ByteArray) (h : 0 < s.size) : s.toList.isEmpty = false := by
  cases h2 : s.toList with
  | nil =>
    have h3 : s.data.toList = [] := by rw [← ByteArray.toList_eq]; exact h2
    have h4 : s.size = 0 := by
      show s.data.toList.length = 0
      rw [h3]
      rfl
    omega
  | cons c cs => rfl

/-- Trimmed away whole. -/
theorem trim_yes (s : ByteArray) (hs : s.size ≤ 1048576) (h : ∀ c ∈ s.data.toList, okb c = true) : Hid (∀ w : World, Calls Tryz.prog 97 #[.string s, .string nsetB] w fun e w' => e = .returned (.string ⟨#[]⟩) ∧ Below w.heap.size w w') := by
  refine Lib.hid (fun w => ?_)
  have := trim_any s hs w
  rw [(trim_nil s.data.toList nset).mpr h] at this
  exact this
theorem trim_no (s : ByteArray) (hs : s.size ≤ 1048576) (h : ¬ ∀ c ∈ s.data.toList, okb c = true) : ∃ T : ByteArray, T.toList.isEmpty = false ∧ Hid (∀ w : World, Calls Tryz.prog 97 #[.string s, .string nsetB] w fun e w' => e = .returned (.string T) ∧ Below w.heap.size w w') := by
  refine ⟨⟨(Lib.trimS s.data.toList nset).toArray⟩, ?_, Lib.hid (fun w => trim_any s hs w)⟩
  have hne : Lib.trimS s.data.toList nset ≠ [] := fun e => h ((trim_nil s.data.toList nset).mp e)
  rw [ByteArray.toList_eq]
  match hL : Lib.trimS s.data.toList nset, hne with
  | c :: t, _ => rfl

theorem implName_empty (w : World) :
    Calls Tryz.prog 92 #[.string ⟨#[]⟩] w fun e w' => e = .returned (.bool false) ∧ Below w.heap.size w w' := by
  go_enter Tryz.func92, Tryz.ntmps92
  go_wp2
  go_ret
  exact ⟨rfl, Below.refl _ _⟩
theorem implName_long (s : ByteArray) (h : 12 < s.size) (hs : s.size ≤ 1048576) (w : World) :
    Calls Tryz.prog 92 #[.string s] w fun e w' => e = .returned (.bool false) ∧ Below w.heap.size w w' := by
  have he := not_empty s (by omega)
  go_enter Tryz.func92, Tryz.ntmps92
  go_wp2
  go_ret
  exact ⟨rfl, Below.refl _ _⟩
theorem implName_byte (s : ByteArray) (h : 1 ≤ s.size) (h12 : s.size ≤ 12) (hb : ¬ ∀ c ∈ s.data.toList, okb c = true) (w : World) :
    Calls Tryz.prog 92 #[.string s] w fun e w' => e = .returned (.bool false) ∧ Below w.heap.size w w' := by
  have he := not_empty s (by omega)
  obtain ⟨T, hT, C⟩ := trim_no s (by omega) hb
  unfold nsetB at C
  have h2 : ¬ 12 < s.size := by omega
  clear hb
  go_enter Tryz.func92, Tryz.ntmps92
  go_wp2_with (go_at_call 97; (with_reducible refine (C.out _).mono ?_); rintro e wx ⟨rfl, hbx⟩)
  go_ret
  exact ⟨rfl, hbx⟩
theorem implName_first (s : ByteArray) (h : 1 ≤ s.size) (h12 : s.size ≤ 12) (hb : ∀ c ∈ s.data.toList, okb c = true) (ha : ((s[0]'(by omega)).toNat : Int) < 97 ∨ 122 < ((s[0]'(by omega)).toNat : Int)) (w : World) :
    Calls Tryz.prog 92 #[.string s] w fun e w' => e = .returned (.bool false) ∧ Below w.heap.size w w' := by
  have he := not_empty s (by omega)
  have C := trim_yes s (by omega) hb
  unfold nsetB at C
  have h2 : ¬ 12 < s.size := by omega
  have hI : ∀ W, (Instr.index 9 (.string s) (.int .i64 0)).run Tryz.prog W = _ := index_at s 0 (by omega)
  generalize ((s[0]'(by omega)).toNat : Int) = a at *
  clear hb
  rcases ha with ha | ha
  · have h3 : decide (97 ≤ a) = false := decide_eq_false (by omega)
    go_enter Tryz.func92, Tryz.ntmps92
    go_wp2_with (go_at_call 97; (with_reducible refine (C.out _).mono ?_); rintro e wx ⟨rfl, hbx⟩)
    go_ret
    exact ⟨rfl, hbx⟩
  · have h3 : decide (97 ≤ a) = true := decide_eq_true (by omega)
    have h4 : decide (a ≤ 122) = false := decide_eq_false (by omega)
    go_enter Tryz.func92, Tryz.ntmps92
    go_wp2_with (go_at_call 97; (with_reducible refine (C.out _).mono ?_); rintro e wx ⟨rfl, hbx⟩)
    go_ret
    exact ⟨rfl, hbx⟩
theorem implName_last (s : ByteArray) (h : 1 ≤ s.size) (h12 : s.size ≤ 12) (hb : ∀ c ∈ s.data.toList, okb c = true) (ha0 : 97 ≤ ((s[0]'(by omega)).toNat : Int)) (ha1 : ((s[0]'(by omega)).toNat : Int) ≤ 122) (hz : ((s[s.size - 1]'(by omega)).toNat : Int) = 45) (w : World) :
    Calls Tryz.prog 92 #[.string s] w fun e w' => e = .returned (.bool false) ∧ Below w.heap.size w w' := by
  have he := not_empty s (by omega)
  have C := trim_yes s (by omega) hb
  unfold nsetB at C
  have h2 : ¬ 12 < s.size := by omega
  have hI : ∀ W, (Instr.index 9 (.string s) (.int .i64 0)).run Tryz.prog W = _ := index_at s 0 (by omega)
  have hL := index_back s (s.size - 1) (by omega) ((s.size : Int) - 1) (by omega)
  rw [hz] at hL
  generalize ((s[0]'(by omega)).toNat : Int) = a at *
  have h3 : decide (97 ≤ a) = true := decide_eq_true (by omega)
  have h4 : decide (a ≤ 122) = true := decide_eq_true (by omega)
  clear hb hz
  go_enter Tryz.func92, Tryz.ntmps92
  go_wp2_with (go_at_call 97; (with_reducible refine (C.out _).mono ?_); rintro e wx ⟨rfl, hbx⟩)
  go_ret
  exact ⟨rfl, hbx⟩
theorem implName_rest (s : ByteArray) (h : 1 ≤ s.size) (h12 : s.size ≤ 12) (hb : ∀ c ∈ s.data.toList, okb c = true) (ha0 : 97 ≤ ((s[0]'(by omega)).toNat : Int)) (ha1 : ((s[0]'(by omega)).toNat : Int) ≤ 122) (hz : ((s[s.size - 1]'(by omega)).toNat : Int) ≠ 45) (w : World) (hm : MaxC w) :
    Calls Tryz.prog 92 #[.string s] w fun e w' => e = .returned (.bool (!Lib.contains s.data.toList [45, 45])) ∧ Below w.heap.size w w' := by
  have he := not_empty s (by omega)
  have C := trim_yes s (by omega) hb
  unfold nsetB at C
  have CC : Hid (∀ W : World, MaxC W → Calls Tryz.prog 98 #[.string s, .string ⟨#[45, 45]⟩] W fun e w' => e = .returned (.bool (Lib.contains s.data.toList [45, 45])) ∧ W = w') := Lib.hid (fun W hW => cont_any s (by omega) W hW)
  generalize Lib.contains s.data.toList [45, 45] = K at *
  have h2 : ¬ 12 < s.size := by omega
  have hI : ∀ W, (Instr.index 9 (.string s) (.int .i64 0)).run Tryz.prog W = _ := index_at s 0 (by omega)
  have hL := index_back s (s.size - 1) (by omega) ((s.size : Int) - 1) (by omega)
  generalize ((s[0]'(by omega)).toNat : Int) = a at *
  generalize ((s[s.size - 1]'(by omega)).toNat : Int) = z at *
  have h3 : decide (97 ≤ a) = true := decide_eq_true (by omega)
  have h4 : decide (a ≤ 122) = true := decide_eq_true (by omega)
  have h5 : (z != 45) = true := by rw [bne_iff_ne]; exact hz
  have HM := Lib.hid hm
  clear hb hz hm
  go_enter Tryz.func92, Tryz.ntmps92
  go_wp2_with (first
    | (go_at_call 97; (with_reducible refine (C.out _).mono ?_); rintro e wx ⟨rfl, hbx⟩)
    | (go_at_call 98; (with_reducible refine (CC.out _ (HM.out.keep hbx)).mono ?_); rintro e wy ⟨rfl, rfl⟩))
  go_ret
  exact ⟨rfl, hbx⟩

theorem contains_index (l sub : List UInt8) : Lib.contains l sub = decide (Lib.index l sub ≠ -1) := by
  have h := Lib.index_ge l sub
  unfold Lib.contains
  rw [decide_eq_decide]
  omega

theorem name_both (s : ByteArray) (hs : s.size ≤ 1048576) : ∃ v : Bool, (∀ w : World, Calls Tryz.prog 79 #[.string s] w fun e w' => e = .returned (.bool v) ∧ w = w') ∧
    (∀ w : World, MaxC w → Calls Tryz.prog 92 #[.string s] w fun e w' => e = .returned (.bool v) ∧ Below w.heap.size w w') := by
  by_cases h0 : s.size = 0
  · have he : s = ⟨#[]⟩ := by
      apply ByteArray.ext
      exact Array.eq_empty_of_size_eq_zero h0
    subst he
    exact ⟨false, fun w => specName_short _ rfl w, fun w _ => implName_empty w⟩
  · by_cases h12 : 12 < s.size
    · exact ⟨false, fun w => specName_long s h12 hs w, fun w _ => implName_long s h12 hs w⟩
    · have h1 : 1 ≤ s.size := by omega
      have h12' : s.size ≤ 12 := by omega
      by_cases ha : ((s[0]'(by omega)).toNat : Int) < 97 ∨ 122 < ((s[0]'(by omega)).toNat : Int)
      · refine ⟨false, fun w => specName_first s h1 h12' ha w, fun w _ => ?_⟩
        by_cases hb : ∀ c ∈ s.data.toList, okb c = true
        · exact implName_first s h1 h12' hb ha w
        · exact implName_byte s h1 h12' hb w
      · have ha0 : 97 ≤ ((s[0]'(by omega)).toNat : Int) := by omega
        have ha1 : ((s[0]'(by omega)).toNat : Int) ≤ 122 := by omega
        by_cases hz : ((s[s.size - 1]'(by omega)).toNat : Int) = 45
        · refine ⟨false, fun w => specName_last s h1 h12' ha0 ha1 hz w, fun w _ => ?_⟩
          by_cases hb : ∀ c ∈ s.data.toList, okb c = true
          · exact implName_last s h1 h12' hb ha0 ha1 hz w
          · exact implName_byte s h1 h12' hb w
        · refine ⟨nmL s.data.toList 0, fun w => specName_loop s h1 h12' ha0 ha1 hz w, fun w hm => ?_⟩
          have hiff := nmL_iff s.data.toList 0
          by_cases hb : ∀ c ∈ s.data.toList, okb c = true
          · have hv : nmL s.data.toList 0 = !Lib.contains s.data.toList [45, 45] := by
              rw [Bool.eq_iff_iff, hiff, contains_index]
              simp only [Bool.not_eq_true', decide_eq_false_iff_not, Decidable.not_not]
              constructor
              · rintro ⟨_, _, h⟩
                exact h
              · intro h
                exact ⟨hb, by rintro ⟨e, _⟩; exact absurd e (by decide), h⟩
            rw [hv]
            exact implName_rest s h1 h12' hb ha0 ha1 hz w hm
          · have hv : nmL s.data.toList 0 = false := by
              rw [Bool.eq_false_iff]
              intro h
              exact hb (hiff.mp h).1
            rw [hv]
            exact implName_byte s h1 h12' hb w

end Go.Proofs.YtifchfecfkdjlaaGreatDoor
