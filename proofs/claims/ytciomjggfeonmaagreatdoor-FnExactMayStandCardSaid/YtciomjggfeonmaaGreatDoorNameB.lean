/-
  The walk of the program's NameOk.
-/
import Derived.Test.YtciomjggfeonmaaGreatDoorNameS
import Derived.Ground.NamesProg
import Derived.Shelf.Lay
import Derived.Shelf.Strings.SlTrimAscii
import Derived.Shelf.Strings.Shaped
namespace Go.Proofs
open Go.Shelf
def Tryz.laysTR_ren : Go.Shelf.Ren := ⟨fun | 160 => 119 | 232 => 154 | 231 => 153 | 227 => 155 | 234 => 157 | 233 => 156 | 236 => 159 | 235 => 158 | 228 => 179 | 271 => 182 | 151 => 181 | 197 => 180 | 120 => 197 | 152 => 196 | 260 => 195 | 137 => 219 | 119 => 220 | 224 => 200 | 225 => 199 | 217 => 198 | 266 => 221 | n => n, fun | 9 => 9 | 4 => 4 | 3 => 3 | 5 => 5 | 117 => 177 | 116 => 176 | 0 => 0 | 124 => 180 | 21 => 21 | 105 => 198 | 46 => 204 | 119 => 229 | 139 => 232 | 138 => 231 | n => n, fun | 3 => 2 | 4 => 3 | n => n⟩
theorem Tryz.laysTR : Go.Proofs.LaysM.n160 Tryz.prog Tryz.laysTR_ren := {
  mixed := by kernel_rfl
  f119 := Tryz.func220.trans (congrArg some (by kernel_rfl))
  f120 := Tryz.func197.trans (congrArg some (by kernel_rfl))
  f137 := Tryz.func219.trans (congrArg some (by kernel_rfl))
  f151 := Tryz.func181.trans (congrArg some (by kernel_rfl))
  f152 := Tryz.func196.trans (congrArg some (by kernel_rfl))
  f160 := Tryz.func119.trans (congrArg some (by kernel_rfl))
  f197 := Tryz.func180.trans (congrArg some (by kernel_rfl))
  f217 := Tryz.func198.trans (congrArg some (by kernel_rfl))
  f224 := Tryz.func200.trans (congrArg some (by kernel_rfl))
  f225 := Tryz.func199.trans (congrArg some (by kernel_rfl))
  f227 := Tryz.func155.trans (congrArg some (by kernel_rfl))
  f228 := Tryz.func179.trans (congrArg some (by kernel_rfl))
  f231 := Tryz.func153.trans (congrArg some (by kernel_rfl))
  f232 := Tryz.func154.trans (congrArg some (by kernel_rfl))
  f233 := Tryz.func156.trans (congrArg some (by kernel_rfl))
  f234 := Tryz.func157.trans (congrArg some (by kernel_rfl))
  f235 := Tryz.func158.trans (congrArg some (by kernel_rfl))
  f236 := Tryz.func159.trans (congrArg some (by kernel_rfl))
  f260 := Tryz.func195.trans (congrArg some (by kernel_rfl))
  f266 := Tryz.func221.trans (congrArg some (by kernel_rfl))
  f271 := Tryz.func182.trans (congrArg some (by kernel_rfl))
  t0 := Tryz.underlying0
  a0 := Tryz.isAgg0
  z0 := Tryz.sizeOf0
  v0 := Tryz.zeroValue0
  t3 := Tryz.underlying3
  a3 := Tryz.isAgg3
  z3 := Tryz.sizeOf3
  v3 := Tryz.zeroValue3
  t4 := Tryz.underlying4
  a4 := Tryz.isAgg4
  z4 := Tryz.sizeOf4
  v4 := Tryz.zeroValue4
  t5 := Tryz.underlying5
  a5 := Tryz.isAgg5
  z5 := Tryz.sizeOf5
  v5 := Tryz.zeroValue5
  t9 := Tryz.underlying9
  a9 := Tryz.isAgg9
  z9 := Tryz.sizeOf9
  v9 := Tryz.zeroValue9
  t21 := Tryz.underlying21
  a21 := Tryz.isAgg21
  z21 := Tryz.sizeOf21
  v21 := Tryz.zeroValue21
  t46 := Tryz.underlying204
  a46 := Tryz.isAgg204
  z46 := Tryz.sizeOf204
  v46 := Tryz.zeroValue204
  t105 := Tryz.underlying198
  a105 := Tryz.isAgg198
  z105 := Tryz.sizeOf198
  v105 := Tryz.zeroValue198
  t116 := Tryz.underlying176
  a116 := Tryz.isAgg176
  z116 := Tryz.sizeOf176
  t117 := Tryz.underlying177
  a117 := Tryz.isAgg177
  z117 := Tryz.sizeOf177
  v117 := Tryz.zeroValue177
  t119 := Tryz.underlying229
  a119 := Tryz.isAgg229
  z119 := Tryz.sizeOf229
  t124 := Tryz.underlying180
  a124 := Tryz.isAgg180
  z124 := Tryz.sizeOf180
  v124 := Tryz.zeroValue180
  t138 := Tryz.underlying231
  a138 := Tryz.isAgg231
  z138 := Tryz.sizeOf231
  v138 := Tryz.zeroValue231
  t139 := Tryz.underlying232
  a139 := Tryz.isAgg232
  z139 := Tryz.sizeOf232
  v139 := Tryz.zeroValue232
  g3 := by kernel_rfl
  g4 := by kernel_rfl
  i0 := by kernel_rfl
  i3 := by kernel_rfl
  i4 := by kernel_rfl
  i5 := by kernel_rfl
  i9 := by kernel_rfl
  i21 := by kernel_rfl
  i46 := by kernel_rfl
  i105 := by kernel_rfl
  i117 := by kernel_rfl
  i124 := by kernel_rfl
  i138 := by kernel_rfl
  i139 := by kernel_rfl
  m3 := by kernel_rfl
  m4 := by kernel_rfl }
def Tryz.laysCT_ren : Go.Shelf.Ren := ⟨fun | 144 => 120 | 143 => 160 | 219 => 183 | 217 => 198 | 225 => 199 | 224 => 200 | 267 => 201 | 266 => 221 | 314 => 222 | n => n, fun | 9 => 9 | 4 => 4 | 3 => 3 | 5 => 5 | 46 => 204 | 146 => 234 | 51 => 222 | n => n, fun | 1 => 1 | n => n⟩
theorem Tryz.laysCT : Go.Proofs.LaysM.n144 Tryz.prog Tryz.laysCT_ren := {
  mixed := by kernel_rfl
  f143 := Tryz.func160.trans (congrArg some (by kernel_rfl))
  f144 := Tryz.func120.trans (congrArg some (by kernel_rfl))
  f217 := Tryz.func198.trans (congrArg some (by kernel_rfl))
  f219 := Tryz.func183.trans (congrArg some (by kernel_rfl))
  f224 := Tryz.func200.trans (congrArg some (by kernel_rfl))
  f225 := Tryz.func199.trans (congrArg some (by kernel_rfl))
  f266 := Tryz.func221.trans (congrArg some (by kernel_rfl))
  f267 := Tryz.func201.trans (congrArg some (by kernel_rfl))
  f314 := Tryz.func222.trans (congrArg some (by kernel_rfl))
  t3 := Tryz.underlying3
  a3 := Tryz.isAgg3
  z3 := Tryz.sizeOf3
  v3 := Tryz.zeroValue3
  t4 := Tryz.underlying4
  a4 := Tryz.isAgg4
  z4 := Tryz.sizeOf4
  v4 := Tryz.zeroValue4
  t5 := Tryz.underlying5
  a5 := Tryz.isAgg5
  z5 := Tryz.sizeOf5
  v5 := Tryz.zeroValue5
  t9 := Tryz.underlying9
  a9 := Tryz.isAgg9
  z9 := Tryz.sizeOf9
  v9 := Tryz.zeroValue9
  t46 := Tryz.underlying204
  a46 := Tryz.isAgg204
  z46 := Tryz.sizeOf204
  v46 := Tryz.zeroValue204
  t51 := Tryz.underlying222
  a51 := Tryz.isAgg222
  z51 := Tryz.sizeOf222
  v51 := Tryz.zeroValue222
  t146 := Tryz.underlying234
  a146 := Tryz.isAgg234
  z146 := Tryz.sizeOf234
  v146 := Tryz.zeroValue234
  g1 := by kernel_rfl
  i3 := by kernel_rfl
  i4 := by kernel_rfl
  i5 := by kernel_rfl
  i9 := by kernel_rfl
  i46 := by kernel_rfl
  i51 := by kernel_rfl
  i146 := by kernel_rfl
  m1 := by kernel_rfl
  s1_3 := fun w h => Go.Proofs.cell_of_shapedOpen_int (zero := #[.int .i64 0]) (t := 3) h (of_decide_eq_true (by kernel_rfl)) (by kernel_rfl) rfl (by kernel_rfl) (by kernel_rfl) Tryz.underlying3 }
end Go.Proofs
namespace Go.Proofs.YtciomjggfeonmaaGreatDoor
open Go.ChangeShapes Go.WideShapes Go.ChangeAt Go.RowKit

/-- The cell of internal/bytealg.MaxLen holds some integer. -/
def MaxC (w : World) : Prop := ∃ m : Int, w.cell? ⟨1, 0, none⟩ = some (.int .i64 m)
theorem MaxC.keep {w w' : World} (h : MaxC w) (hb : Below w.heap.size w w') : MaxC w' := by
  obtain ⟨m, hm⟩ := h
  exact ⟨m, keepCell hb hm⟩
theorem maxC {W : World} (h : W.ShapedOpen Tryz.prog) : MaxC W := Tryz.laysCT.s1_3 W h

/-- The bytes of names, as Go's string. -/
def nsetB : ByteArray := ⟨#[97, 98, 99, 100, 101, 102, 103, 104, 105, 106, 107, 108, 109, 110, 111, 112, 113, 114, 115, 116, 117, 118, 119, 120, 121, 122, 48, 49, 50, 51, 52, 53, 54, 55, 56, 57, 45]⟩

theorem trim_any (s : ByteArray) (hs : s.size ≤ 1048576) (w : World) :
    Calls Tryz.prog 119 #[.string s, .string nsetB] w fun e w' => e = .returned (.string ⟨(Lib.trimS s.data.toList nset).toArray⟩) ∧ Below w.heap.size w w' :=
  Any.strings_Trim_laid { Tryz.laysTR with } (by kernel_rfl) s nsetB w (by omega) (by decide) (ascii_of_all (by decide))
theorem cont_any (s : ByteArray) (hs : s.size ≤ 1048576) (w : World) (hm : MaxC w) :
    Calls Tryz.prog 120 #[.string s, .string ⟨#[45, 45]⟩] w fun e w' => e = .returned (.bool (Lib.contains s.data.toList [45, 45])) ∧ w = w' := by
  obtain ⟨m, hm⟩ := hm
  refine (Any.strings_Contains { Tryz.laysCT with } s ⟨#[45, 45]⟩ m w (by omega) hm).mono ?_
  rintro e w' ⟨rfl, rfl⟩
  exact ⟨rfl, rfl⟩

theorem not_empty (s : ByteArray) (h : 0 < s.size) : s.toList.isEmpty = false := by
  cases h2 : s.toList with
  | nil =>
    have h3 : s.data.toList = [] := by rw [← ByteArray.toList_eq]; exact h2
    have h4 : s.size = 0 := by
      show s.data.toList.length = 0
      rw [h3]
      rfl
    omega
  | cons c cs => rfl

/-- Trimmed away whole. -/
theorem trim_yes (s : ByteArray) (hs : s.size ≤ 1048576) (h : ∀ c ∈ s.data.toList, okb c = true) : Hid (∀ w : World, Calls Tryz.prog 119 #[.string s, .string nsetB] w fun e w' => e = .returned (.string ⟨#[]⟩) ∧ Below w.heap.size w w') := by
  refine Lib.hid (fun w => ?_)
  have := trim_any s hs w
  rw [(trim_nil s.data.toList nset).mpr h] at this
  exact this
theorem trim_no (s : ByteArray) (hs : s.size ≤ 1048576) (h : ¬ ∀ c ∈ s.data.toList, okb c = true) : ∃ T : ByteArray, T.toList.isEmpty = false ∧ Hid (∀ w : World, Calls Tryz.prog 119 #[.string s, .string nsetB] w fun e w' => e = .returned (.string T) ∧ Below w.heap.size w w') := by
  refine ⟨⟨(Lib.trimS s.data.toList nset).toArray⟩, ?_, Lib.hid (fun w => trim_any s hs w)⟩
  have hne : Lib.trimS s.data.toList nset ≠ [] := fun e => h ((trim_nil s.data.toList nset).mp e)
  rw [ByteArray.toList_eq]
  match hL : Lib.trimS s.data.toList nset, hne with
  | c :: t, _ => rfl

theorem implName_empty (w : World) :
    Calls Tryz.prog 74 #[.string ⟨#[]⟩] w fun e w' => e = .returned (.bool false) ∧ Below w.heap.size w w' := by
  go_enter Tryz.func74, Tryz.ntmps74
  go_wp2
  go_ret
  exact ⟨rfl, Below.refl _ _⟩
theorem implName_long (s : ByteArray) (h : 12 < s.size) (hs : s.size ≤ 1048576) (w : World) :
    Calls Tryz.prog 74 #[.string s] w fun e w' => e = .returned (.bool false) ∧ Below w.heap.size w w' := by
  have he := not_empty s (by omega)
  go_enter Tryz.func74, Tryz.ntmps74
  go_wp2
  go_ret
  exact ⟨rfl, Below.refl _ _⟩
theorem implName_byte (s : ByteArray) (h : 1 ≤ s.size) (h12 : s.size ≤ 12) (hb : ¬ ∀ c ∈ s.data.toList, okb c = true) (w : World) :
    Calls Tryz.prog 74 #[.string s] w fun e w' => e = .returned (.bool false) ∧ Below w.heap.size w w' := by
  have he := not_empty s (by omega)
  obtain ⟨T, hT, C⟩ := trim_no s (by omega) hb
  unfold nsetB at C
  have h2 : ¬ 12 < s.size := by omega
  clear hb
  go_enter Tryz.func74, Tryz.ntmps74
  go_wp2_with (go_at_call 119; (with_reducible refine (C.out _).mono ?_); rintro e wx ⟨rfl, hbx⟩)
  go_ret
  exact ⟨rfl, hbx⟩
theorem implName_first (s : ByteArray) (h : 1 ≤ s.size) (h12 : s.size ≤ 12) (hb : ∀ c ∈ s.data.toList, okb c = true) (ha : ((s[0]'(by omega)).toNat : Int) < 97 ∨ 122 < ((s[0]'(by omega)).toNat : Int)) (w : World) :
    Calls Tryz.prog 74 #[.string s] w fun e w' => e = .returned (.bool false) ∧ Below w.heap.size w w' := by
  have he := not_empty s (by omega)
  have C := trim_yes s (by omega) hb
  unfold nsetB at C
  have h2 : ¬ 12 < s.size := by omega
  have hI : ∀ W, (Instr.index 9 (.string s) (.int .i64 0)).run Tryz.prog W = _ := index_at s 0 (by omega)
  generalize ((s[0]'(by omega)).toNat : Int) = a at *
  clear hb
  rcases ha with ha | ha
  · have h3 : decide (97 ≤ a) = false := decide_eq_false (by omega)
    go_enter Tryz.func74, Tryz.ntmps74
    go_wp2_with (go_at_call 119; (with_reducible refine (C.out _).mono ?_); rintro e wx ⟨rfl, hbx⟩)
    go_ret
    exact ⟨rfl, hbx⟩
  · have h3 : decide (97 ≤ a) = true := decide_eq_true (by omega)
    have h4 : decide (a ≤ 122) = false := decide_eq_false (by omega)
    go_enter Tryz.func74, Tryz.ntmps74
    go_wp2_with (go_at_call 119; (with_reducible refine (C.out _).mono ?_); rintro e wx ⟨rfl, hbx⟩)
    go_ret
    exact ⟨rfl, hbx⟩
theorem implName_last (s : ByteArray) (h : 1 ≤ s.size) (h12 : s.size ≤ 12) (hb : ∀ c ∈ s.data.toList, okb c = true) (ha0 : 97 ≤ ((s[0]'(by omega)).toNat : Int)) (ha1 : ((s[0]'(by omega)).toNat : Int) ≤ 122) (hz : ((s[s.size - 1]'(by omega)).toNat : Int) = 45) (w : World) :
    Calls Tryz.prog 74 #[.string s] w fun e w' => e = .returned (.bool false) ∧ Below w.heap.size w w' := by
  have he := not_empty s (by omega)
  have C := trim_yes s (by omega) hb
  unfold nsetB at C
  have h2 : ¬ 12 < s.size := by omega
  have hI : ∀ W, (Instr.index 9 (.string s) (.int .i64 0)).run Tryz.prog W = _ := index_at s 0 (by omega)
  have hL := index_back s (s.size - 1) (by omega) ((s.size : Int) - 1) (by omega)
  rw [hz] at hL
  generalize ((s[0]'(by omega)).toNat : Int) = a at *
  have h3 : decide (97 ≤ a) = true := decide_eq_true (by omega)
  have h4 : decide (a ≤ 122) = true := decide_eq_true (by omega)
  clear hb hz
  go_enter Tryz.func74, Tryz.ntmps74
  go_wp2_with (go_at_call 119; (with_reducible refine (C.out _).mono ?_); rintro e wx ⟨rfl, hbx⟩)
  go_ret
  exact ⟨rfl, hbx⟩
theorem implName_rest (s : ByteArray) (h : 1 ≤ s.size) (h12 : s.size ≤ 12) (hb : ∀ c ∈ s.data.toList, okb c = true) (ha0 : 97 ≤ ((s[0]'(by omega)).toNat : Int)) (ha1 : ((s[0]'(by omega)).toNat : Int) ≤ 122) (hz : ((s[s.size - 1]'(by omega)).toNat : Int) ≠ 45) (w : World) (hm : MaxC w) :
    Calls Tryz.prog 74 #[.string s] w fun e w' => e = .returned (.bool (!Lib.contains s.data.toList [45, 45])) ∧ Below w.heap.size w w' := by
  have he := not_empty s (by omega)
  have C := trim_yes s (by omega) hb
  unfold nsetB at C
  have CC : Hid (∀ W : World, MaxC W → Calls Tryz.prog 120 #[.string s, .string ⟨#[45, 45]⟩] W fun e w' => e = .returned (.bool (Lib.contains s.data.toList [45, 45])) ∧ W = w') := Lib.hid (fun W hW => cont_any s (by omega) W hW)
  generalize Lib.contains s.data.toList [45, 45] = K at *
  have h2 : ¬ 12 < s.size := by omega
  have hI : ∀ W, (Instr.index 9 (.string s) (.int .i64 0)).run Tryz.prog W = _ := index_at s 0 (by omega)
  have hL := index_back s (s.size - 1) (by omega) ((s.size : Int) - 1) (by omega)
  generalize ((s[0]'(by omega)).toNat : Int) = a at *
  generalize ((s[s.size - 1]'(by omega)).toNat : Int) = z at *
  have h3 : decide (97 ≤ a) = true := decide_eq_true (by omega)
  have h4 : decide (a ≤ 122) = true := decide_eq_true (by omega)
  have h5 : (z != 45) = true := by rw [bne_iff_ne]; exact hz
  have HM := Lib.hid hm
  clear hb hz hm
  go_enter Tryz.func74, Tryz.ntmps74
  go_wp2_with (first
    | (go_at_call 119; (with_reducible refine (C.out _).mono ?_); rintro e wx ⟨rfl, hbx⟩)
    | (go_at_call 120; (with_reducible refine (CC.out _ (HM.out.keep hbx)).mono ?_); rintro e wy ⟨rfl, rfl⟩))
  go_ret
  exact ⟨rfl, hbx⟩

theorem contains_index (l sub : List UInt8) : Lib.contains l sub = decide (Lib.index l sub ≠ -1) := by
  have h := Lib.index_ge l sub
  unfold Lib.contains
  rw [decide_eq_decide]
  omega

theorem name_both (s : ByteArray) (hs : s.size ≤ 1048576) : ∃ v : Bool, (∀ w : World, Calls Tryz.prog 108 #[.string s] w fun e w' => e = .returned (.bool v) ∧ w = w') ∧
    (∀ w : World, MaxC w → Calls Tryz.prog 74 #[.string s] w fun e w' => e = .returned (.bool v) ∧ Below w.heap.size w w') := by
  by_cases h0 : s.size = 0
  · have he : s = ⟨#[]⟩ := by
      apply ByteArray.ext
      exact Array.eq_empty_of_size_eq_zero h0
    subst he
    exact ⟨false, fun w => specName_short _ rfl w, fun w _ => implName_empty w⟩
  · by_cases h12 : 12 < s.size
    · exact ⟨false, fun w => specName_long s h12 hs w, fun w _ => implName_long s h12 hs w⟩
    · have h1 : 1 ≤ s.size := by omega
      have h12' : s.size ≤ 12 := by omega
      by_cases ha : ((s[0]'(by omega)).toNat : Int) < 97 ∨ 122 < ((s[0]'(by omega)).toNat : Int)
      · refine ⟨false, fun w => specName_first s h1 h12' ha w, fun w _ => ?_⟩
        by_cases hb : ∀ c ∈ s.data.toList, okb c = true
        · exact implName_first s h1 h12' hb ha w
        · exact implName_byte s h1 h12' hb w
      · have ha0 : 97 ≤ ((s[0]'(by omega)).toNat : Int) := by omega
        have ha1 : ((s[0]'(by omega)).toNat : Int) ≤ 122 := by omega
        by_cases hz : ((s[s.size - 1]'(by omega)).toNat : Int) = 45
        · refine ⟨false, fun w => specName_last s h1 h12' ha0 ha1 hz w, fun w _ => ?_⟩
          by_cases hb : ∀ c ∈ s.data.toList, okb c = true
          · exact implName_last s h1 h12' hb ha0 ha1 hz w
          · exact implName_byte s h1 h12' hb w
        · refine ⟨nmL s.data.toList 0, fun w => specName_loop s h1 h12' ha0 ha1 hz w, fun w hm => ?_⟩
          have hiff := nmL_iff s.data.toList 0
          by_cases hb : ∀ c ∈ s.data.toList, okb c = true
          · have hv : nmL s.data.toList 0 = !Lib.contains s.data.toList [45, 45] := by
              rw [Bool.eq_iff_iff, hiff, contains_index]
              simp only [Bool.not_eq_true', decide_eq_false_iff_not, Decidable.not_not]
              constructor
              · rintro ⟨_, _, h⟩
                exact h
              · intro h
                exact ⟨hb, by rintro ⟨e, _⟩; exact absurd e (by decide), h⟩
            rw [hv]
            exact implName_rest s h1 h12' hb ha0 ha1 hz w hm
          · have hv : nmL s.data.toList 0 = false := by
              rw [Bool.eq_false_iff]
              intro h
              exact hb (hiff.mp h).1
            rw [hv]
            exact implName_byte s h1 h12' hb w

end Go.Proofs.YtciomjggfeonmaaGreatDoor
