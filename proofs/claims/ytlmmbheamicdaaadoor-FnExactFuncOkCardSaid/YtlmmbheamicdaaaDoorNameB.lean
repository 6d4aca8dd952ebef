/-
  The walk of the program's NameOk.
-/
import Derived.Test.YtlmmbheamicdaaaDoorNameS
import Derived.Ground.NamesProg
import Derived.Shelf.Lay
import Derived.Shelf.Strings.SlTrimAscii
import Derived.Shelf.Strings.Shaped
namespace Go.Proofs
open Go.Shelf
def Tryd.laysTR_ren : Go.Shelf.Ren := ⟨fun | 160 => 46 | 232 => 51 | 231 => 50 | 227 => 52 | 234 => 54 | 233 => 53 | 236 => 56 | 235 => 55 | 228 => 58 | 271 => 61 | 151 => 60 | 197 => 59 | 120 => 65 | 152 => 64 | 260 => 63 | 137 => 70 | 119 => 71 | 224 => 68 | 225 => 67 | 217 => 66 | 266 => 72 | n => n, fun | 9 => 9 | 4 => 4 | 3 => 3 | 5 => 5 | 117 => 87 | 116 => 86 | 0 => 0 | 124 => 90 | 21 => 21 | 105 => 93 | 46 => 99 | 119 => 100 | 139 => 103 | 138 => 102 | n => n, fun | 3 => 1 | 4 => 2 | n => n⟩
theorem Tryd.laysTR : Go.Proofs.LaysM.n160 Tryd.prog Tryd.laysTR_ren := {
  mixed := by kernel_rfl
  f119 := Tryd.func71.trans (congrArg some (by kernel_rfl))
  f120 := Tryd.func65.trans (congrArg some (by kernel_rfl))
  f137 := Tryd.func70.trans (congrArg some (by kernel_rfl))
  f151 := Tryd.func60.trans (congrArg some (by kernel_rfl))
  f152 := Tryd.func64.trans (congrArg some (by kernel_rfl))
  f160 := Tryd.func46.trans (congrArg some (by kernel_rfl))
  f197 := Tryd.func59.trans (congrArg some (by kernel_rfl))
  f217 := Tryd.func66.trans (congrArg some (by kernel_rfl))
  f224 := Tryd.func68.trans (congrArg some (by kernel_rfl))
  f225 := Tryd.func67.trans (congrArg some (by kernel_rfl))
  f227 := Tryd.func52.trans (congrArg some (by kernel_rfl))
  f228 := Tryd.func58.trans (congrArg some (by kernel_rfl))
  f231 := Tryd.func50.trans (congrArg some (by kernel_rfl))
  f232 := Tryd.func51.trans (congrArg some (by kernel_rfl))
  f233 := Tryd.func53.trans (congrArg some (by kernel_rfl))
  f234 := Tryd.func54.trans (congrArg some (by kernel_rfl))
  f235 := Tryd.func55.trans (congrArg some (by kernel_rfl))
  f236 := Tryd.func56.trans (congrArg some (by kernel_rfl))
  f260 := Tryd.func63.trans (congrArg some (by kernel_rfl))
  f266 := Tryd.func72.trans (congrArg some (by kernel_rfl))
  f271 := Tryd.func61.trans (congrArg some (by kernel_rfl))
  t0 := Tryd.underlying0
  a0 := Tryd.isAgg0
  z0 := Tryd.sizeOf0
  v0 := Tryd.zeroValue0
  t3 := Tryd.underlying3
  a3 := Tryd.isAgg3
  z3 := Tryd.sizeOf3
  v3 := Tryd.zeroValue3
  t4 := Tryd.underlying4
  a4 := Tryd.isAgg4
  z4 := Tryd.sizeOf4
  v4 := Tryd.zeroValue4
  t5 := Tryd.underlying5
  a5 := Tryd.isAgg5
  z5 := Tryd.sizeOf5
  v5 := Tryd.zeroValue5
  t9 := Tryd.underlying9
  a9 := Tryd.isAgg9
  z9 := Tryd.sizeOf9
  v9 := Tryd.zeroValue9
  t21 := Tryd.underlying21
  a21 := Tryd.isAgg21
  z21 := Tryd.sizeOf21
  v21 := Tryd.zeroValue21
  t46 := Tryd.underlying99
  a46 := Tryd.isAgg99
  z46 := Tryd.sizeOf99
  v46 := Tryd.zeroValue99
  t105 := Tryd.underlying93
  a105 := Tryd.isAgg93
  z105 := Tryd.sizeOf93
  v105 := Tryd.zeroValue93
  t116 := Tryd.underlying86
  a116 := Tryd.isAgg86
  z116 := Tryd.sizeOf86
  t117 := Tryd.underlying87
  a117 := Tryd.isAgg87
  z117 := Tryd.sizeOf87
  v117 := Tryd.zeroValue87
  t119 := Tryd.underlying100
  a119 := Tryd.isAgg100
  z119 := Tryd.sizeOf100
  t124 := Tryd.underlying90
  a124 := Tryd.isAgg90
  z124 := Tryd.sizeOf90
  v124 := Tryd.zeroValue90
  t138 := Tryd.underlying102
  a138 := Tryd.isAgg102
  z138 := Tryd.sizeOf102
  v138 := Tryd.zeroValue102
  t139 := Tryd.underlying103
  a139 := Tryd.isAgg103
  z139 := Tryd.sizeOf103
  v139 := Tryd.zeroValue103
  g3 := by kernel_rfl
  g4 := by kernel_rfl
  i0 := by kernel_rfl
  i3 := by kernel_rfl
  i4 := by kernel_rfl
  i5 := by kernel_rfl
  i9 := by kernel_rfl
  i21 := by kernel_rfl
  i46 := by kernel_rfl
  i105 := by kernel_rfl
  i117 := by kernel_rfl
  i124 := by kernel_rfl
  i138 := by kernel_rfl
  i139 := by kernel_rfl
  m3 := by kernel_rfl
  m4 := by kernel_rfl }
def Tryd.laysCT_ren : Go.Shelf.Ren := ⟨fun | 144 => 47 | 143 => 57 | 219 => 62 | 217 => 66 | 225 => 67 | 224 => 68 | 267 => 69 | 266 => 72 | 314 => 73 | n => n, fun | 9 => 9 | 4 => 4 | 3 => 3 | 5 => 5 | 46 => 99 | 146 => 106 | 51 => 105 | n => n, fun | 1 => 0 | n => n⟩
theorem Tryd.laysCT : Go.Proofs.LaysM.n144 Tryd.prog Tryd.laysCT_ren := {
  mixed := by kernel_rfl
  f143 := Tryd.func57.trans (congrArg some (by kernel_rfl))
  f144 := Tryd.func47.trans (congrArg some (by kernel_rfl))
  f217 := Tryd.func66.trans (congrArg some (by kernel_rfl))
  f219 := Tryd.func62.trans (congrArg some (by kernel_rfl))
  f224 := Tryd.func68.trans (congrArg some (by kernel_rfl))
  f225 := Tryd.func67.trans (congrArg some (by kernel_rfl))
  f266 := Tryd.func72.trans (congrArg some (by kernel_rfl))
  f267 := Tryd.func69.trans (congrArg some (by kernel_rfl))
  f314 := Tryd.func73.trans (congrArg some (by kernel_rfl))
  t3 := Tryd.underlying3
  a3 := Tryd.isAgg3
  z3 := Tryd.sizeOf3
  v3 := Tryd.zeroValue3
  t4 := Tryd.underlying4
  a4 := Tryd.isAgg4
  z4 := Tryd.sizeOf4
  v4 := Tryd.zeroValue4
  t5 := Tryd.underlying5
  a5 := Tryd.isAgg5
  z5 := Tryd.sizeOf5
  v5 := Tryd.zeroValue5
  t9 := Tryd.underlying9
  a9 := Tryd.isAgg9
  z9 := Tryd.sizeOf9
  v9 := Tryd.zeroValue9
  t46 := Tryd.underlying99
  a46 := Tryd.isAgg99
  z46 := Tryd.sizeOf99
  v46 := Tryd.zeroValue99
  t51 := Tryd.underlying105
  a51 := Tryd.isAgg105
  z51 := Tryd.sizeOf105
  v51 := Tryd.zeroValue105
  t146 := Tryd.underlying106
  a146 := Tryd.isAgg106
  z146 := Tryd.sizeOf106
  v146 := Tryd.zeroValue106
  g1 := by kernel_rfl
  i3 := by kernel_rfl
  i4 := by kernel_rfl
  i5 := by kernel_rfl
  i9 := by kernel_rfl
  i46 := by kernel_rfl
  i51 := by kernel_rfl
  i146 := by kernel_rfl
  m1 := by kernel_rfl
  s1_3 := fun w h => Go.Proofs.cell_of_shapedOpen_int (zero := #[.int .i64 0]) (t := 3) h (of_decide_eq_true (by kernel_rfl)) (by kernel_rfl) rfl (by kernel_rfl) (by kernel_rfl) Tryd.underlying3 }
end Go.Proofs
namespace Go.Proofs.YtlmmbheamicdaaaDoor
open Go.ChangeShapes Go.WideShapes Go.ChangeAt Go.RowKit

/-- The cell of internal/bytealg.MaxLen holds some integer. -/
def MaxC (w : World) : Prop := ∃ m : Int, w.cell? ⟨0, 0, none⟩ = some (.int .i64 m)
theorem MaxC.keep {w w' : World} (h : MaxC w) (hb : Below w.heap.size w w') : MaxC w' := by
  obtain ⟨m, hm⟩ := h
  exact ⟨m, keepCell hb hm⟩
theorem maxC {W : World} (h : W.ShapedOpen Tryd.prog) : MaxC W := Tryd.laysCT.s1_3 W h

/-- The bytes of names, as Go's string. -/
def nsetB : ByteArray := ⟨#[97, 98, 99, 100, 101, 102, 103, 104, 105, 106, 107, 108, 109, 110, 111, 112, 113, 114, 115, 116, 117, 118, 119, 120, 121, 122, 48, 49, 50, 51, 52, 53, 54, 55, 56, 57, 45]⟩

theorem trim_any (s : ByteArray) (hs : s.size ≤ 1048576) (w : World) :
    Calls Tryd.prog 46 #[.string s, .string nsetB] w fun e w' => e = .returned (.string ⟨(Lib.trimS s.data.toList nset).toArray⟩) ∧ Below w.heap.size w w' :=
  Any.strings_Trim_laid { Tryd.laysTR with } (by kernel_rfl) s nsetB w (by omega) (by decide) (ascii_of_all (by decide))
theorem cont_any (s : ByteArray) (hs : s.size ≤ 1048576) (w : World) (hm : MaxC w) :
    Calls Tryd.prog 47 #[.string s, .string ⟨#[45, 45]⟩] w fun e w' => e = .returned (.bool (Lib.contains s.data.toList [45, 45])) ∧ w = w' := by
  obtain ⟨m, hm⟩ := hm
  refine (Any.strings_Contains { Tryd.laysCT with } s ⟨#[45, 45]⟩ m w (by omega) hm).mono ?_
  rintro e w' ⟨rfl, rfl⟩
  exact ⟨rfl, rfl⟩

theorem not_empty (s : ByteArray) (h : 0 < s.size) : s.toList.isEmpty = false := by
  cases h2 : s.toList with
  | nil =>
    have h3 : s.data.toList = [] := by rw [← ByteArray.toList_eq]; exact h2
    have h4 : s.size = 0 := by
      show s.data.toList.length = 0
      rw [h3]
      rfl
    omega
  | cons c cs => rfl

/-- Trimmed away whole. -/
theorem trim_yes (s : ByteArray) (hs : s.size ≤ 1048576) (h : ∀ c ∈ s.data.toList, okb c = true) : Hid (∀ w : World, Calls Tryd.prog 46 #[.string s, .string nsetB] w fun e w' => e = .returned (.string ⟨#[]⟩) ∧ Below w.heap.size w w') := by
  refine Lib.hid (fun w => ?_)
  have := trim_any s hs w
  rw [(trim_nil s.data.toList nset).mpr h] at this
  exact this
theorem trim_no (s : ByteArray) (hs : s.size ≤ 1048576) (h : ¬ ∀ c ∈ s.data.toList, okb c = true) : ∃ T : ByteArray, T.toList.isEmpty = false ∧ Hid (∀ w : World, Calls Tryd.prog 46 #[.string s, .string nsetB] w fun e w' => e = .returned (.string T) ∧ Below w.heap.size w w') := by
  refine ⟨⟨(Lib.trimS s.data.toList nset).toArray⟩, ?_, Lib.hid (fun w => trim_any s hs w)⟩
  have hne : Lib.trimS s.data.toList nset ≠ [] := fun e => h ((trim_nil s.data.toList nset).mp e)
  rw [ByteArray.toList_eq]
  match hL : Lib.trimS s.data.toList nset, hne with
  | c :: t, _ => rfl

theorem implName_empty (w : World) :
    Calls Tryd.prog 43 #[.string ⟨#[]⟩] w fun e w' => e = .returned (.bool false) ∧ Below w.heap.size w w' := by
  go_enter Tryd.func43, Tryd.ntmps43
  go_wp2
  go_ret
  exact ⟨rfl, Below.refl _ _⟩
theorem implName_long (s : ByteArray) (h : 12 < s.size) (hs : s.size ≤ 1048576) (w : World) :
    Calls Tryd.prog 43 #[.string s] w fun e w' => e = .returned (.bool false) ∧ Below w.heap.size w w' := by
  have he := not_empty s (by omega)
  go_enter Tryd.func43, Tryd.ntmps43
  go_wp2
  go_ret
  exact ⟨rfl, Below.refl _ _⟩
theorem implName_byte (s : ByteArray) (h : 1 ≤ s.size) (h12 : s.size ≤ 12) (hb : ¬ ∀ c ∈ s.data.toList, okb c = true) (w : World) :
    Calls Tryd.prog 43 #[.string s] w fun e w' => e = .returned (.bool false) ∧ Below w.heap.size w w' := by
  have he := not_empty s (by omega)
  obtain ⟨T, hT, C⟩ := trim_no s (by omega) hb
  unfold nsetB at C
  have h2 : ¬ 12 < s.size := by omega
  clear hb
  go_enter Tryd.func43, Tryd.ntmps43
  go_wp2_with (go_at_call 46; (with_reducible refine (C.out _).mono ?_); rintro e wx ⟨rfl, hbx⟩)
  go_ret
  exact ⟨rfl, hbx⟩
theorem implName_first (s : ByteArray) (h : 1 ≤ s.size) (h12 : s.size ≤ 12) (hb : ∀ c ∈ s.data.toList, okb c = true) (ha : ((s[0]'(by omega)).toNat : Int) < 97 ∨ 122 < ((s[0]'(by omega)).toNat : Int)) (w : World) :
    Calls Tryd.prog 43 #[.string s] w fun e w' => e = .returned (.bool false) ∧ Below w.heap.size w w' := by
  have he := not_empty s (by omega)
  have C := trim_yes s (by omega) hb
  unfold nsetB at C
  have h2 : ¬ 12 < s.size := by omega
  have hI : ∀ W, (Instr.index 9 (.string s) (.int .i64 0)).run Tryd.prog W = _ := index_at s 0 (by omega)
  generalize ((s[0]'(by omega)).toNat : Int) = a at *
  clear hb
  rcases ha with ha | ha
  · have h3 : decide (97 ≤ a) = false := decide_eq_false (by omega)
    go_enter Tryd.func43, Tryd.ntmps43
    go_wp2_with (go_at_call 46; (with_reducible refine (C.out _).mono ?_); rintro e wx ⟨rfl, hbx⟩)
    go_ret
    exact ⟨rfl, hbx⟩
  · have h3 : decide (97 ≤ a) = true := decide_eq_true (by omega)
    have h4 : decide (a ≤ 122) = false := decide_eq_false (by omega)
    go_enter Tryd.func43, Tryd.ntmps43
    go_wp2_with (go_at_call 46; (with_reducible refine (C.out _).mono ?_); rintro e wx ⟨rfl, hbx⟩)
    go_ret
    exact ⟨rfl, hbx⟩
theorem implName_last (s : ByteArray) (h : 1 ≤ s.size) (h12 : s.size ≤ 12) (hb : ∀ c ∈ s.data.toList, okb c = true) (ha0 : 97 ≤ ((s[0]'(by omega)).toNat : Int)) (ha1 : ((s[0]'(by omega)).toNat : Int) ≤ 122) (hz : ((s[s.size - 1]'(by omega)).toNat : Int) = 45) (w : World) :
    Calls Tryd.prog 43 #[.string s] w fun e w' => e = .returned (.bool false) ∧ Below w.heap.size w w' := by
  have he := not_empty s (by omega)
  have C := trim_yes s (by omega) hb
  unfold nsetB at C
  have h2 : ¬ 12 < s.size := by omega
  have hI : ∀ W, (Instr.index 9 (.string s) (.int .i64 0)).run Tryd.prog W = _ := index_at s 0 (by omega)
  have hL := index_back s (s.size - 1) (by omega) ((s.size : Int) - 1) (by omega)
  rw [hz] at hL
  generalize ((s[0]'(by omega)).toNat : Int) = a at *
  have h3 : decide (97 ≤ a) = true := decide_eq_true (by omega)
  have h4 : decide (a ≤ 122) = true := decide_eq_true (by omega)
  clear hb hz
  go_enter Tryd.func43, Tryd.ntmps43
  go_wp2_with (go_at_call 46; (with_reducible refine (C.out _).mono ?_); rintro e wx ⟨rfl, hbx⟩)
  go_ret
  exact ⟨rfl, hbx⟩
theorem implName_rest (s : ByteArray) (h : 1 ≤ s.size) (h12 : s.size ≤ 12) (hb : ∀ c ∈ s.data.toList, okb c = true) (ha0 : 97 ≤ ((s[0]'(by omega)).toNat : Int)) (ha1 : ((s[0]'(by omega)).toNat : Int) ≤ 122) (hz : ((s[s.size - 1]'(by omega)).toNat : Int) ≠ 45) (w : World) (hm : MaxC w) :
    Calls Tryd.prog 43 #[.string s] w fun e w' => e = .returned (.bool (!Lib.contains s.data.toList [45, 45])) ∧ Below w.heap.size w w' := by
  have he := not_empty s (by omega)
  have C := trim_yes s (by omega) hb
  unfold nsetB at C
  have CC : Hid (∀ W : World, MaxC W → Calls Tryd.prog 47 #[.string s, .string ⟨#[45, 45]⟩] W fun e w' => e = .returned (.bool (Lib.contains s.data.toList [45, 45])) ∧ W = w') := Lib.hid (fun W hW => cont_any s (by omega) W hW)
  generalize Lib.contains s.data.toList [45, 45] = K at *
  have h2 : ¬ 12 < s.size := by omega
  have hI : ∀ W, (Instr.index 9 (.string s) (.int .i64 0)).run Tryd.prog W = _ := index_at s 0 (by omega)
  have hL := index_back s (s.size - 1) (by omega) ((s.size : Int) - 1) (by omega)
  generalize ((s[0]'(by omega)).toNat : Int) = a at *
  generalize ((s[s.size - 1]'(by omega)).toNat : Int) = z at *
  have h3 : decide (97 ≤ a) = true := decide_eq_true (by omega)
  have h4 : decide (a ≤ 122) = true := decide_eq_true (by omega)
  have h5 : (z != 45) = true := by rw [bne_iff_ne]; exact hz
  have HM := Lib.hid hm
  clear hb hz hm
  go_enter Tryd.func43, Tryd.ntmps43
  go_wp2_with (first
    | (go_at_call 46; (with_reducible refine (C.out _).mono ?_); rintro e wx ⟨rfl, hbx⟩)
    | (go_at_call 47; (with_reducible refine (CC.out _ (HM.out.keep hbx)).mono ?_); rintro e wy ⟨rfl, rfl⟩))
  go_ret
  exact ⟨rfl, hbx⟩

theorem contains_index (l sub : List UInt8) : Lib.contains l sub = decide (Lib.index l sub ≠ -1) := by
  have h := Lib.index_ge l sub
  unfold Lib.contains
  rw [decide_eq_decide]
  omega

theorem name_both (s : ByteArray) (hs : s.size ≤ 1048576) : ∃ v : Bool, (∀ w : World, Calls Tryd.prog 25 #[.string s] w fun e w' => e = .returned (.bool v) ∧ w = w') ∧
    (∀ w : World, MaxC w → Calls Tryd.prog 43 #[.string s] w fun e w' => e = .returned (.bool v) ∧ Below w.heap.size w w') := by
  by_cases h0 : s.size = 0
  · have he : s = ⟨#[]⟩ := by
      apply ByteArray.ext
      exact Array.eq_empty_of_size_eq_zero h0
    subst he
    exact ⟨false, fun w => specName_short _ rfl w, fun w _ => implName_empty w⟩
  · by_cases h12 : 12 < s.size
    · exact ⟨false, fun w => specName_long s h12 hs w, fun w _ => implName_long s h12 hs w⟩
    · have h1 : 1 ≤ s.size := by omega
      have h12' : s.size ≤ 12 := by omega
      by_cases ha : ((s[0]'(by omega)).toNat : Int) < 97 ∨ 122 < ((s[0]'(by omega)).toNat : Int)
      · refine ⟨false, fun w => specName_first s h1 h12' ha w, fun w _ => ?_⟩
        by_cases hb : ∀ c ∈ s.data.toList, okb c = true
        · exact implName_first s h1 h12' hb ha w
        · exact implName_byte s h1 h12' hb w
      · have ha0 : 97 ≤ ((s[0]'(by omega)).toNat : Int) := by omega
        have ha1 : ((s[0]'(by omega)).toNat : Int) ≤ 122 := by omega
        by_cases hz : ((s[s.size - 1]'(by omega)).toNat : Int) = 45
        · refine ⟨false, fun w => specName_last s h1 h12' ha0 ha1 hz w, fun w _ => ?_⟩
          by_cases hb : ∀ c ∈ s.data.toList, okb c = true
          · exact implName_last s h1 h12' hb ha0 ha1 hz w
          · exact implName_byte s h1 h12' hb w
        · refine ⟨nmL s.data.toList 0, fun w => specName_loop s h1 h12' ha0 ha1 hz w, fun w hm => ?_⟩
          have hiff := nmL_iff s.data.toList 0
          by_cases hb : ∀ c ∈ s.data.toList, okb c = true
          · have hv : nmL s.data.toList 0 = !Lib.contains s.data.toList [45, 45] := by
              rw [Bool.eq_iff_iff, hiff, contains_index]
              simp only [Bool.not_eq_true', decide_eq_false_iff_not, Decidable.not_not]
              constructor
              · rintro ⟨_, _, h⟩
                exact h
              · intro h
                exact ⟨hb, by rintro ⟨e, _⟩; exact absurd e (by decide), h⟩
            rw [hv]
            exact implName_rest s h1 h12' hb ha0 ha1 hz w hm
          · have hv : nmL s.data.toList 0 = false := by
              rw [Bool.eq_false_iff]
              intro h
              exact hb (hiff.mp h).1
            rw [hv]
            exact implName_byte s h1 h12' hb w

end Go.Proofs.YtlmmbheamicdaaaDoor
