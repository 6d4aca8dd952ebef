/-
  The walks of both WordOk.
-/
import Derived.Test.YtbjcldekapipaaaGreatDoorStrIx
import Derived.Ground.NamesProg
import Derived.Shelf.Lay
import Derived.Shelf.Strings.SlTrimAscii
import Derived.Shelf.Strings.Shaped
namespace Go.Proofs
open Go.Shelf
def Tryz.laysTW_ren : Go.Shelf.Ren := ⟨fun | 160 => 132 | 232 => 152 | 231 => 151 | 227 => 153 | 234 => 155 | 233 => 154 | 236 => 157 | 235 => 156 | 228 => 171 | 271 => 174 | 151 => 173 | 197 => 172 | 120 => 180 | 152 => 179 | 260 => 178 | 137 => 182 | 119 => 183 | 224 => 184 | 225 => 185 | 217 => 186 | 266 => 187 | n => n, fun | 9 => 9 | 4 => 4 | 3 => 3 | 5 => 5 | 117 => 188 | 116 => 187 | 0 => 0 | 124 => 191 | 21 => 21 | 105 => 211 | 46 => 138 | 119 => 220 | 139 => 223 | 138 => 222 | n => n, fun | 3 => 5 | 4 => 6 | n => n⟩
theorem Tryz.laysTW : Go.Proofs.LaysM.n160 Tryz.prog Tryz.laysTW_ren := {
  mixed := by kernel_rfl
  f119 := Tryz.func183.trans (congrArg some (by kernel_rfl))
  f120 := Tryz.func180.trans (congrArg some (by kernel_rfl))
  f137 := Tryz.func182.trans (congrArg some (by kernel_rfl))
  f151 := Tryz.func173.trans (congrArg some (by kernel_rfl))
  f152 := Tryz.func179.trans (congrArg some (by kernel_rfl))
  f160 := Tryz.func132.trans (congrArg some (by kernel_rfl))
  f197 := Tryz.func172.trans (congrArg some (by kernel_rfl))
  f217 := Tryz.func186.trans (congrArg some (by kernel_rfl))
  f224 := Tryz.func184.trans (congrArg some (by kernel_rfl))
  f225 := Tryz.func185.trans (congrArg some (by kernel_rfl))
  f227 := Tryz.func153.trans (congrArg some (by kernel_rfl))
  f228 := Tryz.func171.trans (congrArg some (by kernel_rfl))
  f231 := Tryz.func151.trans (congrArg some (by kernel_rfl))
  f232 := Tryz.func152.trans (congrArg some (by kernel_rfl))
  f233 := Tryz.func154.trans (congrArg some (by kernel_rfl))
  f234 := Tryz.func155.trans (congrArg some (by kernel_rfl))
  f235 := Tryz.func156.trans (congrArg some (by kernel_rfl))
  f236 := Tryz.func157.trans (congrArg some (by kernel_rfl))
  f260 := Tryz.func178.trans (congrArg some (by kernel_rfl))
  f266 := Tryz.func187.trans (congrArg some (by kernel_rfl))
  f271 := Tryz.func174.trans (congrArg some (by kernel_rfl))
  t0 := Tryz.underlying0
  a0 := Tryz.isAgg0
  z0 := Tryz.sizeOf0
  v0 := Tryz.zeroValue0
  t3 := Tryz.underlying3
  a3 := Tryz.isAgg3
  z3 := Tryz.sizeOf3
  v3 := Tryz.zeroValue3
  t4 := Tryz.underlying4
  a4 := Tryz.isAgg4
  z4 := Tryz.sizeOf4
  v4 := Tryz.zeroValue4
  t5 := Tryz.underlying5
  a5 := Tryz.isAgg5
  z5 := Tryz.sizeOf5
  v5 := Tryz.zeroValue5
  t9 := Tryz.underlying9
  a9 := Tryz.isAgg9
  z9 := Tryz.sizeOf9
  v9 := Tryz.zeroValue9
  t21 := Tryz.underlying21
  a21 := Tryz.isAgg21
  z21 := Tryz.sizeOf21
  v21 := Tryz.zeroValue21
  t46 := Tryz.underlying138
  a46 := Tryz.isAgg138
  z46 := Tryz.sizeOf138
  v46 := Tryz.zeroValue138
  t105 := Tryz.underlying211
  a105 := Tryz.isAgg211
  z105 := Tryz.sizeOf211
  v105 := Tryz.zeroValue211
  t116 := Tryz.underlying187
  a116 := Tryz.isAgg187
  z116 := Tryz.sizeOf187
  t117 := Tryz.underlying188
  a117 := Tryz.isAgg188
  z117 := Tryz.sizeOf188
  v117 := Tryz.zeroValue188
  t119 := Tryz.underlying220
  a119 := Tryz.isAgg220
  z119 := Tryz.sizeOf220
  t124 := Tryz.underlying191
  a124 := Tryz.isAgg191
  z124 := Tryz.sizeOf191
  v124 := Tryz.zeroValue191
  t138 := Tryz.underlying222
  a138 := Tryz.isAgg222
  z138 := Tryz.sizeOf222
  v138 := Tryz.zeroValue222
  t139 := Tryz.underlying223
  a139 := Tryz.isAgg223
  z139 := Tryz.sizeOf223
  v139 := Tryz.zeroValue223
  g3 := by kernel_rfl
  g4 := by kernel_rfl
  i0 := by kernel_rfl
  i3 := by kernel_rfl
  i4 := by kernel_rfl
  i5 := by kernel_rfl
  i9 := by kernel_rfl
  i21 := by kernel_rfl
  i46 := by kernel_rfl
  i105 := by kernel_rfl
  i117 := by kernel_rfl
  i124 := by kernel_rfl
  i138 := by kernel_rfl
  i139 := by kernel_rfl
  m3 := by kernel_rfl
  m4 := by kernel_rfl }
end Go.Proofs
namespace Go.Proofs.YtbjcldekapipaaaGreatDoor
open Go.ChangeShapes Go.WideShapes Go.ChangeAt Go.RowKit

/-- The bytes of words. -/
def wset : List UInt8 := [97, 98, 99, 100, 101, 102, 103, 104, 105, 106, 107, 108, 109, 110, 111, 112, 113, 114, 115, 116, 117, 118, 119, 120, 121, 122, 48, 49, 50, 51, 52, 53, 54, 55, 56, 57, 45, 46, 47]
def wsetB : ByteArray := ⟨#[97, 98, 99, 100, 101, 102, 103, 104, 105, 106, 107, 108, 109, 110, 111, 112, 113, 114, 115, 116, 117, 118, 119, 120, 121, 122, 48, 49, 50, 51, 52, 53, 54, 55, 56, 57, 45, 46, 47]⟩
def okw (c : UInt8) : Bool := wset.contains c
set_option maxRecDepth 100000 in
theorem okw_all : ∀ n : Fin 256, wset.contains (UInt8.ofNat n.val) = decide ((97 ≤ n.val ∧ n.val ≤ 122) ∨ (48 ≤ n.val ∧ n.val ≤ 57) ∨ n.val = 45 ∨ n.val = 46 ∨ n.val = 47) := by decide
theorem okw_iff (c : UInt8) : okw c = true ↔ ((97 ≤ c.toNat ∧ c.toNat ≤ 122) ∨ (48 ≤ c.toNat ∧ c.toNat ≤ 57) ∨ c.toNat = 45 ∨ c.toNat = 46 ∨ c.toNat = 47) := by
  have h := okw_all ⟨c.toNat, c.toNat_lt⟩
  have hc : UInt8.ofNat c.toNat = c := by simp
  simp only [hc] at h
  unfold okw
  rw [h]
  simp
/-- Are the first so many bytes bytes of words? -/
def OkTo (s : ByteArray) (k : Nat) : Prop := ∀ j (h : j < s.size), j < k → okw (s[j]'h) = true
def wordT (s : ByteArray) : Bool := s.data.toList.all okw
/-- Is a text a word? -/
def wordV (s : ByteArray) : Bool := decide (1 ≤ s.size ∧ s.size ≤ 40) && wordT s
theorem wordT_iff (s : ByteArray) : wordT s = true ↔ OkTo s s.size := by
  unfold wordT OkTo
  rw [List.all_eq_true]
  constructor
  · intro h j hj _
    exact h _ (List.getElem_mem (l := s.data.toList) (n := j) (by simpa using hj))
  · intro h c hc
    obtain ⟨j, hj, rfl⟩ := List.getElem_of_mem hc
    exact h j (by simpa using hj) (by simpa using hj)
theorem OkTo.step {s : ByteArray} {k : Nat} (h : OkTo s k) (hk : k < s.size) (ho : okw (s[k]'hk) = true) : OkTo s (k + 1) := by
  intro j hj hjk
  by_cases e : j = k
  · subst e
    exact ho
  · exact h j hj (by omega)
theorem wordT_no {s : ByteArray} {k : Nat} (hk : k < s.size) (ho : ¬ okw (s[k]'hk) = true) : wordT s = false := by
  rw [Bool.eq_false_iff]
  intro h
  exact ho ((wordT_iff s).mp h k hk hk)
theorem wordV_no {s : ByteArray} (h : wordT s = false) : wordV s = false := by
  unfold wordV
  rw [h, Bool.and_false]

set_option maxHeartbeats 2000000 in
/-- The model's. -/
theorem l15Word_any (s : ByteArray) (hs : s.size ≤ 1048576) (w : World) :
    Calls Tryz.prog 76 #[.string s] w fun e w' => e = .returned (.bool (wordV s)) ∧ w = w' := by
  go_enter Tryz.func76, Tryz.ntmps76
  go_wp2
  go_loopw [3] (fun i wr => ∃ k : Nat, k ≤ s.size ∧ i = .int .i64 k ∧ wr = w ∧ Hid (OkTo s k)) (fun i _ => s.size - (intOf i).toNat)
  case atStart => exact ⟨0, Nat.zero_le _, rfl, rfl, fun j _ hj => by omega⟩
  case round =>
    obtain ⟨k, hk, rfl, rfl, hno⟩ := hrel
    by_cases hlt : k < s.size
    · have hli : (k : Int) < (s.size : Int) := by omega
      have hI := index_atW s k hlt
      have hc0 := (s[k]'hlt).toNat_lt
      have hok := okw_iff (s[k]'hlt)
      have HY := Lib.hid (fun h => OkTo.step hno.out hlt h)
      have HN := Lib.hid (fun h => wordV_no (wordT_no hlt h))
      clear hno
      generalize s[k]'hlt = cB at *
      obtain ⟨c, hce⟩ : ∃ c : Int, (cB.toNat : Int) = c := ⟨_, rfl⟩
      rw [hce] at hI
      by_cases hletter : 97 ≤ c ∧ c ≤ 122
      · have HT := Lib.hid (HY.out (hok.mpr (by omega)))
        obtain ⟨k0, k1⟩ := hletter
        clear hok hce HY HN
        go_wp2_with fail
        go_roundw
        case rel => exact ⟨k + 1, by omega, by go_num, trivial, HT.out⟩
        case measure => simp [intOf]; omega
      · by_cases hdigit : 48 ≤ c ∧ c ≤ 57
        · have HT := Lib.hid (HY.out (hok.mpr (by omega)))
          obtain ⟨k0, k1⟩ := hdigit
          have m1 : ¬ 97 ≤ c := by omega
          clear hok hce HY HN hletter
          go_wp2_with fail
          go_roundw
          case rel => exact ⟨k + 1, by omega, by go_num, trivial, HT.out⟩
          case measure => simp [intOf]; omega
        · by_cases hsign : c = 45 ∨ c = 46 ∨ c = 47
          · have HT := Lib.hid (HY.out (hok.mpr (by omega)))
            have m1 : ¬ 97 ≤ c := by omega
            have m2 : ¬ 48 ≤ c := by omega
            clear hok hce HY HN hletter hdigit
            rcases hsign with rfl | rfl | rfl
            all_goals
              go_wp2_with fail
              go_roundw
              case rel => exact ⟨k + 1, by omega, by go_num, trivial, HT.out⟩
              case measure => simp [intOf]; omega
          · have HT := Lib.hid (HN.out (fun h => by have := hok.mp h; omega))
            have q1 : (c == 45) = false := beq_eq_false_iff_ne.mpr (by omega)
            have q2 : (c == 46) = false := beq_eq_false_iff_ne.mpr (by omega)
            have q3 : (c == 47) = false := beq_eq_false_iff_ne.mpr (by omega)
            by_cases g1 : 97 ≤ c
            · have m1 : ¬ c ≤ 122 := by omega
              have m2 : 48 ≤ c := by omega
              have m3 : ¬ c ≤ 57 := by omega
              clear hok hce HY HN hletter hdigit hsign
              go_wp2_with fail
              go_ret
              exact ⟨(by rw [HT.out]; first | done | rfl), rfl⟩
            · by_cases g2 : 48 ≤ c
              · have m3 : ¬ c ≤ 57 := by omega
                clear hok hce HY HN hletter hdigit hsign
                go_wp2_with fail
                go_ret
                exact ⟨(by rw [HT.out]; first | done | rfl), rfl⟩
              · clear hok hce HY HN hletter hdigit hsign
                go_wp2_with fail
                go_ret
                exact ⟨(by rw [HT.out]; first | done | rfl), rfl⟩
    · have hk' : k = s.size := by omega
      have hall : wordT s = true := (wordT_iff s).mpr (by rw [← hk']; exact hno.out)
      have hV : wordV s = decide (1 ≤ s.size ∧ s.size ≤ 40) := by unfold wordV; rw [hall, Bool.and_true]
      have HV := Lib.hid hV
      clear hno hall hV hk'
      have hli : ¬ (k : Int) < (s.size : Int) := by omega
      by_cases h1 : 1 ≤ s.size
      · by_cases h2 : s.size ≤ 40
        · have HE : Hid (wordV s = true) := Lib.hid (by rw [HV.out, decide_eq_true ⟨h1, h2⟩])
          go_wp2_with fail
          go_ret
          exact ⟨(by rw [HE.out]; first | done | rfl | (show Ending.returned (.bool (decide ((s.size : Int) ≤ 40))) = _; rw [decide_eq_true (by omega : (s.size : Int) ≤ 40)]) | (show Ending.returned (.bool (decide ((s.size : Int) ≤ 40))) = _; rw [decide_eq_false (by omega : ¬ (s.size : Int) ≤ 40)])), rfl⟩
        · have HE : Hid (wordV s = false) := Lib.hid (by rw [HV.out, decide_eq_false (fun h => h2 h.2)])
          go_wp2_with fail
          go_ret
          exact ⟨(by rw [HE.out]; first | done | rfl | (show Ending.returned (.bool (decide ((s.size : Int) ≤ 40))) = _; rw [decide_eq_true (by omega : (s.size : Int) ≤ 40)]) | (show Ending.returned (.bool (decide ((s.size : Int) ≤ 40))) = _; rw [decide_eq_false (by omega : ¬ (s.size : Int) ≤ 40)])), rfl⟩
      · have HE : Hid (wordV s = false) := Lib.hid (by rw [HV.out, decide_eq_false (fun h => h1 h.1)])
        go_wp2_with fail
        go_ret
        exact ⟨(by rw [HE.out]; first | done | rfl | (show Ending.returned (.bool (decide ((s.size : Int) ≤ 40))) = _; rw [decide_eq_true (by omega : (s.size : Int) ≤ 40)]) | (show Ending.returned (.bool (decide ((s.size : Int) ≤ 40))) = _; rw [decide_eq_false (by omega : ¬ (s.size : Int) ≤ 40)])), rfl⟩

/-- The program's. -/
theorem trimW_any (s : ByteArray) (hs : s.size ≤ 1048576) (w : World) :
    Calls Tryz.prog 132 #[.string s, .string wsetB] w fun e w' => e = .returned (.string ⟨(Lib.trimS s.data.toList wset).toArray⟩) ∧ Below w.heap.size w w' :=
  Any.strings_Trim_laid { Tryz.laysTW with } (by kernel_rfl) s wsetB w (by omega) (by decide) (ascii_of_all (by decide))
theorem notEmptyW (s : ByteArray) (h : 0 < s.size) : s.toList.isEmpty = false := by
  cases h2 : s.toList with
  | nil =>
    have h3 : s.data.toList = [] := by rw [← ByteArray.toList_eq]; exact h2
    have h4 : s.size = 0 := by
      show s.data.toList.length = 0
      rw [h3]
      rfl
    omega
  | cons c cs => rfl

theorem implWord_any (s : ByteArray) (hs : s.size ≤ 1048576) (w : World) :
    Calls Tryz.prog 102 #[.string s] w fun e w' => e = .returned (.bool (wordV s)) ∧ Below w.heap.size w w' := by
  by_cases h0 : s.size = 0
  · obtain rfl : s = ⟨#[]⟩ := by
      apply ByteArray.ext
      exact Array.eq_empty_of_size_eq_zero h0
    go_enter Tryz.func102, Tryz.ntmps102
    go_wp2
    go_ret
    exact ⟨rfl, Below.refl _ _⟩
  · have he := notEmptyW s (by omega)
    by_cases h40 : s.size ≤ 40
    · have hV : wordV s = wordT s := by unfold wordV; rw [decide_eq_true ⟨by omega, h40⟩, Bool.true_and]
      rw [hV]
      clear hV
      have C := Lib.hid (fun W => trimW_any s hs W)
      unfold wsetB at C
      cases ht : wordT s with
      | true =>
        have hn : Lib.trimS s.data.toList wset = [] := (trim_nil s.data.toList wset).mpr (fun c hc => by
          unfold wordT at ht
          exact List.all_eq_true.mp ht c hc)
        rw [hn] at C
        clear hn ht
        go_enter Tryz.func102, Tryz.ntmps102
        go_wp2_with (go_at_call 132; (with_reducible refine (C.out _).mono ?_); rintro e wx ⟨rfl, hbx⟩)
        go_ret
        exact ⟨rfl, hbx⟩
      | false =>
        obtain ⟨T, hT, hTe⟩ : ∃ T : ByteArray, (⟨(Lib.trimS s.data.toList wset).toArray⟩ : ByteArray) = T ∧ T.toList.isEmpty = false := by
          refine ⟨_, rfl, ?_⟩
          have hne : Lib.trimS s.data.toList wset ≠ [] := fun e => by
            have h1 := (trim_nil s.data.toList wset).mp e
            have h2 : wordT s = true := by unfold wordT; exact List.all_eq_true.mpr h1
            rw [ht] at h2
            cases h2
          rw [ByteArray.toList_eq]
          match hL : Lib.trimS s.data.toList wset, hne with
          | c :: t, _ => rfl
        rw [hT] at C
        clear ht hT
        go_enter Tryz.func102, Tryz.ntmps102
        go_wp2_with (go_at_call 132; (with_reducible refine (C.out _).mono ?_); rintro e wx ⟨rfl, hbx⟩)
        go_ret
        exact ⟨rfl, hbx⟩
    · have hV : wordV s = false := by unfold wordV; rw [decide_eq_false (fun h => h40 h.2), Bool.false_and]
      rw [hV]
      clear hV
      have hI : ¬ (s.size : Int) ≤ 40 := by omega
      go_enter Tryz.func102, Tryz.ntmps102
      go_wp2
      go_ret
      exact ⟨rfl, Below.refl _ _⟩
end Go.Proofs.YtbjcldekapipaaaGreatDoor
